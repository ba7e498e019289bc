/-
  Closing, ratios, and the operations of words.
  The statements' counts of fraction bits.
  The digits behind the point.
  fx's digits behind the point: the iterator's contract, for every loop body that keeps what lay below it.
  A row of bytes of the call's own, out of a string: what is marked lies behind its end. An append of one byte, in place or moved.
  strconv.FormatUint to the base 10: the decimal digits.
  Decimal digits: of a number in two parts, and the lowest first.
  Lists of limbs: their trailing noughts, their value; what a slice of limbs reads as.
  The references' whole numbers: noughts on top are cut; a word as a number.
  The references' whole numbers: limbs of 64 bits in digits of 32, and back.
  The references' whole numbers: digits of 32 bits as limbs of 64.
  The references' whole numbers: a slice of limbs as a number.
-/
import Derived.Lib.ItoaNum
import Derived.RangeFuncNested
import Derived.RangeFuncBound
import Derived.RangeFuncCalls
import Derived.RangeFuncLeaves
import Derived.RangeFuncBox
import Derived.Shelf.Abstract
import Derived.Shelf.RegionOpen
import Derived.WalkKit
import Derived.OwnWalkIn
import Derived.TacticsInMore
import Derived.LoopNIn
import Derived.LoopIn
import Derived.Maps.AppendAt
import Derived.Lib.Hide
import Derived.Shelf.Spec.BitsCarry
import Derived.Laws.BitsAllLaws
import Derived.Test.YtmdjpnjpnfkihaaDoorProg
import Derived.Laws.AppendOwn
import Derived.Laws.Append
import Derived.Lib.ConvBytes
import Derived.RangeFuncWrites
import Derived.Lib.Walk
import Derived.Lib.ItoaMem
import Derived.Lib.AppendIntMem
import Derived.BigCall
import Derived.BigGuard
import Derived.Test.YtmdjpnjpnfkihaaDoorShelf
import Derived.WalkSpells
import Derived.LoopTactic
import Derived.OwnWalk
import Derived.Deep.RegionHeld3
import Derived.Deep.AppendLies
import Derived.Test.YtmdjpnjpnfkihaaDoorM01
import Derived.Test.YtmdjpnjpnfkihaaDoorM02
namespace Go.Proofs.YtmdjpnjpnfkihaaDoor
open Go.RowKit

theorem R_pow {n : Nat} (h : n ≤ 126) : R (2 ^ n) := by
  have : (2 : Int) ^ n ≤ 2 ^ 126 := by have := Nat.pow_le_pow_right (show 0 < 2 by decide) h; exact_mod_cast this
  have : (0 : Int) < 2 ^ n := Int.pow_pos (by decide)
  rw [R_iff]
  omega
theorem R_prod {a b : Int} (a0 : -9223372036854775808 ≤ a) (a1 : a ≤ 9223372036854775807) (b0 : -9223372036854775808 ≤ b) (b1 : b ≤ 9223372036854775807) : R (a * b) := by
  have h : (a * b).natAbs ≤ 9223372036854775808 * 9223372036854775808 := by
    rw [Int.natAbs_mul]
    exact Nat.mul_le_mul (by omega) (by omega)
  generalize a * b = x at *
  rw [R_iff]
  omega
theorem pow_ne (n : Nat) : (2 : Int) ^ n ≠ 0 := by have : (0 : Int) < 2 ^ n := Int.pow_pos (by decide); omega
set_option maxRecDepth 100000 in
set_option maxHeartbeats 2000000 in
/-- fx.Close -/
theorem close_any (a : Int) (n : Nat) (w : World) (ha : R a) (h1 : n ≤ 126) : Calls Tryd.prog 113 #[Wv a, .int .i64 n] w fun e w' => e = .returned (.tuple #[.int .i64 (tw (rd a (2 ^ n))), .int .i64 (te (rd a (2 ^ n)))]) ∧ Below w.heap.size w w' := by
  have LC := fun W : World => shl_any 1 n W (by decide) h1
  have NC := Lib.hid (fun W : World => near_any a (2 ^ n) W ha (R_pow h1) (pow_ne n))
  rw [Int.one_mul, told_in (R_pow h1), over_in (R_pow h1)] at LC
  have LC := Lib.hid LC
  have F1 := Lib.hid (fun W : World => from_at 1 W (by decide) (by decide))
  clear ha h1
  generalize tw (rd a (2 ^ n)) = q at *
  generalize te (rd a (2 ^ n)) = g at *
  generalize (2 : Int) ^ n = t at *
  go_enter Tryd.func113, Tryd.ntmps113
  go_wp2_with (first | (go_at_call 20; (with_reducible refine (F1.out _).mono ?_); rintro e w' ⟨rfl, rfl⟩) | (go_at_call 16; (with_reducible refine (LC.out _).mono ?_); rintro e w1 ⟨rfl, hb1⟩; have e10 : w1.cell? ⟨w.heap.size, 0, none⟩ = some (.int .i64 (hi a)) := cell_on hb1 (by first | (simp [go_sem, *]; done) | (simp [go_sem, World.cell?_alloc_some, *]; done) | fail); have e11 : w1.cell? ⟨w.heap.size, 1, none⟩ = some (.int .u64 (lo a)) := cell_on hb1 (by first | (simp [go_sem, *]; done) | (simp [go_sem, World.cell?_alloc_some, *]; done) | fail); have s10 : w.heap.size < w1.heap.size := World.block_lt_of_cell? _ _ e10; have t10 : w.heap.size < w1.heap.size + 1 := Nat.lt_succ_of_lt s10) | (go_at_call 117; (with_reducible refine (NC.out _).mono ?_); rintro e w2 ⟨rfl, hb2⟩; have e20 : w2.cell? ⟨w.heap.size, 0, none⟩ = some (.int .i64 (hi a)) := cell_on hb2 (by first | (simp [go_sem, *]; done) | (simp [go_sem, World.cell?_alloc_some, *]; done) | fail); have e21 : w2.cell? ⟨w.heap.size, 1, none⟩ = some (.int .u64 (lo a)) := cell_on hb2 (by first | (simp [go_sem, *]; done) | (simp [go_sem, World.cell?_alloc_some, *]; done) | fail); have s20 : w.heap.size < w2.heap.size := World.block_lt_of_cell? _ _ e20; have t20 : w.heap.size < w2.heap.size + 1 := Nat.lt_succ_of_lt s20))
  go_ret2
  refine ⟨rfl, ?_⟩
  repeat (first | exact Below.refl _ _ | assumption | apply Below.drew | refine Below.setCell ?_ (by first | omega | (simp; done) | (simp; omega)) _ | refine Below.alloc ?_ (by first | omega | (simp; done) | (simp; omega)) _ | refine Below.trans ?_ (hb2.mono (by first | omega | (simp; done) | (simp; omega))) | refine Below.trans ?_ (hb1.mono (by first | omega | (simp; done) | (simp; omega))))
set_option maxRecDepth 100000 in
set_option maxHeartbeats 2000000 in
theorem close_form (a n : Int) (w : World) (h : n < 0 ∨ 126 < n) : Calls Tryd.prog 113 #[Wv a, .int .i64 n] w fun e w' => e = .returned (.tuple #[.int .i64 (0), .int .i64 (1)]) ∧ Below w.heap.size w w' := by
  have LC := Lib.hid (fun W : World => left_form 1 n W h)
  have F1 := Lib.hid (fun W : World => from_at 1 W (by decide) (by decide))
  clear h
  go_enter Tryd.func113, Tryd.ntmps113
  go_wp2_with (first | (go_at_call 20; (with_reducible refine (F1.out _).mono ?_); rintro e w' ⟨rfl, rfl⟩) | (go_at_call 16; (with_reducible refine (LC.out _).mono ?_); rintro e w1 ⟨rfl, hb1⟩; have e10 : w1.cell? ⟨w.heap.size, 0, none⟩ = some (.int .i64 (hi a)) := cell_on hb1 (by first | (simp [go_sem, *]; done) | (simp [go_sem, World.cell?_alloc_some, *]; done) | fail); have e11 : w1.cell? ⟨w.heap.size, 1, none⟩ = some (.int .u64 (lo a)) := cell_on hb1 (by first | (simp [go_sem, *]; done) | (simp [go_sem, World.cell?_alloc_some, *]; done) | fail); have s10 : w.heap.size < w1.heap.size := World.block_lt_of_cell? _ _ e10; have t10 : w.heap.size < w1.heap.size + 1 := Nat.lt_succ_of_lt s10))
  go_ret2
  refine ⟨rfl, ?_⟩
  repeat (first | exact Below.refl _ _ | assumption | apply Below.drew | refine Below.setCell ?_ (by first | omega | (simp; done) | (simp; omega)) _ | refine Below.alloc ?_ (by first | omega | (simp; done) | (simp; omega)) _ | refine Below.trans ?_ (hb1.mono (by first | omega | (simp; done) | (simp; omega))))
set_option maxRecDepth 100000 in
set_option maxHeartbeats 2000000 in
/-- fx.Ratio, where the bits are none -/
theorem ratio_form (n d f : Int) (w : World) (h : fb f = false) : Calls Tryd.prog 114 #[.int .i64 n, .int .i64 d, .int .i64 f] w fun e w' => e = .returned (.tuple #[.int .i64 (0), .int .i64 (1)]) ∧ Below w.heap.size w w' := by
  have C := fun W : World => checkf_any f W
  rw [h] at C
  have C := Lib.hid C
  clear h
  go_enter Tryd.func114, Tryd.ntmps114
  go_wp2_with (go_at_call 64; (with_reducible refine (C.out _).mono ?_); rintro e w' ⟨rfl, rfl⟩)
  go_ret2
  refine ⟨rfl, ?_⟩
  repeat (first | exact Below.refl _ _ | assumption | apply Below.drew | refine Below.setCell ?_ (by first | omega | (simp; done) | (simp; omega)) _ | refine Below.alloc ?_ (by first | omega | (simp; done) | (simp; omega)) _)
set_option maxRecDepth 100000 in
set_option maxHeartbeats 2000000 in
/-- fx.Ratio -/
theorem ratio_any (n d : Int) (f : Nat) (w : World) (n0 : -9223372036854775808 ≤ n) (n1 : n ≤ 9223372036854775807) (d0 : -9223372036854775808 ≤ d) (d1 : d ≤ 9223372036854775807) (h : fb f = true) (hd : d ≠ 0) : Calls Tryd.prog 114 #[.int .i64 n, .int .i64 d, .int .i64 f] w fun e w' => e = .returned (.tuple #[.int .i64 (tw (rd (n * 2 ^ f) d)), .int .i64 (te (rd (n * 2 ^ f) d))]) ∧ Below w.heap.size w w' := by
  have C := fun W : World => checkf_any f W
  rw [h] at C
  have C := Lib.hid C
  have hf := fb_bd h
  have p0 : (0 : Int) < 2 ^ f := Int.pow_pos (by decide)
  have p1 : (2 : Int) ^ f ≤ 2 ^ 32 := by have := Nat.pow_le_pow_right (show 0 < 2 by decide) (show f ≤ 32 by omega); exact_mod_cast this
  have e0 : wrap64 ((2 : Int) ^ f) = 2 ^ f := IntWalk.wrap64_in _ ⟨by omega, by omega⟩
  have MC := Lib.hid (fun W : World => mul_any n (2 ^ f) W n0 n1 (by omega) (by omega))
  have FC := Lib.hid (fun W : World => from_at d W d0 d1)
  have Rn : R (n * 2 ^ f) := R_prod n0 n1 (by omega) (by omega)
  have NC := Lib.hid (fun W : World => near_any (n * 2 ^ f) d W Rn (R_small d0 d1) hd)
  clear h hd Rn p0 p1
  generalize n * 2 ^ f = m at *
  generalize tw (rd m d) = q at *
  generalize te (rd m d) = g at *
  go_enter Tryd.func114, Tryd.ntmps114
  go_wp2_with (first | (go_at_call 64; (with_reducible refine (C.out _).mono ?_); rintro e w' ⟨rfl, rfl⟩) | (go_at_call 20; (with_reducible refine (FC.out _).mono ?_); rintro e w' ⟨rfl, rfl⟩) | (go_at_call 17; (with_reducible refine (MC.out _).mono ?_); rintro e w' ⟨rfl, rfl⟩) | (go_at_call 117; (with_reducible refine (NC.out _).mono ?_); rintro e w2 ⟨rfl, hb2⟩; ))
  go_ret2
  refine ⟨rfl, ?_⟩
  repeat (first | exact Below.refl _ _ | assumption | apply Below.drew | refine Below.setCell ?_ (by first | omega | (simp; done) | (simp; omega)) _ | refine Below.alloc ?_ (by first | omega | (simp; done) | (simp; omega)) _ | refine Below.trans ?_ (hb2.mono (by first | omega | (simp; done) | (simp; omega))))
set_option maxRecDepth 100000 in
set_option maxHeartbeats 2000000 in
theorem ratio_zero (n d : Int) (f : Nat) (w : World) (n0 : -9223372036854775808 ≤ n) (n1 : n ≤ 9223372036854775807) (h : fb f = true) (hd : d = 0) : Calls Tryd.prog 114 #[.int .i64 n, .int .i64 d, .int .i64 f] w fun e w' => e = .returned (.tuple #[.int .i64 (0), .int .i64 (4)]) ∧ Below w.heap.size w w' := by
  have C := fun W : World => checkf_any f W
  rw [h] at C
  have C := Lib.hid C
  have hf := fb_bd h
  have p0 : (0 : Int) < 2 ^ f := Int.pow_pos (by decide)
  have p1 : (2 : Int) ^ f ≤ 2 ^ 32 := by have := Nat.pow_le_pow_right (show 0 < 2 by decide) (show f ≤ 32 by omega); exact_mod_cast this
  have e0 : wrap64 ((2 : Int) ^ f) = 2 ^ f := IntWalk.wrap64_in _ ⟨by omega, by omega⟩
  have MC := Lib.hid (fun W : World => mul_any n (2 ^ f) W n0 n1 (by omega) (by omega))
  have FC := Lib.hid (fun W : World => from_at d W (by omega) (by omega))
  have NC := Lib.hid (fun W : World => near_zero (n * 2 ^ f) d W hd)
  clear h hd p0 p1
  generalize n * 2 ^ f = m at *
  go_enter Tryd.func114, Tryd.ntmps114
  go_wp2_with (first | (go_at_call 64; (with_reducible refine (C.out _).mono ?_); rintro e w' ⟨rfl, rfl⟩) | (go_at_call 20; (with_reducible refine (FC.out _).mono ?_); rintro e w' ⟨rfl, rfl⟩) | (go_at_call 17; (with_reducible refine (MC.out _).mono ?_); rintro e w' ⟨rfl, rfl⟩) | (go_at_call 117; (with_reducible refine (NC.out _).mono ?_); rintro e w2 ⟨rfl, hb2⟩; ))
  go_ret2
  refine ⟨rfl, ?_⟩
  repeat (first | exact Below.refl _ _ | assumption | apply Below.drew | refine Below.setCell ?_ (by first | omega | (simp; done) | (simp; omega)) _ | refine Below.alloc ?_ (by first | omega | (simp; done) | (simp; omega)) _ | refine Below.trans ?_ (hb2.mono (by first | omega | (simp; done) | (simp; omega))))
set_option maxRecDepth 100000 in
theorem wordtimes_any (a b : Int) (f : Nat) (w : World) (ga : wd a = true) (gb : wd b = true) (gf : fb f = true) : Calls Tryd.prog 103 #[.int .i64 a, .int .i64 b, .int .i64 f] w fun e w' => e = .returned (.tuple #[.int .i64 (tw (rd (a * b) (2 ^ f))), .int .i64 (te (rd (a * b) (2 ^ f)))]) ∧ Below w.heap.size w w' := by
  have A := wd_bd ga
  have B := wd_bd gb
  have Fb := fb_bd gf
  have MC := Lib.hid (fun W : World => mul_any a b W (by omega) (by omega) (by omega) (by omega))
  have CC := Lib.hid (fun W : World => close_any (a * b) f W (R_prod (by omega) (by omega) (by omega) (by omega)) (by omega))
  clear A B Fb ga gb gf
  generalize tw (rd (a * b) (2 ^ f)) = q at *
  generalize te (rd (a * b) (2 ^ f)) = g at *
  generalize a * b = m at *
  go_enter Tryd.func103, Tryd.ntmps103
  go_wp2_with (first | (go_at_call 17; (with_reducible refine (MC.out _).mono ?_); rintro e w' ⟨rfl, rfl⟩) | (go_at_call 113; (with_reducible refine (CC.out _).mono ?_); rintro e w1 ⟨rfl, hb1⟩))
  go_ret2
  refine ⟨rfl, ?_⟩
  repeat (first | exact Below.refl _ _ | assumption | apply Below.drew | refine Below.setCell ?_ (by first | omega | (simp; done) | (simp; omega)) _ | refine Below.alloc ?_ (by first | omega | (simp; done) | (simp; omega)) _ | refine Below.trans ?_ (hb1.mono (by first | omega | (simp; done) | (simp; omega))))
theorem wordover_any (a b : Int) (f : Nat) (w : World) (ga : wd a = true) (gb : wd b = true) (gf : fb f = true) (h0 : b ≠ 0) : Calls Tryd.prog 104 #[.int .i64 a, .int .i64 b, .int .i64 f] w fun e w' => e = .returned (.tuple #[.int .i64 (tw (rd (a * 2 ^ f) b)), .int .i64 (te (rd (a * 2 ^ f) b))]) ∧ Below w.heap.size w w' := by
  have A := wd_bd ga
  have B := wd_bd gb
  have RC := Lib.hid (fun W : World => ratio_any a b f W (by omega) (by omega) (by omega) (by omega) gf h0)
  clear A B ga gb gf h0
  generalize tw (rd (a * 2 ^ f) b) = q at *
  generalize te (rd (a * 2 ^ f) b) = g at *
  go_enter Tryd.func104, Tryd.ntmps104
  go_wp2_with (go_at_call 114; (with_reducible refine (RC.out _).mono ?_); rintro e w1 ⟨rfl, hb1⟩)
  go_ret2
  refine ⟨rfl, ?_⟩
  repeat (first | exact Below.refl _ _ | assumption | apply Below.drew | refine Below.setCell ?_ (by first | omega | (simp; done) | (simp; omega)) _ | refine Below.alloc ?_ (by first | omega | (simp; done) | (simp; omega)) _ | refine Below.trans ?_ (hb1.mono (by first | omega | (simp; done) | (simp; omega))))
theorem wordover_zero (a b : Int) (f : Nat) (w : World) (ga : wd a = true) (gf : fb f = true) (h0 : b = 0) : Calls Tryd.prog 104 #[.int .i64 a, .int .i64 b, .int .i64 f] w fun e w' => e = .returned (.tuple #[.int .i64 (0), .int .i64 (4)]) ∧ Below w.heap.size w w' := by
  have A := wd_bd ga
  have RC := Lib.hid (fun W : World => ratio_zero a b f W (by omega) (by omega) gf h0)
  clear A ga gf h0
  go_enter Tryd.func104, Tryd.ntmps104
  go_wp2_with (go_at_call 114; (with_reducible refine (RC.out _).mono ?_); rintro e w1 ⟨rfl, hb1⟩)
  go_ret2
  refine ⟨rfl, ?_⟩
  repeat (first | exact Below.refl _ _ | assumption | apply Below.drew | refine Below.setCell ?_ (by first | omega | (simp; done) | (simp; omega)) _ | refine Below.alloc ?_ (by first | omega | (simp; done) | (simp; omega)) _ | refine Below.trans ?_ (hb1.mono (by first | omega | (simp; done) | (simp; omega))))
theorem reckon_times (a b : Int) (f : Nat) (w : World) (ga : wd a = true) (gb : wd b = true) (gf : fb f = true) : Calls Tryd.prog 62 #[.int .i64 2, .int .i64 a, .int .i64 b, .int .i64 f] w fun e w' => e = .returned (.tuple #[.int .i64 (tw (rd (a * b) (2 ^ f))), .int .i64 (te (rd (a * b) (2 ^ f)))]) ∧ Below w.heap.size w w' := by
  have WC := Lib.hid (fun W : World => wordtimes_any a b f W ga gb gf)
  have CA := fun W : World => check_any a W
  rw [ga] at CA
  have CA := Lib.hid CA
  have CB := fun W : World => check_any b W
  rw [gb] at CB
  have CB := Lib.hid CB
  have CF := fun W : World => checkf_any f W
  rw [gf] at CF
  have CF := Lib.hid CF
  clear ga gb gf
  generalize tw (rd (a * b) (2 ^ f)) = q at *
  generalize te (rd (a * b) (2 ^ f)) = g at *
  go_enter Tryd.func62, Tryd.ntmps62
  go_wp2_with (first | (go_at_call 63; (with_reducible refine (CA.out _).mono ?_); rintro e w' ⟨rfl, rfl⟩) | (go_at_call 63; (with_reducible refine (CB.out _).mono ?_); rintro e w' ⟨rfl, rfl⟩) | (go_at_call 64; (with_reducible refine (CF.out _).mono ?_); rintro e w' ⟨rfl, rfl⟩) | (go_at_call 89; (with_reducible refine (way_times _).mono ?_); rintro e w' ⟨rfl, rfl⟩) | (go_at_call 103; (with_reducible refine (WC.out _).mono ?_); rintro e w1 ⟨rfl, hb1⟩))
  go_ret2
  refine ⟨rfl, ?_⟩
  repeat (first | exact Below.refl _ _ | assumption | apply Below.drew | refine Below.setCell ?_ (by first | omega | (simp; done) | (simp; omega)) _ | refine Below.alloc ?_ (by first | omega | (simp; done) | (simp; omega)) _ | refine Below.trans ?_ (hb1.mono (by first | omega | (simp; done) | (simp; omega))))
theorem reckon_over (a b : Int) (f : Nat) (w : World) (ga : wd a = true) (gb : wd b = true) (gf : fb f = true) (h0 : b ≠ 0) : Calls Tryd.prog 62 #[.int .i64 3, .int .i64 a, .int .i64 b, .int .i64 f] w fun e w' => e = .returned (.tuple #[.int .i64 (tw (rd (a * 2 ^ f) b)), .int .i64 (te (rd (a * 2 ^ f) b))]) ∧ Below w.heap.size w w' := by
  have WC := Lib.hid (fun W : World => wordover_any a b f W ga gb gf h0)
  have CA := fun W : World => check_any a W
  rw [ga] at CA
  have CA := Lib.hid CA
  have CB := fun W : World => check_any b W
  rw [gb] at CB
  have CB := Lib.hid CB
  have CF := fun W : World => checkf_any f W
  rw [gf] at CF
  have CF := Lib.hid CF
  clear ga gb gf h0
  generalize tw (rd (a * 2 ^ f) b) = q at *
  generalize te (rd (a * 2 ^ f) b) = g at *
  go_enter Tryd.func62, Tryd.ntmps62
  go_wp2_with (first | (go_at_call 63; (with_reducible refine (CA.out _).mono ?_); rintro e w' ⟨rfl, rfl⟩) | (go_at_call 63; (with_reducible refine (CB.out _).mono ?_); rintro e w' ⟨rfl, rfl⟩) | (go_at_call 64; (with_reducible refine (CF.out _).mono ?_); rintro e w' ⟨rfl, rfl⟩) | (go_at_call 89; (with_reducible refine (way_over _).mono ?_); rintro e w' ⟨rfl, rfl⟩) | (go_at_call 104; (with_reducible refine (WC.out _).mono ?_); rintro e w1 ⟨rfl, hb1⟩))
  go_ret2
  refine ⟨rfl, ?_⟩
  repeat (first | exact Below.refl _ _ | assumption | apply Below.drew | refine Below.setCell ?_ (by first | omega | (simp; done) | (simp; omega)) _ | refine Below.alloc ?_ (by first | omega | (simp; done) | (simp; omega)) _ | refine Below.trans ?_ (hb1.mono (by first | omega | (simp; done) | (simp; omega))))
theorem reckon_zero (a b : Int) (f : Nat) (w : World) (ga : wd a = true) (gb : wd b = true) (gf : fb f = true) (h0 : b = 0) : Calls Tryd.prog 62 #[.int .i64 3, .int .i64 a, .int .i64 b, .int .i64 f] w fun e w' => e = .returned (.tuple #[.int .i64 (0), .int .i64 (4)]) ∧ Below w.heap.size w w' := by
  have WC := Lib.hid (fun W : World => wordover_zero a b f W ga gf h0)
  have CA := fun W : World => check_any a W
  rw [ga] at CA
  have CA := Lib.hid CA
  have CB := fun W : World => check_any b W
  rw [gb] at CB
  have CB := Lib.hid CB
  have CF := fun W : World => checkf_any f W
  rw [gf] at CF
  have CF := Lib.hid CF
  clear ga gb gf h0
  go_enter Tryd.func62, Tryd.ntmps62
  go_wp2_with (first | (go_at_call 63; (with_reducible refine (CA.out _).mono ?_); rintro e w' ⟨rfl, rfl⟩) | (go_at_call 63; (with_reducible refine (CB.out _).mono ?_); rintro e w' ⟨rfl, rfl⟩) | (go_at_call 64; (with_reducible refine (CF.out _).mono ?_); rintro e w' ⟨rfl, rfl⟩) | (go_at_call 89; (with_reducible refine (way_over _).mono ?_); rintro e w' ⟨rfl, rfl⟩) | (go_at_call 104; (with_reducible refine (WC.out _).mono ?_); rintro e w1 ⟨rfl, hb1⟩))
  go_ret2
  refine ⟨rfl, ?_⟩
  repeat (first | exact Below.refl _ _ | assumption | apply Below.drew | refine Below.setCell ?_ (by first | omega | (simp; done) | (simp; omega)) _ | refine Below.alloc ?_ (by first | omega | (simp; done) | (simp; omega)) _ | refine Below.trans ?_ (hb1.mono (by first | omega | (simp; done) | (simp; omega))))
theorem fxmul_form (a b f : Int) (w : World) (h : (wd a && wd b && fb f) = false) : Calls Tryd.prog 31 #[.int .i64 a, .int .i64 b, .int .i64 f] w fun e w' => e = .returned (.tuple #[.int .i64 0, .int .i64 1]) ∧ w = w' := by
  have C := Lib.hid (fun W : World => reckon_form 2 a b f W h)
  clear h
  go_enter Tryd.func31, Tryd.ntmps31
  go_wp2_with (go_at_call 62; (with_reducible refine (C.out _).mono ?_); rintro e w' ⟨rfl, rfl⟩)
  go_ret2
  exact ⟨rfl, rfl⟩
theorem fxdiv_form (a b f : Int) (w : World) (h : (wd a && wd b && fb f) = false) : Calls Tryd.prog 32 #[.int .i64 a, .int .i64 b, .int .i64 f] w fun e w' => e = .returned (.tuple #[.int .i64 0, .int .i64 1]) ∧ w = w' := by
  have C := Lib.hid (fun W : World => reckon_form 3 a b f W h)
  clear h
  go_enter Tryd.func32, Tryd.ntmps32
  go_wp2_with (go_at_call 62; (with_reducible refine (C.out _).mono ?_); rintro e w' ⟨rfl, rfl⟩)
  go_ret2
  exact ⟨rfl, rfl⟩
theorem fxmul_any (a b : Int) (f : Nat) (w : World) (ga : wd a = true) (gb : wd b = true) (gf : fb f = true) : Calls Tryd.prog 31 #[.int .i64 a, .int .i64 b, .int .i64 f] w fun e w' => e = .returned (.tuple #[.int .i64 (tw (rd (a * b) (2 ^ f))), .int .i64 (te (rd (a * b) (2 ^ f)))]) ∧ Below w.heap.size w w' := by
  have C := Lib.hid (fun W : World => reckon_times a b f W ga gb gf)
  clear ga gb gf
  generalize tw (rd (a * b) (2 ^ f)) = q at *
  generalize te (rd (a * b) (2 ^ f)) = g at *
  go_enter Tryd.func31, Tryd.ntmps31
  go_wp2_with (go_at_call 62; (with_reducible refine (C.out _).mono ?_); rintro e w1 ⟨rfl, hb1⟩)
  go_ret2
  refine ⟨rfl, ?_⟩
  repeat (first | exact Below.refl _ _ | assumption | apply Below.drew | refine Below.setCell ?_ (by first | omega | (simp; done) | (simp; omega)) _ | refine Below.alloc ?_ (by first | omega | (simp; done) | (simp; omega)) _ | refine Below.trans ?_ (hb1.mono (by first | omega | (simp; done) | (simp; omega))))
theorem fxdiv_any (a b : Int) (f : Nat) (w : World) (ga : wd a = true) (gb : wd b = true) (gf : fb f = true) (h0 : b ≠ 0) : Calls Tryd.prog 32 #[.int .i64 a, .int .i64 b, .int .i64 f] w fun e w' => e = .returned (.tuple #[.int .i64 (tw (rd (a * 2 ^ f) b)), .int .i64 (te (rd (a * 2 ^ f) b))]) ∧ Below w.heap.size w w' := by
  have C := Lib.hid (fun W : World => reckon_over a b f W ga gb gf h0)
  clear ga gb gf h0
  generalize tw (rd (a * 2 ^ f) b) = q at *
  generalize te (rd (a * 2 ^ f) b) = g at *
  go_enter Tryd.func32, Tryd.ntmps32
  go_wp2_with (go_at_call 62; (with_reducible refine (C.out _).mono ?_); rintro e w1 ⟨rfl, hb1⟩)
  go_ret2
  refine ⟨rfl, ?_⟩
  repeat (first | exact Below.refl _ _ | assumption | apply Below.drew | refine Below.setCell ?_ (by first | omega | (simp; done) | (simp; omega)) _ | refine Below.alloc ?_ (by first | omega | (simp; done) | (simp; omega)) _ | refine Below.trans ?_ (hb1.mono (by first | omega | (simp; done) | (simp; omega))))
theorem fxdiv_zero (a b : Int) (f : Nat) (w : World) (ga : wd a = true) (gb : wd b = true) (gf : fb f = true) (h0 : b = 0) : Calls Tryd.prog 32 #[.int .i64 a, .int .i64 b, .int .i64 f] w fun e w' => e = .returned (.tuple #[.int .i64 (0), .int .i64 (4)]) ∧ Below w.heap.size w w' := by
  have C := Lib.hid (fun W : World => reckon_zero a b f W ga gb gf h0)
  clear ga gb gf h0
  go_enter Tryd.func32, Tryd.ntmps32
  go_wp2_with (go_at_call 62; (with_reducible refine (C.out _).mono ?_); rintro e w1 ⟨rfl, hb1⟩)
  go_ret2
  refine ⟨rfl, ?_⟩
  repeat (first | exact Below.refl _ _ | assumption | apply Below.drew | refine Below.setCell ?_ (by first | omega | (simp; done) | (simp; omega)) _ | refine Below.alloc ?_ (by first | omega | (simp; done) | (simp; omega)) _ | refine Below.trans ?_ (hb1.mono (by first | omega | (simp; done) | (simp; omega))))
theorem rd384 : rd (384 * 384) (2 ^ 8) = 576 := by decide
/-- wakes -/
theorem fwakes_any (w : World) : Calls Tryd.prog 35 #[] w fun e w' => e = .returned (.bool true) ∧ Below w.heap.size w w' := by
  have C : Hid (∀ W : World, Calls Tryd.prog 31 #[.int .i64 384, .int .i64 384, .int .i64 8] W fun e w' => e = .returned (.tuple #[.int .i64 576, .int .i64 0]) ∧ Below W.heap.size W w') := fun W => by
    have := fxmul_any 384 384 8 W (by decide) (by decide) (by decide)
    rw [rd384, tw_in (by decide), te_in (by decide)] at this
    exact this
  go_enter Tryd.func35, Tryd.ntmps35
  go_wp2_with (first | (go_at_call 31; (with_reducible refine (C.out _).mono ?_); rintro e w1 ⟨rfl, hb1⟩) | (go_at_call 33; (with_reducible refine (num2_any _ _).mono ?_); rintro e w' ⟨rfl, rfl⟩))
  go_ret
  refine ⟨rfl, ?_⟩
  repeat (first | exact Below.refl _ _ | assumption | apply Below.drew | refine Below.setCell ?_ (by first | omega | (simp; done) | (simp; omega)) _ | refine Below.alloc ?_ (by first | omega | (simp; done) | (simp; omega)) _ | refine Below.trans ?_ (hb1.mono (by first | omega | (simp; done) | (simp; omega))))
end Go.Proofs.YtmdjpnjpnfkihaaDoor
namespace Go.Proofs.YtmdjpnjpnfkihaaDoor
open Go.RowKit
theorem ff_any (i : Int) (w : World) : Calls Tryd.prog 29 #[.int .i64 i] w fun e w' => e = .returned (.int .i64 (8 + i % 18446744073709551616 % 25)) ∧ w = w' := by
  have C := Lib.hid (fun W : World => within_any i 25 W (by decide) (by decide))
  have e1 : wrap64 (8 + i % 18446744073709551616 % 25) = 8 + i % 18446744073709551616 % 25 := IntWalk.wrap64_in _ ⟨by omega, by omega⟩
  have E := Lib.hid e1
  clear e1
  generalize i % 18446744073709551616 % 25 = r at *
  go_enter Tryd.func29, Tryd.ntmps29
  go_wp2_with (go_at_call 61; (with_reducible refine (C.out _).mono ?_); rintro e w' ⟨rfl, rfl⟩)
  go_ret
  exact ⟨by show Ending.returned (.int .i64 (wrap64 (8 + r))) = _; rw [E.out], rfl⟩
end Go.Proofs.YtmdjpnjpnfkihaaDoor
namespace Go.Proofs.YtmdjpnjpnfkihaaDoor
theorem two_dvd_pow : ∀ (f g : Nat), g ∣ 2 ^ f → g < 2 ^ f → 2 * g ∣ 2 ^ f
  | 0, g, h, l => by
    have : g = 0 := by simpa using l
    subst this
    simp at h
  | f + 1, g, h, l => by
    rw [Nat.pow_succ] at h l ⊢
    rcases Nat.mod_two_eq_zero_or_one g with e | e
    · obtain ⟨k, rfl⟩ : ∃ k, g = 2 * k := ⟨g / 2, by omega⟩
      have hk : k ∣ 2 ^ f := by
        obtain ⟨c, hc⟩ := h
        exact ⟨c, by rw [Nat.mul_assoc] at hc; omega⟩
      have := two_dvd_pow f k hk (by omega)
      obtain ⟨c, hc⟩ := this
      exact ⟨c, by rw [hc, Nat.mul_assoc 2 (2 * k) c, Nat.mul_comm]⟩
    · have hc : Nat.Coprime g 2 := by
        unfold Nat.Coprime
        rw [Nat.gcd_comm, Nat.gcd_rec, e]; exact Nat.gcd_one_left 2
      have hg : g ∣ 2 ^ f := hc.dvd_of_dvd_mul_right h
      rcases Nat.lt_or_ge g (2 ^ f) with l2 | l2
      · exact Nat.dvd_trans (two_dvd_pow f g hg l2) (Nat.dvd_mul_right _ _)
      · have : g = 2 ^ f := Nat.le_antisymm (Nat.le_of_dvd (Nat.pow_pos (by decide)) hg) l2
        rw [this, Nat.mul_comm]
        exact Nat.dvd_refl _
theorem frs_dec {f r : Nat} (h : ¬ (r = 0 ∨ 2 ^ f ≤ r)) : 2 ^ f - Nat.gcd (10 * r % 2 ^ f) (2 ^ f) < 2 ^ f - Nat.gcd r (2 ^ f) := by
  have hr : 0 < r := by omega
  have h1 : Nat.gcd r (2 ^ f) ≤ r := Nat.gcd_le_left _ hr
  have h0 : 0 < Nat.gcd r (2 ^ f) := Nat.gcd_pos_of_pos_left _ hr
  have h2 : 2 * Nat.gcd r (2 ^ f) ∣ 2 ^ f := two_dvd_pow f _ (Nat.gcd_dvd_right _ _) (by omega)
  have h3 : 2 * Nat.gcd r (2 ^ f) ∣ 10 * r := by
    obtain ⟨c, hc⟩ := Nat.gcd_dvd_left r (2 ^ f)
    refine ⟨5 * c, ?_⟩
    generalize Nat.gcd r (2 ^ f) = g at *
    subst hc
    rw [Nat.mul_mul_mul_comm, ← Nat.mul_assoc]
  have h4 : 2 * Nat.gcd r (2 ^ f) ∣ 10 * r % 2 ^ f := (Nat.dvd_mod_iff h2).2 h3
  have h5 := Nat.dvd_gcd h4 h2
  have h6 : Nat.gcd (10 * r % 2 ^ f) (2 ^ f) ≤ 2 ^ f := Nat.gcd_le_right _ (Nat.pow_pos (by decide))
  have h7 : 0 < Nat.gcd (10 * r % 2 ^ f) (2 ^ f) := Nat.gcd_pos_of_pos_right _ (Nat.pow_pos (by decide))
  have h8 := Nat.le_of_dvd h7 h5
  omega
/-- The digits behind the point of r / 2^f -/
def frs (f r : Nat) : List UInt8 := if h : r = 0 ∨ 2 ^ f ≤ r then [] else UInt8.ofNat (48 + 10 * r / 2 ^ f) :: frs f (10 * r % 2 ^ f)
termination_by 2 ^ f - Nat.gcd r (2 ^ f)
decreasing_by exact frs_dec h
theorem frs_zero (f : Nat) : frs f 0 = [] := by rw [frs, dif_pos (Or.inl rfl)]
theorem frs_next {f r : Nat} (h0 : r ≠ 0) (h : r < 2 ^ f) : frs f r = UInt8.ofNat (48 + 10 * r / 2 ^ f) :: frs f (10 * r % 2 ^ f) := by
  rw [frs, dif_neg (by omega)]
/-- There are no more than f of them -/
theorem frs_len : ∀ (k f r : Nat), 2 ^ f ∣ r * 2 ^ k → (frs f r).length ≤ k
  | 0, f, r, h => by
    rw [frs]
    split
    · simp
    · rename_i g
      have := Nat.le_of_dvd (by omega) h
      omega
  | k + 1, f, r, h => by
    rw [frs]
    split
    · simp
    · simp only [List.length_cons]
      refine Nat.succ_le_succ (frs_len k f _ ?_)
      have e : 10 * r * 2 ^ k = 5 * (r * 2 ^ (k + 1)) := by rw [Nat.pow_succ]; have := Nat.mul_assoc r (2 ^ k) 2; generalize 2 ^ k = K at *; rw [← this, Nat.mul_assoc 10]; omega
      have h1 : 2 ^ f ∣ 10 * r * 2 ^ k := by rw [e]; exact Nat.dvd_trans h (Nat.dvd_mul_left _ _)
      have h2 : 10 * r % 2 ^ f * 2 ^ k % 2 ^ f = 0 := by rw [Nat.mod_mul_mod]; exact Nat.mod_eq_zero_of_dvd h1
      exact Nat.dvd_of_mod_eq_zero h2
theorem frs_len_f (f r : Nat) : (frs f r).length ≤ f := frs_len f f r (Nat.dvd_mul_left _ _)
end Go.Proofs.YtmdjpnjpnfkihaaDoor
namespace Go.Proofs.YtmdjpnjpnfkihaaDoor
open Go.RowKit Go.Shelf
attribute [local go_sem] Oper.semAt_some

theorem mask_mod (x f : Nat) (hx : x < 18446744073709551616) (hf : f ≤ 32) : bits BinOp.and IntKind.u64 (x : Int) ((2 ^ f - 1 : Nat) : Int) = ((x % 2 ^ f : Nat) : Int) := by
  have h2 : 2 ^ f ≤ 2 ^ 32 := Nat.pow_le_pow_right (by decide) hf
  have h3 : 0 < 2 ^ f := Nat.pow_pos (by decide)
  rw [u64_and_nat _ _ (by omega) (by omega), Nat.and_two_pow_sub_one_eq_mod]
theorem frs_digit {f r : Nat} (h : r < 2 ^ f) : 10 * r / 2 ^ f ≤ 9 := by
  have h3 : 0 < 2 ^ f := Nat.pow_pos (by decide)
  have : 10 * r / 2 ^ f < 10 := by rw [Nat.div_lt_iff_lt_mul h3]; omega
  omega
theorem frs_u8 {d : Nat} (h : d ≤ 9) : ((UInt8.ofNat (48 + d)).toNat : Int) = 48 + (d : Int) := by
  have : (UInt8.ofNat (48 + d)).toNat = (48 + d) % 256 := by simp
  rw [this]; omega

/-- What a round must keep: the three boxes. -/
def Keep3 (B : Nat) (W W' : World) : Prop := ∀ k, B ≤ k → k < B + 3 → W'.heap[k]? = W.heap[k]?
theorem Keep3.refl (B : Nat) (W : World) : Keep3 B W W := fun _ _ _ => rfl
theorem Keep3.trans {B : Nat} {a b c : World} (h : Keep3 B a b) (k : Keep3 B b c) : Keep3 B a c := fun i h1 h2 => (k i h1 h2).trans (h i h1 h2)
theorem Keep3.cell {B k : Nat} {W W' : World} (h : Keep3 B W W') (h1 : B ≤ k) (h2 : k < B + 3) : W'.cell? ⟨k, 0, none⟩ = W.cell? ⟨k, 0, none⟩ := by simp [World.cell?, h k h1 h2]
theorem Keep3.below {B : Nat} {W W' : World} (h : Below W.heap.size W W') (hB : B + 3 ≤ W.heap.size) : Keep3 B W W' := fun k _ h2 => h.block k (by omega)
theorem Keep3.put {B : Nat} {w : World} (hn : B + 3 ≤ w.heap.size) (W : World) (l : Nat) (o o' : Obj) (hl : w.heap.size ≤ l) (_ : W.heap[l]? = some o) (_ : o.isCells = false) (_ : o.isWalk = false) : Keep3 B W (W.putObj l o') := fun k _ h2 => World.putObj_heap_other (by omega)
theorem Keep3.of_boxes {B : Nat} {W W' : World} {t1 t2 t3 : TypeId} {v1 v2 v3 : Value} (a1 : Boxed W B t1 v1) (a2 : Boxed W (B + 1) t2 v2) (a3 : Boxed W (B + 2) t3 v3) (b1 : Boxed W' B t1 v1) (b2 : Boxed W' (B + 1) t2 v2) (b3 : Boxed W' (B + 2) t3 v3) : Keep3 B W W' := by
  intro k h1 h2
  rcases (by omega : k = B ∨ k = B + 1 ∨ k = B + 2) with rfl | rfl | rfl
  · exact Eq.trans b1 (Eq.symm a1)
  · exact Eq.trans b2 (Eq.symm a2)
  · exact Eq.trans b3 (Eq.symm a3)

set_option maxRecDepth 100000 in
set_option maxHeartbeats 2000000 in
theorem dec1_in (F : Fence) (n : Nat) (hfn : F.fn 90) (hro : F.round = none) (hn : 1 ≤ n) (l B s f : Nat) (hf : f ≤ 32) (hs : s < 18446744073709551616) (J Jx : List UInt8 → World → Prop)
    (hY : ∀ pre x W, J pre W → pre.length < (frs f (s % 2 ^ f)).length → YieldAt F (n - 1) Tryd.prog l #[.int .u8 (x.toNat : Int)] W fun e W' =>
      (e = .returned (.bool true) ∧ J (pre ++ [x]) W' ∧ Keep3 B W W') ∨ (e = .returned (.bool false) ∧ Jx (pre ++ [x]) W'))
    (W : World) (h0s : W.cell? ⟨B, 0, none⟩ = some (.int .u64 s)) (h0f : W.cell? ⟨B + 1, 0, none⟩ = some (.int .i64 f)) (h0b : W.cell? ⟨B + 2, 0, none⟩ = some (.int .u64 ((2 ^ f - 1 : Nat) : Int))) (h0 : J [] W) :
    CallsIn F n Tryd.prog 90 #[.func (.yield l) #[] #[], .pointer (some ⟨B, 0, none⟩), .pointer (some ⟨B + 2, 0, none⟩), .pointer (some ⟨B + 1, 0, none⟩)] W fun e W' => (∃ v, e = .returned v) ∧
      ((∃ ys, ys = frs f (s % 2 ^ f) ∧ J ys W') ∨ (∃ pre, pre <+: frs f (s % 2 ^ f) ∧ Jx pre W')) := by
  have h2 : 2 ^ f ≤ 2 ^ 32 := Nat.pow_le_pow_right (by decide) hf
  have h3 : 0 < 2 ^ f := Nat.pow_pos (by decide)
  have m0 := mask_mod s f hs hf
  have hmask := fun x h => mask_mod x f h hf
  have HM := Lib.hid (And.intro h2 (And.intro h3 hmask))
  clear hmask h2 h3
  generalize hM : (2 ^ f - 1 : Nat) = M at *
  refine callsIn_of_wp Tryd.func90 rfl hfn ?_ hro
  simp only [Tryd.ntmps90, List.size_toArray, List.length_cons, List.length_nil, Nat.reduceAdd, Nat.reduceSub, Array.replicate_succ, Array.replicate_zero, List.push_toArray, List.append_toArray, List.nil_append, List.cons_append]
  gi_wp2
  gi_loopw [5] (fun v wr => ∃ (pre : List UInt8) (r : Nat), v = .int .u64 (r : Int) ∧ r < 2 ^ f ∧ pre ++ frs f r = frs f (s % 2 ^ f) ∧ J pre wr ∧ Keep3 B W wr)
    (fun v _ => 2 ^ f - Nat.gcd (intOf v).toNat (2 ^ f))
  case atStart =>
    exact ⟨[], s % 2 ^ f, by simp, Nat.mod_lt _ HM.out.2.1, rfl, h0, Keep3.refl _ _⟩
  case round =>
    obtain ⟨pre, r, rfl, hr, hp, hJs, hnx⟩ := hrel
    have c0 : wr.cell? ⟨B + 1, 0, none⟩ = some (.int .i64 f) := (hnx.cell (by omega) (by omega)).trans h0f
    have c1 : wr.cell? ⟨B + 2, 0, none⟩ = some (.int .u64 M) := (hnx.cell (by omega) (by omega)).trans h0b
    by_cases hz : r = 0
    · subst hz
      gi_wp2
      go_end0
      rw [frs_zero, List.append_nil] at hp
      exact ⟨⟨_, rfl⟩, .inl ⟨pre, hp, hJs⟩⟩
    · have hd := frs_digit hr
      have hfn' := frs_next hz hr
      obtain ⟨T, hT⟩ : ∃ T, T = 10 * r := ⟨_, rfl⟩
      obtain ⟨d, hdd⟩ : ∃ d, d = T / 2 ^ f := ⟨_, rfl⟩
      have hg := frs_dec (f := f) (r := r) (by omega)
      rw [← hT] at hd hfn' hg
      rw [← hdd] at hd hfn'
      have hrl : r < 4294967296 := Nat.lt_of_lt_of_le hr HM.out.1
      have hT2 : T < 42949672960 := by omega
      have e1 : IntKind.u64.wrap ((r : Int) * 10) = (T : Int) := by rw [IntKind.wrap_u64]; omega
      have e2 : (T : Int) / 2 ^ f = (d : Int) := by rw [hdd]; simp
      have e3 : (48 + (d : Int)) % 256 = 48 + (d : Int) := by omega
      have m1 := HM.out.2.2 T (by omega)
      obtain ⟨q, hq⟩ : ∃ q, q = T % 2 ^ f := ⟨_, rfl⟩
      have hq2 : q < 2 ^ f := by rw [hq]; exact Nat.mod_lt _ HM.out.2.1
      rw [← hq] at m1 hfn' hg
      obtain ⟨fn, tmps, assign, body, hy, hR⟩ := hY pre (UInt8.ofNat (48 + d)) wr hJs (by rw [← hp, hfn']; simp)
      rw [frs_u8 hd] at hy
      have hr0 : ((r : Int) != 0) = true := by rw [bne_iff_ne]; omega
      have hp' := Lib.hid hp
      have hgg := Lib.hid (And.intro hg (And.intro hfn' hq2))
      clear hp hg hfn' hdd hq hq2 hT hd hT2 hrl m0
      gi_wp2
      refine hR.mono ?_
      rintro e W3 (⟨rfl, hJ3, hk3⟩ | ⟨rfl, hJx3⟩)
      · have c1' : W3.cell? ⟨B + 2, 0, none⟩ = some (.int .u64 M) := (hk3.cell (by omega) (by omega)).trans c1
        gi_wp2
        go_roundw
        case rel => exact ⟨pre ++ [UInt8.ofNat (48 + d)], q, rfl, hgg.out.2.2, by rw [← hp'.out, hgg.out.2.1]; simp, hJ3, hnx.trans hk3⟩
        case measure => simpa [intOf] using hgg.out.1
      · gi_wp2
        refine bodyPost_ret (results_none rfl _ _ _) rfl ?_
        exact ⟨⟨_, rfl⟩, .inr ⟨pre ++ [UInt8.ofNat (48 + d)], ⟨frs f q, by rw [← hp'.out, hgg.out.2.1]; simp⟩, hJx3⟩⟩

/-- The iterator's contract. -/
theorem dec_stops (F : Fence) (n : Nat) (hfn : F.fn 90) (hro : F.round = none) (hn : 1 ≤ n) (B s f : Nat) (hf : f ≤ 32) (hs : s < 18446744073709551616) (w : World) (hB : B + 2 < w.heap.size)
    (h0s : w.cell? ⟨B, 0, none⟩ = some (.int .u64 s)) (h0f : w.cell? ⟨B + 1, 0, none⟩ = some (.int .i64 f)) (h0b : w.cell? ⟨B + 2, 0, none⟩ = some (.int .u64 ((2 ^ f - 1 : Nat) : Int))) :
    SeqStopsK F n Tryd.prog 90 #[.pointer (some ⟨B, 0, none⟩), .pointer (some ⟨B + 2, 0, none⟩), .pointer (some ⟨B + 1, 0, none⟩)] (fun x : UInt8 => #[Value.int .u8 (x.toNat : Int)]) (Keep3 B) (fun ys => ys = frs f (s % 2 ^ f)) (fun pre => pre <+: frs f (s % 2 ^ f)) (frs f (s % 2 ^ f)).length w := fun l J Jx W hW _ _ hY h0 =>
  dec1_in F n hfn hro hn l B s f hf hs J Jx hY W ((hW.cell (p := ⟨B, 0, none⟩) (by show B < _; omega)).trans h0s) ((hW.cell (p := ⟨B + 1, 0, none⟩) (by show B + 1 < _; omega)).trans h0f) ((hW.cell (p := ⟨B + 2, 0, none⟩) hB).trans h0b) h0

set_option maxRecDepth 100000 in
set_option maxHeartbeats 2000000 in
/-- fx.decimals: three boxes, and the function value that holds them. -/
theorem decs_any (s f : Nat) (hf : f ≤ 32) (w : World) : Calls Tryd.prog 65 #[.int .u64 s, .int .i64 f] w fun e w' => e = .returned (.func (.func 90) #[] #[.pointer (some ⟨w.heap.size, 0, none⟩), .pointer (some ⟨w.heap.size + 2, 0, none⟩), .pointer (some ⟨w.heap.size + 1, 0, none⟩)]) ∧
    Boxed w' w.heap.size 23 (.int .u64 s) ∧ Boxed w' (w.heap.size + 1) 3 (.int .i64 f) ∧ Boxed w' (w.heap.size + 2) 23 (.int .u64 ((2 ^ f - 1 : Nat) : Int)) ∧ w'.heap.size = w.heap.size + 3 ∧ Below w.heap.size w w' := by
  go_enter Tryd.func65, Tryd.ntmps65
  have h2 : 2 ^ f ≤ 2 ^ 32 := Nat.pow_le_pow_right (by decide) hf
  have h3 : 0 < 2 ^ f := Nat.pow_pos (by decide)
  have e1 : IntKind.u64.wrap (IntKind.u64.wrap (2 ^ f) - 1) = ((2 ^ f - 1 : Nat) : Int) := by
    have e : (2 : Int) ^ f = ((2 ^ f : Nat) : Int) := by simp
    rw [e, IntKind.wrap_u64, IntKind.wrap_u64]
    omega
  clear h2 h3
  go_wp2
  refine bodyPost_ret (results_tmp rfl _ _ _) rfl ?_
  have b0 := ((Boxed.new w 23 (.int .u64 s)).alloc (Obj.cells #[Value.int IntKind.i64 (f : Int)] 3)).alloc (Obj.cells #[Value.int IntKind.u64 ((2 ^ f - 1 : Nat) : Int)] 23)
  have b1 := (Boxed.new (w.alloc (Obj.cells #[Value.int IntKind.u64 (s : Int)] 23)) 3 (.int .i64 f)).alloc (Obj.cells #[Value.int IntKind.u64 ((2 ^ f - 1 : Nat) : Int)] 23)
  have b2 := Boxed.new ((w.alloc (Obj.cells #[Value.int IntKind.u64 (s : Int)] 23)).alloc (Obj.cells #[Value.int IntKind.i64 (f : Int)] 3)) 23 (.int .u64 ((2 ^ f - 1 : Nat) : Int))
  rw [World.size_alloc] at b1
  rw [World.size_alloc, World.size_alloc] at b2
  exact ⟨rfl, b0, b1, b2, by simp, (((Below.refl _ _).alloc (Nat.le_refl _) _).alloc (by simp) _).alloc (by simp; omega) _⟩
end Go.Proofs.YtmdjpnjpnfkihaaDoor
namespace Go.Proofs.YtmdjpnjpnfkihaaDoor
open Go.RowKit

/-- The slice value v owns the bytes xs, in a block from base on; no cell of it is marked. -/
def ByteRow (w : World) (base : Nat) (e : TypeId) (v : Value) (xs : List Value) : Prop :=
  ∃ g cap cur lo hi, v = .slice (some ⟨g, 0, none⟩) xs.length cap ∧ base ≤ g ∧ w.heap[g]? = some (.cells cur e (lo, hi)) ∧ (cap ≤ lo ∨ hi = 0) ∧ xs.length ≤ cap ∧ cap ≤ maxLen ∧ cur.size = cap ∧ cur.toList.take xs.length = xs

theorem ByteRow.lt {w : World} {base : Nat} {e : TypeId} {v : Value} {xs : List Value} (h : ByteRow w base e v xs) : ∃ g, v.ownBlock = some g ∧ base ≤ g ∧ g < w.heap.size := by
  obtain ⟨g, cap, cur, lo, hi, rfl, hb, hg, _⟩ := h
  exact ⟨g, rfl, hb, (Array.getElem?_eq_some_iff.1 hg).1⟩
theorem ByteRow.kept {w w' : World} {base : Nat} {e : TypeId} {v : Value} {xs : List Value} {row : Option Nat} (h : ByteRow w base e v xs) (hg : w.grownBy w' row) (hne : v.ownBlock ≠ row) : ByteRow w' base e v xs := by
  obtain ⟨g, cap, cur, lo, hi, rfl, hb, hgg, rest⟩ := h
  refine ⟨g, cap, cur, lo, hi, rfl, hb, ?_, rest⟩
  rw [hg.block g (Array.getElem?_eq_some_iff.1 hgg).1 (by simpa [Value.ownBlock] using hne)]
  exact hgg
theorem ByteRow.alloc {w : World} {base : Nat} {e : TypeId} {v : Value} {xs : List Value} (h : ByteRow w base e v xs) (o : Obj) : ByteRow (w.alloc o) base e v xs := by
  obtain ⟨g, e1, _, _⟩ := h.lt
  exact h.kept (World.grownBy_alloc w o none) (by rw [e1]; simp)
theorem ByteRow.cells {w : World} {base : Nat} {e : TypeId} {g n c : Nat} {xs : List Value} (h : ByteRow w base e (.slice (some ⟨g, 0, none⟩) n c) xs) : ∀ j u, xs[j]? = some u → w.cell? ⟨g, j, none⟩ = some u := by
  obtain ⟨g', cap, cur, lo, hi, hv, _, hgg, _, _, _, _, htake⟩ := h
  simp only [Value.slice.injEq, Option.some.injEq, Addr.mk.injEq] at hv
  obtain ⟨⟨rfl, _⟩, _, _⟩ := hv
  intro j u hu
  rw [cell_of_row w g j cur e (lo, hi) hgg]
  rw [← htake, List.getElem?_take] at hu
  split at hu
  · simpa using hu
  · cases hu
theorem ByteRow.put {w : World} {base : Nat} {e : TypeId} {v : Value} {xs : List Value} {l : Nat} {o : Obj} (o' : Obj) (h : ByteRow w base e v xs) (hl : w.heap[l]? = some o) (ho : o.isCells = false) : ByteRow (w.putObj l o') base e v xs := by
  refine h.kept (grownBy_putObj' w l o') ?_
  obtain ⟨g, cap, cur, lo, hi, rfl, _, hgg, _⟩ := h
  intro e1
  simp only [Value.ownBlock, Option.some.injEq] at e1
  subst e1
  rw [hgg] at hl
  cases hl
  cases ho
theorem ByteRow.below {w w' : World} {base : Nat} {e : TypeId} {v : Value} {xs : List Value} (h : ByteRow w base e v xs) (hb : Below w.heap.size w w') : ByteRow w' base e v xs := by
  obtain ⟨g, cap, cur, lo, hi, rfl, hb1, hgg, rest⟩ := h
  exact ⟨g, cap, cur, lo, hi, rfl, hb1, (hb.block g (Array.getElem?_eq_some_iff.1 hgg).1).trans hgg, rest⟩
theorem ByteRow.set {w : World} {base B : Nat} {e t : TypeId} {v u u' : Value} {xs : List Value} (h : ByteRow w base e v xs) (hB : Boxed w B t u) (hte : t ≠ e) : ByteRow (w.setCell ⟨B, 0, none⟩ u') base e v xs := by
  refine h.kept (grownBy_setCell' w B u') ?_
  obtain ⟨g, cap, cur, lo, hi, rfl, hb1, hgg, rest⟩ := h
  intro e1
  simp only [Value.ownBlock, Option.some.injEq] at e1
  subst e1
  have := (show w.heap[g]? = _ from hB).symm.trans hgg
  simp at this
  exact hte this.2.1
theorem ByteRow.not_box {w : World} {base B : Nat} {e t : TypeId} {v u : Value} {xs : List Value} (h : ByteRow w base e v xs) (hB : Boxed w B t u) (hte : t ≠ e) : some B ≠ v.ownBlock := by
  obtain ⟨g, cap, cur, lo, hi, rfl, hb1, hgg, rest⟩ := h
  intro e1
  simp only [Value.ownBlock, Option.some.injEq] at e1
  subst e1
  have := (show w.heap[B]? = _ from hB).symm.trans hgg
  simp at this
  exact hte this.2.1
theorem box_below {w w' : World} {B : Nat} {t : TypeId} {v : Value} (h : Boxed w B t v) (hb : Below w.heap.size w w') : Boxed w' B t v := (hb.block B h.lt).trans h
/-- A byte appended, the new slice stored in its box. -/
theorem box_appended {W w1 : World} {n₀ B : Nat} {t e : TypeId} {v v' : Value} {xs ys : List Value} {tmp : Obj} (hv : Boxed W B t v) (hte : t ≠ e) (hrow : ByteRow W n₀ e v xs) (hn₀ : n₀ ≤ W.heap.size) (hB : n₀ ≤ B)
    (hown' : ByteRow w1 n₀ e v' ys) (hgrow : (W.alloc tmp).grownBy w1 v.ownBlock) :
    Boxed w1 B t v ∧ Boxed (w1.setCell ⟨B, 0, none⟩ v') B t v' ∧ ByteRow (w1.setCell ⟨B, 0, none⟩ v') n₀ e v' ys ∧ KeepsOthers W (w1.setCell ⟨B, 0, none⟩ v') ∧ Below n₀ W (w1.setCell ⟨B, 0, none⟩ v') := by
  have hv1 : Boxed w1 B t v := (hv.alloc tmp).kept hgrow (hrow.not_box hv hte)
  refine ⟨hv1, hv1.set v', hown'.set hv1 hte, ?_, ?_⟩
  · refine ((KeepsOthers.alloc W tmp).trans (KeepsOthers.of_grownBy hgrow fun j o ej hj => ?_)).trans (KeepsOthers.setCell _ _ _)
    obtain ⟨g, cap, cur, lo, hi, rfl, _, hgg, _⟩ := hrow.alloc tmp
    simp only [Value.ownBlock, Option.some.injEq] at ej
    subst ej
    rw [hgg] at hj
    cases hj
    rfl
  · refine (((Below.refl n₀ W).alloc hn₀ tmp).grown hgrow (by simp; omega) fun j ej => ?_).setCell (p := ⟨B, 0, none⟩) hB v'
    obtain ⟨g, e1, hb, _⟩ := hrow.lt
    rw [e1] at ej
    cases ej
    exact hb
/-- The invariant of a loop that appends bytes. -/
theorem byteRow_own {β : Type} (n₀ B : Nat) (t e : TypeId) (f : β → List Value) : Own (fun s W => ∃ v, Boxed W B t v ∧ ByteRow W n₀ e v (f s)) := by
  rintro s X Y row ⟨v, hv, hr⟩ hg hrow
  refine ⟨v, hv.kept hg (fun e' => ?_), hr.kept hg ?_⟩
  · obtain ⟨o, ho, hc⟩ := hrow B e'.symm
    rw [show X.heap[B]? = _ from hv] at ho; cases ho; cases hc
  · obtain ⟨g, cap, cur, lo, hi, rfl, _, hgb, _⟩ := hr
    intro e'
    obtain ⟨o, ho, hc⟩ := hrow g e'.symm
    rw [hgb] at ho; cases ho; cases hc

section
variable {P : Program} (w : World)
/-- A byte stored behind the row's elements. -/
theorem store_behind (g n : Nat) (t : TypeId) (lo hi : Nat) (u : Value) (cur : Array Value) (hg : w.heap[g]? = some (.cells cur t (lo, hi))) (hn : n < cur.size) (hf : cur.size ≤ lo ∨ hi = 0) (h1 : u.oneCell' = true) :
    (storeCells ⟨g, n, none⟩ [u] 0).run P w = .ok () (w.setRow g (cur.setIfInBounds n u)) := by
  have hadd : (⟨g, n, none⟩ : Addr).add 0 = ⟨g, n, none⟩ := by unfold Addr.add; split <;> simp_all
  have hcell : w.cell? ⟨g, n, none⟩ = some cur[n] := by simp [World.cell?, hg, hn]
  have hfro : w.frozen? ⟨g, n, none⟩ = false := by
    simp only [World.frozen?, hg, Bool.and_eq_false_iff, decide_eq_false_iff_not]
    omega
  have hst : (store ((⟨g, n, none⟩ : Addr).add 0) u).run P w = .ok () (w.setRow g (cur.setIfInBounds n u)) := by
    rw [hadd, run_store P w _ u _ h1, hcell]
    simp [hfro, setCell_eq_setRow w g n cur t (lo, hi) u hg]
  simp [storeCells, hst]
/-- The append of one byte. -/
theorem append_one (base : Nat) (t ty e : TypeId) (i : TypeInfo) (z : Value) (ht : P.underlying t = some (.slice e)) (hi : P.info? e = some i) (hz : i.zero = some z) (hsize : i.size = 1) (hby : i.bytes = 1) (hzs : z.cells.size = 1)
    (v : Value) (xs : List Value) (hown : ByteRow w base e v xs) (n c : Nat) (ad : Addr) (u : Value) (hn : n = xs.length) (hnew : w.cell? ad = some u) (had : ad.add 0 = ad) (h1 : u.oneCell' = true) (hlen : xs.length + 1 ≤ 65536) (hbase : base ≤ w.heap.size) :
    ∃ g' cap' w', (Builtin.append_ #[t, t] ty #[v, .slice (some ad) 1 c]).run P w = .ok (.slice (some ⟨g', 0, none⟩) (n + 1) cap') w' ∧ ByteRow w' base e (.slice (some ⟨g', 0, none⟩) (n + 1) cap') (xs ++ [u]) ∧ w.grownBy w' v.ownBlock := by
  subst hn
  obtain ⟨g, cap, cur, lo, hi', rfl, hbg, hg, hf, hnc, hcm, hcs, htake⟩ := hown
  have hnews : ∀ j u', [u][j]? = some u' → w.cell? (ad.add j) = some u' := by
    intro j u' hj
    cases j with
    | zero => rw [had]; simp at hj; rw [← hj]; exact hnew
    | succ j => simp at hj
  by_cases hroom : xs.length + 1 ≤ cap
  · have hfc := run_firstCells_some (P := P) w i.size 1 ad 1 c [u] (by simp [hsize]) hnews
    have hst := store_behind (P := P) w g xs.length e lo hi' u cur hg (by omega) (by omega) h1
    refine ⟨g, cap, w.setRow g (cur.setIfInBounds xs.length u), ?_, ⟨g, cap, _, lo, hi', by simp, hbg, setRow_heap w g cur _ e _ hg, hf, by simpa using hroom, hcm, by simpa using hcs, ?_⟩, ⟨rfl, rfl, rfl, by simp, fun k _ hk => setRow_other w g k _ (fun e => hk (by simp [Value.ownBlock, e]))⟩⟩
    · simp only [hsize] at hfc
      simp [Builtin.append_, run_underlying ht, sizeOf, typeInfo, hi, Builtin.lenOf, hroom, hfc, Addr.add_lit, hst, hsize]
    · have hlt : xs.length < cur.toList.length := by simp; omega
      rw [List.length_append, List.length_singleton, Array.toList_setIfInBounds, List.take_succ_eq_append_getElem (by simpa using hlt), List.take_set_of_le (Nat.le_refl _), htake]
      simp
  · have holds : ∀ j u', xs[j]? = some u' → w.cell? ((⟨g, 0, none⟩ : Addr).add j) = some u' := by
      intro j u' hu
      have hadd : (⟨g, 0, none⟩ : Addr).add j = ⟨g, j, none⟩ := by unfold Addr.add; split <;> simp_all
      rw [hadd]
      exact ByteRow.cells (⟨g, cap, cur, lo, hi', rfl, hbg, hg, hf, hnc, hcm, hcs, htake⟩ : ByteRow w base e (.slice (some ⟨g, 0, none⟩) xs.length cap) xs) j u' hu
    have hr := run_append_grow (P := P) w t ty e i z ht hi hz ⟨g, 0, none⟩ xs.length cap xs (by rw [hsize, Nat.mul_one]) holds ad 1 c [u] (by simp [hsize]) hnews (by omega) (by omega) (growslice_fits (by omega) (by rw [hby]; omega))
    have hge := grownCap_ge w (xs.length + 1) cap e
    have hcm2 : grownCap w (xs.length + 1) cap e ≤ maxLen := grownCap_le_maxLen w (xs.length + 1) cap e (by unfold maxLen; omega)
    refine ⟨_, _, _, hr, ⟨w.heap.size, _, _, 0, 0, by simp, hbase, heap_alloc_new w.drew _, .inr rfl, by simpa using hge, hcm2, ?_, ?_⟩, ⟨rfl, rfl, rfl, by simp, fun k hk _ => by first | exact heap_alloc_old w.drew _ hk | exact heap_alloc_old w.drew _ k hk⟩⟩
    · simp only [Array.size_append, List.size_toArray, size_zeroCells, hzs, List.length_singleton]
      omega
    · simp only [Array.toList_append, List.append_assoc]
      rw [← List.append_assoc]
      exact List.take_left
end
/-- The operation, for the walk. -/
theorem wpList_append_byte {P : Program} (w : World) {ops : Array Oper} {rest : List Oper} {o : Oper} {a : Act} {Q : Exit → Act → World → Prop} (hgd : o.guard = none) (s x : Operand) (t : TypeId)
    (ho : o.op = .call { callee := .builtin .append, args := #[s, x], argTypes := #[t, t] })
    (base : Nat) (e : TypeId) (i : TypeInfo) (z : Value) (ht : P.underlying t = some (.slice e)) (hi : P.info? e = some i) (hz : i.zero = some z) (hsize : i.size = 1) (hby : i.bytes = 1) (hzs : z.cells.size = 1)
    (v : Value) (xs : List Value) (hs : a.eval s = v) (hown : ByteRow w base e v xs) (n c : Nat) (ad : Addr) (u : Value) (hn : n = xs.length) (hx : a.eval x = .slice (some ad) 1 c) (hnew : w.cell? ad = some u) (had : ad.add 0 = ad) (h1 : u.oneCell' = true) (hlen : xs.length + 1 ≤ 65536) (hbase : base ≤ w.heap.size)
    (hK : ∀ g' cap' w', ByteRow w' base e (.slice (some ⟨g', 0, none⟩) (n + 1) cap') (xs ++ [u]) → w.grownBy w' v.ownBlock → wpList P ops Q rest (a.put o.dst (.slice (some ⟨g', 0, none⟩) (n + 1) cap')) w') : wpList P ops Q (o :: rest) a w := by
  obtain ⟨g', cap', w', hrun, r1, r2⟩ := append_one (P := P) w base t o.type e i z ht hi hz hsize hby hzs v xs hown n c ad u hn hnew had h1 hlen hbase
  refine wpList_plain hgd fun _ hK' => ?_
  unfold Oper.wp execOp
  simp only [ho, resolve, invoke, builtin, Sem.run_bind, Sem.run_pure, Result.andThen_ok, List.map_toArray, List.map_cons, List.map_nil, hs, hx, hrun]
  exact hK' _ _ (hK g' cap' w' r1 r2)
theorem wpListIn_append_byte {F : Fence} {m : Nat} {P : Program} (w : World) {ops : Array Oper} {rest : List Oper} {o : Oper} {a : Act} {Q : Exit → Act → World → Prop} (hgd : o.guard = none) (s x : Operand) (t : TypeId)
    (ho : o.op = .call { callee := .builtin .append, args := #[s, x], argTypes := #[t, t] })
    (base : Nat) (e : TypeId) (i : TypeInfo) (z : Value) (ht : P.underlying t = some (.slice e)) (hi : P.info? e = some i) (hz : i.zero = some z) (hsize : i.size = 1) (hby : i.bytes = 1) (hzs : z.cells.size = 1)
    (v : Value) (xs : List Value) (hs : a.eval s = v) (hown : ByteRow w base e v xs) (n c : Nat) (ad : Addr) (u : Value) (hn : n = xs.length) (hx : a.eval x = .slice (some ad) 1 c) (hnew : w.cell? ad = some u) (had : ad.add 0 = ad) (h1 : u.oneCell' = true) (hlen : xs.length + 1 ≤ 65536) (hbase : base ≤ w.heap.size)
    (hK : ∀ g' cap' w', ByteRow w' base e (.slice (some ⟨g', 0, none⟩) (n + 1) cap') (xs ++ [u]) → w.grownBy w' v.ownBlock → wpListIn F m P ops Q rest (a.put o.dst (.slice (some ⟨g', 0, none⟩) (n + 1) cap')) w') : wpListIn F m P ops Q (o :: rest) a w := by
  refine wpListIn_plain hgd fun K hK' => ?_
  obtain ⟨g', cap', w', hrun, r1, r2⟩ := append_one (P := P) w base t o.type e i z ht hi hz hsize hby hzs v xs hown n c ad u hn hnew had h1 hlen hbase
  unfold Oper.wpIn
  refine ⟨?_, ?_⟩
  · simp [Oper.about, ho, resolve, Target.leads, Sem.run_pure]
  · rw [Oper.semAt_plain F _ _ (by rw [ho]; intro c hc'; cases hc')]
    simp [execOp, ho, resolve, invoke, builtin, hs, hx, hrun, Result.andThen]
    exact hK' _ _ (hK g' cap' w' r1 r2)
/-- A string's bytes as a row. -/
theorem byteRow_of_string (w : World) (e : TypeId) (s : ByteArray) (hs : s.size ≤ 65536) (base : Nat) (hbase : base ≤ w.heap.size) :
    ByteRow (Lib.bytesWorld w e s) base e (.slice (some ⟨w.heap.size, 0, none⟩) s.size (grownCap w s.size 0 e)) (s.data.toList.map fun b => Value.int .u8 (b.toNat : Int)) ∧ Below w.heap.size w (Lib.bytesWorld w e s) ∧ (Lib.bytesWorld w e s).heap.size = w.heap.size + 1 := by
  have hge := grownCap_ge w s.size 0 e
  have hcm : grownCap w s.size 0 e ≤ maxLen := grownCap_le_maxLen w s.size 0 e (by unfold maxLen; omega)
  have hl : (s.data.toList.map fun b => Value.int .u8 (b.toNat : Int)).length = s.size := by rw [List.length_map, Array.length_toList]; rfl
  have hcs : (Lib.bytesCells w e s).size = grownCap w s.size 0 e := by
    simp only [Lib.bytesCells, Array.size_append, Array.size_map, Array.size_replicate]
    show s.size + _ = _
    omega
  refine ⟨⟨w.heap.size, grownCap w s.size 0 e, Lib.bytesCells w e s, _, _, by rw [hl], hbase, Lib.bytesWorld_at_new w e s, .inl (by rw [hcs]; exact Nat.le_refl _), by rw [hl]; exact hge, hcm, hcs, ?_⟩, ⟨rfl, rfl, rfl, by rw [Lib.bytesWorld_size]; omega, fun k hk => Lib.bytesWorld_at_old w e s k hk⟩, Lib.bytesWorld_size w e s⟩
  simp only [Lib.bytesCells, Array.toList_append, Array.toList_map]
  exact List.take_left
end Go.Proofs.YtmdjpnjpnfkihaaDoor
namespace Go.Proofs.YtmdjpnjpnfkihaaDoor
open Go.RowKit Go.Sort Go.Lib

theorem fin_pos0 (w : World) (o : Obj) (dk : Array UInt8) (k : Nat) : ∃ os, (putRow (fun (b : UInt8) => Value.int .u8 (b.toNat : Int)) (w.alloc o) w.heap.size 0 dk).drewN k = grow (w.drewN k) os := by
  rw [alloc_eq_grow]
  obtain ⟨os', _, e⟩ := putRow_grow_new (fun (b : UInt8) => Value.int .u8 (b.toNat : Int)) w #[o] w.heap.size 0 dk (Nat.le_refl _)
  exact ⟨os', by rw [e]; rfl⟩
set_option maxHeartbeats 6400000 in
set_option maxRecDepth 100000 in
theorem fu_in (u : Nat) (hu64 : u < 18446744073709551616) (w : World) (htab : Lib.TabIs Tryd.prog w "internal/strconv.uint64pow10" .u64 Lib.pow10Tab) :
    Calls Tryd.prog 73 #[.int .u64 u, .int .i64 10] w fun e w' => e = .returned (.string ⟨(Lib.decDigits u).toArray⟩) ∧ Below w.heap.size w w' := by
  by_cases hi : u < 100
  · go_enter Tryd.func73, Tryd.ntmps73
    go_wp2_with (go_at_call 92; refine (Tryd.internal_strconv_small u hi _).mono ?_; rintro e w' ⟨rfl, rfl⟩)
    go_ret
    exact ⟨rfl, Below.refl _ _⟩
  · have hu1 : 1 ≤ u := by omega
    have hnd20 : Lib.nDigits u ≤ 20 := by have := Lib.numDigits_eq u hu1 hu64; split at this <;> omega
    have hal : Tryd.prog.arrayLen 133 = 24 := by kernel_rfl
    have hsl1 : ∀ W, (Instr.sliceAt 133 (.pointer (some ⟨w.heap.size, 0, none⟩)) none (some (.int .i64 (Lib.nDigits u : Int))) none).run Tryd.prog W = .ok (.slice (some ⟨w.heap.size, 0, none⟩) (Lib.nDigits u) 24) W := fun W => by
      rw [run_sliceAt_array_h W 133 ⟨w.heap.size, 0, none⟩ (by kernel_rfl) .i64 (Lib.nDigits u : Int) (by omega) (by rw [hal]; omega)]
      go_simp
    have hH0 := holds_zero0 w 133 (Lib.nDigits u) (by omega)
    have hfmt := Tryd.internal_strconv_formatBase10 w.heap.size 0 24 u (Array.replicate (Lib.nDigits u) 0) (w.alloc (.cells Lib.zeros24 133)) hH0 (by rw [Array.size_replicate]; exact Lib.lt_pow_nDigits u) hu64 (by rw [Array.size_replicate]; omega)
    rw [Array.size_replicate] at hfmt
    have HH0 := Lib.hid hH0
    clear hH0 hal
    go_enter Tryd.func73, Tryd.ntmps73
    go_wp2_with (first
      | (go_at_call 93; refine (Tryd.internal_strconv_numDigits u hu1 hu64 _ (Lib.tabIs_alloc htab _)).mono ?_; rintro e w' ⟨rfl, rfl⟩))
    go_at_call 94
    refine hfmt.mono ?_
    rintro e w' ⟨rfl, k, v', dk, rfl, hF⟩
    have hcv : (convert 96 9 (.slice (some ⟨w.heap.size, 0, none⟩) (Lib.nDigits u) 24)).run Tryd.prog ((putRow (fun (b : UInt8) => Value.int .u8 (b.toNat : Int)) (w.alloc (.cells Lib.zeros24 133)) w.heap.size 0 dk).drewN k) = .ok (.string ⟨(Lib.decDigits u).toArray⟩) ((putRow (fun (b : UInt8) => Value.int .u8 (b.toNat : Int)) (w.alloc (.cells Lib.zeros24 133)) w.heap.size 0 dk).drewN k) := by
      have h := run_convert_bytes_back (P := Tryd.prog) ((putRow (fun (b : UInt8) => Value.int .u8 (b.toNat : Int)) (w.alloc (.cells Lib.zeros24 133)) w.heap.size 0 dk).drewN k) 96 9 5 ⟨w.heap.size, 0, none⟩ 24 (Lib.decDigits u) Tryd.underlying96 Tryd.underlying5 Tryd.underlying9 (fun j hj => by
        rw [Lib.row_is_numeral hF j hj, Lib.add_plain, World.cell?_drewN]
        exact cell?_putRow (fun (b : UInt8) => Value.int .u8 (b.toNat : Int)) _ w.heap.size 0 _ dk HH0.out (by rw [hF.size, Array.size_replicate]) j (by rw [hF.size]; rw [Lib.decDigits_length] at hj; exact hj))
      rw [Lib.decDigits_length] at h
      exact h
    go_wp2
    go_ret
    obtain ⟨os, eo⟩ := fin_pos0 w (.cells Lib.zeros24 133) dk k
    refine ⟨rfl, ?_⟩
    rw [eo]
    exact below_grow _ w (Nat.le_refl _) k os
set_option maxHeartbeats 6400000 in
theorem fu_any (u : Nat) (hu64 : u < 18446744073709551616) (w : World) (htab : Lib.TabIs Tryd.prog w "internal/strconv.uint64pow10" .u64 Lib.pow10Tab) :
    Calls Tryd.prog 48 #[.int .u64 u, .int .i64 10] w fun e w' => e = .returned (.string ⟨(Lib.decDigits u).toArray⟩) ∧ Below w.heap.size w w' := by
  have H := Lib.hid htab
  clear htab
  go_enter Tryd.func48, Tryd.ntmps48
  go_wp2_with (go_at_call 73; (with_reducible refine (fu_in u hu64 _ H.out).mono ?_); rintro e w' ⟨rfl, hb⟩)
  go_ret
  exact ⟨rfl, hb⟩
end Go.Proofs.YtmdjpnjpnfkihaaDoor
namespace Go.Proofs.YtmdjpnjpnfkihaaDoor
open Go.Lib

/-- A digit's byte. -/
def dg8 (d : Nat) : UInt8 := UInt8.ofNat (48 + d)
/-- The last k digits, the highest first. -/
def padD : Nat → Nat → List UInt8
  | 0, _ => []
  | k + 1, l => padD k (l / 10) ++ [dg8 (l % 10)]
/-- The last k digits, the lowest first. -/
def digs : Nat → Nat → List UInt8
  | 0, _ => []
  | k + 1, l => dg8 (l % 10) :: digs k (l / 10)
theorem dec_small {u : Nat} (h : u < 10) : decDigits u = [dg8 u] := by rw [decDigits, dif_pos h]; rfl
theorem dec_big {u : Nat} (h : ¬ u < 10) : decDigits u = decDigits (u / 10) ++ [dg8 (u % 10)] := by rw [decDigits, dif_neg h]; rfl
theorem dec_split : ∀ (k h l : Nat), 0 < h → l < 10 ^ k → decDigits (h * 10 ^ k + l) = decDigits h ++ padD k l
  | 0, h, l, _, hl => by
    have : l = 0 := by simpa using hl
    subst this
    simp [padD]
  | k + 1, h, l, h0, hl => by
    have e : h * 10 ^ (k + 1) + l = 10 * (h * 10 ^ k) + l := by rw [Nat.pow_succ, ← Nat.mul_assoc]; omega
    have p := Nat.mul_le_mul h0 (Nat.one_le_pow k 10 (by decide))
    rw [Nat.pow_succ] at hl
    rw [e, dec_big (by omega), show (10 * (h * 10 ^ k) + l) / 10 = h * 10 ^ k + l / 10 by omega, show (10 * (h * 10 ^ k) + l) % 10 = l % 10 by omega, dec_split k h (l / 10) h0 (by omega), padD, List.append_assoc]
theorem pad_zero : ∀ k, padD k 0 = List.replicate k 48
  | 0 => rfl
  | k + 1 => by rw [padD, show 0 / 10 = 0 from rfl, pad_zero k, List.replicate_succ']; rfl
theorem dec_len (u : Nat) : (decDigits u).length = nDigits u := decDigits_length u
theorem dec_pos (u : Nat) : 0 < (decDigits u).length := by
  by_cases h : u < 10
  · rw [dec_small h]; exact Nat.zero_lt_one
  · rw [dec_big h]; simp
theorem pad_dec : ∀ (k l : Nat), 0 < k → l < 10 ^ k → (decDigits l).length ≤ k ∧ padD k l = List.replicate (k - (decDigits l).length) 48 ++ decDigits l
  | 0, _, h, _ => absurd h (by decide)
  | k + 1, l, _, hl => by
    by_cases h : l < 10
    · rw [dec_small h, padD, show l / 10 = 0 by omega, pad_zero, show l % 10 = l by omega]
      simp
    · have hk : 0 < k := by
        rcases Nat.eq_zero_or_pos k with g | g
        · subst g; simp at hl; omega
        · exact g
      rw [Nat.pow_succ] at hl
      obtain ⟨a, b⟩ := pad_dec k (l / 10) hk (by omega)
      rw [dec_big h, padD, b]
      simp only [List.length_append, List.length_singleton]
      exact ⟨by omega, by rw [show k + 1 - ((decDigits (l / 10)).length + 1) = k - (decDigits (l / 10)).length by omega, List.append_assoc]⟩
theorem digs_len : ∀ k l, (digs k l).length = k
  | 0, _ => rfl
  | k + 1, l => by rw [digs, List.length_cons, digs_len k]
theorem digs_add : ∀ (k m l : Nat), digs (k + m) l = digs k l ++ digs m (l / 10 ^ k)
  | 0, m, l => by simp [digs]
  | k + 1, m, l => by rw [show k + 1 + m = (k + m) + 1 by omega, digs, digs_add k m, digs, Nat.pow_succ, Nat.div_div_eq_div_mul, Nat.mul_comm 10]; rfl
theorem digs_pad : ∀ k l, (digs k l).reverse = padD k l
  | 0, _ => rfl
  | k + 1, l => by rw [digs, List.reverse_cons, digs_pad k, padD]
theorem dg8_ne {d : Nat} (h0 : 0 < d) (h : d < 10) : dg8 d ≠ 48 := by
  unfold dg8
  intro e
  have := congrArg UInt8.toNat e
  simp at this
  omega
theorem dg8_nat {d : Nat} (h : d < 10) : (dg8 d).toNat = 48 + d := by
  unfold dg8
  simp
  omega
/-- No number above 0 begins with a nought. -/
theorem dec_head : ∀ (n : Nat), 0 < n → (decDigits n).head? ≠ some 48 := by
  intro n
  induction n using Nat.strongRecOn with
  | _ n ih =>
    intro h0
    by_cases h : n < 10
    · rw [dec_small h]
      simp only [List.head?_cons, ne_eq, Option.some.injEq]
      exact dg8_ne h0 h
    · rw [dec_big h]
      have := ih (n / 10) (by omega) (by omega)
      have p := dec_pos (n / 10)
      cases hd : decDigits (n / 10) with
      | nil => rw [hd] at p; exact absurd p (by decide)
      | cons a t => rw [hd] at this; simpa using this
theorem digs_snoc (k l : Nat) : digs (k + 1) l = digs k l ++ [dg8 (l / 10 ^ k % 10)] := by
  rw [digs_add k 1 l]; rfl
theorem digs_mod : ∀ (k l : Nat), digs k (l % 10 ^ k) = digs k l
  | 0, _ => rfl
  | k + 1, l => by
    have h1 : l % 10 ^ (k + 1) % 10 = l % 10 := by rw [Nat.pow_succ, Nat.mul_comm, Nat.mod_mul_right_mod]
    have h2 : l % 10 ^ (k + 1) / 10 = l / 10 % 10 ^ k := by rw [Nat.pow_succ, Nat.mul_comm, Nat.mod_mul_right_div_self]
    rw [digs, digs, h1, h2, digs_mod k]
theorem digs_next (j n : Nat) : digs (9 * (j + 1)) n = digs (9 * j) n ++ digs 9 (n / 10 ^ (9 * j) % 1000000000) := by
  rw [show 9 * (j + 1) = 9 * j + 9 by omega, digs_add]
  congr 1
  exact (digs_mod 9 _).symm
theorem quo_next (j n : Nat) : n / 10 ^ (9 * j) / 1000000000 = n / 10 ^ (9 * (j + 1)) := by
  rw [Nat.div_div_eq_div_mul, show 9 * (j + 1) = 9 * j + 9 by omega, Nat.pow_add]
/-- All digits, the lowest first: those of the numeral, then noughts. -/
theorem digs_dec {K n : Nat} (hK : 0 < K) (h : n < 10 ^ K) : (decDigits n).length ≤ K ∧ digs K n = (decDigits n).reverse ++ List.replicate (K - (decDigits n).length) 48 := by
  obtain ⟨a, b⟩ := pad_dec K n hK h
  refine ⟨a, ?_⟩
  have := congrArg List.reverse (digs_pad K n)
  rw [List.reverse_reverse, b, List.reverse_append, List.reverse_replicate] at this
  exact this
/-- The byte at i of all digits. -/
def dgAt (K n i : Nat) : UInt8 := (digs K n).getD i 0
theorem dgAt_high {K n i : Nat} (hK : 0 < K) (h : n < 10 ^ K) (h1 : (decDigits n).length ≤ i) (h2 : i < K) : dgAt K n i = 48 := by
  obtain ⟨a, b⟩ := digs_dec hK h
  unfold dgAt
  rw [b, List.getD_eq_getElem?_getD, List.getElem?_append_right (by simpa using h1), List.getElem?_replicate, if_pos (by simp; omega)]
  rfl
theorem dgAt_low {K n i : Nat} (hK : 0 < K) (h : n < 10 ^ K) (h1 : i < (decDigits n).length) : dgAt K n i = (decDigits n).getD ((decDigits n).length - 1 - i) 0 := by
  obtain ⟨a, b⟩ := digs_dec hK h
  unfold dgAt
  rw [b, List.getD_eq_getElem?_getD, List.getElem?_append_left (by simpa using h1), List.getElem?_reverse h1, List.getD_eq_getElem?_getD]
theorem dgAt_first {K n : Nat} (hK : 0 < K) (h : n < 10 ^ K) (h0 : 0 < n) : dgAt K n ((decDigits n).length - 1) ≠ 48 := by
  have p := dec_pos n
  rw [dgAt_low hK h (by omega), show (decDigits n).length - 1 - ((decDigits n).length - 1) = 0 by omega]
  have hd := dec_head n h0
  cases hl : decDigits n with
  | nil => rw [hl] at p; exact absurd p (by decide)
  | cons a t => rw [hl] at hd; simpa using hd
end Go.Proofs.YtmdjpnjpnfkihaaDoor
namespace Go.Proofs.YtmdjpnjpnfkihaaDoor
open Go.RowKit

/-- How many limbs are left without noughts on top. -/
def trimLen : List Nat → Nat
  | [] => 0
  | x :: ls => if trimLen ls = 0 then (if x = 0 then 0 else 1) else trimLen ls + 1
theorem trimLen_le : ∀ ls : List Nat, trimLen ls ≤ ls.length
  | [] => Nat.le_refl _
  | x :: ls => by
    have := trimLen_le ls
    simp only [trimLen, List.length_cons]
    split
    · split <;> omega
    · omega
theorem trimLen_is : ∀ (ls : List Nat) (k : Nat), k ≤ ls.length → (∀ i, k ≤ i → ls.getD i 0 = 0) → (k = 0 ∨ ls.getD (k - 1) 0 ≠ 0) → trimLen ls = k
  | [], k, h, _, _ => by simp at h; simp [trimLen, h]
  | x :: ls, 0, _, hz, _ => by
    have ih := trimLen_is ls 0 (Nat.zero_le _) (fun i _ => by have := hz (i + 1) (Nat.zero_le _); simpa using this) (.inl rfl)
    have hx : x = 0 := by have := hz 0 (Nat.le_refl _); simpa using this
    simp [trimLen, ih, hx]
  | x :: ls, 1, _, hz, hn => by
    have ih := trimLen_is ls 0 (Nat.zero_le _) (fun i _ => by have := hz (i + 1) (by omega); simpa using this) (.inl rfl)
    have hx : x ≠ 0 := by rcases hn with h | h
                          · omega
                          · simpa using h
    simp [trimLen, ih, hx]
  | x :: ls, k + 2, h, hz, hn => by
    have ih := trimLen_is ls (k + 1) (by simp at h; omega) (fun i hi => by have := hz (i + 1) (by omega); simpa using this) (.inr (by
      rcases hn with h' | h'
      · omega
      · simpa using h'))
    simp [trimLen, ih]
/-- The value of limbs, the lowest first. -/
def lval (B : Nat) : List Nat → Nat
  | [] => 0
  | x :: ls => x + B * lval B ls
theorem lval_trim (B : Nat) : ∀ ls : List Nat, lval B (ls.take (trimLen ls)) = lval B ls
  | [] => rfl
  | x :: ls => by
    have ih := lval_trim B ls
    simp only [trimLen]
    split
    · rename_i h0
      rw [h0] at ih
      simp only [List.take_zero, lval] at ih
      split
      · rename_i hx; simp [lval, hx, ← ih]
      · simp [lval, ← ih]
    · simp [lval, ih]
theorem trim_last : ∀ ls : List Nat, trimLen ls = 0 ∨ ls.getD (trimLen ls - 1) 0 ≠ 0
  | [] => .inl rfl
  | x :: ls => by
    simp only [trimLen]
    split
    · split
      · exact .inl rfl
      · rename_i h; exact .inr (by simpa using h)
    · rename_i h0
      rcases trim_last ls with h | h
      · exact absurd h h0
      · right
        obtain ⟨m, hm⟩ : ∃ m, trimLen ls = m + 1 := ⟨trimLen ls - 1, by omega⟩
        rw [hm] at h ⊢
        simpa using h

/-- What a slice of whole numbers of kind k reads as. -/
def Rd (k : IntKind) (w : World) (v : Value) (ls : List Nat) : Prop :=
  (v = .slice none 0 0 ∧ ls = []) ∨ ∃ b off cap, v = .slice (some ⟨b, off, none⟩) ls.length cap ∧ ls.length ≤ cap ∧ b < w.heap.size ∧ ∀ i, i < ls.length → w.cell? ⟨b, off + i, none⟩ = some (.int k (ls.getD i 0 : Nat))
theorem Rd.below {k : IntKind} {w w' : World} {v : Value} {ls : List Nat} (h : Rd k w v ls) (hb : Below w.heap.size w w') : Rd k w' v ls := by
  rcases h with h | ⟨b, off, cap, e, hc, hl, h⟩
  · exact .inl h
  · exact .inr ⟨b, off, cap, e, hc, Nat.lt_of_lt_of_le hl hb.size, fun i hi => (hb.cell (p := ⟨b, off + i, none⟩) hl).trans (h i hi)⟩
theorem Rd.take {k : IntKind} {w : World} {b off cap : Nat} {ls : List Nat} (hc : ls.length ≤ cap) (hl : b < w.heap.size) (h : ∀ i, i < ls.length → w.cell? ⟨b, off + i, none⟩ = some (.int k (ls.getD i 0 : Nat))) (n : Nat) (hn : n ≤ ls.length) :
    Rd k w (.slice (some ⟨b, off, none⟩) n cap) (ls.take n) := by
  refine .inr ⟨b, off, cap, by simp [Nat.min_eq_left hn], by simp; omega, hl, fun i hi => ?_⟩
  simp at hi
  have : (ls.take n).getD i 0 = ls.getD i 0 := by simp only [List.getD_eq_getElem?_getD, List.getElem?_take]; rw [if_pos (by omega)]
  rw [this]
  exact h i (by omega)
/-- Where a slice is cut back to n of its elements. -/
def cutv : Value → Nat → Value
  | .slice none _ _, _ => .slice none 0 0
  | .slice (some a) _ c, n => .slice (some a) n c
  | v, _ => v
theorem Rd.cut {k : IntKind} {w : World} {v : Value} {ls : List Nat} (h : Rd k w v ls) (n : Nat) (hn : n ≤ ls.length) : Rd k w (cutv v n) (ls.take n) := by
  rcases h with ⟨rfl, rfl⟩ | ⟨b, off, cap, rfl, hc, hl, h⟩
  · exact .inl ⟨rfl, by simp⟩
  · exact Rd.take hc hl h n hn
end Go.Proofs.YtmdjpnjpnfkihaaDoor
namespace Go.Proofs.YtmdjpnjpnfkihaaDoor
open Go.RowKit

set_option maxHeartbeats 2000000 in
/-- ratchet/ratchetref90.NTrim -/
theorem trim_at (b off cap : Nat) (ls : List Nat) (w : World) (_hc : ls.length ≤ cap) (_hm : ls.length ≤ 4611686018427387904) (h : ∀ i, i < ls.length → w.cell? ⟨b, off + i, none⟩ = some (.int .u64 (ls.getD i 0 : Nat))) :
    Calls Tryd.prog 66 #[.slice (some ⟨b, off, none⟩) ls.length cap] w fun e w' => e = .returned (.slice (some ⟨b, off, none⟩) (trimLen ls) cap) ∧ w = w' := by
  have H := Lib.hid h
  clear h
  go_enter Tryd.func66, Tryd.ntmps66
  go_wp2
  go_loop [3] (fun s3 => ∃ j : Nat, j ≤ ls.length ∧ s3 = .int .i64 j ∧ Hid (∀ i, j ≤ i → ls.getD i 0 = 0)) (fun s3 => (intOf s3).toNat)
  case atStart => exact ⟨ls.length, Nat.le_refl _, rfl, fun i hi => by simp [List.getD, List.getElem?_eq_none hi]⟩
  case round =>
    obtain ⟨j, hj, rfl, hz⟩ := hrel
    by_cases h0 : j = 0
    · subst h0
      have E := Lib.hid (trimLen_is ls 0 hj hz.out (.inl rfl))
      go_wp2
      go_ret
      exact ⟨by rw [E.out]; rfl, rfl⟩
    · obtain ⟨m, rfl⟩ : ∃ m, j = m + 1 := ⟨j - 1, by omega⟩
      have hcell : w.cell? ⟨b, off + m, none⟩ = some (.int .u64 (ls.getD m 0 : Nat)) := H.out m (by omega)
      obtain ⟨x, ex⟩ : ∃ x, x = ls.getD m 0 := ⟨_, rfl⟩
      rw [← ex] at hcell
      have EX := Lib.hid ex
      clear ex
      by_cases hx : x = 0
      · subst hx
        simp only [Int.natCast_zero] at hcell
        go_wp2
        refine ⟨⟨m, by omega, rfl, fun i hi => ?_⟩, by simp [intOf]⟩
        rcases Nat.lt_or_eq_of_le hi with h1 | h1
        · exact hz.out i h1
        · subst h1; exact EX.out.symm
      · have hx' : ((x : Int) == 0) = false := by simpa using hx
        have E := Lib.hid (trimLen_is ls (m + 1) hj hz.out (.inr (by rw [Nat.add_sub_cancel, ← EX.out]; exact hx)))
        clear hx h0
        go_wp2
        go_ret
        exact ⟨by rw [E.out]; rfl, rfl⟩
set_option maxHeartbeats 2000000 in
theorem trim_nil (w : World) : Calls Tryd.prog 66 #[.slice none 0 0] w fun e w' => e = .returned (.slice none 0 0) ∧ w = w' := by
  go_enter Tryd.func66, Tryd.ntmps66
  go_wp2
  go_loop [3] (fun s3 => s3 = .int .i64 0) (fun _ => 0)
  case atStart => rfl
  case round =>
    subst hrel
    go_wp2
    go_ret
    exact ⟨rfl, rfl⟩
theorem trim_any (v : Value) (ls : List Nat) (w : World) (hm : ls.length ≤ 4611686018427387904) (h : Rd .u64 w v ls) :
    Calls Tryd.prog 66 #[v] w fun e w' => e = .returned (cutv v (trimLen ls)) ∧ w = w' := by
  rcases h with ⟨rfl, rfl⟩ | ⟨b, off, cap, rfl, hc, _, h⟩
  · exact trim_nil w
  · exact trim_at b off cap ls w hc hm h

set_option maxHeartbeats 2000000 in
/-- ratchet/ratchetref90.cut -/
theorem cutd_at (b off cap : Nat) (ls : List Nat) (w : World) (_hc : ls.length ≤ cap) (_hm : ls.length ≤ 4611686018427387904) (h : ∀ i, i < ls.length → w.cell? ⟨b, off + i, none⟩ = some (.int .u32 (ls.getD i 0 : Nat))) :
    Calls Tryd.prog 70 #[.slice (some ⟨b, off, none⟩) ls.length cap] w fun e w' => e = .returned (.slice (some ⟨b, off, none⟩) (trimLen ls) cap) ∧ w = w' := by
  have H := Lib.hid h
  clear h
  go_enter Tryd.func70, Tryd.ntmps70
  go_wp2
  go_loop [3] (fun s3 => ∃ j : Nat, j ≤ ls.length ∧ s3 = .int .i64 j ∧ Hid (∀ i, j ≤ i → ls.getD i 0 = 0)) (fun s3 => (intOf s3).toNat)
  case atStart => exact ⟨ls.length, Nat.le_refl _, rfl, fun i hi => by simp [List.getD, List.getElem?_eq_none hi]⟩
  case round =>
    obtain ⟨j, hj, rfl, hz⟩ := hrel
    by_cases h0 : j = 0
    · subst h0
      have E := Lib.hid (trimLen_is ls 0 hj hz.out (.inl rfl))
      go_wp2
      go_ret
      exact ⟨by rw [E.out]; rfl, rfl⟩
    · obtain ⟨m, rfl⟩ : ∃ m, j = m + 1 := ⟨j - 1, by omega⟩
      have hcell : w.cell? ⟨b, off + m, none⟩ = some (.int .u32 (ls.getD m 0 : Nat)) := H.out m (by omega)
      obtain ⟨x, ex⟩ : ∃ x, x = ls.getD m 0 := ⟨_, rfl⟩
      rw [← ex] at hcell
      have EX := Lib.hid ex
      clear ex
      by_cases hx : x = 0
      · subst hx
        simp only [Int.natCast_zero] at hcell
        go_wp2
        refine ⟨⟨m, by omega, rfl, fun i hi => ?_⟩, by simp [intOf]⟩
        rcases Nat.lt_or_eq_of_le hi with h1 | h1
        · exact hz.out i h1
        · subst h1; exact EX.out.symm
      · have hx' : ((x : Int) == 0) = false := by simpa using hx
        have E := Lib.hid (trimLen_is ls (m + 1) hj hz.out (.inr (by rw [Nat.add_sub_cancel, ← EX.out]; exact hx)))
        clear hx h0
        go_wp2
        go_ret
        exact ⟨by rw [E.out]; rfl, rfl⟩
set_option maxHeartbeats 2000000 in
theorem cutd_nil (w : World) : Calls Tryd.prog 70 #[.slice none 0 0] w fun e w' => e = .returned (.slice none 0 0) ∧ w = w' := by
  go_enter Tryd.func70, Tryd.ntmps70
  go_wp2
  go_loop [3] (fun s3 => s3 = .int .i64 0) (fun _ => 0)
  case atStart => rfl
  case round =>
    subst hrel
    go_wp2
    go_ret
    exact ⟨rfl, rfl⟩
theorem cutd_any (v : Value) (ls : List Nat) (w : World) (hm : ls.length ≤ 4611686018427387904) (h : Rd .u32 w v ls) :
    Calls Tryd.prog 70 #[v] w fun e w' => e = .returned (cutv v (trimLen ls)) ∧ w = w' := by
  rcases h with ⟨rfl, rfl⟩ | ⟨b, off, cap, rfl, hc, _, h⟩
  · exact cutd_nil w
  · exact cutd_at b off cap ls w hc hm h

theorem Rd.one {k : IntKind} (w : World) (x : Nat) (t : TypeId) : Rd k (w.alloc (.cells #[.int k (x : Nat)] t)) (.slice (some ⟨w.heap.size, 0, none⟩) 1 1) [x] := by
  refine .inr ⟨w.heap.size, 0, 1, rfl, Nat.le_refl _, by simp, fun i hi => ?_⟩
  have : i = 0 := by simp at hi; omega
  subst this
  simp [World.cell?_alloc_new]
set_option maxHeartbeats 2000000 in
/-- NOf -/
theorem nof_any (x : Nat) (w : World) : Calls Tryd.prog 37 #[.int .u64 x] w fun e w' => e = .returned (.slice (some ⟨w.heap.size, 0, none⟩) (trimLen [x]) 1) ∧ w.alloc (.cells #[.int .u64 x] 23) = w' := by
  have C := Lib.hid (fun W v h => trim_any v [x] W (by simp) h)
  go_enter Tryd.func37, Tryd.ntmps37
  go_wp2_with (go_at_call 66; (with_reducible refine (C.out _ _ (Rd.one _ _ _)).mono ?_); rintro e w' ⟨rfl, rfl⟩)
  go_ret
  exact ⟨rfl, rfl⟩
end Go.Proofs.YtmdjpnjpnfkihaaDoor
namespace Go.Proofs.YtmdjpnjpnfkihaaDoor
open Go.RowKit

/-- Limbs in digits of 32 bits. -/
def split2 : List Nat → List Nat
  | [] => []
  | x :: ls => x % 4294967296 :: x / 4294967296 :: split2 ls
theorem split2_length : ∀ ls : List Nat, (split2 ls).length = 2 * ls.length
  | [] => rfl
  | x :: ls => by simp [split2, split2_length ls]; omega
theorem split2_snoc : ∀ (ls : List Nat) (x : Nat), split2 (ls ++ [x]) = split2 ls ++ [x % 4294967296, x / 4294967296]
  | [], x => rfl
  | y :: ls, x => by simp [split2, split2_snoc ls x]
theorem take_snoc_getD (ls : List Nat) (i : Nat) (h : i < ls.length) : ls.take (i + 1) = ls.take i ++ [ls.getD i 0] := by
  rw [List.take_succ_eq_append_getElem h]; simp [List.getD, h]
theorem split2_val : ∀ ls : List Nat, (∀ x ∈ ls, x < 18446744073709551616) → lval 4294967296 (split2 ls) = lval 18446744073709551616 ls
  | [], _ => rfl
  | x :: ls, h => by
    have ih := split2_val ls (fun y hy => h y (List.mem_cons_of_mem _ hy))
    simp only [split2, lval, ih]
    omega

theorem own_far {w : World} {base : Nat} {e : TypeId} {size : Nat} {v : Value} {n : Nat} {xs : List Value} (h : w.ownsRow base e size v n xs) {b : Nat} (hb : b < base) : v.ownBlock ≠ some b := by
  rcases h.2 with ⟨rfl, _⟩ | ⟨g, cap, cur, rfl, hg, _⟩
  · simp [Value.ownBlock]
  · simp [Value.ownBlock]; omega
/-- What the call owns reads as its elements. -/
theorem own_rd {w : World} {base : Nat} {e : TypeId} {k : IntKind} {v : Value} {ls : List Nat} (h : w.ownsRow base e 1 v ls.length (ls.map fun x => Value.int k (x : Nat))) : Rd k w v ls := by
  obtain ⟨_, ⟨rfl, h0⟩ | ⟨g, cap, cur, rfl, _, hb, hc, _, _, ht⟩⟩ := h
  · exact .inl ⟨rfl, List.eq_nil_of_length_eq_zero h0⟩
  · have hlt : g < w.heap.size := by
      rcases Nat.lt_or_ge g w.heap.size with h | h
      · exact h
      · rw [Array.getElem?_eq_none h] at hb; cases hb
    refine .inr ⟨g, 0, cap, rfl, hc, hlt, fun i hi => ?_⟩
    rw [cell_of_row w g (0 + i) cur e (0, 0) hb, Nat.zero_add]
    have : (cur.toList.take (ls.length * 1))[i]? = some (Value.int k (ls.getD i 0 : Nat)) := by rw [ht]; simp [List.getD, hi]
    rw [List.getElem?_take] at this
    split at this
    · simpa using this
    · cases this

theorem info32 : (Tryd.prog.info? 103).map (fun i => (i.zero, i.size, i.bytes)) = some (some (.int .u32 0), 1, 4) := by kernel_rfl
theorem info64 : (Tryd.prog.info? 23).map (fun i => (i.zero, i.size, i.bytes)) = some (some (.int .u64 0), 1, 8) := by kernel_rfl
def SomeRd (k : IntKind) (w : World) (ls : List Nat) (e : Ending) (w' : World) : Prop := ∃ v, e = .returned v ∧ Rd k w' v ls ∧ Below w.heap.size w w'

set_option maxHeartbeats 4000000 in
/-- halves -/
theorem halves_at (b off cap : Nat) (ls : List Nat) (w : World) (hb : b < w.heap.size) (hx : ∀ x ∈ ls, x < 18446744073709551616) (hm : ls.length ≤ 1099511627776) (h : ∀ i, i < ls.length → w.cell? ⟨b, off + i, none⟩ = some (.int .u64 (ls.getD i 0 : Nat))) :
    Calls Tryd.prog 68 #[.slice (some ⟨b, off, none⟩) ls.length cap] w (SomeRd .u32 w ((split2 ls).take (trimLen (split2 ls)))) := by
  obtain ⟨i0, hi0, hz0, hz1, hz2⟩ := info_parts info32
  have H := Lib.hid (And.intro h hx)
  clear h hx
  go_enter Tryd.func68, Tryd.ntmps68
  go_wp2
  go_loopw [3, 4] (fun s3 s4 wr => ∃ i : Nat, i ≤ ls.length ∧ s4 = .int .i64 i ∧ Hid (wr.ownsRow w.heap.size 103 1 s3 (split2 (ls.take i)).length ((split2 (ls.take i)).map fun x => Value.int .u32 (x : Nat))) ∧ Below w.heap.size w wr) (fun _ s4 _ => ls.length - (intOf s4).toNat)
  case atStart => exact ⟨0, Nat.zero_le _, rfl, World.ownsRow_nil _ _ _ _, Below.refl _ _⟩
  case round =>
    obtain ⟨i, hi, rfl, hown, hB⟩ := hrel
    by_cases hlt : i < ls.length
    · have hcell : wr.cell? ⟨b, off + i, none⟩ = some (.int .u64 (ls.getD i 0 : Nat)) := (hB.cell (p := ⟨b, off + i, none⟩) hb).trans (H.out.1 i hlt)
      obtain ⟨x, ex⟩ : ∃ x, x = ls.getD i 0 := ⟨_, rfl⟩
      have hx : x < 18446744073709551616 := by rw [ex]; simp only [List.getD, List.getElem?_eq_getElem hlt, Option.getD_some]; exact H.out.2 _ (List.getElem_mem hlt)
      rw [← ex] at hcell
      obtain ⟨p, hp⟩ : ∃ p, p = x % 4294967296 := ⟨_, rfl⟩
      obtain ⟨q, hq⟩ : ∃ q, q = x / 4294967296 := ⟨_, rfl⟩
      have e1 : IntKind.u32.wrap (x : Int) = (p : Int) := by rw [IntKind.wrap_u32]; omega
      have e2 : IntKind.u32.wrap ((x : Int) / 4294967296) = (q : Int) := by rw [IntKind.wrap_u32]; omega
      have E : split2 (ls.take (i + 1)) = split2 (ls.take i) ++ [p, q] := by rw [take_snoc_getD ls i hlt, split2_snoc, ← ex, ← hp, ← hq]
      have hlen : (split2 (ls.take i)).length ≤ 2199023255552 := by rw [split2_length]; simp; omega
      have EH := Lib.hid E
      have hown2 := hown.out
      have far := Lib.hid (own_far hown2 hb)
      have hbr : b < wr.heap.size := Nat.lt_of_lt_of_le hb hB.size
      have hBs := hB.size
      generalize split2 (ls.take i) = ds at *
      clear E ex hp hq hx hown
      have HO := Lib.hid hown2
      clear hown2
      go_wp2
      go_region_held3 (fun w' => w'.cell? ⟨b, off + i, none⟩ = some (.int .u64 (x : Nat)))
        (first
          | (simp [go_sem, *]; done)
          | (rw [hgrow.cell_far _ (by simp; omega) (Ne.symm far.out)]; assumption))
        ((refine step_append_lies _ (by rfl) _ _ _ (by rfl) w.heap.size 103 i0 _ 1 4 Tryd.underlying101 hi0 hz0 hz1 hz2 rfl (by omega) _ ds.length (ds.map fun x => Value.int .u32 (x : Nat)) (by rfl) ((HO.out.alloc _).drew)
            ⟨wr.heap.size, 0, none⟩ 2 2 [.int .u32 (p : Nat), .int .u32 (q : Nat)] (by rfl) (by rfl) (World.news_of_block (cs := #[.int .u32 (p : Nat), .int .u32 (q : Nat)]) (t := 103) (fr := (0, 0)) (heap_alloc_new wr _)) (by simp [Value.oneCell'])
            (by omega) (by unfold maxLen; omega) (by omega) (by simp; omega) (wr.heap.size + 1) (by simp) ?_; intro gg cap' w1 hown1 hgrow hat hlt1))
      go_wp2
      refine ⟨⟨i + 1, by omega, by go_num, ?_, ?_⟩, by simp [intOf]; omega⟩
      · rw [EH.out]
        have h1 := hown1
        simpa [Hid] using h1
      · exact ((hB.alloc hBs _).drew).grown hgrow (by simp; omega) (fun k hk => (HO.out.lt k hk).1)
    · have he : i = ls.length := by omega
      subst he
      rw [List.take_length] at hown
      have hBs := hB.size
      have hlen : (split2 ls).length ≤ 2199023255552 := by rw [split2_length]; omega
      have RD := Lib.hid (own_rd hown.out)
      clear hown
      generalize split2 ls = ds at *
      go_wp2_with (go_at_call 70; (with_reducible refine (cutd_any _ ds _ (by omega) RD.out).mono ?_); rintro e w' ⟨rfl, rfl⟩)
      go_ret
      exact ⟨_, rfl, RD.out.cut _ (trimLen_le _), hB⟩
theorem split2_nil : (split2 []).take (trimLen (split2 [])) = [] := rfl
set_option maxHeartbeats 4000000 in
theorem halves_nil (w : World) : Calls Tryd.prog 68 #[.slice none 0 0] w fun e w' => e = .returned (.slice none 0 0) ∧ w = w' := by
  go_enter Tryd.func68, Tryd.ntmps68
  go_wp2
  go_loop [3, 4] (fun s3 s4 => s3 = .slice none 0 0 ∧ s4 = .int .i64 0) (fun _ _ => 0)
  case atStart => exact ⟨rfl, rfl⟩
  case round =>
    obtain ⟨rfl, rfl⟩ := hrel
    go_wp2_with (go_at_call 70; (with_reducible refine (cutd_nil _).mono ?_); rintro e w' ⟨rfl, rfl⟩)
    go_ret
    exact ⟨rfl, rfl⟩
/-- halves -/
theorem halves_any (v : Value) (ls : List Nat) (w : World) (hx : ∀ x ∈ ls, x < 18446744073709551616) (hm : ls.length ≤ 1099511627776) (h : Rd .u64 w v ls) :
    Calls Tryd.prog 68 #[v] w (SomeRd .u32 w ((split2 ls).take (trimLen (split2 ls)))) := by
  rcases h with ⟨rfl, rfl⟩ | ⟨b, off, cap, rfl, _, hl, h⟩
  · exact (halves_nil w).mono fun _ _ ⟨he, hw⟩ => ⟨_, he, .inl ⟨rfl, rfl⟩, hw ▸ Below.refl _ _⟩
  · exact halves_at b off cap ls w hl hx hm h
end Go.Proofs.YtmdjpnjpnfkihaaDoor
namespace Go.Proofs.YtmdjpnjpnfkihaaDoor
open Go.RowKit

/-- Digits of 32 bits, two to a limb. -/
def join2 : List Nat → List Nat
  | [] => []
  | [x] => [x]
  | x :: y :: ls => (x + y * 4294967296) :: join2 ls
theorem join2_append : ∀ (n : Nat) (us bs : List Nat), us.length = 2 * n → join2 (us ++ bs) = join2 us ++ join2 bs
  | 0, us, bs, h => by rw [List.eq_nil_of_length_eq_zero (by omega : us.length = 0)]; rfl
  | n + 1, x :: y :: us, bs, h => by
    have ih := join2_append n us bs (by simp at h; omega)
    simp [join2, ih]
  | n + 1, [x], bs, h => by simp at h; omega
  | n + 1, [], bs, h => by simp at h
theorem join2_length : ∀ (n : Nat) (ls : List Nat), ls.length ≤ 2 * n → (join2 ls).length ≤ n
  | _, [], _ => Nat.zero_le _
  | n, [x], h => by simp at h; simp [join2]; omega
  | n, x :: y :: ls, h => by
    have ih := join2_length (n - 1) ls (by simp at h; omega)
    simp [join2] at *; omega
theorem join2_val : ∀ (n : Nat) (ls : List Nat), ls.length ≤ 2 * n → lval 18446744073709551616 (join2 ls) = lval 4294967296 ls
  | _, [], _ => rfl
  | _, [x], _ => rfl
  | 0, x :: y :: ls, h => by simp at h
  | n + 1, x :: y :: ls, h => by
    have ih := join2_val n ls (by simp at h; omega)
    simp only [join2, lval, ih]
    omega
theorem or_join (x y : Nat) (hx : x < 4294967296) (hy : y < 4294967296) : bits BinOp.or IntKind.u64 (x : Int) ((y : Int) * 4294967296) = ((x + y * 4294967296 : Nat) : Int) := by
  have e : ((y : Int) * 4294967296) = ((y * 4294967296 : Nat) : Int) := by omega
  rw [e, u64_or_nat _ _ (by omega) (by omega)]
  congr 1
  have := Nat.two_pow_add_eq_or_of_lt (i := 32) (b := x) (by simpa using hx) y
  rw [show (2 : Nat) ^ 32 = 4294967296 by decide] at this
  rw [Nat.or_comm, Nat.mul_comm y, ← this]; omega

/-- As SomeRd, and the slice lies in none of the blocks that were there. -/
def SomeRdF (k : IntKind) (w : World) (ls : List Nat) (e : Ending) (w' : World) : Prop := ∃ v, e = .returned v ∧ Rd k w' v ls ∧ Below w.heap.size w w' ∧ ∀ b, b < w.heap.size → v.ownBlock ≠ some b
theorem cutv_far {v : Value} {n b : Nat} (h : v.ownBlock ≠ some b) : (cutv v n).ownBlock ≠ some b := by
  unfold cutv
  split
  · simp [Value.ownBlock]
  · simpa [Value.ownBlock] using h
  · exact h
set_option maxRecDepth 100000 in
set_option maxHeartbeats 4000000 in
/-- whole -/
theorem whole_at (b off cap : Nat) (ls : List Nat) (w : World) (hb : b < w.heap.size) (hx : ∀ x ∈ ls, x < 4294967296) (hm : ls.length ≤ 2199023255552) (h : ∀ i, i < ls.length → w.cell? ⟨b, off + i, none⟩ = some (.int .u32 (ls.getD i 0 : Nat))) :
    Calls Tryd.prog 69 #[.slice (some ⟨b, off, none⟩) ls.length cap] w (SomeRdF .u64 w ((join2 ls).take (trimLen (join2 ls)))) := by
  obtain ⟨i0, hi0, hz0, hz1, hz2⟩ := info_parts info64
  have H := Lib.hid (And.intro h hx)
  clear h hx
  go_enter Tryd.func69, Tryd.ntmps69
  go_wp2
  go_loopw [3, 4] (fun s3 s4 wr => ∃ i : Nat, i ≤ ls.length + 1 ∧ s4 = .int .i64 i ∧ Hid (i % 2 = 0) ∧ Hid (wr.ownsRow w.heap.size 23 1 s3 (join2 (ls.take i)).length ((join2 (ls.take i)).map fun x => Value.int .u64 (x : Nat))) ∧ Below w.heap.size w wr) (fun _ s4 _ => ls.length + 1 - (intOf s4).toNat)
  case atStart => exact ⟨0, Nat.zero_le _, rfl, rfl, World.ownsRow_nil _ _ _ _, Below.refl _ _⟩
  case round =>
    obtain ⟨i, hi, rfl, hev, hown, hB⟩ := hrel
    have hBs := hB.size
    have hbr : b < wr.heap.size := Nat.lt_of_lt_of_le hb hBs
    by_cases hlt : i < ls.length
    · have hcell : wr.cell? ⟨b, off + i, none⟩ = some (.int .u32 (ls.getD i 0 : Nat)) := (hB.cell (p := ⟨b, off + i, none⟩) hb).trans (H.out.1 i hlt)
      obtain ⟨x, ex⟩ : ∃ x, x = ls.getD i 0 := ⟨_, rfl⟩
      have hx : x < 4294967296 := by rw [ex]; simp only [List.getD, List.getElem?_eq_getElem hlt, Option.getD_some]; exact H.out.2 _ (List.getElem_mem hlt)
      rw [← ex] at hcell
      have hdl : Hid ((join2 (ls.take i)).length ≤ 1099511627777) := join2_length _ _ (by simp; omega)
      by_cases hl1 : i + 1 < ls.length
      · have hcell2 : wr.cell? ⟨b, off + (i + 1), none⟩ = some (.int .u32 (ls.getD (i + 1) 0 : Nat)) := (hB.cell (p := ⟨b, off + (i + 1), none⟩) hb).trans (H.out.1 (i + 1) hl1)
        obtain ⟨y, ey⟩ : ∃ y, y = ls.getD (i + 1) 0 := ⟨_, rfl⟩
        have hy : y < 4294967296 := by rw [ey]; simp only [List.getD, List.getElem?_eq_getElem hl1, Option.getD_some]; exact H.out.2 _ (List.getElem_mem hl1)
        rw [← ey] at hcell2
        have eor := or_join x y hx hy
        obtain ⟨z, ez⟩ : ∃ z, z = x + y * 4294967296 := ⟨_, rfl⟩
        rw [← ez] at eor
        have E : join2 (ls.take (i + 2)) = join2 (ls.take i) ++ [z] := by
          rw [take_snoc_getD ls (i + 1) hl1, take_snoc_getD ls i hlt, List.append_assoc, join2_append (i / 2) _ _ (by simp; have := hev.out; omega), ← ex, ← ey, ez]; rfl
        have EH := Lib.hid E
        generalize join2 (ls.take i) = ds at *
        clear E ex ey ez
        have HO := hown
        have hl2 : ds.length ≤ 1099511627777 := hdl.out
        clear hown
        go_wp2_with (at_builtin; refine wpList_append_own _ rfl _ _ 29 rfl w.heap.size 23 i0 (.int .u64 0) 1 8 Tryd.underlying29 hi0 hz0 hz1 hz2 rfl (by decide) _ ds.length (ds.map fun x => Value.int .u64 (x : Nat)) rfl (HO.out.alloc _) ⟨wr.heap.size, 0, none⟩ 1 1 [.int .u64 (z : Nat)] rfl rfl ?c1 ?c2 ?c3 ?c4 ?c5 ?_)
        case c1 => exact (cell_one_new _ _ _)
        case c2 => simp [Value.oneCell']
        case c3 => unfold maxLen; omega
        case c4 => omega
        case c5 => simp; omega
        intro v' w1 hown1 hgrow _
        go_wp2
        refine ⟨⟨i + 2, by omega, by go_num, by have := hev.out; unfold Hid; omega, ?_, ?_⟩, by simp [intOf]; omega⟩
        · rw [EH.out]
          have h1 := hown1
          simpa [Hid] using h1
        · exact (hB.alloc hBs _).grown hgrow (by simp; omega) (fun k hk => (HO.out.lt k hk).1)
      · have he : i + 1 = ls.length := by omega
        have E : join2 (ls.take (i + 2)) = join2 (ls.take i) ++ [x] := by
          have e1 : ls.take (i + 2) = ls.take (i + 1) := by rw [List.take_of_length_le (by omega), List.take_of_length_le (by omega)]
          rw [e1, take_snoc_getD ls i hlt, join2_append (i / 2) _ _ (by simp; have := hev.out; omega), ← ex]; rfl
        have EH := Lib.hid E
        generalize join2 (ls.take i) = ds at *
        clear E ex
        have HO := hown
        have hl2 : ds.length ≤ 1099511627777 := hdl.out
        clear hown
        go_wp2_with (at_builtin; refine wpList_append_own _ rfl _ _ 29 rfl w.heap.size 23 i0 (.int .u64 0) 1 8 Tryd.underlying29 hi0 hz0 hz1 hz2 rfl (by decide) _ ds.length (ds.map fun x => Value.int .u64 (x : Nat)) rfl (HO.out.alloc _) ⟨wr.heap.size, 0, none⟩ 1 1 [.int .u64 (x : Nat)] rfl rfl ?c1 ?c2 ?c3 ?c4 ?c5 ?_)
        case c1 => exact (cell_one_new _ _ _)
        case c2 => simp [Value.oneCell']
        case c3 => unfold maxLen; omega
        case c4 => omega
        case c5 => simp; omega
        intro v' w1 hown1 hgrow _
        go_wp2
        refine ⟨⟨i + 2, by omega, by go_num, by have := hev.out; unfold Hid; omega, ?_, ?_⟩, by simp [intOf]; omega⟩
        · rw [EH.out]
          have h1 := hown1
          simpa [Hid] using h1
        · exact (hB.alloc hBs _).grown hgrow (by simp; omega) (fun k hk => (HO.out.lt k hk).1)
    · have he : ls.length ≤ i := by omega
      rw [List.take_of_length_le he] at hown
      have hlen : (join2 ls).length ≤ 1099511627777 := join2_length _ _ (by omega)
      have RD := Lib.hid (own_rd hown.out)
      have FR := Lib.hid (fun b' (hb' : b' < w.heap.size) => own_far hown.out hb')
      clear hown
      generalize join2 ls = ds at *
      go_wp2_with (go_at_call 66; (with_reducible refine (trim_any _ ds _ (by omega) RD.out).mono ?_); rintro e w' ⟨rfl, rfl⟩)
      go_ret
      exact ⟨_, rfl, RD.out.cut _ (trimLen_le _), hB, fun b' hb' => cutv_far (FR.out b' hb')⟩
set_option maxHeartbeats 4000000 in
theorem whole_nil (w : World) : Calls Tryd.prog 69 #[.slice none 0 0] w fun e w' => e = .returned (.slice none 0 0) ∧ w = w' := by
  go_enter Tryd.func69, Tryd.ntmps69
  go_wp2
  go_loop [3, 4] (fun s3 s4 => s3 = .slice none 0 0 ∧ s4 = .int .i64 0) (fun _ _ => 0)
  case atStart => exact ⟨rfl, rfl⟩
  case round =>
    obtain ⟨rfl, rfl⟩ := hrel
    go_wp2_with (go_at_call 66; (with_reducible refine (trim_nil _).mono ?_); rintro e w' ⟨rfl, rfl⟩)
    go_ret
    exact ⟨rfl, rfl⟩
/-- whole -/
theorem whole_any (v : Value) (ls : List Nat) (w : World) (hx : ∀ x ∈ ls, x < 4294967296) (hm : ls.length ≤ 2199023255552) (h : Rd .u32 w v ls) :
    Calls Tryd.prog 69 #[v] w (SomeRdF .u64 w ((join2 ls).take (trimLen (join2 ls)))) := by
  rcases h with ⟨rfl, rfl⟩ | ⟨b, off, cap, rfl, _, hl, h⟩
  · exact (whole_nil w).mono fun _ _ ⟨he, hw⟩ => ⟨_, he, .inl ⟨rfl, rfl⟩, hw ▸ Below.refl _ _, fun _ _ => by simp [Value.ownBlock]⟩
  · exact whole_at b off cap ls w hl hx hm h
end Go.Proofs.YtmdjpnjpnfkihaaDoor
namespace Go.Proofs.YtmdjpnjpnfkihaaDoor
open Go.RowKit

theorem lval_append (B : Nat) : ∀ us vs : List Nat, lval B (us ++ vs) = lval B us + B ^ us.length * lval B vs
  | [], vs => by simp [lval]
  | x :: us, vs => by
    have ih := lval_append B us vs
    simp only [List.cons_append, lval, ih, List.length_cons, Nat.pow_succ]
    rw [Nat.mul_add, Nat.mul_comm (B ^ us.length) B, Nat.mul_assoc]
    omega
theorem lval_split (B : Nat) (ls : List Nat) (i : Nat) (h : i ≤ ls.length) : lval B ls = lval B (ls.take i) + B ^ i * lval B (ls.drop i) := by
  conv => lhs; rw [← List.take_append_drop i ls]
  rw [lval_append, List.length_take, Nat.min_eq_left h]
theorem lval_lt (B : Nat) (hB : 0 < B) : ∀ ls : List Nat, (∀ x ∈ ls, x < B) → lval B ls < B ^ ls.length
  | [], _ => by simp [lval]
  | x :: ls, h => by
    have ih := lval_lt B hB ls (fun y hy => h y (List.mem_cons_of_mem _ hy))
    have hx := h x List.mem_cons_self
    simp only [lval, List.length_cons, Nat.pow_succ]
    have := Nat.mul_le_mul_left B (show lval B ls + 1 ≤ B ^ ls.length from ih)
    rw [Nat.mul_add, Nat.mul_one, Nat.mul_comm B (B ^ ls.length)] at this
    omega
theorem lval_ge (B : Nat) (ls : List Nat) (h : trimLen ls = ls.length) (h0 : ls ≠ []) : B ^ (ls.length - 1) ≤ lval B ls := by
  have hl : 0 < ls.length := List.length_pos_iff.2 h0
  have hn : ls.getD (ls.length - 1) 0 ≠ 0 := by
    rcases trim_last ls with h1 | h1
    · omega
    · rwa [h] at h1
  rw [lval_split B ls (ls.length - 1) (by omega)]
  have e : ls.drop (ls.length - 1) = [ls.getD (ls.length - 1) 0] := by
    have hlt : ls.length - 1 < ls.length := by omega
    rw [List.drop_eq_getElem_cons hlt, List.drop_eq_nil_of_le (by omega)]
    simp [List.getD, hlt]
  rw [e]
  simp only [lval, Nat.mul_zero, Nat.add_zero]
  have := Nat.mul_le_mul_left (B ^ (ls.length - 1)) (show 1 ≤ ls.getD (ls.length - 1) 0 by omega)
  omega
theorem trim_take (ls : List Nat) : trimLen (ls.take (trimLen ls)) = (ls.take (trimLen ls)).length := by
  have hl := trimLen_le ls
  have e : (ls.take (trimLen ls)).length = trimLen ls := by simp [Nat.min_eq_left hl]
  rw [e]
  refine trimLen_is _ _ (by rw [e]; exact Nat.le_refl _) (fun i hi => ?_) ?_
  · simp only [List.getD_eq_getElem?_getD, List.getElem?_take]; rw [if_neg (by omega)]; rfl
  · rcases trim_last ls with h | h
    · exact .inl h
    · right
      by_cases h0 : trimLen ls = 0
      · rw [h0]; rw [h0] at h; simp only [List.take_zero]; simp; rw [h0] at hl; cases ls with
        | nil => simp at h
        | cons x xs =>
          simp [trimLen] at h0
          split at h0
          · split at h0
            · rename_i hx; simp [hx] at h
            · omega
          · omega
      · simp only [List.getD_eq_getElem?_getD, List.getElem?_take] at h ⊢; rw [if_pos (by omega)]; exact h

/-- Beyond all numbers that a statement speaks of: 2^18 limbs of 64 bits. -/
def BIG : Nat := 2 ^ 16777216
theorem pow2_mono (k m : Nat) (h : k ≤ m) : 2 ^ k ≤ 2 ^ m := Nat.pow_le_pow_right (by decide) h
theorem big_of {n k : Nat} (h : n < 2 ^ k) (hk : k ≤ 16777216) : n < BIG := by
  unfold BIG
  exact Nat.lt_of_lt_of_le h (pow2_mono k 16777216 hk)
/-- The slice v of limbs is the number n: no nought on top. -/
def IsN (w : World) (v : Value) (n : Nat) : Prop := ∃ ls, Rd .u64 w v ls ∧ (∀ x ∈ ls, x < 18446744073709551616) ∧ lval 18446744073709551616 ls = n ∧ trimLen ls = ls.length
/-- The slice v of digits of 32 bits is the number n. -/
def IsD (w : World) (v : Value) (n : Nat) : Prop := ∃ ls, Rd .u32 w v ls ∧ (∀ x ∈ ls, x < 4294967296) ∧ lval 4294967296 ls = n ∧ trimLen ls = ls.length
theorem IsN.below {w w' : World} {v : Value} {n : Nat} (h : IsN w v n) (hb : Below w.heap.size w w') : IsN w' v n := by
  obtain ⟨ls, h1, h2⟩ := h; exact ⟨ls, h1.below hb, h2⟩
theorem IsD.below {w w' : World} {v : Value} {n : Nat} (h : IsD w v n) (hb : Below w.heap.size w w') : IsD w' v n := by
  obtain ⟨ls, h1, h2⟩ := h; exact ⟨ls, h1.below hb, h2⟩
theorem len_big {B k : Nat} {ls : List Nat} (hB : B = 2 ^ k) (_hk : 1 ≤ k) (h : trimLen ls = ls.length) (hb : lval B ls < BIG) : ls.length * k ≤ 16777216 + k := by
  subst hB
  by_cases h0 : ls = []
  · subst h0; simp
  · have := lval_ge (2 ^ k) ls h h0
    rcases Nat.lt_or_ge 16777216 ((ls.length - 1) * k) with hgt | hle
    · exfalso
      have h1 : BIG ≤ 2 ^ ((ls.length - 1) * k) := by
        unfold BIG
        exact pow2_mono 16777216 _ (by omega)
      rw [← Nat.pow_mul, Nat.mul_comm k] at this
      omega
    · have hl : 0 < ls.length := List.length_pos_iff.2 h0
      have : ls.length * k = (ls.length - 1) * k + k := by
        conv => lhs; rw [show ls.length = (ls.length - 1) + 1 by omega]
        rw [Nat.succ_mul]
      omega
theorem len_n {ls : List Nat} (h : trimLen ls = ls.length) (hb : lval 18446744073709551616 ls < BIG) : ls.length ≤ 262145 := by
  have := len_big (B := 18446744073709551616) (k := 64) (by decide) (by decide) h hb; omega
theorem len_d {ls : List Nat} (h : trimLen ls = ls.length) (hb : lval 4294967296 ls < BIG) : ls.length ≤ 524289 := by
  have := len_big (B := 4294967296) (k := 32) (by decide) (by decide) h hb; omega
theorem split2_lt : ∀ (ls : List Nat), (∀ x ∈ ls, x < 18446744073709551616) → ∀ y ∈ split2 ls, y < 4294967296
  | [], _, y, hy => by cases hy
  | x :: ls, h, y, hy => by
    have ih := split2_lt ls (fun z hz => h z (List.mem_cons_of_mem _ hz))
    have hx := h x List.mem_cons_self
    simp only [split2, List.mem_cons] at hy
    rcases hy with rfl | rfl | hy
    · omega
    · omega
    · exact ih y hy
theorem join2_lt : ∀ (n : Nat) (ls : List Nat), ls.length ≤ n → (∀ x ∈ ls, x < 4294967296) → ∀ y ∈ join2 ls, y < 18446744073709551616
  | _, [], _, _, y, hy => by cases hy
  | _, [x], _, h, y, hy => by simp [join2] at hy; have := h x List.mem_cons_self; omega
  | 0, x :: y :: ls, hl, _, _, _ => by simp at hl
  | n + 1, x :: y :: ls, hl, h, z, hz => by
    have ih := join2_lt n ls (by simp at hl; omega) (fun z hz => h z (List.mem_cons_of_mem _ (List.mem_cons_of_mem _ hz)))
    have hx := h x List.mem_cons_self
    have hy := h y (List.mem_cons_of_mem _ List.mem_cons_self)
    simp only [join2, List.mem_cons] at hz
    rcases hz with rfl | hz
    · omega
    · exact ih z hz
/-- halves, of numbers -/
def SomeD (w : World) (n : Nat) (e : Ending) (w' : World) : Prop := ∃ v, e = .returned v ∧ IsD w' v n ∧ Below w.heap.size w w'
def SomeN (w : World) (n : Nat) (e : Ending) (w' : World) : Prop := ∃ v, e = .returned v ∧ IsN w' v n ∧ Below w.heap.size w w'
/-- As SomeN, and the number lies in none of the blocks that were there. -/
def SomeNF (w : World) (n : Nat) (e : Ending) (w' : World) : Prop := ∃ v, e = .returned v ∧ IsN w' v n ∧ Below w.heap.size w w' ∧ ∀ b, b < w.heap.size → v.ownBlock ≠ some b
theorem SomeNF.some {w : World} {n : Nat} {e : Ending} {w' : World} (h : SomeNF w n e w') : SomeN w n e w' := by
  obtain ⟨v, h1, h2, h3, _⟩ := h; exact ⟨v, h1, h2, h3⟩
theorem halves_num (v : Value) (n : Nat) (w : World) (h : IsN w v n) (hb : n < BIG) : Calls Tryd.prog 68 #[v] w (SomeD w n) := by
  obtain ⟨ls, h1, h2, rfl, h4⟩ := h
  refine (halves_any v ls w h2 (by have := len_n h4 hb; omega) h1).mono fun e w' ⟨u, he, hr, hB⟩ => ⟨u, he, ⟨_, hr, ?_, ?_, trim_take _⟩, hB⟩
  · exact fun x hx => split2_lt ls h2 x (List.mem_of_mem_take hx)
  · rw [lval_trim, split2_val ls h2]
theorem whole_far (v : Value) (ls : List Nat) (w : World) (h : Rd .u32 w v ls) (h2 : ∀ x ∈ ls, x < 4294967296) (hl : ls.length ≤ 2199023255552) : Calls Tryd.prog 69 #[v] w (SomeNF w (lval 4294967296 ls)) := by
  refine (whole_any v ls w h2 hl h).mono fun e w' ⟨u, he, hr, hB, hF⟩ => ⟨u, he, ⟨_, hr, ?_, ?_, trim_take _⟩, hB, hF⟩
  · exact fun x hx => join2_lt ls.length ls (Nat.le_refl _) h2 x (List.mem_of_mem_take hx)
  · rw [lval_trim, join2_val ls.length ls (by omega)]
theorem whole_num (v : Value) (ls : List Nat) (w : World) (h : Rd .u32 w v ls) (h2 : ∀ x ∈ ls, x < 4294967296) (hl : ls.length ≤ 2199023255552) : Calls Tryd.prog 69 #[v] w (SomeN w (lval 4294967296 ls)) :=
  (whole_far v ls w h h2 hl).mono fun _ _ h => h.some
theorem nof_num (x : Nat) (w : World) (hx : x < 18446744073709551616) : Calls Tryd.prog 37 #[.int .u64 x] w (SomeN w x) := by
  refine (nof_any x w).mono fun e w' ⟨he, hw⟩ => ?_
  subst hw
  refine ⟨_, he, ⟨[x].take (trimLen [x]), ?_, ?_, ?_, trim_take _⟩, (Below.refl _ _).alloc (Nat.le_refl _) _⟩
  · exact (Rd.one w x 23).cut _ (trimLen_le _)
  · intro y hy; have := List.mem_of_mem_take hy; simp at this; omega
  · rw [lval_trim]; simp [lval]
end Go.Proofs.YtmdjpnjpnfkihaaDoor
