/-
  Closing, ratios, and the operations of words.
-/
import Derived.Test.YtkpkejccphpkpaaFxB
import Derived.Test.YtkpkejccphpkpaaFxF
namespace Go.Proofs.Ytkpkejccphpkpaa
open Go.RowKit

theorem R_pow {n : Nat} (h : n ≤ 126) : R (2 ^ n) := by
  have : (2 : Int) ^ n ≤ 2 ^ 126 := by have := Nat.pow_le_pow_right (show 0 < 2 by decide) h; exact_mod_cast this
  have : (0 : Int) < 2 ^ n := Int.pow_pos (by decide)
  rw [R_iff]
  omega
theorem R_prod {a b : Int} (a0 : -9223372036854775808 ≤ a) (a1 : a ≤ 9223372036854775807) (b0 : -9223372036854775808 ≤ b) (b1 : b ≤ 9223372036854775807) : R (a * b) := by
  have h : (a * b).natAbs ≤ 9223372036854775808 * 9223372036854775808 := by
    rw [Int.natAbs_mul]
    exact Nat.mul_le_mul (by omega) (by omega)
  generalize a * b = x at *
  rw [R_iff]
  omega
theorem pow_ne (n : Nat) : (2 : Int) ^ n ≠ 0 := by have : (0 : Int) < 2 ^ n := Int.pow_pos (by decide); omega
set_option maxRecDepth 100000 in
set_option maxHeartbeats 2000000 in
/-- fx.Close -/
theorem close_any (a : Int) (n : Nat) (w : World) (ha : R a) (h1 : n ≤ 126) : Calls Try.prog 36 #[Wv a, .int .i64 n] w fun e w' => e = .returned (.tuple #[.int .i64 (tw (rd a (2 ^ n))), .int .i64 (te (rd a (2 ^ n)))]) ∧ Below w.heap.size w w' := by
  have LC := fun W : World => shl_any 1 n W (by decide) h1
  have NC := Lib.hid (fun W : World => near_any a (2 ^ n) W ha (R_pow h1) (pow_ne n))
  rw [Int.one_mul, told_in (R_pow h1), over_in (R_pow h1)] at LC
  have LC := Lib.hid LC
  have F1 := Lib.hid (fun W : World => from_at 1 W (by decide) (by decide))
  clear ha h1
  generalize tw (rd a (2 ^ n)) = q at *
  generalize te (rd a (2 ^ n)) = g at *
  generalize (2 : Int) ^ n = t at *
  go_enter Try.func36, Try.ntmps36
  go_wp2_with (first | (go_at_call 75; (with_reducible refine (F1.out _).mono ?_); rintro e w' ⟨rfl, rfl⟩) | (go_at_call 83; (with_reducible refine (LC.out _).mono ?_); rintro e w1 ⟨rfl, hb1⟩; have e10 : w1.cell? ⟨w.heap.size, 0, none⟩ = some (.int .i64 (hi a)) := cell_on hb1 (by first | (simp [go_sem, *]; done) | (simp [go_sem, World.cell?_alloc_some, *]; done) | fail); have e11 : w1.cell? ⟨w.heap.size, 1, none⟩ = some (.int .u64 (lo a)) := cell_on hb1 (by first | (simp [go_sem, *]; done) | (simp [go_sem, World.cell?_alloc_some, *]; done) | fail); have s10 : w.heap.size < w1.heap.size := World.block_lt_of_cell? _ _ e10; have t10 : w.heap.size < w1.heap.size + 1 := Nat.lt_succ_of_lt s10) | (go_at_call 81; (with_reducible refine (NC.out _).mono ?_); rintro e w2 ⟨rfl, hb2⟩; have e20 : w2.cell? ⟨w.heap.size, 0, none⟩ = some (.int .i64 (hi a)) := cell_on hb2 (by first | (simp [go_sem, *]; done) | (simp [go_sem, World.cell?_alloc_some, *]; done) | fail); have e21 : w2.cell? ⟨w.heap.size, 1, none⟩ = some (.int .u64 (lo a)) := cell_on hb2 (by first | (simp [go_sem, *]; done) | (simp [go_sem, World.cell?_alloc_some, *]; done) | fail); have s20 : w.heap.size < w2.heap.size := World.block_lt_of_cell? _ _ e20; have t20 : w.heap.size < w2.heap.size + 1 := Nat.lt_succ_of_lt s20))
  go_ret2
  refine ⟨rfl, ?_⟩
  repeat (first | exact Below.refl _ _ | assumption | apply Below.drew | refine Below.setCell ?_ (by first | omega | (simp; done) | (simp; omega)) _ | refine Below.alloc ?_ (by first | omega | (simp; done) | (simp; omega)) _ | refine Below.trans ?_ (hb2.mono (by first | omega | (simp; done) | (simp; omega))) | refine Below.trans ?_ (hb1.mono (by first | omega | (simp; done) | (simp; omega))))
set_option maxRecDepth 100000 in
set_option maxHeartbeats 2000000 in
theorem close_form (a n : Int) (w : World) (h : n < 0 ∨ 126 < n) : Calls Try.prog 36 #[Wv a, .int .i64 n] w fun e w' => e = .returned (.tuple #[.int .i64 (0), .int .i64 (1)]) ∧ Below w.heap.size w w' := by
  have LC := Lib.hid (fun W : World => left_form 1 n W h)
  have F1 := Lib.hid (fun W : World => from_at 1 W (by decide) (by decide))
  clear h
  go_enter Try.func36, Try.ntmps36
  go_wp2_with (first | (go_at_call 75; (with_reducible refine (F1.out _).mono ?_); rintro e w' ⟨rfl, rfl⟩) | (go_at_call 83; (with_reducible refine (LC.out _).mono ?_); rintro e w1 ⟨rfl, hb1⟩; have e10 : w1.cell? ⟨w.heap.size, 0, none⟩ = some (.int .i64 (hi a)) := cell_on hb1 (by first | (simp [go_sem, *]; done) | (simp [go_sem, World.cell?_alloc_some, *]; done) | fail); have e11 : w1.cell? ⟨w.heap.size, 1, none⟩ = some (.int .u64 (lo a)) := cell_on hb1 (by first | (simp [go_sem, *]; done) | (simp [go_sem, World.cell?_alloc_some, *]; done) | fail); have s10 : w.heap.size < w1.heap.size := World.block_lt_of_cell? _ _ e10; have t10 : w.heap.size < w1.heap.size + 1 := Nat.lt_succ_of_lt s10))
  go_ret2
  refine ⟨rfl, ?_⟩
  repeat (first | exact Below.refl _ _ | assumption | apply Below.drew | refine Below.setCell ?_ (by first | omega | (simp; done) | (simp; omega)) _ | refine Below.alloc ?_ (by first | omega | (simp; done) | (simp; omega)) _ | refine Below.trans ?_ (hb1.mono (by first | omega | (simp; done) | (simp; omega))))
set_option maxRecDepth 100000 in
set_option maxHeartbeats 2000000 in
/-- fx.Ratio, where the bits are none -/
theorem ratio_form (n d f : Int) (w : World) (h : fb f = false) : Calls Try.prog 35 #[.int .i64 n, .int .i64 d, .int .i64 f] w fun e w' => e = .returned (.tuple #[.int .i64 (0), .int .i64 (1)]) ∧ Below w.heap.size w w' := by
  have C := fun W : World => checkf_any f W
  rw [h] at C
  have C := Lib.hid C
  clear h
  go_enter Try.func35, Try.ntmps35
  go_wp2_with (go_at_call 22; (with_reducible refine (C.out _).mono ?_); rintro e w' ⟨rfl, rfl⟩)
  go_ret2
  refine ⟨rfl, ?_⟩
  repeat (first | exact Below.refl _ _ | assumption | apply Below.drew | refine Below.setCell ?_ (by first | omega | (simp; done) | (simp; omega)) _ | refine Below.alloc ?_ (by first | omega | (simp; done) | (simp; omega)) _)
set_option maxRecDepth 100000 in
set_option maxHeartbeats 2000000 in
/-- fx.Ratio -/
theorem ratio_any (n d : Int) (f : Nat) (w : World) (n0 : -9223372036854775808 ≤ n) (n1 : n ≤ 9223372036854775807) (d0 : -9223372036854775808 ≤ d) (d1 : d ≤ 9223372036854775807) (h : fb f = true) (hd : d ≠ 0) : Calls Try.prog 35 #[.int .i64 n, .int .i64 d, .int .i64 f] w fun e w' => e = .returned (.tuple #[.int .i64 (tw (rd (n * 2 ^ f) d)), .int .i64 (te (rd (n * 2 ^ f) d))]) ∧ Below w.heap.size w w' := by
  have C := fun W : World => checkf_any f W
  rw [h] at C
  have C := Lib.hid C
  have hf := fb_bd h
  have p0 : (0 : Int) < 2 ^ f := Int.pow_pos (by decide)
  have p1 : (2 : Int) ^ f ≤ 2 ^ 32 := by have := Nat.pow_le_pow_right (show 0 < 2 by decide) (show f ≤ 32 by omega); exact_mod_cast this
  have e0 : wrap64 ((2 : Int) ^ f) = 2 ^ f := IntWalk.wrap64_in _ ⟨by omega, by omega⟩
  have MC := Lib.hid (fun W : World => mul_any n (2 ^ f) W n0 n1 (by omega) (by omega))
  have FC := Lib.hid (fun W : World => from_at d W d0 d1)
  have Rn : R (n * 2 ^ f) := R_prod n0 n1 (by omega) (by omega)
  have NC := Lib.hid (fun W : World => near_any (n * 2 ^ f) d W Rn (R_small d0 d1) hd)
  clear h hd Rn p0 p1
  generalize n * 2 ^ f = m at *
  generalize tw (rd m d) = q at *
  generalize te (rd m d) = g at *
  go_enter Try.func35, Try.ntmps35
  go_wp2_with (first | (go_at_call 22; (with_reducible refine (C.out _).mono ?_); rintro e w' ⟨rfl, rfl⟩) | (go_at_call 75; (with_reducible refine (FC.out _).mono ?_); rintro e w' ⟨rfl, rfl⟩) | (go_at_call 82; (with_reducible refine (MC.out _).mono ?_); rintro e w' ⟨rfl, rfl⟩) | (go_at_call 81; (with_reducible refine (NC.out _).mono ?_); rintro e w2 ⟨rfl, hb2⟩; ))
  go_ret2
  refine ⟨rfl, ?_⟩
  repeat (first | exact Below.refl _ _ | assumption | apply Below.drew | refine Below.setCell ?_ (by first | omega | (simp; done) | (simp; omega)) _ | refine Below.alloc ?_ (by first | omega | (simp; done) | (simp; omega)) _ | refine Below.trans ?_ (hb2.mono (by first | omega | (simp; done) | (simp; omega))))
set_option maxRecDepth 100000 in
set_option maxHeartbeats 2000000 in
theorem ratio_zero (n d : Int) (f : Nat) (w : World) (n0 : -9223372036854775808 ≤ n) (n1 : n ≤ 9223372036854775807) (h : fb f = true) (hd : d = 0) : Calls Try.prog 35 #[.int .i64 n, .int .i64 d, .int .i64 f] w fun e w' => e = .returned (.tuple #[.int .i64 (0), .int .i64 (4)]) ∧ Below w.heap.size w w' := by
  have C := fun W : World => checkf_any f W
  rw [h] at C
  have C := Lib.hid C
  have hf := fb_bd h
  have p0 : (0 : Int) < 2 ^ f := Int.pow_pos (by decide)
  have p1 : (2 : Int) ^ f ≤ 2 ^ 32 := by have := Nat.pow_le_pow_right (show 0 < 2 by decide) (show f ≤ 32 by omega); exact_mod_cast this
  have e0 : wrap64 ((2 : Int) ^ f) = 2 ^ f := IntWalk.wrap64_in _ ⟨by omega, by omega⟩
  have MC := Lib.hid (fun W : World => mul_any n (2 ^ f) W n0 n1 (by omega) (by omega))
  have FC := Lib.hid (fun W : World => from_at d W (by omega) (by omega))
  have NC := Lib.hid (fun W : World => near_zero (n * 2 ^ f) d W hd)
  clear h hd p0 p1
  generalize n * 2 ^ f = m at *
  go_enter Try.func35, Try.ntmps35
  go_wp2_with (first | (go_at_call 22; (with_reducible refine (C.out _).mono ?_); rintro e w' ⟨rfl, rfl⟩) | (go_at_call 75; (with_reducible refine (FC.out _).mono ?_); rintro e w' ⟨rfl, rfl⟩) | (go_at_call 82; (with_reducible refine (MC.out _).mono ?_); rintro e w' ⟨rfl, rfl⟩) | (go_at_call 81; (with_reducible refine (NC.out _).mono ?_); rintro e w2 ⟨rfl, hb2⟩; ))
  go_ret2
  refine ⟨rfl, ?_⟩
  repeat (first | exact Below.refl _ _ | assumption | apply Below.drew | refine Below.setCell ?_ (by first | omega | (simp; done) | (simp; omega)) _ | refine Below.alloc ?_ (by first | omega | (simp; done) | (simp; omega)) _ | refine Below.trans ?_ (hb2.mono (by first | omega | (simp; done) | (simp; omega))))
set_option maxRecDepth 100000 in
theorem wordtimes_any (a b : Int) (f : Nat) (w : World) (ga : wd a = true) (gb : wd b = true) (gf : fb f = true) : Calls Try.prog 132 #[.int .i64 a, .int .i64 b, .int .i64 f] w fun e w' => e = .returned (.tuple #[.int .i64 (tw (rd (a * b) (2 ^ f))), .int .i64 (te (rd (a * b) (2 ^ f)))]) ∧ Below w.heap.size w w' := by
  have A := wd_bd ga
  have B := wd_bd gb
  have Fb := fb_bd gf
  have MC := Lib.hid (fun W : World => mul_any a b W (by omega) (by omega) (by omega) (by omega))
  have CC := Lib.hid (fun W : World => close_any (a * b) f W (R_prod (by omega) (by omega) (by omega) (by omega)) (by omega))
  clear A B Fb ga gb gf
  generalize tw (rd (a * b) (2 ^ f)) = q at *
  generalize te (rd (a * b) (2 ^ f)) = g at *
  generalize a * b = m at *
  go_enter Try.func132, Try.ntmps132
  go_wp2_with (first | (go_at_call 82; (with_reducible refine (MC.out _).mono ?_); rintro e w' ⟨rfl, rfl⟩) | (go_at_call 36; (with_reducible refine (CC.out _).mono ?_); rintro e w1 ⟨rfl, hb1⟩))
  go_ret2
  refine ⟨rfl, ?_⟩
  repeat (first | exact Below.refl _ _ | assumption | apply Below.drew | refine Below.setCell ?_ (by first | omega | (simp; done) | (simp; omega)) _ | refine Below.alloc ?_ (by first | omega | (simp; done) | (simp; omega)) _ | refine Below.trans ?_ (hb1.mono (by first | omega | (simp; done) | (simp; omega))))
theorem wordover_any (a b : Int) (f : Nat) (w : World) (ga : wd a = true) (gb : wd b = true) (gf : fb f = true) (h0 : b ≠ 0) : Calls Try.prog 133 #[.int .i64 a, .int .i64 b, .int .i64 f] w fun e w' => e = .returned (.tuple #[.int .i64 (tw (rd (a * 2 ^ f) b)), .int .i64 (te (rd (a * 2 ^ f) b))]) ∧ Below w.heap.size w w' := by
  have A := wd_bd ga
  have B := wd_bd gb
  have RC := Lib.hid (fun W : World => ratio_any a b f W (by omega) (by omega) (by omega) (by omega) gf h0)
  clear A B ga gb gf h0
  generalize tw (rd (a * 2 ^ f) b) = q at *
  generalize te (rd (a * 2 ^ f) b) = g at *
  go_enter Try.func133, Try.ntmps133
  go_wp2_with (go_at_call 35; (with_reducible refine (RC.out _).mono ?_); rintro e w1 ⟨rfl, hb1⟩)
  go_ret2
  refine ⟨rfl, ?_⟩
  repeat (first | exact Below.refl _ _ | assumption | apply Below.drew | refine Below.setCell ?_ (by first | omega | (simp; done) | (simp; omega)) _ | refine Below.alloc ?_ (by first | omega | (simp; done) | (simp; omega)) _ | refine Below.trans ?_ (hb1.mono (by first | omega | (simp; done) | (simp; omega))))
theorem wordover_zero (a b : Int) (f : Nat) (w : World) (ga : wd a = true) (gf : fb f = true) (h0 : b = 0) : Calls Try.prog 133 #[.int .i64 a, .int .i64 b, .int .i64 f] w fun e w' => e = .returned (.tuple #[.int .i64 (0), .int .i64 (4)]) ∧ Below w.heap.size w w' := by
  have A := wd_bd ga
  have RC := Lib.hid (fun W : World => ratio_zero a b f W (by omega) (by omega) gf h0)
  clear A ga gf h0
  go_enter Try.func133, Try.ntmps133
  go_wp2_with (go_at_call 35; (with_reducible refine (RC.out _).mono ?_); rintro e w1 ⟨rfl, hb1⟩)
  go_ret2
  refine ⟨rfl, ?_⟩
  repeat (first | exact Below.refl _ _ | assumption | apply Below.drew | refine Below.setCell ?_ (by first | omega | (simp; done) | (simp; omega)) _ | refine Below.alloc ?_ (by first | omega | (simp; done) | (simp; omega)) _ | refine Below.trans ?_ (hb1.mono (by first | omega | (simp; done) | (simp; omega))))
theorem reckon_times (a b : Int) (f : Nat) (w : World) (ga : wd a = true) (gb : wd b = true) (gf : fb f = true) : Calls Try.prog 80 #[.int .i64 2, .int .i64 a, .int .i64 b, .int .i64 f] w fun e w' => e = .returned (.tuple #[.int .i64 (tw (rd (a * b) (2 ^ f))), .int .i64 (te (rd (a * b) (2 ^ f)))]) ∧ Below w.heap.size w w' := by
  have WC := Lib.hid (fun W : World => wordtimes_any a b f W ga gb gf)
  have CA := fun W : World => check_any a W
  rw [ga] at CA
  have CA := Lib.hid CA
  have CB := fun W : World => check_any b W
  rw [gb] at CB
  have CB := Lib.hid CB
  have CF := fun W : World => checkf_any f W
  rw [gf] at CF
  have CF := Lib.hid CF
  clear ga gb gf
  generalize tw (rd (a * b) (2 ^ f)) = q at *
  generalize te (rd (a * b) (2 ^ f)) = g at *
  go_enter Try.func80, Try.ntmps80
  go_wp2_with (first | (go_at_call 21; (with_reducible refine (CA.out _).mono ?_); rintro e w' ⟨rfl, rfl⟩) | (go_at_call 21; (with_reducible refine (CB.out _).mono ?_); rintro e w' ⟨rfl, rfl⟩) | (go_at_call 22; (with_reducible refine (CF.out _).mono ?_); rintro e w' ⟨rfl, rfl⟩) | (go_at_call 111; (with_reducible refine (way_times _).mono ?_); rintro e w' ⟨rfl, rfl⟩) | (go_at_call 132; (with_reducible refine (WC.out _).mono ?_); rintro e w1 ⟨rfl, hb1⟩))
  go_ret2
  refine ⟨rfl, ?_⟩
  repeat (first | exact Below.refl _ _ | assumption | apply Below.drew | refine Below.setCell ?_ (by first | omega | (simp; done) | (simp; omega)) _ | refine Below.alloc ?_ (by first | omega | (simp; done) | (simp; omega)) _ | refine Below.trans ?_ (hb1.mono (by first | omega | (simp; done) | (simp; omega))))
theorem reckon_over (a b : Int) (f : Nat) (w : World) (ga : wd a = true) (gb : wd b = true) (gf : fb f = true) (h0 : b ≠ 0) : Calls Try.prog 80 #[.int .i64 3, .int .i64 a, .int .i64 b, .int .i64 f] w fun e w' => e = .returned (.tuple #[.int .i64 (tw (rd (a * 2 ^ f) b)), .int .i64 (te (rd (a * 2 ^ f) b))]) ∧ Below w.heap.size w w' := by
  have WC := Lib.hid (fun W : World => wordover_any a b f W ga gb gf h0)
  have CA := fun W : World => check_any a W
  rw [ga] at CA
  have CA := Lib.hid CA
  have CB := fun W : World => check_any b W
  rw [gb] at CB
  have CB := Lib.hid CB
  have CF := fun W : World => checkf_any f W
  rw [gf] at CF
  have CF := Lib.hid CF
  clear ga gb gf h0
  generalize tw (rd (a * 2 ^ f) b) = q at *
  generalize te (rd (a * 2 ^ f) b) = g at *
  go_enter Try.func80, Try.ntmps80
  go_wp2_with (first | (go_at_call 21; (with_reducible refine (CA.out _).mono ?_); rintro e w' ⟨rfl, rfl⟩) | (go_at_call 21; (with_reducible refine (CB.out _).mono ?_); rintro e w' ⟨rfl, rfl⟩) | (go_at_call 22; (with_reducible refine (CF.out _).mono ?_); rintro e w' ⟨rfl, rfl⟩) | (go_at_call 111; (with_reducible refine (way_over _).mono ?_); rintro e w' ⟨rfl, rfl⟩) | (go_at_call 133; (with_reducible refine (WC.out _).mono ?_); rintro e w1 ⟨rfl, hb1⟩))
  go_ret2
  refine ⟨rfl, ?_⟩
  repeat (first | exact Below.refl _ _ | assumption | apply Below.drew | refine Below.setCell ?_ (by first | omega | (simp; done) | (simp; omega)) _ | refine Below.alloc ?_ (by first | omega | (simp; done) | (simp; omega)) _ | refine Below.trans ?_ (hb1.mono (by first | omega | (simp; done) | (simp; omega))))
theorem reckon_zero (a b : Int) (f : Nat) (w : World) (ga : wd a = true) (gb : wd b = true) (gf : fb f = true) (h0 : b = 0) : Calls Try.prog 80 #[.int .i64 3, .int .i64 a, .int .i64 b, .int .i64 f] w fun e w' => e = .returned (.tuple #[.int .i64 (0), .int .i64 (4)]) ∧ Below w.heap.size w w' := by
  have WC := Lib.hid (fun W : World => wordover_zero a b f W ga gf h0)
  have CA := fun W : World => check_any a W
  rw [ga] at CA
  have CA := Lib.hid CA
  have CB := fun W : World => check_any b W
  rw [gb] at CB
  have CB := Lib.hid CB
  have CF := fun W : World => checkf_any f W
  rw [gf] at CF
  have CF := Lib.hid CF
  clear ga gb gf h0
  go_enter Try.func80, Try.ntmps80
  go_wp2_with (first | (go_at_call 21; (with_reducible refine (CA.out _).mono ?_); rintro e w' ⟨rfl, rfl⟩) | (go_at_call 21; (with_reducible refine (CB.out _).mono ?_); rintro e w' ⟨rfl, rfl⟩) | (go_at_call 22; (with_reducible refine (CF.out _).mono ?_); rintro e w' ⟨rfl, rfl⟩) | (go_at_call 111; (with_reducible refine (way_over _).mono ?_); rintro e w' ⟨rfl, rfl⟩) | (go_at_call 133; (with_reducible refine (WC.out _).mono ?_); rintro e w1 ⟨rfl, hb1⟩))
  go_ret2
  refine ⟨rfl, ?_⟩
  repeat (first | exact Below.refl _ _ | assumption | apply Below.drew | refine Below.setCell ?_ (by first | omega | (simp; done) | (simp; omega)) _ | refine Below.alloc ?_ (by first | omega | (simp; done) | (simp; omega)) _ | refine Below.trans ?_ (hb1.mono (by first | omega | (simp; done) | (simp; omega))))
theorem fxmul_form (a b f : Int) (w : World) (h : (wd a && wd b && fb f) = false) : Calls Try.prog 33 #[.int .i64 a, .int .i64 b, .int .i64 f] w fun e w' => e = .returned (.tuple #[.int .i64 0, .int .i64 1]) ∧ w = w' := by
  have C := Lib.hid (fun W : World => reckon_form 2 a b f W h)
  clear h
  go_enter Try.func33, Try.ntmps33
  go_wp2_with (go_at_call 80; (with_reducible refine (C.out _).mono ?_); rintro e w' ⟨rfl, rfl⟩)
  go_ret2
  exact ⟨rfl, rfl⟩
theorem fxdiv_form (a b f : Int) (w : World) (h : (wd a && wd b && fb f) = false) : Calls Try.prog 34 #[.int .i64 a, .int .i64 b, .int .i64 f] w fun e w' => e = .returned (.tuple #[.int .i64 0, .int .i64 1]) ∧ w = w' := by
  have C := Lib.hid (fun W : World => reckon_form 3 a b f W h)
  clear h
  go_enter Try.func34, Try.ntmps34
  go_wp2_with (go_at_call 80; (with_reducible refine (C.out _).mono ?_); rintro e w' ⟨rfl, rfl⟩)
  go_ret2
  exact ⟨rfl, rfl⟩
theorem fxmul_any (a b : Int) (f : Nat) (w : World) (ga : wd a = true) (gb : wd b = true) (gf : fb f = true) : Calls Try.prog 33 #[.int .i64 a, .int .i64 b, .int .i64 f] w fun e w' => e = .returned (.tuple #[.int .i64 (tw (rd (a * b) (2 ^ f))), .int .i64 (te (rd (a * b) (2 ^ f)))]) ∧ Below w.heap.size w w' := by
  have C := Lib.hid (fun W : World => reckon_times a b f W ga gb gf)
  clear ga gb gf
  generalize tw (rd (a * b) (2 ^ f)) = q at *
  generalize te (rd (a * b) (2 ^ f)) = g at *
  go_enter Try.func33, Try.ntmps33
  go_wp2_with (go_at_call 80; (with_reducible refine (C.out _).mono ?_); rintro e w1 ⟨rfl, hb1⟩)
  go_ret2
  refine ⟨rfl, ?_⟩
  repeat (first | exact Below.refl _ _ | assumption | apply Below.drew | refine Below.setCell ?_ (by first | omega | (simp; done) | (simp; omega)) _ | refine Below.alloc ?_ (by first | omega | (simp; done) | (simp; omega)) _ | refine Below.trans ?_ (hb1.mono (by first | omega | (simp; done) | (simp; omega))))
theorem fxdiv_any (a b : Int) (f : Nat) (w : World) (ga : wd a = true) (gb : wd b = true) (gf : fb f = true) (h0 : b ≠ 0) : Calls Try.prog 34 #[.int .i64 a, .int .i64 b, .int .i64 f] w fun e w' => e = .returned (.tuple #[.int .i64 (tw (rd (a * 2 ^ f) b)), .int .i64 (te (rd (a * 2 ^ f) b))]) ∧ Below w.heap.size w w' := by
  have C := Lib.hid (fun W : World => reckon_over a b f W ga gb gf h0)
  clear ga gb gf h0
  generalize tw (rd (a * 2 ^ f) b) = q at *
  generalize te (rd (a * 2 ^ f) b) = g at *
  go_enter Try.func34, Try.ntmps34
  go_wp2_with (go_at_call 80; (with_reducible refine (C.out _).mono ?_); rintro e w1 ⟨rfl, hb1⟩)
  go_ret2
  refine ⟨rfl, ?_⟩
  repeat (first | exact Below.refl _ _ | assumption | apply Below.drew | refine Below.setCell ?_ (by first | omega | (simp; done) | (simp; omega)) _ | refine Below.alloc ?_ (by first | omega | (simp; done) | (simp; omega)) _ | refine Below.trans ?_ (hb1.mono (by first | omega | (simp; done) | (simp; omega))))
theorem fxdiv_zero (a b : Int) (f : Nat) (w : World) (ga : wd a = true) (gb : wd b = true) (gf : fb f = true) (h0 : b = 0) : Calls Try.prog 34 #[.int .i64 a, .int .i64 b, .int .i64 f] w fun e w' => e = .returned (.tuple #[.int .i64 (0), .int .i64 (4)]) ∧ Below w.heap.size w w' := by
  have C := Lib.hid (fun W : World => reckon_zero a b f W ga gb gf h0)
  clear ga gb gf h0
  go_enter Try.func34, Try.ntmps34
  go_wp2_with (go_at_call 80; (with_reducible refine (C.out _).mono ?_); rintro e w1 ⟨rfl, hb1⟩)
  go_ret2
  refine ⟨rfl, ?_⟩
  repeat (first | exact Below.refl _ _ | assumption | apply Below.drew | refine Below.setCell ?_ (by first | omega | (simp; done) | (simp; omega)) _ | refine Below.alloc ?_ (by first | omega | (simp; done) | (simp; omega)) _ | refine Below.trans ?_ (hb1.mono (by first | omega | (simp; done) | (simp; omega))))
theorem rd384 : rd (384 * 384) (2 ^ 8) = 576 := by decide
/-- wakes -/
theorem fwakes_any (w : World) : Calls Try.prog 37 #[] w fun e w' => e = .returned (.bool true) ∧ Below w.heap.size w w' := by
  have C : Hid (∀ W : World, Calls Try.prog 33 #[.int .i64 384, .int .i64 384, .int .i64 8] W fun e w' => e = .returned (.tuple #[.int .i64 576, .int .i64 0]) ∧ Below W.heap.size W w') := fun W => by
    have := fxmul_any 384 384 8 W (by decide) (by decide) (by decide)
    rw [rd384, tw_in (by decide), te_in (by decide)] at this
    exact this
  go_enter Try.func37, Try.ntmps37
  go_wp2_with (first | (go_at_call 33; (with_reducible refine (C.out _).mono ?_); rintro e w1 ⟨rfl, hb1⟩) | (go_at_call 20; (with_reducible refine (num2_any _ _).mono ?_); rintro e w' ⟨rfl, rfl⟩))
  go_ret
  refine ⟨rfl, ?_⟩
  repeat (first | exact Below.refl _ _ | assumption | apply Below.drew | refine Below.setCell ?_ (by first | omega | (simp; done) | (simp; omega)) _ | refine Below.alloc ?_ (by first | omega | (simp; done) | (simp; omega)) _ | refine Below.trans ?_ (hb1.mono (by first | omega | (simp; done) | (simp; omega))))
end Go.Proofs.Ytkpkejccphpkpaa
