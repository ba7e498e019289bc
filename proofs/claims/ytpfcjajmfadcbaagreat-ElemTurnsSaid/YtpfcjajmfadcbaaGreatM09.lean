/-
  Shifts and products of wide numbers; a rounding that every statement asks for.
  Quotients told as words.
  Sums and differences of words.
  The statements' lists of package fx: what an element's cells hold.
  The small functions of package fx's statements.
  Closing, ratios, and the operations of words.
-/
import Derived.LoopTactic
import Derived.Test.YtpfcjajmfadcbaaGreatM06
import Derived.Test.YtpfcjajmfadcbaaGreatM08
namespace Go.Proofs.YtpfcjajmfadcbaaGreat
open Go.RowKit

set_option maxHeartbeats 4000000 in
/-- wide.Left, out of its bounds -/
theorem left_form (a n : Int) (w : World) (h : n < 0 ∨ 126 < n) : Calls Tryz.prog 201 #[Wv a, .int .i64 n] w fun e w' => e = .returned (.tuple #[Wv 0, .int .i64 1]) ∧ Below w.heap.size w w' := by
  rcases h with h | h
  · go_enter Tryz.func201, Tryz.ntmps201
    go_wp2
    refine bodyPost_ret (v := .tuple #[.agg #[.int .i64 0, .int .u64 0], .int .i64 1]) (by simp [results, Tryz.results201, go_sem]) rfl ⟨rfl, ?_⟩
    repeat (first | exact Below.refl _ _ | assumption | apply Below.drew | refine Below.setCell ?_ (by first | omega | (simp; done) | (simp; omega)) _ | refine Below.alloc ?_ (by first | omega | (simp; done) | (simp; omega)) _)
  · have h' : ¬ n < 0 := by omega
    go_enter Tryz.func201, Tryz.ntmps201
    go_wp2
    refine bodyPost_ret (v := .tuple #[.agg #[.int .i64 0, .int .u64 0], .int .i64 1]) (by simp [results, Tryz.results201, go_sem]) rfl ⟨rfl, ?_⟩
    repeat (first | exact Below.refl _ _ | assumption | apply Below.drew | refine Below.setCell ?_ (by first | omega | (simp; done) | (simp; omega)) _ | refine Below.alloc ?_ (by first | omega | (simp; done) | (simp; omega)) _)
set_option maxHeartbeats 8000000 in
/-- wide.Left -/
theorem shl_any (a : Int) (n : Nat) (w : World) (ha : R a) (h1 : n ≤ 126) : Calls Tryz.prog 201 #[Wv a, .int .i64 n] w fun e w' => e = .returned (.tuple #[Wv (told (a * 2 ^ n)), .int .i64 (over (a * 2 ^ n))]) ∧ Below w.heap.size w w' := by
  have lb := bl_le (U_ab ha)
  have SZ := Lib.hid (fun W : World => sizeOf_any a W ha)
  have LN := Lib.hid (fun W : World => length_any (ab a) W (U_ab ha))
  have BN := Lib.hid (fun W : World => below_any a W)
  by_cases g : 128 < bl (ab a) + n
  · have r := Lib.hid (And.intro (told_out (left_far ha n h1 g)) (over_out (left_far ha n h1 g)))
    have g' : (128 : Int) < (bl (ab a) : Int) + n := by omega
    clear ha g
    generalize ab a = s at *
    go_enter Tryz.func201, Tryz.ntmps201
    go_wp2_with (first | (go_at_call 217; (with_reducible refine (SZ.out _).mono ?_); rintro e w1 ⟨rfl, hb1⟩; have e10 : w1.cell? ⟨w.heap.size, 0, none⟩ = some (.int .i64 (hi a)) := cell_on hb1 (by first | (simp [go_sem, *]; done) | (simp [go_sem, World.cell?_alloc_some, *]; done) | fail); have e11 : w1.cell? ⟨w.heap.size, 1, none⟩ = some (.int .u64 (lo a)) := cell_on hb1 (by first | (simp [go_sem, *]; done) | (simp [go_sem, World.cell?_alloc_some, *]; done) | fail); have e12 : w1.cell? ⟨w.heap.size + 1, 0, none⟩ = some (.int .i64 0) := cell_on hb1 (by first | (simp [go_sem, *]; done) | (simp [go_sem, World.cell?_alloc_some, *]; done) | fail); have e13 : w1.cell? ⟨w.heap.size + 1, 1, none⟩ = some (.int .u64 0) := cell_on hb1 (by first | (simp [go_sem, *]; done) | (simp [go_sem, World.cell?_alloc_some, *]; done) | fail); have s10 : w.heap.size < w1.heap.size := World.block_lt_of_cell? _ _ e10; have t10 : w.heap.size < w1.heap.size + 1 := Nat.lt_succ_of_lt s10; have s12 : w.heap.size + 1 < w1.heap.size := World.block_lt_of_cell? _ _ e12; have t12 : w.heap.size + 1 < w1.heap.size + 1 := Nat.lt_succ_of_lt s12; have y12 : w1.frozen? ⟨w.heap.size + 1, 0, none⟩ = false := frozen_on hb1 (v := .int .i64 0) (by first | (simp [go_sem, *]; done) | (simp [go_sem, World.cell?_alloc_some, *]; done) | fail) (by first | (simp [go_sem, *]; done) | (simp [go_sem, frozen?_alloc_cells, *]; done) | fail); have y13 : w1.frozen? ⟨w.heap.size + 1, 1, none⟩ = false := frozen_on hb1 (v := .int .u64 0) (by first | (simp [go_sem, *]; done) | (simp [go_sem, World.cell?_alloc_some, *]; done) | fail) (by first | (simp [go_sem, *]; done) | (simp [go_sem, frozen?_alloc_cells, *]; done) | fail)) | (go_at_call 218; (with_reducible refine (LN.out _).mono ?_); rintro e w2 ⟨rfl, rfl⟩))
    refine bodyPost_ret (v := .tuple #[.agg #[.int .i64 0, .int .u64 0], .int .i64 3]) (by simp [results, Tryz.results201, go_sem, *]) rfl ⟨by rw [r.out.1, r.out.2] <;> rfl, ?_⟩
    repeat (first | exact Below.refl _ _ | assumption | apply Below.drew | refine Below.setCell ?_ (by first | omega | (simp; done) | (simp; omega)) _ | refine Below.alloc ?_ (by first | omega | (simp; done) | (simp; omega)) _ | refine Below.trans ?_ (hb1.mono (by first | omega | (simp; done) | (simp; omega))))
  · have e1 := left_near ha n (by omega)
    have LC := Lib.hid (fun W : World => left_any (ab a) n W (U_ab ha) (by omega))
    have UT : U (ab a * 2 ^ n) := by rw [← e1]; exact U_ws _
    rw [e1] at LC
    have SI := Lib.hid (fun W : World => signed_any (ab a * 2 ^ n) (ng a) W UT)
    have r := Lib.hid (sd_ab a (2 ^ n))
    have g' : ¬ (128 : Int) < (bl (ab a) : Int) + n := by omega
    clear ha g e1 UT
    generalize ab a = s at *
    generalize s * 2 ^ n = t at *
    go_enter Tryz.func201, Tryz.ntmps201
    go_wp2_with (first | (go_at_call 217; (with_reducible refine (SZ.out _).mono ?_); rintro e w1 ⟨rfl, hb1⟩; have e10 : w1.cell? ⟨w.heap.size, 0, none⟩ = some (.int .i64 (hi a)) := cell_on hb1 (by first | (simp [go_sem, *]; done) | (simp [go_sem, World.cell?_alloc_some, *]; done) | fail); have e11 : w1.cell? ⟨w.heap.size, 1, none⟩ = some (.int .u64 (lo a)) := cell_on hb1 (by first | (simp [go_sem, *]; done) | (simp [go_sem, World.cell?_alloc_some, *]; done) | fail); have e12 : w1.cell? ⟨w.heap.size + 1, 0, none⟩ = some (.int .i64 0) := cell_on hb1 (by first | (simp [go_sem, *]; done) | (simp [go_sem, World.cell?_alloc_some, *]; done) | fail); have e13 : w1.cell? ⟨w.heap.size + 1, 1, none⟩ = some (.int .u64 0) := cell_on hb1 (by first | (simp [go_sem, *]; done) | (simp [go_sem, World.cell?_alloc_some, *]; done) | fail); have s10 : w.heap.size < w1.heap.size := World.block_lt_of_cell? _ _ e10; have t10 : w.heap.size < w1.heap.size + 1 := Nat.lt_succ_of_lt s10; have s12 : w.heap.size + 1 < w1.heap.size := World.block_lt_of_cell? _ _ e12; have t12 : w.heap.size + 1 < w1.heap.size + 1 := Nat.lt_succ_of_lt s12; have y12 : w1.frozen? ⟨w.heap.size + 1, 0, none⟩ = false := frozen_on hb1 (v := .int .i64 0) (by first | (simp [go_sem, *]; done) | (simp [go_sem, World.cell?_alloc_some, *]; done) | fail) (by first | (simp [go_sem, *]; done) | (simp [go_sem, frozen?_alloc_cells, *]; done) | fail); have y13 : w1.frozen? ⟨w.heap.size + 1, 1, none⟩ = false := frozen_on hb1 (v := .int .u64 0) (by first | (simp [go_sem, *]; done) | (simp [go_sem, World.cell?_alloc_some, *]; done) | fail) (by first | (simp [go_sem, *]; done) | (simp [go_sem, frozen?_alloc_cells, *]; done) | fail)) | (go_at_call 218; (with_reducible refine (LN.out _).mono ?_); rintro e w2 ⟨rfl, rfl⟩))
    go_region_held3 (fun w' => w'.cell? ⟨w.heap.size, 0, none⟩ = some (.int .i64 (hi a)) ∧ w'.cell? ⟨w.heap.size, 1, none⟩ = some (.int .u64 (lo a)) ∧ w'.cell? ⟨w1.heap.size, 0, none⟩ = some (.int .u64 (hi s)) ∧ w'.cell? ⟨w1.heap.size, 1, none⟩ = some (.int .u64 (lo s))) (first | (simp [go_sem, *]; done) | (simp [go_sem, World.cell?_alloc_some, *]; done))
      (first
      | (go_at_call 220; (with_reducible refine (LC.out _).mono ?_); rintro e w3 ⟨rfl, hb3⟩; have e30 : w3.cell? ⟨w.heap.size, 0, none⟩ = some (.int .i64 (hi a)) := cell_on hb3 (by first | (simp [go_sem, *]; done) | (simp [go_sem, World.cell?_alloc_some, *]; done) | fail); have e31 : w3.cell? ⟨w.heap.size, 1, none⟩ = some (.int .u64 (lo a)) := cell_on hb3 (by first | (simp [go_sem, *]; done) | (simp [go_sem, World.cell?_alloc_some, *]; done) | fail); have e32 : w3.cell? ⟨w.heap.size + 1, 0, none⟩ = some (.int .i64 0) := cell_on hb3 (by first | (simp [go_sem, *]; done) | (simp [go_sem, World.cell?_alloc_some, *]; done) | fail); have e33 : w3.cell? ⟨w.heap.size + 1, 1, none⟩ = some (.int .u64 0) := cell_on hb3 (by first | (simp [go_sem, *]; done) | (simp [go_sem, World.cell?_alloc_some, *]; done) | fail); have e34 : w3.cell? ⟨w1.heap.size, 0, none⟩ = some (.int .u64 (hi s)) := cell_on hb3 (by first | (simp [go_sem, *]; done) | (simp [go_sem, World.cell?_alloc_some, *]; done) | fail); have e35 : w3.cell? ⟨w1.heap.size, 1, none⟩ = some (.int .u64 (lo s)) := cell_on hb3 (by first | (simp [go_sem, *]; done) | (simp [go_sem, World.cell?_alloc_some, *]; done) | fail); have s30 : w.heap.size < w3.heap.size := World.block_lt_of_cell? _ _ e30; have t30 : w.heap.size < w3.heap.size + 1 := Nat.lt_succ_of_lt s30; have s32 : w.heap.size + 1 < w3.heap.size := World.block_lt_of_cell? _ _ e32; have t32 : w.heap.size + 1 < w3.heap.size + 1 := Nat.lt_succ_of_lt s32; have s34 : w1.heap.size < w3.heap.size := World.block_lt_of_cell? _ _ e34; have t34 : w1.heap.size < w3.heap.size + 1 := Nat.lt_succ_of_lt s34; have y32 : w3.frozen? ⟨w.heap.size + 1, 0, none⟩ = false := frozen_on hb3 (v := .int .i64 0) (by first | (simp [go_sem, *]; done) | (simp [go_sem, World.cell?_alloc_some, *]; done) | fail) (by first | (simp [go_sem, *]; done) | (simp [go_sem, frozen?_alloc_cells, *]; done) | fail); have y33 : w3.frozen? ⟨w.heap.size + 1, 1, none⟩ = false := frozen_on hb3 (v := .int .u64 0) (by first | (simp [go_sem, *]; done) | (simp [go_sem, World.cell?_alloc_some, *]; done) | fail) (by first | (simp [go_sem, *]; done) | (simp [go_sem, frozen?_alloc_cells, *]; done) | fail))
      | (go_at_call 221; (with_reducible refine (BN.out _).mono ?_); rintro e w' ⟨rfl, rfl⟩)
      | (go_at_call 219; (with_reducible refine (SI.out _).mono ?_); rintro e w4 ⟨rfl, hb4⟩; have e40 : w4.cell? ⟨w.heap.size, 0, none⟩ = some (.int .i64 (hi a)) := cell_on hb4 (by first | (simp [go_sem, *]; done) | (simp [go_sem, World.cell?_alloc_some, *]; done) | fail); have e41 : w4.cell? ⟨w.heap.size, 1, none⟩ = some (.int .u64 (lo a)) := cell_on hb4 (by first | (simp [go_sem, *]; done) | (simp [go_sem, World.cell?_alloc_some, *]; done) | fail); have e42 : w4.cell? ⟨w.heap.size + 1, 0, none⟩ = some (.int .i64 0) := cell_on hb4 (by first | (simp [go_sem, *]; done) | (simp [go_sem, World.cell?_alloc_some, *]; done) | fail); have e43 : w4.cell? ⟨w.heap.size + 1, 1, none⟩ = some (.int .u64 0) := cell_on hb4 (by first | (simp [go_sem, *]; done) | (simp [go_sem, World.cell?_alloc_some, *]; done) | fail); have e44 : w4.cell? ⟨w1.heap.size, 0, none⟩ = some (.int .u64 (hi s)) := cell_on hb4 (by first | (simp [go_sem, *]; done) | (simp [go_sem, World.cell?_alloc_some, *]; done) | fail); have e45 : w4.cell? ⟨w1.heap.size, 1, none⟩ = some (.int .u64 (lo s)) := cell_on hb4 (by first | (simp [go_sem, *]; done) | (simp [go_sem, World.cell?_alloc_some, *]; done) | fail); have s40 : w.heap.size < w4.heap.size := World.block_lt_of_cell? _ _ e40; have t40 : w.heap.size < w4.heap.size + 1 := Nat.lt_succ_of_lt s40; have s42 : w.heap.size + 1 < w4.heap.size := World.block_lt_of_cell? _ _ e42; have t42 : w.heap.size + 1 < w4.heap.size + 1 := Nat.lt_succ_of_lt s42; have s44 : w1.heap.size < w4.heap.size := World.block_lt_of_cell? _ _ e44; have t44 : w1.heap.size < w4.heap.size + 1 := Nat.lt_succ_of_lt s44; have y42 : w4.frozen? ⟨w.heap.size + 1, 0, none⟩ = false := frozen_on hb4 (v := .int .i64 0) (by first | (simp [go_sem, *]; done) | (simp [go_sem, World.cell?_alloc_some, *]; done) | fail) (by first | (simp [go_sem, *]; done) | (simp [go_sem, frozen?_alloc_cells, *]; done) | fail); have y43 : w4.frozen? ⟨w.heap.size + 1, 1, none⟩ = false := frozen_on hb4 (v := .int .u64 0) (by first | (simp [go_sem, *]; done) | (simp [go_sem, World.cell?_alloc_some, *]; done) | fail) (by first | (simp [go_sem, *]; done) | (simp [go_sem, frozen?_alloc_cells, *]; done) | fail)))
    all_goals
      go_wp2_with fail
      refine bodyPost_ret (v := .tuple #[Wv (told (sd (ng a) t)), .int .i64 (over (sd (ng a) t))]) (by simp [results, Tryz.results201, go_sem, *]) rfl ⟨by rw [r.out], ?_⟩
      have hs4 : w.heap.size + 1 < w4.heap.size := World.block_lt_of_cell? _ _ e42
      have hs3 : w.heap.size + 1 < w3.heap.size := World.block_lt_of_cell? _ _ e32
      have hs1 : w.heap.size + 1 < w1.heap.size := World.block_lt_of_cell? _ _ e12
      repeat (first | exact Below.refl _ _ | assumption | apply Below.drew | refine Below.setCell ?_ (by first | omega | (simp; done) | (simp; omega)) _ | refine Below.alloc ?_ (by first | omega | (simp; done) | (simp; omega)) _ | refine Below.trans ?_ (hb4.mono (by first | omega | (simp; done) | (simp; omega))) | refine Below.trans ?_ (hb3.mono (by first | omega | (simp; done) | (simp; omega))) | refine Below.trans ?_ (hb1.mono (by first | omega | (simp; done) | (simp; omega))))

set_option maxHeartbeats 4000000 in
/-- wide.Mul -/
theorem mul_any (a b : Int) (w : World) (a0 : -9223372036854775808 ≤ a) (a1 : a ≤ 9223372036854775807) (b0 : -9223372036854775808 ≤ b) (b1 : b ≤ 9223372036854775807) :
    Calls Tryz.prog 211 #[.int .i64 a, .int .i64 b] w fun e w' => e = .returned (Wv (a * b)) ∧ w.alloc (.cells #[.int .i64 (hi (a * b)), .int .u64 (lo (a * b))] 175) = w' := by
  obtain ⟨x, hx⟩ := Int.eq_ofNat_of_zero_le (u64_nn a)
  obtain ⟨y, hy⟩ := Int.eq_ofNat_of_zero_le (u64_nn b)
  have x1 : x < 18446744073709551616 := by have := u64_lt a; omega
  have y1 : y < 18446744073709551616 := by have := u64_lt b; omega
  have MC := Lib.hid (fun W : World => Tryz.bits_Mul64 x y x1 y1 W)
  obtain ⟨k1, k2⟩ := mul_halves a0 a1 b0 b1 (X := ((x * y : Nat) : Int)) (by rw [hx, hy, Int.natCast_mul])
  unfold mh at k1
  rw [hx, hy] at k1
  push_cast at k1 k2
  clear x1 y1 a0 a1 b0 b1
  generalize a * b = t at *
  by_cases ga : a < 0 <;> by_cases gb : b < 0
  all_goals
    have k3 := k1
    simp only [ga, gb, if_true, if_false] at k3
    have K := Lib.hid (And.intro k3 k2)
    clear k1 k2 k3
    go_enter Tryz.func211, Tryz.ntmps211
    go_wp2_with (go_at_call 227; (with_reducible refine (MC.out _).mono ?_); rintro e w' ⟨rfl, rfl⟩)
    have K1 := K.out.1
    have K2 := K.out.2
    refine bodyPost_ret (v := Wv t) (by simp [results, Tryz.results211, go_sem, K1, K2]) rfl ⟨rfl, ?_⟩
    simp [K1, K2]

theorem rd72 : rd 7 2 = 4 := by decide
end Go.Proofs.YtpfcjajmfadcbaaGreat
namespace Go.Proofs.YtpfcjajmfadcbaaGreat
open Go.RowKit

theorem isS_no {a : Int} (h : isS a = false) : ¬ (-9223372036854775808 ≤ a ∧ a ≤ 9223372036854775807) := by unfold isS at h; exact of_decide_eq_false h
set_option maxHeartbeats 2000000 in
/-- fx.nearest, by 0 -/
theorem near_zero (n d : Int) (w : World) (h0 : d = 0) : Calls Tryz.prog 202 #[Wv n, Wv d] w fun e w' => e = .returned (.tuple #[.int .i64 0, .int .i64 4]) ∧ Below w.heap.size w w' := by
  have RC := Lib.hid (fun W : World => round_zero n d W h0)
  clear h0
  go_enter Tryz.func202, Tryz.ntmps202
  go_wp2_with (go_at_call 222; (with_reducible refine (RC.out _).mono ?_); rintro e w1 ⟨rfl, hb1⟩; have e10 : w1.cell? ⟨w.heap.size, 0, none⟩ = some (.int .i64 (hi n)) := cell_on hb1 (by first | (simp [go_sem, *]; done) | (simp [go_sem, World.cell?_alloc_some, *]; done) | fail); have e11 : w1.cell? ⟨w.heap.size, 1, none⟩ = some (.int .u64 (lo n)) := cell_on hb1 (by first | (simp [go_sem, *]; done) | (simp [go_sem, World.cell?_alloc_some, *]; done) | fail); have e12 : w1.cell? ⟨w.heap.size + 1, 0, none⟩ = some (.int .i64 (hi d)) := cell_on hb1 (by first | (simp [go_sem, *]; done) | (simp [go_sem, World.cell?_alloc_some, *]; done) | fail); have e13 : w1.cell? ⟨w.heap.size + 1, 1, none⟩ = some (.int .u64 (lo d)) := cell_on hb1 (by first | (simp [go_sem, *]; done) | (simp [go_sem, World.cell?_alloc_some, *]; done) | fail); have s10 : w.heap.size < w1.heap.size := World.block_lt_of_cell? _ _ e10; have t10 : w.heap.size < w1.heap.size + 1 := Nat.lt_succ_of_lt s10; have s12 : w.heap.size + 1 < w1.heap.size := World.block_lt_of_cell? _ _ e12; have t12 : w.heap.size + 1 < w1.heap.size + 1 := Nat.lt_succ_of_lt s12)
  go_ret2
  refine ⟨rfl, ?_⟩
  repeat (first | exact Below.refl _ _ | assumption | apply Below.drew | refine Below.setCell ?_ (by first | omega | (simp; done) | (simp; omega)) _ | refine Below.alloc ?_ (by first | omega | (simp; done) | (simp; omega)) _ | refine Below.trans ?_ (hb1.mono (by first | omega | (simp; done) | (simp; omega))))
set_option maxHeartbeats 2000000 in
/-- fx.nearest -/
theorem near_any (n d : Int) (w : World) (hn : R n) (hd : R d) (h0 : d ≠ 0) : Calls Tryz.prog 202 #[Wv n, Wv d] w fun e w' => e = .returned (.tuple #[.int .i64 (tw (rd n d)), .int .i64 (te (rd n d))]) ∧ Below w.heap.size w w' := by
  have RC := fun W : World => round_any n d W hn hd h0
  by_cases r : R (rd n d)
  · rw [told_in r, over_in r] at RC
    have RC := Lib.hid RC
    generalize rd n d = q at *
    clear hn hd h0 r
    cases g : isS q with
    | true =>
      have SC := fun W : World => small_any q W
      rw [g, show sm q = q from if_pos g] at SC
      have SC := Lib.hid SC
      have TC := Lib.hid (fun W : World => told_any q W)
      clear g
      go_enter Tryz.func202, Tryz.ntmps202
      go_wp2_with (first | (go_at_call 222; (with_reducible refine (RC.out _).mono ?_); rintro e w1 ⟨rfl, hb1⟩; have e10 : w1.cell? ⟨w.heap.size, 0, none⟩ = some (.int .i64 (hi n)) := cell_on hb1 (by first | (simp [go_sem, *]; done) | (simp [go_sem, World.cell?_alloc_some, *]; done) | fail); have e11 : w1.cell? ⟨w.heap.size, 1, none⟩ = some (.int .u64 (lo n)) := cell_on hb1 (by first | (simp [go_sem, *]; done) | (simp [go_sem, World.cell?_alloc_some, *]; done) | fail); have e12 : w1.cell? ⟨w.heap.size + 1, 0, none⟩ = some (.int .i64 (hi d)) := cell_on hb1 (by first | (simp [go_sem, *]; done) | (simp [go_sem, World.cell?_alloc_some, *]; done) | fail); have e13 : w1.cell? ⟨w.heap.size + 1, 1, none⟩ = some (.int .u64 (lo d)) := cell_on hb1 (by first | (simp [go_sem, *]; done) | (simp [go_sem, World.cell?_alloc_some, *]; done) | fail); have s10 : w.heap.size < w1.heap.size := World.block_lt_of_cell? _ _ e10; have t10 : w.heap.size < w1.heap.size + 1 := Nat.lt_succ_of_lt s10; have s12 : w.heap.size + 1 < w1.heap.size := World.block_lt_of_cell? _ _ e12; have t12 : w.heap.size + 1 < w1.heap.size + 1 := Nat.lt_succ_of_lt s12) | (go_at_call 223; (with_reducible refine (SC.out _).mono ?_); rintro e w2 ⟨rfl, hb2⟩; have e20 : w2.cell? ⟨w.heap.size, 0, none⟩ = some (.int .i64 (hi n)) := cell_on hb2 (by first | (simp [go_sem, *]; done) | (simp [go_sem, World.cell?_alloc_some, *]; done) | fail); have e21 : w2.cell? ⟨w.heap.size, 1, none⟩ = some (.int .u64 (lo n)) := cell_on hb2 (by first | (simp [go_sem, *]; done) | (simp [go_sem, World.cell?_alloc_some, *]; done) | fail); have e22 : w2.cell? ⟨w.heap.size + 1, 0, none⟩ = some (.int .i64 (hi d)) := cell_on hb2 (by first | (simp [go_sem, *]; done) | (simp [go_sem, World.cell?_alloc_some, *]; done) | fail); have e23 : w2.cell? ⟨w.heap.size + 1, 1, none⟩ = some (.int .u64 (lo d)) := cell_on hb2 (by first | (simp [go_sem, *]; done) | (simp [go_sem, World.cell?_alloc_some, *]; done) | fail); have s20 : w.heap.size < w2.heap.size := World.block_lt_of_cell? _ _ e20; have t20 : w.heap.size < w2.heap.size + 1 := Nat.lt_succ_of_lt s20; have s22 : w.heap.size + 1 < w2.heap.size := World.block_lt_of_cell? _ _ e22; have t22 : w.heap.size + 1 < w2.heap.size + 1 := Nat.lt_succ_of_lt s22) | (go_at_call 210; (with_reducible refine (TC.out _).mono ?_); rintro e w' ⟨rfl, rfl⟩))
      go_ret2
      refine ⟨rfl, ?_⟩
      repeat (first | exact Below.refl _ _ | assumption | apply Below.drew | refine Below.setCell ?_ (by first | omega | (simp; done) | (simp; omega)) _ | refine Below.alloc ?_ (by first | omega | (simp; done) | (simp; omega)) _ | refine Below.trans ?_ (hb2.mono (by first | omega | (simp; done) | (simp; omega))) | refine Below.trans ?_ (hb1.mono (by first | omega | (simp; done) | (simp; omega))))
    | false =>
      have SC := fun W : World => small_any q W
      rw [g, show sm q = 0 from if_neg (by simp [g])] at SC
      have SC := Lib.hid SC
      have gw : wd q = false := by
        have := isS_no g
        unfold wd; simp only [decide_eq_false_iff_not]; omega
      have H := Lib.hid (And.intro (tw_out gw) (te_out gw))
      clear g gw
      go_enter Tryz.func202, Tryz.ntmps202
      go_wp2_with (first | (go_at_call 222; (with_reducible refine (RC.out _).mono ?_); rintro e w1 ⟨rfl, hb1⟩; have e10 : w1.cell? ⟨w.heap.size, 0, none⟩ = some (.int .i64 (hi n)) := cell_on hb1 (by first | (simp [go_sem, *]; done) | (simp [go_sem, World.cell?_alloc_some, *]; done) | fail); have e11 : w1.cell? ⟨w.heap.size, 1, none⟩ = some (.int .u64 (lo n)) := cell_on hb1 (by first | (simp [go_sem, *]; done) | (simp [go_sem, World.cell?_alloc_some, *]; done) | fail); have e12 : w1.cell? ⟨w.heap.size + 1, 0, none⟩ = some (.int .i64 (hi d)) := cell_on hb1 (by first | (simp [go_sem, *]; done) | (simp [go_sem, World.cell?_alloc_some, *]; done) | fail); have e13 : w1.cell? ⟨w.heap.size + 1, 1, none⟩ = some (.int .u64 (lo d)) := cell_on hb1 (by first | (simp [go_sem, *]; done) | (simp [go_sem, World.cell?_alloc_some, *]; done) | fail); have s10 : w.heap.size < w1.heap.size := World.block_lt_of_cell? _ _ e10; have t10 : w.heap.size < w1.heap.size + 1 := Nat.lt_succ_of_lt s10; have s12 : w.heap.size + 1 < w1.heap.size := World.block_lt_of_cell? _ _ e12; have t12 : w.heap.size + 1 < w1.heap.size + 1 := Nat.lt_succ_of_lt s12) | (go_at_call 223; (with_reducible refine (SC.out _).mono ?_); rintro e w2 ⟨rfl, hb2⟩; have e20 : w2.cell? ⟨w.heap.size, 0, none⟩ = some (.int .i64 (hi n)) := cell_on hb2 (by first | (simp [go_sem, *]; done) | (simp [go_sem, World.cell?_alloc_some, *]; done) | fail); have e21 : w2.cell? ⟨w.heap.size, 1, none⟩ = some (.int .u64 (lo n)) := cell_on hb2 (by first | (simp [go_sem, *]; done) | (simp [go_sem, World.cell?_alloc_some, *]; done) | fail); have e22 : w2.cell? ⟨w.heap.size + 1, 0, none⟩ = some (.int .i64 (hi d)) := cell_on hb2 (by first | (simp [go_sem, *]; done) | (simp [go_sem, World.cell?_alloc_some, *]; done) | fail); have e23 : w2.cell? ⟨w.heap.size + 1, 1, none⟩ = some (.int .u64 (lo d)) := cell_on hb2 (by first | (simp [go_sem, *]; done) | (simp [go_sem, World.cell?_alloc_some, *]; done) | fail); have s20 : w.heap.size < w2.heap.size := World.block_lt_of_cell? _ _ e20; have t20 : w.heap.size < w2.heap.size + 1 := Nat.lt_succ_of_lt s20; have s22 : w.heap.size + 1 < w2.heap.size := World.block_lt_of_cell? _ _ e22; have t22 : w.heap.size + 1 < w2.heap.size + 1 := Nat.lt_succ_of_lt s22) | (go_at_call 210; (with_reducible refine (TC.out _).mono ?_); rintro e w' ⟨rfl, rfl⟩))
      go_ret2
      refine ⟨by rw [H.out.1, H.out.2] <;> rfl, ?_⟩
      repeat (first | exact Below.refl _ _ | assumption | apply Below.drew | refine Below.setCell ?_ (by first | omega | (simp; done) | (simp; omega)) _ | refine Below.alloc ?_ (by first | omega | (simp; done) | (simp; omega)) _ | refine Below.trans ?_ (hb2.mono (by first | omega | (simp; done) | (simp; omega))) | refine Below.trans ?_ (hb1.mono (by first | omega | (simp; done) | (simp; omega))))
  · have gw : wd (rd n d) = false := by
      rw [R_iff] at r
      unfold wd; simp only [decide_eq_false_iff_not]; omega
    have H := Lib.hid (And.intro (tw_out gw) (te_out gw))
    rw [told_out r, over_out r] at RC
    have RC := Lib.hid RC
    clear hn hd h0 r gw
    generalize rd n d = q at *
    go_enter Tryz.func202, Tryz.ntmps202
    go_wp2_with (first | (go_at_call 222; (with_reducible refine (RC.out _).mono ?_); rintro e w1 ⟨rfl, hb1⟩; have e10 : w1.cell? ⟨w.heap.size, 0, none⟩ = some (.int .i64 (hi n)) := cell_on hb1 (by first | (simp [go_sem, *]; done) | (simp [go_sem, World.cell?_alloc_some, *]; done) | fail); have e11 : w1.cell? ⟨w.heap.size, 1, none⟩ = some (.int .u64 (lo n)) := cell_on hb1 (by first | (simp [go_sem, *]; done) | (simp [go_sem, World.cell?_alloc_some, *]; done) | fail); have e12 : w1.cell? ⟨w.heap.size + 1, 0, none⟩ = some (.int .i64 (hi d)) := cell_on hb1 (by first | (simp [go_sem, *]; done) | (simp [go_sem, World.cell?_alloc_some, *]; done) | fail); have e13 : w1.cell? ⟨w.heap.size + 1, 1, none⟩ = some (.int .u64 (lo d)) := cell_on hb1 (by first | (simp [go_sem, *]; done) | (simp [go_sem, World.cell?_alloc_some, *]; done) | fail); have s10 : w.heap.size < w1.heap.size := World.block_lt_of_cell? _ _ e10; have t10 : w.heap.size < w1.heap.size + 1 := Nat.lt_succ_of_lt s10; have s12 : w.heap.size + 1 < w1.heap.size := World.block_lt_of_cell? _ _ e12; have t12 : w.heap.size + 1 < w1.heap.size + 1 := Nat.lt_succ_of_lt s12) | (go_at_call 223; (with_reducible refine (SC.out _).mono ?_); rintro e w2 ⟨rfl, hb2⟩; have e20 : w2.cell? ⟨w.heap.size, 0, none⟩ = some (.int .i64 (hi n)) := cell_on hb2 (by first | (simp [go_sem, *]; done) | (simp [go_sem, World.cell?_alloc_some, *]; done) | fail); have e21 : w2.cell? ⟨w.heap.size, 1, none⟩ = some (.int .u64 (lo n)) := cell_on hb2 (by first | (simp [go_sem, *]; done) | (simp [go_sem, World.cell?_alloc_some, *]; done) | fail); have e22 : w2.cell? ⟨w.heap.size + 1, 0, none⟩ = some (.int .i64 (hi d)) := cell_on hb2 (by first | (simp [go_sem, *]; done) | (simp [go_sem, World.cell?_alloc_some, *]; done) | fail); have e23 : w2.cell? ⟨w.heap.size + 1, 1, none⟩ = some (.int .u64 (lo d)) := cell_on hb2 (by first | (simp [go_sem, *]; done) | (simp [go_sem, World.cell?_alloc_some, *]; done) | fail); have s20 : w.heap.size < w2.heap.size := World.block_lt_of_cell? _ _ e20; have t20 : w.heap.size < w2.heap.size + 1 := Nat.lt_succ_of_lt s20; have s22 : w.heap.size + 1 < w2.heap.size := World.block_lt_of_cell? _ _ e22; have t22 : w.heap.size + 1 < w2.heap.size + 1 := Nat.lt_succ_of_lt s22) | (go_at_call 210; (with_reducible refine (TC.out _).mono ?_); rintro e w' ⟨rfl, rfl⟩))
    go_ret2
    refine ⟨by rw [H.out.1, H.out.2] <;> rfl, ?_⟩
    repeat (first | exact Below.refl _ _ | assumption | apply Below.drew | refine Below.setCell ?_ (by first | omega | (simp; done) | (simp; omega)) _ | refine Below.alloc ?_ (by first | omega | (simp; done) | (simp; omega)) _ | refine Below.trans ?_ (hb1.mono (by first | omega | (simp; done) | (simp; omega))))
end Go.Proofs.YtpfcjajmfadcbaaGreat
namespace Go.Proofs.YtpfcjajmfadcbaaGreat
open Go.RowKit

theorem way_plus (w : World) : Calls Tryz.prog 165 #[.int .i64 0] w fun e w' => e = .returned (.func (.func 189) #[] #[]) ∧ w = w' := by
  go_enter Tryz.func165, Tryz.ntmps165
  go_wp2
  go_ret
  exact ⟨rfl, rfl⟩

theorem way_less (w : World) : Calls Tryz.prog 165 #[.int .i64 1] w fun e w' => e = .returned (.func (.func 190) #[] #[]) ∧ w = w' := by
  go_enter Tryz.func165, Tryz.ntmps165
  go_wp2
  go_ret
  exact ⟨rfl, rfl⟩

theorem way_times (w : World) : Calls Tryz.prog 165 #[.int .i64 2] w fun e w' => e = .returned (.func (.func 191) #[] #[]) ∧ w = w' := by
  go_enter Tryz.func165, Tryz.ntmps165
  go_wp2
  go_ret
  exact ⟨rfl, rfl⟩

theorem way_over (w : World) : Calls Tryz.prog 165 #[.int .i64 3] w fun e w' => e = .returned (.func (.func 192) #[] #[]) ∧ w = w' := by
  go_enter Tryz.func165, Tryz.ntmps165
  go_wp2
  go_ret
  exact ⟨rfl, rfl⟩

/-- fx.reckon, handed what is no word or no count of fraction bits -/
theorem reckon_form (o a b f : Int) (w : World) (h : (wd a && wd b && fb f) = false) : Calls Tryz.prog 121 #[.int .i64 o, .int .i64 a, .int .i64 b, .int .i64 f] w fun e w' => e = .returned (.tuple #[.int .i64 (0), .int .i64 (1)]) ∧ w = w' := by
  cases ga : wd a with
  | false =>
    have CA := fun W : World => check_any a W
    rw [ga] at CA
    have CA := Lib.hid CA
    clear h ga
    go_enter Tryz.func121, Tryz.ntmps121
    go_wp2_with (go_at_call 44; (with_reducible refine (CA.out _).mono ?_); rintro e w' ⟨rfl, rfl⟩)
    go_ret2
    exact ⟨rfl, rfl⟩
  | true =>
  cases gb : wd b with
  | false =>
    have CA := fun W : World => check_any a W
    rw [ga] at CA
    have CA := Lib.hid CA
    have CB := fun W : World => check_any b W
    rw [gb] at CB
    have CB := Lib.hid CB
    clear h ga gb
    go_enter Tryz.func121, Tryz.ntmps121
    go_wp2_with (first | (go_at_call 44; (with_reducible refine (CA.out _).mono ?_); rintro e w' ⟨rfl, rfl⟩) | (go_at_call 44; (with_reducible refine (CB.out _).mono ?_); rintro e w' ⟨rfl, rfl⟩))
    go_ret2
    exact ⟨rfl, rfl⟩
  | true =>
    have gf : fb f = false := by rw [ga, gb] at h; simpa using h
    have CA := fun W : World => check_any a W
    rw [ga] at CA
    have CA := Lib.hid CA
    have CB := fun W : World => check_any b W
    rw [gb] at CB
    have CB := Lib.hid CB
    have CF := fun W : World => checkf_any f W
    rw [gf] at CF
    have CF := Lib.hid CF
    clear h ga gb gf
    go_enter Tryz.func121, Tryz.ntmps121
    go_wp2_with (first | (go_at_call 44; (with_reducible refine (CA.out _).mono ?_); rintro e w' ⟨rfl, rfl⟩) | (go_at_call 44; (with_reducible refine (CB.out _).mono ?_); rintro e w' ⟨rfl, rfl⟩) | (go_at_call 31; (with_reducible refine (CF.out _).mono ?_); rintro e w' ⟨rfl, rfl⟩))
    go_ret2
    exact ⟨rfl, rfl⟩

theorem reckon_plus (a b f : Int) (w : World) (ga : wd a = true) (gb : wd b = true) (gf : fb f = true) : Calls Tryz.prog 121 #[.int .i64 0, .int .i64 a, .int .i64 b, .int .i64 f] w fun e w' => e = .returned (.tuple #[.int .i64 (tw (a + b)), .int .i64 (te (a + b))]) ∧ w = w' := by
  have WC := Lib.hid (fun W : World => wordplus_any a b f W ga gb)
  have CA := fun W : World => check_any a W
  rw [ga] at CA
  have CA := Lib.hid CA
  have CB := fun W : World => check_any b W
  rw [gb] at CB
  have CB := Lib.hid CB
  have CF := fun W : World => checkf_any f W
  rw [gf] at CF
  have CF := Lib.hid CF
  clear ga gb gf
  go_enter Tryz.func121, Tryz.ntmps121
  go_wp2_with (first | (go_at_call 44; (with_reducible refine (CA.out _).mono ?_); rintro e w' ⟨rfl, rfl⟩) | (go_at_call 44; (with_reducible refine (CB.out _).mono ?_); rintro e w' ⟨rfl, rfl⟩) | (go_at_call 31; (with_reducible refine (CF.out _).mono ?_); rintro e w' ⟨rfl, rfl⟩) | (go_at_call 165; (with_reducible refine (way_plus _).mono ?_); rintro e w' ⟨rfl, rfl⟩) | (go_at_call 189; (with_reducible refine (WC.out _).mono ?_); rintro e w' ⟨rfl, rfl⟩))
  go_ret2
  exact ⟨rfl, rfl⟩

theorem reckon_less (a b f : Int) (w : World) (ga : wd a = true) (gb : wd b = true) (gf : fb f = true) : Calls Tryz.prog 121 #[.int .i64 1, .int .i64 a, .int .i64 b, .int .i64 f] w fun e w' => e = .returned (.tuple #[.int .i64 (tw (a - b)), .int .i64 (te (a - b))]) ∧ w = w' := by
  have WC := Lib.hid (fun W : World => wordless_any a b f W ga gb)
  have CA := fun W : World => check_any a W
  rw [ga] at CA
  have CA := Lib.hid CA
  have CB := fun W : World => check_any b W
  rw [gb] at CB
  have CB := Lib.hid CB
  have CF := fun W : World => checkf_any f W
  rw [gf] at CF
  have CF := Lib.hid CF
  clear ga gb gf
  go_enter Tryz.func121, Tryz.ntmps121
  go_wp2_with (first | (go_at_call 44; (with_reducible refine (CA.out _).mono ?_); rintro e w' ⟨rfl, rfl⟩) | (go_at_call 44; (with_reducible refine (CB.out _).mono ?_); rintro e w' ⟨rfl, rfl⟩) | (go_at_call 31; (with_reducible refine (CF.out _).mono ?_); rintro e w' ⟨rfl, rfl⟩) | (go_at_call 165; (with_reducible refine (way_less _).mono ?_); rintro e w' ⟨rfl, rfl⟩) | (go_at_call 190; (with_reducible refine (WC.out _).mono ?_); rintro e w' ⟨rfl, rfl⟩))
  go_ret2
  exact ⟨rfl, rfl⟩

theorem fxadd_form (a b : Int) (w : World) (h : (wd a && wd b) = false) : Calls Tryz.prog 86 #[.int .i64 a, .int .i64 b] w fun e w' => e = .returned (.tuple #[.int .i64 (0), .int .i64 (1)]) ∧ w = w' := by
  have C := Lib.hid (fun W : World => reckon_form 0 a b 8 W (by rw [h]; rfl))
  clear h
  go_enter Tryz.func86, Tryz.ntmps86
  go_wp2_with (go_at_call 121; (with_reducible refine (C.out _).mono ?_); rintro e w' ⟨rfl, rfl⟩)
  go_ret2
  exact ⟨rfl, rfl⟩
theorem fxadd_any (a b : Int) (w : World) (ga : wd a = true) (gb : wd b = true) : Calls Tryz.prog 86 #[.int .i64 a, .int .i64 b] w fun e w' => e = .returned (.tuple #[.int .i64 (tw (a + b)), .int .i64 (te (a + b))]) ∧ w = w' := by
  have C := fun W : World => reckon_plus a b 8 W ga gb rfl

  have C := Lib.hid C
  clear ga gb
  go_enter Tryz.func86, Tryz.ntmps86
  go_wp2_with (go_at_call 121; (with_reducible refine (C.out _).mono ?_); rintro e w' ⟨rfl, rfl⟩)
  go_ret2
  exact ⟨rfl, rfl⟩

theorem fxsub_form (a b : Int) (w : World) (h : (wd a && wd b) = false) : Calls Tryz.prog 87 #[.int .i64 a, .int .i64 b] w fun e w' => e = .returned (.tuple #[.int .i64 (0), .int .i64 (1)]) ∧ w = w' := by
  have C := Lib.hid (fun W : World => reckon_form 1 a b 8 W (by rw [h]; rfl))
  clear h
  go_enter Tryz.func87, Tryz.ntmps87
  go_wp2_with (go_at_call 121; (with_reducible refine (C.out _).mono ?_); rintro e w' ⟨rfl, rfl⟩)
  go_ret2
  exact ⟨rfl, rfl⟩
theorem fxsub_any (a b : Int) (w : World) (ga : wd a = true) (gb : wd b = true) : Calls Tryz.prog 87 #[.int .i64 a, .int .i64 b] w fun e w' => e = .returned (.tuple #[.int .i64 (tw (a - b)), .int .i64 (te (a - b))]) ∧ w = w' := by
  have C := fun W : World => reckon_less a b 8 W ga gb rfl

  have C := Lib.hid C
  clear ga gb
  go_enter Tryz.func87, Tryz.ntmps87
  go_wp2_with (go_at_call 121; (with_reducible refine (C.out _).mono ?_); rintro e w' ⟨rfl, rfl⟩)
  go_ret2
  exact ⟨rfl, rfl⟩

theorem fxneg_form (a : Int) (w : World) (h : (wd a) = false) : Calls Tryz.prog 92 #[.int .i64 a] w fun e w' => e = .returned (.tuple #[.int .i64 (0), .int .i64 (1)]) ∧ w = w' := by
  have C := Lib.hid (fun W : World => reckon_form 1 0 a 8 W (by rw [show wd 0 = true from rfl, h]; rfl))
  clear h
  go_enter Tryz.func92, Tryz.ntmps92
  go_wp2_with (go_at_call 121; (with_reducible refine (C.out _).mono ?_); rintro e w' ⟨rfl, rfl⟩)
  go_ret2
  exact ⟨rfl, rfl⟩
theorem fxneg_any (a : Int) (w : World) (ga : wd a = true) : Calls Tryz.prog 92 #[.int .i64 a] w fun e w' => e = .returned (.tuple #[.int .i64 (tw ( - a)), .int .i64 (te ( - a))]) ∧ w = w' := by
  have C := fun W : World => reckon_less 0 a 8 W rfl ga rfl
  rw [Int.zero_sub] at C
  have C := Lib.hid C
  clear ga
  go_enter Tryz.func92, Tryz.ntmps92
  go_wp2_with (go_at_call 121; (with_reducible refine (C.out _).mono ?_); rintro e w' ⟨rfl, rfl⟩)
  go_ret2
  exact ⟨rfl, rfl⟩
end Go.Proofs.YtpfcjajmfadcbaaGreat
namespace Go.Proofs.YtpfcjajmfadcbaaGreat
open Go.RowKit

/-- An element: two words (or not), fraction bits (or not), two numbers, a wide one, a count. -/
structure Fl where
  a : Int
  b : Int
  f : Int
  n : Int
  d : Int
  v : Int
  k : Int
def Fl.ok (e : Fl) : Prop := (-9223372036854775808 ≤ e.a ∧ e.a ≤ 9223372036854775807) ∧ (-9223372036854775808 ≤ e.b ∧ e.b ≤ 9223372036854775807) ∧ (-9223372036854775808 ≤ e.f ∧ e.f ≤ 9223372036854775807) ∧ (-9223372036854775808 ≤ e.n ∧ e.n ≤ 9223372036854775807) ∧ (-9223372036854775808 ≤ e.d ∧ e.d ≤ 9223372036854775807) ∧ R e.v ∧ (-9223372036854775808 ≤ e.k ∧ e.k ≤ 9223372036854775807)
/-- Its eight cells. -/
def FlAt (w : World) (b o : Nat) (e : Fl) : Prop :=
  w.cell? ⟨b, o, none⟩ = some (.int .i64 e.a) ∧ w.cell? ⟨b, o + 1, none⟩ = some (.int .i64 e.b) ∧ w.cell? ⟨b, o + 2, none⟩ = some (.int .i64 e.f) ∧ w.cell? ⟨b, o + 3, none⟩ = some (.int .i64 e.n) ∧ w.cell? ⟨b, o + 4, none⟩ = some (.int .i64 e.d) ∧ w.cell? ⟨b, o + 5, none⟩ = some (.int .i64 (hi e.v)) ∧ w.cell? ⟨b, o + 6, none⟩ = some (.int .u64 (lo e.v)) ∧ w.cell? ⟨b, o + 7, none⟩ = some (.int .i64 e.k)
theorem FlAt.below {w w' : World} {B b o : Nat} {e : Fl} (h : FlAt w b o e) (hb : Below B w w') (hB : b < B) : FlAt w' b o e := by
  obtain ⟨h1, h2, h3, h4, h5, h6, h7, h8⟩ := h
  exact ⟨(hb.cell (p := ⟨b, o, none⟩) hB).trans h1, (hb.cell (p := ⟨b, o + 1, none⟩) hB).trans h2, (hb.cell (p := ⟨b, o + 2, none⟩) hB).trans h3, (hb.cell (p := ⟨b, o + 3, none⟩) hB).trans h4, (hb.cell (p := ⟨b, o + 4, none⟩) hB).trans h5, (hb.cell (p := ⟨b, o + 5, none⟩) hB).trans h6, (hb.cell (p := ⟨b, o + 6, none⟩) hB).trans h7, (hb.cell (p := ⟨b, o + 7, none⟩) hB).trans h8⟩
end Go.Proofs.YtpfcjajmfadcbaaGreat
namespace Go.Proofs.YtpfcjajmfadcbaaGreat
open Go.RowKit

theorem may_any (v : Int) (w : World) : Calls Tryz.prog 23 #[.int .i64 v] w fun e w' => e = .returned (.bool (wd v)) ∧ w = w' := by
  cases g : wd v with
  | true =>
    obtain ⟨g1, g2⟩ := wd_bd g
    clear g
    go_enter Tryz.func23, Tryz.ntmps23
    go_wp2
    go_ret
    exact ⟨rfl, rfl⟩
  | false =>
    have h := wd_no g
    clear g
    by_cases g1 : v ≤ -140737488355328
    · clear h
      go_enter Tryz.func23, Tryz.ntmps23
      go_wp2
      go_ret
      exact ⟨rfl, rfl⟩
    · have g2 : ¬ v < 140737488355328 := by omega
      have g3 : -140737488355328 < v := by omega
      clear h g1
      go_enter Tryz.func23, Tryz.ntmps23
      go_wp2
      go_ret
      exact ⟨rfl, rfl⟩
end Go.Proofs.YtpfcjajmfadcbaaGreat
namespace Go.Proofs.YtpfcjajmfadcbaaGreat
open Go.RowKit

theorem R_pow {n : Nat} (h : n ≤ 126) : R (2 ^ n) := by
  have : (2 : Int) ^ n ≤ 2 ^ 126 := by have := Nat.pow_le_pow_right (show 0 < 2 by decide) h; exact_mod_cast this
  have : (0 : Int) < 2 ^ n := Int.pow_pos (by decide)
  rw [R_iff]
  omega
theorem R_prod {a b : Int} (a0 : -9223372036854775808 ≤ a) (a1 : a ≤ 9223372036854775807) (b0 : -9223372036854775808 ≤ b) (b1 : b ≤ 9223372036854775807) : R (a * b) := by
  have h : (a * b).natAbs ≤ 9223372036854775808 * 9223372036854775808 := by
    rw [Int.natAbs_mul]
    exact Nat.mul_le_mul (by omega) (by omega)
  generalize a * b = x at *
  rw [R_iff]
  omega
theorem pow_ne (n : Nat) : (2 : Int) ^ n ≠ 0 := by have : (0 : Int) < 2 ^ n := Int.pow_pos (by decide); omega
set_option maxRecDepth 100000 in
set_option maxHeartbeats 2000000 in
/-- fx.Close -/
theorem close_any (a : Int) (n : Nat) (w : World) (ha : R a) (h1 : n ≤ 126) : Calls Tryz.prog 169 #[Wv a, .int .i64 n] w fun e w' => e = .returned (.tuple #[.int .i64 (tw (rd a (2 ^ n))), .int .i64 (te (rd a (2 ^ n)))]) ∧ Below w.heap.size w w' := by
  have LC := fun W : World => shl_any 1 n W (by decide) h1
  have NC := Lib.hid (fun W : World => near_any a (2 ^ n) W ha (R_pow h1) (pow_ne n))
  rw [Int.one_mul, told_in (R_pow h1), over_in (R_pow h1)] at LC
  have LC := Lib.hid LC
  have F1 := Lib.hid (fun W : World => from_at 1 W (by decide) (by decide))
  clear ha h1
  generalize tw (rd a (2 ^ n)) = q at *
  generalize te (rd a (2 ^ n)) = g at *
  generalize (2 : Int) ^ n = t at *
  go_enter Tryz.func169, Tryz.ntmps169
  go_wp2_with (first | (go_at_call 170; (with_reducible refine (F1.out _).mono ?_); rintro e w' ⟨rfl, rfl⟩) | (go_at_call 201; (with_reducible refine (LC.out _).mono ?_); rintro e w1 ⟨rfl, hb1⟩; have e10 : w1.cell? ⟨w.heap.size, 0, none⟩ = some (.int .i64 (hi a)) := cell_on hb1 (by first | (simp [go_sem, *]; done) | (simp [go_sem, World.cell?_alloc_some, *]; done) | fail); have e11 : w1.cell? ⟨w.heap.size, 1, none⟩ = some (.int .u64 (lo a)) := cell_on hb1 (by first | (simp [go_sem, *]; done) | (simp [go_sem, World.cell?_alloc_some, *]; done) | fail); have s10 : w.heap.size < w1.heap.size := World.block_lt_of_cell? _ _ e10; have t10 : w.heap.size < w1.heap.size + 1 := Nat.lt_succ_of_lt s10) | (go_at_call 202; (with_reducible refine (NC.out _).mono ?_); rintro e w2 ⟨rfl, hb2⟩; have e20 : w2.cell? ⟨w.heap.size, 0, none⟩ = some (.int .i64 (hi a)) := cell_on hb2 (by first | (simp [go_sem, *]; done) | (simp [go_sem, World.cell?_alloc_some, *]; done) | fail); have e21 : w2.cell? ⟨w.heap.size, 1, none⟩ = some (.int .u64 (lo a)) := cell_on hb2 (by first | (simp [go_sem, *]; done) | (simp [go_sem, World.cell?_alloc_some, *]; done) | fail); have s20 : w.heap.size < w2.heap.size := World.block_lt_of_cell? _ _ e20; have t20 : w.heap.size < w2.heap.size + 1 := Nat.lt_succ_of_lt s20))
  go_ret2
  refine ⟨rfl, ?_⟩
  repeat (first | exact Below.refl _ _ | assumption | apply Below.drew | refine Below.setCell ?_ (by first | omega | (simp; done) | (simp; omega)) _ | refine Below.alloc ?_ (by first | omega | (simp; done) | (simp; omega)) _ | refine Below.trans ?_ (hb2.mono (by first | omega | (simp; done) | (simp; omega))) | refine Below.trans ?_ (hb1.mono (by first | omega | (simp; done) | (simp; omega))))
set_option maxRecDepth 100000 in
set_option maxHeartbeats 2000000 in
theorem close_form (a n : Int) (w : World) (h : n < 0 ∨ 126 < n) : Calls Tryz.prog 169 #[Wv a, .int .i64 n] w fun e w' => e = .returned (.tuple #[.int .i64 (0), .int .i64 (1)]) ∧ Below w.heap.size w w' := by
  have LC := Lib.hid (fun W : World => left_form 1 n W h)
  have F1 := Lib.hid (fun W : World => from_at 1 W (by decide) (by decide))
  clear h
  go_enter Tryz.func169, Tryz.ntmps169
  go_wp2_with (first | (go_at_call 170; (with_reducible refine (F1.out _).mono ?_); rintro e w' ⟨rfl, rfl⟩) | (go_at_call 201; (with_reducible refine (LC.out _).mono ?_); rintro e w1 ⟨rfl, hb1⟩; have e10 : w1.cell? ⟨w.heap.size, 0, none⟩ = some (.int .i64 (hi a)) := cell_on hb1 (by first | (simp [go_sem, *]; done) | (simp [go_sem, World.cell?_alloc_some, *]; done) | fail); have e11 : w1.cell? ⟨w.heap.size, 1, none⟩ = some (.int .u64 (lo a)) := cell_on hb1 (by first | (simp [go_sem, *]; done) | (simp [go_sem, World.cell?_alloc_some, *]; done) | fail); have s10 : w.heap.size < w1.heap.size := World.block_lt_of_cell? _ _ e10; have t10 : w.heap.size < w1.heap.size + 1 := Nat.lt_succ_of_lt s10))
  go_ret2
  refine ⟨rfl, ?_⟩
  repeat (first | exact Below.refl _ _ | assumption | apply Below.drew | refine Below.setCell ?_ (by first | omega | (simp; done) | (simp; omega)) _ | refine Below.alloc ?_ (by first | omega | (simp; done) | (simp; omega)) _ | refine Below.trans ?_ (hb1.mono (by first | omega | (simp; done) | (simp; omega))))
set_option maxRecDepth 100000 in
set_option maxHeartbeats 2000000 in
/-- fx.Ratio, where the bits are none -/
theorem ratio_form (n d f : Int) (w : World) (h : fb f = false) : Calls Tryz.prog 212 #[.int .i64 n, .int .i64 d, .int .i64 f] w fun e w' => e = .returned (.tuple #[.int .i64 (0), .int .i64 (1)]) ∧ Below w.heap.size w w' := by
  have C := fun W : World => checkf_any f W
  rw [h] at C
  have C := Lib.hid C
  clear h
  go_enter Tryz.func212, Tryz.ntmps212
  go_wp2_with (go_at_call 31; (with_reducible refine (C.out _).mono ?_); rintro e w' ⟨rfl, rfl⟩)
  go_ret2
  refine ⟨rfl, ?_⟩
  repeat (first | exact Below.refl _ _ | assumption | apply Below.drew | refine Below.setCell ?_ (by first | omega | (simp; done) | (simp; omega)) _ | refine Below.alloc ?_ (by first | omega | (simp; done) | (simp; omega)) _)
set_option maxRecDepth 100000 in
set_option maxHeartbeats 2000000 in
/-- fx.Ratio -/
theorem ratio_any (n d : Int) (f : Nat) (w : World) (n0 : -9223372036854775808 ≤ n) (n1 : n ≤ 9223372036854775807) (d0 : -9223372036854775808 ≤ d) (d1 : d ≤ 9223372036854775807) (h : fb f = true) (hd : d ≠ 0) : Calls Tryz.prog 212 #[.int .i64 n, .int .i64 d, .int .i64 f] w fun e w' => e = .returned (.tuple #[.int .i64 (tw (rd (n * 2 ^ f) d)), .int .i64 (te (rd (n * 2 ^ f) d))]) ∧ Below w.heap.size w w' := by
  have C := fun W : World => checkf_any f W
  rw [h] at C
  have C := Lib.hid C
  have hf := fb_bd h
  have p0 : (0 : Int) < 2 ^ f := Int.pow_pos (by decide)
  have p1 : (2 : Int) ^ f ≤ 2 ^ 32 := by have := Nat.pow_le_pow_right (show 0 < 2 by decide) (show f ≤ 32 by omega); exact_mod_cast this
  have e0 : wrap64 ((2 : Int) ^ f) = 2 ^ f := IntWalk.wrap64_in _ ⟨by omega, by omega⟩
  have MC := Lib.hid (fun W : World => mul_any n (2 ^ f) W n0 n1 (by omega) (by omega))
  have FC := Lib.hid (fun W : World => from_at d W d0 d1)
  have Rn : R (n * 2 ^ f) := R_prod n0 n1 (by omega) (by omega)
  have NC := Lib.hid (fun W : World => near_any (n * 2 ^ f) d W Rn (R_small d0 d1) hd)
  clear h hd Rn p0 p1
  generalize n * 2 ^ f = m at *
  generalize tw (rd m d) = q at *
  generalize te (rd m d) = g at *
  go_enter Tryz.func212, Tryz.ntmps212
  go_wp2_with (first | (go_at_call 31; (with_reducible refine (C.out _).mono ?_); rintro e w' ⟨rfl, rfl⟩) | (go_at_call 170; (with_reducible refine (FC.out _).mono ?_); rintro e w' ⟨rfl, rfl⟩) | (go_at_call 211; (with_reducible refine (MC.out _).mono ?_); rintro e w' ⟨rfl, rfl⟩) | (go_at_call 202; (with_reducible refine (NC.out _).mono ?_); rintro e w2 ⟨rfl, hb2⟩; ))
  go_ret2
  refine ⟨rfl, ?_⟩
  repeat (first | exact Below.refl _ _ | assumption | apply Below.drew | refine Below.setCell ?_ (by first | omega | (simp; done) | (simp; omega)) _ | refine Below.alloc ?_ (by first | omega | (simp; done) | (simp; omega)) _ | refine Below.trans ?_ (hb2.mono (by first | omega | (simp; done) | (simp; omega))))
set_option maxRecDepth 100000 in
set_option maxHeartbeats 2000000 in
theorem ratio_zero (n d : Int) (f : Nat) (w : World) (n0 : -9223372036854775808 ≤ n) (n1 : n ≤ 9223372036854775807) (h : fb f = true) (hd : d = 0) : Calls Tryz.prog 212 #[.int .i64 n, .int .i64 d, .int .i64 f] w fun e w' => e = .returned (.tuple #[.int .i64 (0), .int .i64 (4)]) ∧ Below w.heap.size w w' := by
  have C := fun W : World => checkf_any f W
  rw [h] at C
  have C := Lib.hid C
  have hf := fb_bd h
  have p0 : (0 : Int) < 2 ^ f := Int.pow_pos (by decide)
  have p1 : (2 : Int) ^ f ≤ 2 ^ 32 := by have := Nat.pow_le_pow_right (show 0 < 2 by decide) (show f ≤ 32 by omega); exact_mod_cast this
  have e0 : wrap64 ((2 : Int) ^ f) = 2 ^ f := IntWalk.wrap64_in _ ⟨by omega, by omega⟩
  have MC := Lib.hid (fun W : World => mul_any n (2 ^ f) W n0 n1 (by omega) (by omega))
  have FC := Lib.hid (fun W : World => from_at d W (by omega) (by omega))
  have NC := Lib.hid (fun W : World => near_zero (n * 2 ^ f) d W hd)
  clear h hd p0 p1
  generalize n * 2 ^ f = m at *
  go_enter Tryz.func212, Tryz.ntmps212
  go_wp2_with (first | (go_at_call 31; (with_reducible refine (C.out _).mono ?_); rintro e w' ⟨rfl, rfl⟩) | (go_at_call 170; (with_reducible refine (FC.out _).mono ?_); rintro e w' ⟨rfl, rfl⟩) | (go_at_call 211; (with_reducible refine (MC.out _).mono ?_); rintro e w' ⟨rfl, rfl⟩) | (go_at_call 202; (with_reducible refine (NC.out _).mono ?_); rintro e w2 ⟨rfl, hb2⟩; ))
  go_ret2
  refine ⟨rfl, ?_⟩
  repeat (first | exact Below.refl _ _ | assumption | apply Below.drew | refine Below.setCell ?_ (by first | omega | (simp; done) | (simp; omega)) _ | refine Below.alloc ?_ (by first | omega | (simp; done) | (simp; omega)) _ | refine Below.trans ?_ (hb2.mono (by first | omega | (simp; done) | (simp; omega))))
set_option maxRecDepth 100000 in
theorem wordtimes_any (a b : Int) (f : Nat) (w : World) (ga : wd a = true) (gb : wd b = true) (gf : fb f = true) : Calls Tryz.prog 191 #[.int .i64 a, .int .i64 b, .int .i64 f] w fun e w' => e = .returned (.tuple #[.int .i64 (tw (rd (a * b) (2 ^ f))), .int .i64 (te (rd (a * b) (2 ^ f)))]) ∧ Below w.heap.size w w' := by
  have A := wd_bd ga
  have B := wd_bd gb
  have Fb := fb_bd gf
  have MC := Lib.hid (fun W : World => mul_any a b W (by omega) (by omega) (by omega) (by omega))
  have CC := Lib.hid (fun W : World => close_any (a * b) f W (R_prod (by omega) (by omega) (by omega) (by omega)) (by omega))
  clear A B Fb ga gb gf
  generalize tw (rd (a * b) (2 ^ f)) = q at *
  generalize te (rd (a * b) (2 ^ f)) = g at *
  generalize a * b = m at *
  go_enter Tryz.func191, Tryz.ntmps191
  go_wp2_with (first | (go_at_call 211; (with_reducible refine (MC.out _).mono ?_); rintro e w' ⟨rfl, rfl⟩) | (go_at_call 169; (with_reducible refine (CC.out _).mono ?_); rintro e w1 ⟨rfl, hb1⟩))
  go_ret2
  refine ⟨rfl, ?_⟩
  repeat (first | exact Below.refl _ _ | assumption | apply Below.drew | refine Below.setCell ?_ (by first | omega | (simp; done) | (simp; omega)) _ | refine Below.alloc ?_ (by first | omega | (simp; done) | (simp; omega)) _ | refine Below.trans ?_ (hb1.mono (by first | omega | (simp; done) | (simp; omega))))
theorem wordover_any (a b : Int) (f : Nat) (w : World) (ga : wd a = true) (gb : wd b = true) (gf : fb f = true) (h0 : b ≠ 0) : Calls Tryz.prog 192 #[.int .i64 a, .int .i64 b, .int .i64 f] w fun e w' => e = .returned (.tuple #[.int .i64 (tw (rd (a * 2 ^ f) b)), .int .i64 (te (rd (a * 2 ^ f) b))]) ∧ Below w.heap.size w w' := by
  have A := wd_bd ga
  have B := wd_bd gb
  have RC := Lib.hid (fun W : World => ratio_any a b f W (by omega) (by omega) (by omega) (by omega) gf h0)
  clear A B ga gb gf h0
  generalize tw (rd (a * 2 ^ f) b) = q at *
  generalize te (rd (a * 2 ^ f) b) = g at *
  go_enter Tryz.func192, Tryz.ntmps192
  go_wp2_with (go_at_call 212; (with_reducible refine (RC.out _).mono ?_); rintro e w1 ⟨rfl, hb1⟩)
  go_ret2
  refine ⟨rfl, ?_⟩
  repeat (first | exact Below.refl _ _ | assumption | apply Below.drew | refine Below.setCell ?_ (by first | omega | (simp; done) | (simp; omega)) _ | refine Below.alloc ?_ (by first | omega | (simp; done) | (simp; omega)) _ | refine Below.trans ?_ (hb1.mono (by first | omega | (simp; done) | (simp; omega))))
theorem wordover_zero (a b : Int) (f : Nat) (w : World) (ga : wd a = true) (gf : fb f = true) (h0 : b = 0) : Calls Tryz.prog 192 #[.int .i64 a, .int .i64 b, .int .i64 f] w fun e w' => e = .returned (.tuple #[.int .i64 (0), .int .i64 (4)]) ∧ Below w.heap.size w w' := by
  have A := wd_bd ga
  have RC := Lib.hid (fun W : World => ratio_zero a b f W (by omega) (by omega) gf h0)
  clear A ga gf h0
  go_enter Tryz.func192, Tryz.ntmps192
  go_wp2_with (go_at_call 212; (with_reducible refine (RC.out _).mono ?_); rintro e w1 ⟨rfl, hb1⟩)
  go_ret2
  refine ⟨rfl, ?_⟩
  repeat (first | exact Below.refl _ _ | assumption | apply Below.drew | refine Below.setCell ?_ (by first | omega | (simp; done) | (simp; omega)) _ | refine Below.alloc ?_ (by first | omega | (simp; done) | (simp; omega)) _ | refine Below.trans ?_ (hb1.mono (by first | omega | (simp; done) | (simp; omega))))
theorem reckon_times (a b : Int) (f : Nat) (w : World) (ga : wd a = true) (gb : wd b = true) (gf : fb f = true) : Calls Tryz.prog 121 #[.int .i64 2, .int .i64 a, .int .i64 b, .int .i64 f] w fun e w' => e = .returned (.tuple #[.int .i64 (tw (rd (a * b) (2 ^ f))), .int .i64 (te (rd (a * b) (2 ^ f)))]) ∧ Below w.heap.size w w' := by
  have WC := Lib.hid (fun W : World => wordtimes_any a b f W ga gb gf)
  have CA := fun W : World => check_any a W
  rw [ga] at CA
  have CA := Lib.hid CA
  have CB := fun W : World => check_any b W
  rw [gb] at CB
  have CB := Lib.hid CB
  have CF := fun W : World => checkf_any f W
  rw [gf] at CF
  have CF := Lib.hid CF
  clear ga gb gf
  generalize tw (rd (a * b) (2 ^ f)) = q at *
  generalize te (rd (a * b) (2 ^ f)) = g at *
  go_enter Tryz.func121, Tryz.ntmps121
  go_wp2_with (first | (go_at_call 44; (with_reducible refine (CA.out _).mono ?_); rintro e w' ⟨rfl, rfl⟩) | (go_at_call 44; (with_reducible refine (CB.out _).mono ?_); rintro e w' ⟨rfl, rfl⟩) | (go_at_call 31; (with_reducible refine (CF.out _).mono ?_); rintro e w' ⟨rfl, rfl⟩) | (go_at_call 165; (with_reducible refine (way_times _).mono ?_); rintro e w' ⟨rfl, rfl⟩) | (go_at_call 191; (with_reducible refine (WC.out _).mono ?_); rintro e w1 ⟨rfl, hb1⟩))
  go_ret2
  refine ⟨rfl, ?_⟩
  repeat (first | exact Below.refl _ _ | assumption | apply Below.drew | refine Below.setCell ?_ (by first | omega | (simp; done) | (simp; omega)) _ | refine Below.alloc ?_ (by first | omega | (simp; done) | (simp; omega)) _ | refine Below.trans ?_ (hb1.mono (by first | omega | (simp; done) | (simp; omega))))
theorem reckon_over (a b : Int) (f : Nat) (w : World) (ga : wd a = true) (gb : wd b = true) (gf : fb f = true) (h0 : b ≠ 0) : Calls Tryz.prog 121 #[.int .i64 3, .int .i64 a, .int .i64 b, .int .i64 f] w fun e w' => e = .returned (.tuple #[.int .i64 (tw (rd (a * 2 ^ f) b)), .int .i64 (te (rd (a * 2 ^ f) b))]) ∧ Below w.heap.size w w' := by
  have WC := Lib.hid (fun W : World => wordover_any a b f W ga gb gf h0)
  have CA := fun W : World => check_any a W
  rw [ga] at CA
  have CA := Lib.hid CA
  have CB := fun W : World => check_any b W
  rw [gb] at CB
  have CB := Lib.hid CB
  have CF := fun W : World => checkf_any f W
  rw [gf] at CF
  have CF := Lib.hid CF
  clear ga gb gf h0
  generalize tw (rd (a * 2 ^ f) b) = q at *
  generalize te (rd (a * 2 ^ f) b) = g at *
  go_enter Tryz.func121, Tryz.ntmps121
  go_wp2_with (first | (go_at_call 44; (with_reducible refine (CA.out _).mono ?_); rintro e w' ⟨rfl, rfl⟩) | (go_at_call 44; (with_reducible refine (CB.out _).mono ?_); rintro e w' ⟨rfl, rfl⟩) | (go_at_call 31; (with_reducible refine (CF.out _).mono ?_); rintro e w' ⟨rfl, rfl⟩) | (go_at_call 165; (with_reducible refine (way_over _).mono ?_); rintro e w' ⟨rfl, rfl⟩) | (go_at_call 192; (with_reducible refine (WC.out _).mono ?_); rintro e w1 ⟨rfl, hb1⟩))
  go_ret2
  refine ⟨rfl, ?_⟩
  repeat (first | exact Below.refl _ _ | assumption | apply Below.drew | refine Below.setCell ?_ (by first | omega | (simp; done) | (simp; omega)) _ | refine Below.alloc ?_ (by first | omega | (simp; done) | (simp; omega)) _ | refine Below.trans ?_ (hb1.mono (by first | omega | (simp; done) | (simp; omega))))
theorem reckon_zero (a b : Int) (f : Nat) (w : World) (ga : wd a = true) (gb : wd b = true) (gf : fb f = true) (h0 : b = 0) : Calls Tryz.prog 121 #[.int .i64 3, .int .i64 a, .int .i64 b, .int .i64 f] w fun e w' => e = .returned (.tuple #[.int .i64 (0), .int .i64 (4)]) ∧ Below w.heap.size w w' := by
  have WC := Lib.hid (fun W : World => wordover_zero a b f W ga gf h0)
  have CA := fun W : World => check_any a W
  rw [ga] at CA
  have CA := Lib.hid CA
  have CB := fun W : World => check_any b W
  rw [gb] at CB
  have CB := Lib.hid CB
  have CF := fun W : World => checkf_any f W
  rw [gf] at CF
  have CF := Lib.hid CF
  clear ga gb gf h0
  go_enter Tryz.func121, Tryz.ntmps121
  go_wp2_with (first | (go_at_call 44; (with_reducible refine (CA.out _).mono ?_); rintro e w' ⟨rfl, rfl⟩) | (go_at_call 44; (with_reducible refine (CB.out _).mono ?_); rintro e w' ⟨rfl, rfl⟩) | (go_at_call 31; (with_reducible refine (CF.out _).mono ?_); rintro e w' ⟨rfl, rfl⟩) | (go_at_call 165; (with_reducible refine (way_over _).mono ?_); rintro e w' ⟨rfl, rfl⟩) | (go_at_call 192; (with_reducible refine (WC.out _).mono ?_); rintro e w1 ⟨rfl, hb1⟩))
  go_ret2
  refine ⟨rfl, ?_⟩
  repeat (first | exact Below.refl _ _ | assumption | apply Below.drew | refine Below.setCell ?_ (by first | omega | (simp; done) | (simp; omega)) _ | refine Below.alloc ?_ (by first | omega | (simp; done) | (simp; omega)) _ | refine Below.trans ?_ (hb1.mono (by first | omega | (simp; done) | (simp; omega))))
theorem fxmul_form (a b f : Int) (w : World) (h : (wd a && wd b && fb f) = false) : Calls Tryz.prog 88 #[.int .i64 a, .int .i64 b, .int .i64 f] w fun e w' => e = .returned (.tuple #[.int .i64 0, .int .i64 1]) ∧ w = w' := by
  have C := Lib.hid (fun W : World => reckon_form 2 a b f W h)
  clear h
  go_enter Tryz.func88, Tryz.ntmps88
  go_wp2_with (go_at_call 121; (with_reducible refine (C.out _).mono ?_); rintro e w' ⟨rfl, rfl⟩)
  go_ret2
  exact ⟨rfl, rfl⟩
theorem fxdiv_form (a b f : Int) (w : World) (h : (wd a && wd b && fb f) = false) : Calls Tryz.prog 89 #[.int .i64 a, .int .i64 b, .int .i64 f] w fun e w' => e = .returned (.tuple #[.int .i64 0, .int .i64 1]) ∧ w = w' := by
  have C := Lib.hid (fun W : World => reckon_form 3 a b f W h)
  clear h
  go_enter Tryz.func89, Tryz.ntmps89
  go_wp2_with (go_at_call 121; (with_reducible refine (C.out _).mono ?_); rintro e w' ⟨rfl, rfl⟩)
  go_ret2
  exact ⟨rfl, rfl⟩
theorem fxmul_any (a b : Int) (f : Nat) (w : World) (ga : wd a = true) (gb : wd b = true) (gf : fb f = true) : Calls Tryz.prog 88 #[.int .i64 a, .int .i64 b, .int .i64 f] w fun e w' => e = .returned (.tuple #[.int .i64 (tw (rd (a * b) (2 ^ f))), .int .i64 (te (rd (a * b) (2 ^ f)))]) ∧ Below w.heap.size w w' := by
  have C := Lib.hid (fun W : World => reckon_times a b f W ga gb gf)
  clear ga gb gf
  generalize tw (rd (a * b) (2 ^ f)) = q at *
  generalize te (rd (a * b) (2 ^ f)) = g at *
  go_enter Tryz.func88, Tryz.ntmps88
  go_wp2_with (go_at_call 121; (with_reducible refine (C.out _).mono ?_); rintro e w1 ⟨rfl, hb1⟩)
  go_ret2
  refine ⟨rfl, ?_⟩
  repeat (first | exact Below.refl _ _ | assumption | apply Below.drew | refine Below.setCell ?_ (by first | omega | (simp; done) | (simp; omega)) _ | refine Below.alloc ?_ (by first | omega | (simp; done) | (simp; omega)) _ | refine Below.trans ?_ (hb1.mono (by first | omega | (simp; done) | (simp; omega))))
theorem fxdiv_any (a b : Int) (f : Nat) (w : World) (ga : wd a = true) (gb : wd b = true) (gf : fb f = true) (h0 : b ≠ 0) : Calls Tryz.prog 89 #[.int .i64 a, .int .i64 b, .int .i64 f] w fun e w' => e = .returned (.tuple #[.int .i64 (tw (rd (a * 2 ^ f) b)), .int .i64 (te (rd (a * 2 ^ f) b))]) ∧ Below w.heap.size w w' := by
  have C := Lib.hid (fun W : World => reckon_over a b f W ga gb gf h0)
  clear ga gb gf h0
  generalize tw (rd (a * 2 ^ f) b) = q at *
  generalize te (rd (a * 2 ^ f) b) = g at *
  go_enter Tryz.func89, Tryz.ntmps89
  go_wp2_with (go_at_call 121; (with_reducible refine (C.out _).mono ?_); rintro e w1 ⟨rfl, hb1⟩)
  go_ret2
  refine ⟨rfl, ?_⟩
  repeat (first | exact Below.refl _ _ | assumption | apply Below.drew | refine Below.setCell ?_ (by first | omega | (simp; done) | (simp; omega)) _ | refine Below.alloc ?_ (by first | omega | (simp; done) | (simp; omega)) _ | refine Below.trans ?_ (hb1.mono (by first | omega | (simp; done) | (simp; omega))))
theorem fxdiv_zero (a b : Int) (f : Nat) (w : World) (ga : wd a = true) (gb : wd b = true) (gf : fb f = true) (h0 : b = 0) : Calls Tryz.prog 89 #[.int .i64 a, .int .i64 b, .int .i64 f] w fun e w' => e = .returned (.tuple #[.int .i64 (0), .int .i64 (4)]) ∧ Below w.heap.size w w' := by
  have C := Lib.hid (fun W : World => reckon_zero a b f W ga gb gf h0)
  clear ga gb gf h0
  go_enter Tryz.func89, Tryz.ntmps89
  go_wp2_with (go_at_call 121; (with_reducible refine (C.out _).mono ?_); rintro e w1 ⟨rfl, hb1⟩)
  go_ret2
  refine ⟨rfl, ?_⟩
  repeat (first | exact Below.refl _ _ | assumption | apply Below.drew | refine Below.setCell ?_ (by first | omega | (simp; done) | (simp; omega)) _ | refine Below.alloc ?_ (by first | omega | (simp; done) | (simp; omega)) _ | refine Below.trans ?_ (hb1.mono (by first | omega | (simp; done) | (simp; omega))))
theorem rd384 : rd (384 * 384) (2 ^ 8) = 576 := by decide
end Go.Proofs.YtpfcjajmfadcbaaGreat
