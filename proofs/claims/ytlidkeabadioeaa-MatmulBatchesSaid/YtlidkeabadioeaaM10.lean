/-
  Shifts and products of whole numbers.
  Shifts and products of wide numbers; a rounding that every statement asks for.
  Quotients told as words.
  Sums and differences of words.
  The statements' lists of package fx: what an element's cells hold.
  The small functions of package fx's statements.
  Closing, ratios, and the operations of words.
  Quotients by a divisor above 0: the rounded one is the lower one, or 1 more; both are wide numbers.
  Rounded quotients of words: half of the divisor away at most.
  Roots of whole numbers: Newton's steps, and the nearest word to a root.
-/
import Derived.LoopTactic
import Derived.Test.YtlidkeabadioeaaM07
import Derived.Test.YtlidkeabadioeaaM08
import Derived.Test.YtlidkeabadioeaaM09
namespace Go.Proofs.Ytlidkeabadioeaa
open Go.RowKit

theorem sd_ab (a : Int) (p : Int) : sd (ng a) (ab a * p) = a * p := by
  unfold sd ng ab
  by_cases h : a < 0
  · have : ((a.natAbs : Nat) : Int) = -a := by omega
    simp only [h, decide_true, if_true, this]
    rw [Int.neg_mul, Int.neg_neg]
  · have : ((a.natAbs : Nat) : Int) = a := by omega
    simp only [h, decide_false, this]; rfl
theorem left_far {a : Int} (ha : R a) (n : Nat) (h1 : n ≤ 126) (h : 128 < bl (ab a) + n) : ¬ R (a * 2 ^ n) := by
  have hU := U_ab ha
  have h0 : ab a ≠ 0 := by intro e; rw [e, bl_zero] at h; omega
  obtain ⟨b1, b2, b3⟩ := bl_bd hU h0
  have m := pow_mono (show 128 ≤ (bl (ab a) - 1) + n by omega)
  rw [Int.pow_add, pow128] at m
  have := Int.mul_le_mul_of_nonneg_right b2 (show (0 : Int) ≤ 2 ^ n from Int.le_of_lt (Int.pow_pos (by decide)))
  have e := sd_ab a (2 ^ n)
  intro hr
  rw [← e, R_iff] at hr
  unfold sd at hr
  split at hr <;> omega
theorem left_near {a : Int} (ha : R a) (n : Nat) (h : bl (ab a) + n ≤ 128) : ws (ab a * 2 ^ n) = ab a * 2 ^ n := by
  have hU := U_ab ha
  have hb := ab_bd ha
  by_cases h0 : ab a = 0
  · rw [h0, Int.zero_mul]; rfl
  obtain ⟨b1, b2, b3⟩ := bl_bd hU h0
  have m := pow_mono (show bl (ab a) + n ≤ 128 from h)
  rw [Int.pow_add, pow128] at m
  have hp : (0 : Int) < 2 ^ n := Int.pow_pos (by decide)
  have := Int.mul_le_mul_of_nonneg_right (show ab a + 1 ≤ 2 ^ bl (ab a) by omega) (Int.le_of_lt hp)
  rw [Int.add_mul] at this
  have p0 : 0 ≤ ab a * 2 ^ n := Int.mul_nonneg hb.1 (Int.le_of_lt hp)
  exact ws_in (by rw [U_iff]; omega)

theorem mul_bd {a b : Int} (a0 : -9223372036854775808 ≤ a) (a1 : a ≤ 9223372036854775807) (b0 : -9223372036854775808 ≤ b) (b1 : b ≤ 9223372036854775807) :
    -85070591730234615865843651857942052864 ≤ a * b ∧ a * b ≤ 85070591730234615865843651857942052864 := by
  have h : (a * b).natAbs ≤ 9223372036854775808 * 9223372036854775808 := by
    rw [Int.natAbs_mul]; exact Nat.mul_le_mul (by omega) (by omega)
  omega
/-- The product's high half, as it is mended for the signs. -/
def mh (a b h : Int) : Int :=
  let h1 := if a < 0 then IntKind.u64.wrap (h - IntKind.u64.wrap b) else h
  if b < 0 then IntKind.u64.wrap (h1 - IntKind.u64.wrap a) else h1
theorem mul_halves {a b : Int} (a0 : -9223372036854775808 ≤ a) (a1 : a ≤ 9223372036854775807) (b0 : -9223372036854775808 ≤ b) (b1 : b ≤ 9223372036854775807) {X : Int}
    (hX : X = IntKind.u64.wrap a * IntKind.u64.wrap b) : wrap64 (mh a b (X / 18446744073709551616)) = hi (a * b) ∧ X % 18446744073709551616 = lo (a * b) := by
  have bd := mul_bd a0 a1 b0 b1
  have key : X = a * b + (if a < 0 then 18446744073709551616 * b else 0) + (if b < 0 then 18446744073709551616 * a else 0) + (if a < 0 ∧ b < 0 then 340282366920938463463374607431768211456 else 0) := by
    rw [hX, IntKind.wrap_u64, IntKind.wrap_u64]
    by_cases ha : a < 0
    · have ea : a % 18446744073709551616 = a + 18446744073709551616 := by omega
      by_cases hb : b < 0
      · have eb : b % 18446744073709551616 = b + 18446744073709551616 := by omega
        rw [ea, eb, Int.add_mul, Int.mul_add, Int.mul_add]; simp only [ha, hb, if_true, and_self]; omega
      · have eb : b % 18446744073709551616 = b := by omega
        rw [ea, eb, Int.add_mul]; simp only [ha, hb, if_true, if_false, and_false]; omega
    · have ea : a % 18446744073709551616 = a := by omega
      by_cases hb : b < 0
      · have eb : b % 18446744073709551616 = b + 18446744073709551616 := by omega
        rw [ea, eb, Int.mul_add]; simp only [ha, hb, if_true, if_false, false_and]; omega
      · have eb : b % 18446744073709551616 = b := by omega
        rw [ea, eb]; simp only [ha, hb, if_false, and_self]; omega
  clear hX
  generalize a * b = P at *
  unfold mh hi lo wrap64
  simp only [IntKind.wrap_u64]
  by_cases ha : a < 0 <;> by_cases hb : b < 0 <;> simp only [ha, hb, if_true, if_false, and_self, and_false, false_and] at key ⊢ <;> omega
end Go.Proofs.Ytlidkeabadioeaa
namespace Go.Proofs.Ytlidkeabadioeaa
open Go.RowKit

set_option maxHeartbeats 4000000 in
/-- wide.Left, out of its bounds -/
theorem left_form (a n : Int) (w : World) (h : n < 0 ∨ 126 < n) : Calls Try.prog 87 #[Wv a, .int .i64 n] w fun e w' => e = .returned (.tuple #[Wv 0, .int .i64 1]) ∧ Below w.heap.size w w' := by
  rcases h with h | h
  · go_enter Try.func87, Try.ntmps87
    go_wp2
    refine bodyPost_ret (v := .tuple #[.agg #[.int .i64 0, .int .u64 0], .int .i64 1]) (by simp [results, Try.results87, go_sem]) rfl ⟨rfl, ?_⟩
    repeat (first | exact Below.refl _ _ | assumption | apply Below.drew | refine Below.setCell ?_ (by first | omega | (simp; done) | (simp; omega)) _ | refine Below.alloc ?_ (by first | omega | (simp; done) | (simp; omega)) _)
  · have h' : ¬ n < 0 := by omega
    go_enter Try.func87, Try.ntmps87
    go_wp2
    refine bodyPost_ret (v := .tuple #[.agg #[.int .i64 0, .int .u64 0], .int .i64 1]) (by simp [results, Try.results87, go_sem]) rfl ⟨rfl, ?_⟩
    repeat (first | exact Below.refl _ _ | assumption | apply Below.drew | refine Below.setCell ?_ (by first | omega | (simp; done) | (simp; omega)) _ | refine Below.alloc ?_ (by first | omega | (simp; done) | (simp; omega)) _)
set_option maxHeartbeats 8000000 in
/-- wide.Left -/
theorem shl_any (a : Int) (n : Nat) (w : World) (ha : R a) (h1 : n ≤ 126) : Calls Try.prog 87 #[Wv a, .int .i64 n] w fun e w' => e = .returned (.tuple #[Wv (told (a * 2 ^ n)), .int .i64 (over (a * 2 ^ n))]) ∧ Below w.heap.size w w' := by
  have lb := bl_le (U_ab ha)
  have SZ := Lib.hid (fun W : World => sizeOf_any a W ha)
  have LN := Lib.hid (fun W : World => length_any (ab a) W (U_ab ha))
  have BN := Lib.hid (fun W : World => below_any a W)
  by_cases g : 128 < bl (ab a) + n
  · have r := Lib.hid (And.intro (told_out (left_far ha n h1 g)) (over_out (left_far ha n h1 g)))
    have g' : (128 : Int) < (bl (ab a) : Int) + n := by omega
    clear ha g
    generalize ab a = s at *
    go_enter Try.func87, Try.ntmps87
    go_wp2_with (first | (go_at_call 111; (with_reducible refine (SZ.out _).mono ?_); rintro e w1 ⟨rfl, hb1⟩; have e10 : w1.cell? ⟨w.heap.size, 0, none⟩ = some (.int .i64 (hi a)) := cell_on hb1 (by first | (simp [go_sem, *]; done) | (simp [go_sem, World.cell?_alloc_some, *]; done) | fail); have e11 : w1.cell? ⟨w.heap.size, 1, none⟩ = some (.int .u64 (lo a)) := cell_on hb1 (by first | (simp [go_sem, *]; done) | (simp [go_sem, World.cell?_alloc_some, *]; done) | fail); have e12 : w1.cell? ⟨w.heap.size + 1, 0, none⟩ = some (.int .i64 0) := cell_on hb1 (by first | (simp [go_sem, *]; done) | (simp [go_sem, World.cell?_alloc_some, *]; done) | fail); have e13 : w1.cell? ⟨w.heap.size + 1, 1, none⟩ = some (.int .u64 0) := cell_on hb1 (by first | (simp [go_sem, *]; done) | (simp [go_sem, World.cell?_alloc_some, *]; done) | fail); have s10 : w.heap.size < w1.heap.size := World.block_lt_of_cell? _ _ e10; have t10 : w.heap.size < w1.heap.size + 1 := Nat.lt_succ_of_lt s10; have s12 : w.heap.size + 1 < w1.heap.size := World.block_lt_of_cell? _ _ e12; have t12 : w.heap.size + 1 < w1.heap.size + 1 := Nat.lt_succ_of_lt s12; have y12 : w1.frozen? ⟨w.heap.size + 1, 0, none⟩ = false := frozen_on hb1 (v := .int .i64 0) (by first | (simp [go_sem, *]; done) | (simp [go_sem, World.cell?_alloc_some, *]; done) | fail) (by first | (simp [go_sem, *]; done) | (simp [go_sem, frozen?_alloc_cells, *]; done) | fail); have y13 : w1.frozen? ⟨w.heap.size + 1, 1, none⟩ = false := frozen_on hb1 (v := .int .u64 0) (by first | (simp [go_sem, *]; done) | (simp [go_sem, World.cell?_alloc_some, *]; done) | fail) (by first | (simp [go_sem, *]; done) | (simp [go_sem, frozen?_alloc_cells, *]; done) | fail)) | (go_at_call 112; (with_reducible refine (LN.out _).mono ?_); rintro e w2 ⟨rfl, rfl⟩))
    refine bodyPost_ret (v := .tuple #[.agg #[.int .i64 0, .int .u64 0], .int .i64 3]) (by simp [results, Try.results87, go_sem, *]) rfl ⟨by rw [r.out.1, r.out.2] <;> rfl, ?_⟩
    repeat (first | exact Below.refl _ _ | assumption | apply Below.drew | refine Below.setCell ?_ (by first | omega | (simp; done) | (simp; omega)) _ | refine Below.alloc ?_ (by first | omega | (simp; done) | (simp; omega)) _ | refine Below.trans ?_ (hb1.mono (by first | omega | (simp; done) | (simp; omega))))
  · have e1 := left_near ha n (by omega)
    have LC := Lib.hid (fun W : World => left_any (ab a) n W (U_ab ha) (by omega))
    have UT : U (ab a * 2 ^ n) := by rw [← e1]; exact U_ws _
    rw [e1] at LC
    have SI := Lib.hid (fun W : World => signed_any (ab a * 2 ^ n) (ng a) W UT)
    have r := Lib.hid (sd_ab a (2 ^ n))
    have g' : ¬ (128 : Int) < (bl (ab a) : Int) + n := by omega
    clear ha g e1 UT
    generalize ab a = s at *
    generalize s * 2 ^ n = t at *
    go_enter Try.func87, Try.ntmps87
    go_wp2_with (first | (go_at_call 111; (with_reducible refine (SZ.out _).mono ?_); rintro e w1 ⟨rfl, hb1⟩; have e10 : w1.cell? ⟨w.heap.size, 0, none⟩ = some (.int .i64 (hi a)) := cell_on hb1 (by first | (simp [go_sem, *]; done) | (simp [go_sem, World.cell?_alloc_some, *]; done) | fail); have e11 : w1.cell? ⟨w.heap.size, 1, none⟩ = some (.int .u64 (lo a)) := cell_on hb1 (by first | (simp [go_sem, *]; done) | (simp [go_sem, World.cell?_alloc_some, *]; done) | fail); have e12 : w1.cell? ⟨w.heap.size + 1, 0, none⟩ = some (.int .i64 0) := cell_on hb1 (by first | (simp [go_sem, *]; done) | (simp [go_sem, World.cell?_alloc_some, *]; done) | fail); have e13 : w1.cell? ⟨w.heap.size + 1, 1, none⟩ = some (.int .u64 0) := cell_on hb1 (by first | (simp [go_sem, *]; done) | (simp [go_sem, World.cell?_alloc_some, *]; done) | fail); have s10 : w.heap.size < w1.heap.size := World.block_lt_of_cell? _ _ e10; have t10 : w.heap.size < w1.heap.size + 1 := Nat.lt_succ_of_lt s10; have s12 : w.heap.size + 1 < w1.heap.size := World.block_lt_of_cell? _ _ e12; have t12 : w.heap.size + 1 < w1.heap.size + 1 := Nat.lt_succ_of_lt s12; have y12 : w1.frozen? ⟨w.heap.size + 1, 0, none⟩ = false := frozen_on hb1 (v := .int .i64 0) (by first | (simp [go_sem, *]; done) | (simp [go_sem, World.cell?_alloc_some, *]; done) | fail) (by first | (simp [go_sem, *]; done) | (simp [go_sem, frozen?_alloc_cells, *]; done) | fail); have y13 : w1.frozen? ⟨w.heap.size + 1, 1, none⟩ = false := frozen_on hb1 (v := .int .u64 0) (by first | (simp [go_sem, *]; done) | (simp [go_sem, World.cell?_alloc_some, *]; done) | fail) (by first | (simp [go_sem, *]; done) | (simp [go_sem, frozen?_alloc_cells, *]; done) | fail)) | (go_at_call 112; (with_reducible refine (LN.out _).mono ?_); rintro e w2 ⟨rfl, rfl⟩))
    go_region_held3 (fun w' => w'.cell? ⟨w.heap.size, 0, none⟩ = some (.int .i64 (hi a)) ∧ w'.cell? ⟨w.heap.size, 1, none⟩ = some (.int .u64 (lo a)) ∧ w'.cell? ⟨w1.heap.size, 0, none⟩ = some (.int .u64 (hi s)) ∧ w'.cell? ⟨w1.heap.size, 1, none⟩ = some (.int .u64 (lo s))) (first | (simp [go_sem, *]; done) | (simp [go_sem, World.cell?_alloc_some, *]; done))
      (first
      | (go_at_call 114; (with_reducible refine (LC.out _).mono ?_); rintro e w3 ⟨rfl, hb3⟩; have e30 : w3.cell? ⟨w.heap.size, 0, none⟩ = some (.int .i64 (hi a)) := cell_on hb3 (by first | (simp [go_sem, *]; done) | (simp [go_sem, World.cell?_alloc_some, *]; done) | fail); have e31 : w3.cell? ⟨w.heap.size, 1, none⟩ = some (.int .u64 (lo a)) := cell_on hb3 (by first | (simp [go_sem, *]; done) | (simp [go_sem, World.cell?_alloc_some, *]; done) | fail); have e32 : w3.cell? ⟨w.heap.size + 1, 0, none⟩ = some (.int .i64 0) := cell_on hb3 (by first | (simp [go_sem, *]; done) | (simp [go_sem, World.cell?_alloc_some, *]; done) | fail); have e33 : w3.cell? ⟨w.heap.size + 1, 1, none⟩ = some (.int .u64 0) := cell_on hb3 (by first | (simp [go_sem, *]; done) | (simp [go_sem, World.cell?_alloc_some, *]; done) | fail); have e34 : w3.cell? ⟨w1.heap.size, 0, none⟩ = some (.int .u64 (hi s)) := cell_on hb3 (by first | (simp [go_sem, *]; done) | (simp [go_sem, World.cell?_alloc_some, *]; done) | fail); have e35 : w3.cell? ⟨w1.heap.size, 1, none⟩ = some (.int .u64 (lo s)) := cell_on hb3 (by first | (simp [go_sem, *]; done) | (simp [go_sem, World.cell?_alloc_some, *]; done) | fail); have s30 : w.heap.size < w3.heap.size := World.block_lt_of_cell? _ _ e30; have t30 : w.heap.size < w3.heap.size + 1 := Nat.lt_succ_of_lt s30; have s32 : w.heap.size + 1 < w3.heap.size := World.block_lt_of_cell? _ _ e32; have t32 : w.heap.size + 1 < w3.heap.size + 1 := Nat.lt_succ_of_lt s32; have s34 : w1.heap.size < w3.heap.size := World.block_lt_of_cell? _ _ e34; have t34 : w1.heap.size < w3.heap.size + 1 := Nat.lt_succ_of_lt s34; have y32 : w3.frozen? ⟨w.heap.size + 1, 0, none⟩ = false := frozen_on hb3 (v := .int .i64 0) (by first | (simp [go_sem, *]; done) | (simp [go_sem, World.cell?_alloc_some, *]; done) | fail) (by first | (simp [go_sem, *]; done) | (simp [go_sem, frozen?_alloc_cells, *]; done) | fail); have y33 : w3.frozen? ⟨w.heap.size + 1, 1, none⟩ = false := frozen_on hb3 (v := .int .u64 0) (by first | (simp [go_sem, *]; done) | (simp [go_sem, World.cell?_alloc_some, *]; done) | fail) (by first | (simp [go_sem, *]; done) | (simp [go_sem, frozen?_alloc_cells, *]; done) | fail))
      | (go_at_call 109; (with_reducible refine (BN.out _).mono ?_); rintro e w' ⟨rfl, rfl⟩)
      | (go_at_call 113; (with_reducible refine (SI.out _).mono ?_); rintro e w4 ⟨rfl, hb4⟩; have e40 : w4.cell? ⟨w.heap.size, 0, none⟩ = some (.int .i64 (hi a)) := cell_on hb4 (by first | (simp [go_sem, *]; done) | (simp [go_sem, World.cell?_alloc_some, *]; done) | fail); have e41 : w4.cell? ⟨w.heap.size, 1, none⟩ = some (.int .u64 (lo a)) := cell_on hb4 (by first | (simp [go_sem, *]; done) | (simp [go_sem, World.cell?_alloc_some, *]; done) | fail); have e42 : w4.cell? ⟨w.heap.size + 1, 0, none⟩ = some (.int .i64 0) := cell_on hb4 (by first | (simp [go_sem, *]; done) | (simp [go_sem, World.cell?_alloc_some, *]; done) | fail); have e43 : w4.cell? ⟨w.heap.size + 1, 1, none⟩ = some (.int .u64 0) := cell_on hb4 (by first | (simp [go_sem, *]; done) | (simp [go_sem, World.cell?_alloc_some, *]; done) | fail); have e44 : w4.cell? ⟨w1.heap.size, 0, none⟩ = some (.int .u64 (hi s)) := cell_on hb4 (by first | (simp [go_sem, *]; done) | (simp [go_sem, World.cell?_alloc_some, *]; done) | fail); have e45 : w4.cell? ⟨w1.heap.size, 1, none⟩ = some (.int .u64 (lo s)) := cell_on hb4 (by first | (simp [go_sem, *]; done) | (simp [go_sem, World.cell?_alloc_some, *]; done) | fail); have s40 : w.heap.size < w4.heap.size := World.block_lt_of_cell? _ _ e40; have t40 : w.heap.size < w4.heap.size + 1 := Nat.lt_succ_of_lt s40; have s42 : w.heap.size + 1 < w4.heap.size := World.block_lt_of_cell? _ _ e42; have t42 : w.heap.size + 1 < w4.heap.size + 1 := Nat.lt_succ_of_lt s42; have s44 : w1.heap.size < w4.heap.size := World.block_lt_of_cell? _ _ e44; have t44 : w1.heap.size < w4.heap.size + 1 := Nat.lt_succ_of_lt s44; have y42 : w4.frozen? ⟨w.heap.size + 1, 0, none⟩ = false := frozen_on hb4 (v := .int .i64 0) (by first | (simp [go_sem, *]; done) | (simp [go_sem, World.cell?_alloc_some, *]; done) | fail) (by first | (simp [go_sem, *]; done) | (simp [go_sem, frozen?_alloc_cells, *]; done) | fail); have y43 : w4.frozen? ⟨w.heap.size + 1, 1, none⟩ = false := frozen_on hb4 (v := .int .u64 0) (by first | (simp [go_sem, *]; done) | (simp [go_sem, World.cell?_alloc_some, *]; done) | fail) (by first | (simp [go_sem, *]; done) | (simp [go_sem, frozen?_alloc_cells, *]; done) | fail)))
    all_goals
      go_wp2_with fail
      refine bodyPost_ret (v := .tuple #[Wv (told (sd (ng a) t)), .int .i64 (over (sd (ng a) t))]) (by simp [results, Try.results87, go_sem, *]) rfl ⟨by rw [r.out], ?_⟩
      have hs4 : w.heap.size + 1 < w4.heap.size := World.block_lt_of_cell? _ _ e42
      have hs3 : w.heap.size + 1 < w3.heap.size := World.block_lt_of_cell? _ _ e32
      have hs1 : w.heap.size + 1 < w1.heap.size := World.block_lt_of_cell? _ _ e12
      repeat (first | exact Below.refl _ _ | assumption | apply Below.drew | refine Below.setCell ?_ (by first | omega | (simp; done) | (simp; omega)) _ | refine Below.alloc ?_ (by first | omega | (simp; done) | (simp; omega)) _ | refine Below.trans ?_ (hb4.mono (by first | omega | (simp; done) | (simp; omega))) | refine Below.trans ?_ (hb3.mono (by first | omega | (simp; done) | (simp; omega))) | refine Below.trans ?_ (hb1.mono (by first | omega | (simp; done) | (simp; omega))))

set_option maxHeartbeats 4000000 in
/-- wide.Mul -/
theorem mul_any (a b : Int) (w : World) (a0 : -9223372036854775808 ≤ a) (a1 : a ≤ 9223372036854775807) (b0 : -9223372036854775808 ≤ b) (b1 : b ≤ 9223372036854775807) :
    Calls Try.prog 86 #[.int .i64 a, .int .i64 b] w fun e w' => e = .returned (Wv (a * b)) ∧ w.alloc (.cells #[.int .i64 (hi (a * b)), .int .u64 (lo (a * b))] 89) = w' := by
  obtain ⟨x, hx⟩ := Int.eq_ofNat_of_zero_le (u64_nn a)
  obtain ⟨y, hy⟩ := Int.eq_ofNat_of_zero_le (u64_nn b)
  have x1 : x < 18446744073709551616 := by have := u64_lt a; omega
  have y1 : y < 18446744073709551616 := by have := u64_lt b; omega
  have MC := Lib.hid (fun W : World => Try.bits_Mul64 x y x1 y1 W)
  obtain ⟨k1, k2⟩ := mul_halves a0 a1 b0 b1 (X := ((x * y : Nat) : Int)) (by rw [hx, hy, Int.natCast_mul])
  unfold mh at k1
  rw [hx, hy] at k1
  push_cast at k1 k2
  clear x1 y1 a0 a1 b0 b1
  generalize a * b = t at *
  by_cases ga : a < 0 <;> by_cases gb : b < 0
  all_goals
    have k3 := k1
    simp only [ga, gb, if_true, if_false] at k3
    have K := Lib.hid (And.intro k3 k2)
    clear k1 k2 k3
    go_enter Try.func86, Try.ntmps86
    go_wp2_with (go_at_call 110; (with_reducible refine (MC.out _).mono ?_); rintro e w' ⟨rfl, rfl⟩)
    have K1 := K.out.1
    have K2 := K.out.2
    refine bodyPost_ret (v := Wv t) (by simp [results, Try.results86, go_sem, K1, K2]) rfl ⟨rfl, ?_⟩
    simp [K1, K2]

theorem rd72 : rd 7 2 = 4 := by decide
end Go.Proofs.Ytlidkeabadioeaa
namespace Go.Proofs.Ytlidkeabadioeaa
open Go.RowKit

theorem isS_no {a : Int} (h : isS a = false) : ¬ (-9223372036854775808 ≤ a ∧ a ≤ 9223372036854775807) := by unfold isS at h; exact of_decide_eq_false h
set_option maxHeartbeats 2000000 in
/-- fx.nearest, by 0 -/
theorem near_zero (n d : Int) (w : World) (h0 : d = 0) : Calls Try.prog 88 #[Wv n, Wv d] w fun e w' => e = .returned (.tuple #[.int .i64 0, .int .i64 4]) ∧ Below w.heap.size w w' := by
  have RC := Lib.hid (fun W : World => round_zero n d W h0)
  clear h0
  go_enter Try.func88, Try.ntmps88
  go_wp2_with (go_at_call 115; (with_reducible refine (RC.out _).mono ?_); rintro e w1 ⟨rfl, hb1⟩; have e10 : w1.cell? ⟨w.heap.size, 0, none⟩ = some (.int .i64 (hi n)) := cell_on hb1 (by first | (simp [go_sem, *]; done) | (simp [go_sem, World.cell?_alloc_some, *]; done) | fail); have e11 : w1.cell? ⟨w.heap.size, 1, none⟩ = some (.int .u64 (lo n)) := cell_on hb1 (by first | (simp [go_sem, *]; done) | (simp [go_sem, World.cell?_alloc_some, *]; done) | fail); have e12 : w1.cell? ⟨w.heap.size + 1, 0, none⟩ = some (.int .i64 (hi d)) := cell_on hb1 (by first | (simp [go_sem, *]; done) | (simp [go_sem, World.cell?_alloc_some, *]; done) | fail); have e13 : w1.cell? ⟨w.heap.size + 1, 1, none⟩ = some (.int .u64 (lo d)) := cell_on hb1 (by first | (simp [go_sem, *]; done) | (simp [go_sem, World.cell?_alloc_some, *]; done) | fail); have s10 : w.heap.size < w1.heap.size := World.block_lt_of_cell? _ _ e10; have t10 : w.heap.size < w1.heap.size + 1 := Nat.lt_succ_of_lt s10; have s12 : w.heap.size + 1 < w1.heap.size := World.block_lt_of_cell? _ _ e12; have t12 : w.heap.size + 1 < w1.heap.size + 1 := Nat.lt_succ_of_lt s12)
  go_ret2
  refine ⟨rfl, ?_⟩
  repeat (first | exact Below.refl _ _ | assumption | apply Below.drew | refine Below.setCell ?_ (by first | omega | (simp; done) | (simp; omega)) _ | refine Below.alloc ?_ (by first | omega | (simp; done) | (simp; omega)) _ | refine Below.trans ?_ (hb1.mono (by first | omega | (simp; done) | (simp; omega))))
set_option maxHeartbeats 2000000 in
/-- fx.nearest -/
theorem near_any (n d : Int) (w : World) (hn : R n) (hd : R d) (h0 : d ≠ 0) : Calls Try.prog 88 #[Wv n, Wv d] w fun e w' => e = .returned (.tuple #[.int .i64 (tw (rd n d)), .int .i64 (te (rd n d))]) ∧ Below w.heap.size w w' := by
  have RC := fun W : World => round_any n d W hn hd h0
  by_cases r : R (rd n d)
  · rw [told_in r, over_in r] at RC
    have RC := Lib.hid RC
    generalize rd n d = q at *
    clear hn hd h0 r
    cases g : isS q with
    | true =>
      have SC := fun W : World => small_any q W
      rw [g, show sm q = q from if_pos g] at SC
      have SC := Lib.hid SC
      have TC := Lib.hid (fun W : World => told_any q W)
      clear g
      go_enter Try.func88, Try.ntmps88
      go_wp2_with (first | (go_at_call 115; (with_reducible refine (RC.out _).mono ?_); rintro e w1 ⟨rfl, hb1⟩; have e10 : w1.cell? ⟨w.heap.size, 0, none⟩ = some (.int .i64 (hi n)) := cell_on hb1 (by first | (simp [go_sem, *]; done) | (simp [go_sem, World.cell?_alloc_some, *]; done) | fail); have e11 : w1.cell? ⟨w.heap.size, 1, none⟩ = some (.int .u64 (lo n)) := cell_on hb1 (by first | (simp [go_sem, *]; done) | (simp [go_sem, World.cell?_alloc_some, *]; done) | fail); have e12 : w1.cell? ⟨w.heap.size + 1, 0, none⟩ = some (.int .i64 (hi d)) := cell_on hb1 (by first | (simp [go_sem, *]; done) | (simp [go_sem, World.cell?_alloc_some, *]; done) | fail); have e13 : w1.cell? ⟨w.heap.size + 1, 1, none⟩ = some (.int .u64 (lo d)) := cell_on hb1 (by first | (simp [go_sem, *]; done) | (simp [go_sem, World.cell?_alloc_some, *]; done) | fail); have s10 : w.heap.size < w1.heap.size := World.block_lt_of_cell? _ _ e10; have t10 : w.heap.size < w1.heap.size + 1 := Nat.lt_succ_of_lt s10; have s12 : w.heap.size + 1 < w1.heap.size := World.block_lt_of_cell? _ _ e12; have t12 : w.heap.size + 1 < w1.heap.size + 1 := Nat.lt_succ_of_lt s12) | (go_at_call 116; (with_reducible refine (SC.out _).mono ?_); rintro e w2 ⟨rfl, hb2⟩; have e20 : w2.cell? ⟨w.heap.size, 0, none⟩ = some (.int .i64 (hi n)) := cell_on hb2 (by first | (simp [go_sem, *]; done) | (simp [go_sem, World.cell?_alloc_some, *]; done) | fail); have e21 : w2.cell? ⟨w.heap.size, 1, none⟩ = some (.int .u64 (lo n)) := cell_on hb2 (by first | (simp [go_sem, *]; done) | (simp [go_sem, World.cell?_alloc_some, *]; done) | fail); have e22 : w2.cell? ⟨w.heap.size + 1, 0, none⟩ = some (.int .i64 (hi d)) := cell_on hb2 (by first | (simp [go_sem, *]; done) | (simp [go_sem, World.cell?_alloc_some, *]; done) | fail); have e23 : w2.cell? ⟨w.heap.size + 1, 1, none⟩ = some (.int .u64 (lo d)) := cell_on hb2 (by first | (simp [go_sem, *]; done) | (simp [go_sem, World.cell?_alloc_some, *]; done) | fail); have s20 : w.heap.size < w2.heap.size := World.block_lt_of_cell? _ _ e20; have t20 : w.heap.size < w2.heap.size + 1 := Nat.lt_succ_of_lt s20; have s22 : w.heap.size + 1 < w2.heap.size := World.block_lt_of_cell? _ _ e22; have t22 : w.heap.size + 1 < w2.heap.size + 1 := Nat.lt_succ_of_lt s22) | (go_at_call 117; (with_reducible refine (TC.out _).mono ?_); rintro e w' ⟨rfl, rfl⟩))
      go_ret2
      refine ⟨rfl, ?_⟩
      repeat (first | exact Below.refl _ _ | assumption | apply Below.drew | refine Below.setCell ?_ (by first | omega | (simp; done) | (simp; omega)) _ | refine Below.alloc ?_ (by first | omega | (simp; done) | (simp; omega)) _ | refine Below.trans ?_ (hb2.mono (by first | omega | (simp; done) | (simp; omega))) | refine Below.trans ?_ (hb1.mono (by first | omega | (simp; done) | (simp; omega))))
    | false =>
      have SC := fun W : World => small_any q W
      rw [g, show sm q = 0 from if_neg (by simp [g])] at SC
      have SC := Lib.hid SC
      have gw : wd q = false := by
        have := isS_no g
        unfold wd; simp only [decide_eq_false_iff_not]; omega
      have H := Lib.hid (And.intro (tw_out gw) (te_out gw))
      clear g gw
      go_enter Try.func88, Try.ntmps88
      go_wp2_with (first | (go_at_call 115; (with_reducible refine (RC.out _).mono ?_); rintro e w1 ⟨rfl, hb1⟩; have e10 : w1.cell? ⟨w.heap.size, 0, none⟩ = some (.int .i64 (hi n)) := cell_on hb1 (by first | (simp [go_sem, *]; done) | (simp [go_sem, World.cell?_alloc_some, *]; done) | fail); have e11 : w1.cell? ⟨w.heap.size, 1, none⟩ = some (.int .u64 (lo n)) := cell_on hb1 (by first | (simp [go_sem, *]; done) | (simp [go_sem, World.cell?_alloc_some, *]; done) | fail); have e12 : w1.cell? ⟨w.heap.size + 1, 0, none⟩ = some (.int .i64 (hi d)) := cell_on hb1 (by first | (simp [go_sem, *]; done) | (simp [go_sem, World.cell?_alloc_some, *]; done) | fail); have e13 : w1.cell? ⟨w.heap.size + 1, 1, none⟩ = some (.int .u64 (lo d)) := cell_on hb1 (by first | (simp [go_sem, *]; done) | (simp [go_sem, World.cell?_alloc_some, *]; done) | fail); have s10 : w.heap.size < w1.heap.size := World.block_lt_of_cell? _ _ e10; have t10 : w.heap.size < w1.heap.size + 1 := Nat.lt_succ_of_lt s10; have s12 : w.heap.size + 1 < w1.heap.size := World.block_lt_of_cell? _ _ e12; have t12 : w.heap.size + 1 < w1.heap.size + 1 := Nat.lt_succ_of_lt s12) | (go_at_call 116; (with_reducible refine (SC.out _).mono ?_); rintro e w2 ⟨rfl, hb2⟩; have e20 : w2.cell? ⟨w.heap.size, 0, none⟩ = some (.int .i64 (hi n)) := cell_on hb2 (by first | (simp [go_sem, *]; done) | (simp [go_sem, World.cell?_alloc_some, *]; done) | fail); have e21 : w2.cell? ⟨w.heap.size, 1, none⟩ = some (.int .u64 (lo n)) := cell_on hb2 (by first | (simp [go_sem, *]; done) | (simp [go_sem, World.cell?_alloc_some, *]; done) | fail); have e22 : w2.cell? ⟨w.heap.size + 1, 0, none⟩ = some (.int .i64 (hi d)) := cell_on hb2 (by first | (simp [go_sem, *]; done) | (simp [go_sem, World.cell?_alloc_some, *]; done) | fail); have e23 : w2.cell? ⟨w.heap.size + 1, 1, none⟩ = some (.int .u64 (lo d)) := cell_on hb2 (by first | (simp [go_sem, *]; done) | (simp [go_sem, World.cell?_alloc_some, *]; done) | fail); have s20 : w.heap.size < w2.heap.size := World.block_lt_of_cell? _ _ e20; have t20 : w.heap.size < w2.heap.size + 1 := Nat.lt_succ_of_lt s20; have s22 : w.heap.size + 1 < w2.heap.size := World.block_lt_of_cell? _ _ e22; have t22 : w.heap.size + 1 < w2.heap.size + 1 := Nat.lt_succ_of_lt s22) | (go_at_call 117; (with_reducible refine (TC.out _).mono ?_); rintro e w' ⟨rfl, rfl⟩))
      go_ret2
      refine ⟨by rw [H.out.1, H.out.2] <;> rfl, ?_⟩
      repeat (first | exact Below.refl _ _ | assumption | apply Below.drew | refine Below.setCell ?_ (by first | omega | (simp; done) | (simp; omega)) _ | refine Below.alloc ?_ (by first | omega | (simp; done) | (simp; omega)) _ | refine Below.trans ?_ (hb2.mono (by first | omega | (simp; done) | (simp; omega))) | refine Below.trans ?_ (hb1.mono (by first | omega | (simp; done) | (simp; omega))))
  · have gw : wd (rd n d) = false := by
      rw [R_iff] at r
      unfold wd; simp only [decide_eq_false_iff_not]; omega
    have H := Lib.hid (And.intro (tw_out gw) (te_out gw))
    rw [told_out r, over_out r] at RC
    have RC := Lib.hid RC
    clear hn hd h0 r gw
    generalize rd n d = q at *
    go_enter Try.func88, Try.ntmps88
    go_wp2_with (first | (go_at_call 115; (with_reducible refine (RC.out _).mono ?_); rintro e w1 ⟨rfl, hb1⟩; have e10 : w1.cell? ⟨w.heap.size, 0, none⟩ = some (.int .i64 (hi n)) := cell_on hb1 (by first | (simp [go_sem, *]; done) | (simp [go_sem, World.cell?_alloc_some, *]; done) | fail); have e11 : w1.cell? ⟨w.heap.size, 1, none⟩ = some (.int .u64 (lo n)) := cell_on hb1 (by first | (simp [go_sem, *]; done) | (simp [go_sem, World.cell?_alloc_some, *]; done) | fail); have e12 : w1.cell? ⟨w.heap.size + 1, 0, none⟩ = some (.int .i64 (hi d)) := cell_on hb1 (by first | (simp [go_sem, *]; done) | (simp [go_sem, World.cell?_alloc_some, *]; done) | fail); have e13 : w1.cell? ⟨w.heap.size + 1, 1, none⟩ = some (.int .u64 (lo d)) := cell_on hb1 (by first | (simp [go_sem, *]; done) | (simp [go_sem, World.cell?_alloc_some, *]; done) | fail); have s10 : w.heap.size < w1.heap.size := World.block_lt_of_cell? _ _ e10; have t10 : w.heap.size < w1.heap.size + 1 := Nat.lt_succ_of_lt s10; have s12 : w.heap.size + 1 < w1.heap.size := World.block_lt_of_cell? _ _ e12; have t12 : w.heap.size + 1 < w1.heap.size + 1 := Nat.lt_succ_of_lt s12) | (go_at_call 116; (with_reducible refine (SC.out _).mono ?_); rintro e w2 ⟨rfl, hb2⟩; have e20 : w2.cell? ⟨w.heap.size, 0, none⟩ = some (.int .i64 (hi n)) := cell_on hb2 (by first | (simp [go_sem, *]; done) | (simp [go_sem, World.cell?_alloc_some, *]; done) | fail); have e21 : w2.cell? ⟨w.heap.size, 1, none⟩ = some (.int .u64 (lo n)) := cell_on hb2 (by first | (simp [go_sem, *]; done) | (simp [go_sem, World.cell?_alloc_some, *]; done) | fail); have e22 : w2.cell? ⟨w.heap.size + 1, 0, none⟩ = some (.int .i64 (hi d)) := cell_on hb2 (by first | (simp [go_sem, *]; done) | (simp [go_sem, World.cell?_alloc_some, *]; done) | fail); have e23 : w2.cell? ⟨w.heap.size + 1, 1, none⟩ = some (.int .u64 (lo d)) := cell_on hb2 (by first | (simp [go_sem, *]; done) | (simp [go_sem, World.cell?_alloc_some, *]; done) | fail); have s20 : w.heap.size < w2.heap.size := World.block_lt_of_cell? _ _ e20; have t20 : w.heap.size < w2.heap.size + 1 := Nat.lt_succ_of_lt s20; have s22 : w.heap.size + 1 < w2.heap.size := World.block_lt_of_cell? _ _ e22; have t22 : w.heap.size + 1 < w2.heap.size + 1 := Nat.lt_succ_of_lt s22) | (go_at_call 117; (with_reducible refine (TC.out _).mono ?_); rintro e w' ⟨rfl, rfl⟩))
    go_ret2
    refine ⟨by rw [H.out.1, H.out.2] <;> rfl, ?_⟩
    repeat (first | exact Below.refl _ _ | assumption | apply Below.drew | refine Below.setCell ?_ (by first | omega | (simp; done) | (simp; omega)) _ | refine Below.alloc ?_ (by first | omega | (simp; done) | (simp; omega)) _ | refine Below.trans ?_ (hb1.mono (by first | omega | (simp; done) | (simp; omega))))
end Go.Proofs.Ytlidkeabadioeaa
namespace Go.Proofs.Ytlidkeabadioeaa
open Go.RowKit










end Go.Proofs.Ytlidkeabadioeaa
namespace Go.Proofs.Ytlidkeabadioeaa
open Go.RowKit

/-- An element: two words (or not), fraction bits (or not), two numbers, a wide one, a count. -/
structure Fl where
  a : Int
  b : Int
  f : Int
  n : Int
  d : Int
  v : Int
  k : Int
def Fl.ok (e : Fl) : Prop := (-9223372036854775808 ≤ e.a ∧ e.a ≤ 9223372036854775807) ∧ (-9223372036854775808 ≤ e.b ∧ e.b ≤ 9223372036854775807) ∧ (-9223372036854775808 ≤ e.f ∧ e.f ≤ 9223372036854775807) ∧ (-9223372036854775808 ≤ e.n ∧ e.n ≤ 9223372036854775807) ∧ (-9223372036854775808 ≤ e.d ∧ e.d ≤ 9223372036854775807) ∧ R e.v ∧ (-9223372036854775808 ≤ e.k ∧ e.k ≤ 9223372036854775807)
/-- Its eight cells. -/
def FlAt (w : World) (b o : Nat) (e : Fl) : Prop :=
  w.cell? ⟨b, o, none⟩ = some (.int .i64 e.a) ∧ w.cell? ⟨b, o + 1, none⟩ = some (.int .i64 e.b) ∧ w.cell? ⟨b, o + 2, none⟩ = some (.int .i64 e.f) ∧ w.cell? ⟨b, o + 3, none⟩ = some (.int .i64 e.n) ∧ w.cell? ⟨b, o + 4, none⟩ = some (.int .i64 e.d) ∧ w.cell? ⟨b, o + 5, none⟩ = some (.int .i64 (hi e.v)) ∧ w.cell? ⟨b, o + 6, none⟩ = some (.int .u64 (lo e.v)) ∧ w.cell? ⟨b, o + 7, none⟩ = some (.int .i64 e.k)
theorem FlAt.below {w w' : World} {B b o : Nat} {e : Fl} (h : FlAt w b o e) (hb : Below B w w') (hB : b < B) : FlAt w' b o e := by
  obtain ⟨h1, h2, h3, h4, h5, h6, h7, h8⟩ := h
  exact ⟨(hb.cell (p := ⟨b, o, none⟩) hB).trans h1, (hb.cell (p := ⟨b, o + 1, none⟩) hB).trans h2, (hb.cell (p := ⟨b, o + 2, none⟩) hB).trans h3, (hb.cell (p := ⟨b, o + 3, none⟩) hB).trans h4, (hb.cell (p := ⟨b, o + 4, none⟩) hB).trans h5, (hb.cell (p := ⟨b, o + 5, none⟩) hB).trans h6, (hb.cell (p := ⟨b, o + 6, none⟩) hB).trans h7, (hb.cell (p := ⟨b, o + 7, none⟩) hB).trans h8⟩
end Go.Proofs.Ytlidkeabadioeaa
namespace Go.Proofs.Ytlidkeabadioeaa
open Go.RowKit

theorem may_any (v : Int) (w : World) : Calls Try.prog 74 #[.int .i64 v] w fun e w' => e = .returned (.bool (wd v)) ∧ w = w' := by
  cases g : wd v with
  | true =>
    obtain ⟨g1, g2⟩ := wd_bd g
    clear g
    go_enter Try.func74, Try.ntmps74
    go_wp2
    go_ret
    exact ⟨rfl, rfl⟩
  | false =>
    have h := wd_no g
    clear g
    by_cases g1 : v ≤ -140737488355328
    · clear h
      go_enter Try.func74, Try.ntmps74
      go_wp2
      go_ret
      exact ⟨rfl, rfl⟩
    · have g2 : ¬ v < 140737488355328 := by omega
      have g3 : -140737488355328 < v := by omega
      clear h g1
      go_enter Try.func74, Try.ntmps74
      go_wp2
      go_ret
      exact ⟨rfl, rfl⟩
end Go.Proofs.Ytlidkeabadioeaa
namespace Go.Proofs.Ytlidkeabadioeaa
open Go.RowKit

theorem R_pow {n : Nat} (h : n ≤ 126) : R (2 ^ n) := by
  have : (2 : Int) ^ n ≤ 2 ^ 126 := by have := Nat.pow_le_pow_right (show 0 < 2 by decide) h; exact_mod_cast this
  have : (0 : Int) < 2 ^ n := Int.pow_pos (by decide)
  rw [R_iff]
  omega
theorem R_prod {a b : Int} (a0 : -9223372036854775808 ≤ a) (a1 : a ≤ 9223372036854775807) (b0 : -9223372036854775808 ≤ b) (b1 : b ≤ 9223372036854775807) : R (a * b) := by
  have h : (a * b).natAbs ≤ 9223372036854775808 * 9223372036854775808 := by
    rw [Int.natAbs_mul]
    exact Nat.mul_le_mul (by omega) (by omega)
  generalize a * b = x at *
  rw [R_iff]
  omega
theorem pow_ne (n : Nat) : (2 : Int) ^ n ≠ 0 := by have : (0 : Int) < 2 ^ n := Int.pow_pos (by decide); omega
set_option maxRecDepth 100000 in
set_option maxHeartbeats 2000000 in
/-- fx.Close -/
theorem close_any (a : Int) (n : Nat) (w : World) (ha : R a) (h1 : n ≤ 126) : Calls Try.prog 51 #[Wv a, .int .i64 n] w fun e w' => e = .returned (.tuple #[.int .i64 (tw (rd a (2 ^ n))), .int .i64 (te (rd a (2 ^ n)))]) ∧ Below w.heap.size w w' := by
  have LC := fun W : World => shl_any 1 n W (by decide) h1
  have NC := Lib.hid (fun W : World => near_any a (2 ^ n) W ha (R_pow h1) (pow_ne n))
  rw [Int.one_mul, told_in (R_pow h1), over_in (R_pow h1)] at LC
  have LC := Lib.hid LC
  have F1 := Lib.hid (fun W : World => from_at 1 W (by decide) (by decide))
  clear ha h1
  generalize tw (rd a (2 ^ n)) = q at *
  generalize te (rd a (2 ^ n)) = g at *
  generalize (2 : Int) ^ n = t at *
  go_enter Try.func51, Try.ntmps51
  go_wp2_with (first | (go_at_call 64; (with_reducible refine (F1.out _).mono ?_); rintro e w' ⟨rfl, rfl⟩) | (go_at_call 87; (with_reducible refine (LC.out _).mono ?_); rintro e w1 ⟨rfl, hb1⟩; have e10 : w1.cell? ⟨w.heap.size, 0, none⟩ = some (.int .i64 (hi a)) := cell_on hb1 (by first | (simp [go_sem, *]; done) | (simp [go_sem, World.cell?_alloc_some, *]; done) | fail); have e11 : w1.cell? ⟨w.heap.size, 1, none⟩ = some (.int .u64 (lo a)) := cell_on hb1 (by first | (simp [go_sem, *]; done) | (simp [go_sem, World.cell?_alloc_some, *]; done) | fail); have s10 : w.heap.size < w1.heap.size := World.block_lt_of_cell? _ _ e10; have t10 : w.heap.size < w1.heap.size + 1 := Nat.lt_succ_of_lt s10) | (go_at_call 88; (with_reducible refine (NC.out _).mono ?_); rintro e w2 ⟨rfl, hb2⟩; have e20 : w2.cell? ⟨w.heap.size, 0, none⟩ = some (.int .i64 (hi a)) := cell_on hb2 (by first | (simp [go_sem, *]; done) | (simp [go_sem, World.cell?_alloc_some, *]; done) | fail); have e21 : w2.cell? ⟨w.heap.size, 1, none⟩ = some (.int .u64 (lo a)) := cell_on hb2 (by first | (simp [go_sem, *]; done) | (simp [go_sem, World.cell?_alloc_some, *]; done) | fail); have s20 : w.heap.size < w2.heap.size := World.block_lt_of_cell? _ _ e20; have t20 : w.heap.size < w2.heap.size + 1 := Nat.lt_succ_of_lt s20))
  go_ret2
  refine ⟨rfl, ?_⟩
  repeat (first | exact Below.refl _ _ | assumption | apply Below.drew | refine Below.setCell ?_ (by first | omega | (simp; done) | (simp; omega)) _ | refine Below.alloc ?_ (by first | omega | (simp; done) | (simp; omega)) _ | refine Below.trans ?_ (hb2.mono (by first | omega | (simp; done) | (simp; omega))) | refine Below.trans ?_ (hb1.mono (by first | omega | (simp; done) | (simp; omega))))
set_option maxRecDepth 100000 in
set_option maxHeartbeats 2000000 in
theorem close_form (a n : Int) (w : World) (h : n < 0 ∨ 126 < n) : Calls Try.prog 51 #[Wv a, .int .i64 n] w fun e w' => e = .returned (.tuple #[.int .i64 (0), .int .i64 (1)]) ∧ Below w.heap.size w w' := by
  have LC := Lib.hid (fun W : World => left_form 1 n W h)
  have F1 := Lib.hid (fun W : World => from_at 1 W (by decide) (by decide))
  clear h
  go_enter Try.func51, Try.ntmps51
  go_wp2_with (first | (go_at_call 64; (with_reducible refine (F1.out _).mono ?_); rintro e w' ⟨rfl, rfl⟩) | (go_at_call 87; (with_reducible refine (LC.out _).mono ?_); rintro e w1 ⟨rfl, hb1⟩; have e10 : w1.cell? ⟨w.heap.size, 0, none⟩ = some (.int .i64 (hi a)) := cell_on hb1 (by first | (simp [go_sem, *]; done) | (simp [go_sem, World.cell?_alloc_some, *]; done) | fail); have e11 : w1.cell? ⟨w.heap.size, 1, none⟩ = some (.int .u64 (lo a)) := cell_on hb1 (by first | (simp [go_sem, *]; done) | (simp [go_sem, World.cell?_alloc_some, *]; done) | fail); have s10 : w.heap.size < w1.heap.size := World.block_lt_of_cell? _ _ e10; have t10 : w.heap.size < w1.heap.size + 1 := Nat.lt_succ_of_lt s10))
  go_ret2
  refine ⟨rfl, ?_⟩
  repeat (first | exact Below.refl _ _ | assumption | apply Below.drew | refine Below.setCell ?_ (by first | omega | (simp; done) | (simp; omega)) _ | refine Below.alloc ?_ (by first | omega | (simp; done) | (simp; omega)) _ | refine Below.trans ?_ (hb1.mono (by first | omega | (simp; done) | (simp; omega))))
theorem rd384 : rd (384 * 384) (2 ^ 8) = 576 := by decide
end Go.Proofs.Ytlidkeabadioeaa
namespace Go.Proofs.Ytlidkeabadioeaa
open Go.RowKit

theorem up_rest {n d : Int} (hd : 0 < d) (h : up n d = true) : ab n % ab d ≠ 0 := by
  intro e
  have dp : 0 < ab d := by unfold ab; omega
  unfold up at h
  rw [e, Int.mul_zero, sg_lt dp] at h
  simp at h
theorem quo_small {n d : Int} (hd : 0 < d) : 0 ≤ ab n / ab d ∧ ab n / ab d ≤ ab n ∧ (ab n % ab d ≠ 0 → ab n / ab d + 1 ≤ ab n) := by
  have dp : 0 < ab d := by unfold ab; omega
  have n0 : 0 ≤ ab n := by unfold ab; omega
  have q0 : 0 ≤ ab n / ab d := Int.ediv_nonneg n0 (by omega)
  refine ⟨q0, Int.ediv_le_self _ n0, fun hr => ?_⟩
  have r0 := Int.emod_nonneg (ab n) (show ab d ≠ 0 by omega)
  have e := Int.mul_ediv_add_emod (ab n) (ab d)
  have : 1 * (ab n / ab d) ≤ ab d * (ab n / ab d) := Int.mul_le_mul_of_nonneg_right (by omega) q0
  omega
theorem downs_math {n d : Int} (hn : R n) (hd : 0 < d) : R (dn n d) ∧ R (rd n d) ∧ R (rd n d - dn n d) ∧ 0 ≤ rd n d - dn n d ∧ rd n d - dn n d ≤ 1 := by
  obtain ⟨q0, q1, q2⟩ := quo_small (n := n) hd
  have hb := ab_bd hn
  have hu := up_rest (n := n) hd
  have ed : ng d = false := by unfold ng; exact decide_eq_false (by omega)
  have en : ng n = decide (n < 0) := rfl
  rw [R_iff] at hn
  simp only [R_iff]
  unfold dn rd sd
  rw [ed, en]
  generalize up n d = u at *
  have ea : n < 0 → ab n = -n := by intro h; unfold ab; omega
  have eb : ¬ n < 0 → ab n = n := by intro h; unfold ab; omega
  generalize ab n / ab d = q at *
  generalize ab n % ab d = r at *
  by_cases h : n < 0 <;> by_cases hr : r = 0 <;> cases u <;> simp [h, hr] at hu ea eb q2 ⊢ <;> omega
end Go.Proofs.Ytlidkeabadioeaa
namespace Go.Proofs.Ytlidkeabadioeaa
open Go.RowKit

theorem sd_mul (n d k : Int) : n - sd (ng n != ng d) k * d = sd (ng n) (ab n - ab d * k) := by
  have en : n = sd (ng n) (ab n) := by unfold sd ng ab; by_cases h : n < 0 <;> simp [h] <;> omega
  have ed : d = sd (ng d) (ab d) := by unfold sd ng ab; by_cases h : d < 0 <;> simp [h] <;> omega
  generalize ng n = s at *
  generalize ng d = t at *
  generalize ab n = A at *
  generalize ab d = D at *
  subst en
  subst ed
  cases s <;> cases t <;> simp [sd, Int.mul_comm D k, Int.neg_mul, Int.mul_neg] <;> omega
theorem up_cases (n d : Int) : (up n d = true ∧ (ab d < 2 * (ab n % ab d) ∨ (2 * (ab n % ab d) = ab d ∧ ab n / ab d % 2 = 1))) ∨ (up n d = false ∧ (2 * (ab n % ab d) < ab d ∨ (2 * (ab n % ab d) = ab d ∧ ab n / ab d % 2 ≠ 1))) := by
  unfold up
  generalize 2 * (ab n % ab d) = r
  generalize ab n / ab d = q
  generalize ab d = D
  rcases Int.lt_trichotomy r D with h | h | h
  · rw [sg_lt h]; simp; omega
  · rw [h, sg_eq]
    by_cases hq : q % 2 = 1
    · simp [hq]
    · simp [hq]
  · have e : sg r D = 1 := by unfold sg; rw [if_neg (by omega), if_pos h]
    rw [e]; simp; omega
theorem half_math (n d : Int) (h0 : d ≠ 0) : 2 * ((n - rd n d * d).natAbs : Int) ≤ d.natAbs ∧ (2 * ((n - rd n d * d).natAbs : Int) = d.natAbs → rd n d % 2 = 0) := by
  have dp : 0 < ab d := by unfold ab; omega
  have ed : (d.natAbs : Int) = ab d := rfl
  rw [ed]
  have r0 := Int.emod_nonneg (ab n) (show ab d ≠ 0 by omega)
  have r1 := Int.emod_lt_of_pos (ab n) dp
  have e := Int.mul_ediv_add_emod (ab n) (ab d)
  have en : ∀ s x, (sd s x).natAbs = x.natAbs := fun s x => by cases s <;> simp [sd]
  have e2 : ∀ s x, (sd s x) % 2 = 0 ↔ x % 2 = 0 := fun s x => by cases s <;> simp [sd] <;> omega
  have U := up_cases n d
  unfold rd
  rw [sd_mul, en, e2]
  generalize ab n / ab d = q at *
  generalize ab n % ab d = r at *
  generalize ab n = A at *
  rcases U with ⟨u, h⟩ | ⟨u, h⟩ <;> rw [u] <;> simp only [if_true, if_false, Bool.false_eq_true] <;> (try rw [Int.mul_add, Int.mul_one]) <;> generalize ab d * q = m at * <;> omega
theorem rd_neg (n d : Int) (h0 : d ≠ 0) : rd (-n) d = -rd n d := by
  have ea : ab (-n) = ab n := by unfold ab; omega
  unfold rd up
  rw [ea]
  by_cases h : n = 0
  · subst h
    have z : ab 0 = 0 := rfl
    have dp : 0 < ab d := by unfold ab; omega
    rw [z, Int.zero_ediv, Int.zero_emod, Int.mul_zero, sg_lt dp]
    cases (ng d) <;> simp [sd]
  · have en : ng (-n) = !ng n := by unfold ng; by_cases k : n < 0 <;> simp [k] <;> omega
    rw [en]
    generalize ng n = s
    generalize ng d = t
    cases s <;> cases t <;> simp [sd]
end Go.Proofs.Ytlidkeabadioeaa
namespace Go.Proofs.Ytlidkeabadioeaa
open Go.RowKit

/-- s is the root of n, rounded down. -/
def Rt (n s : Int) : Prop := 0 ≤ s ∧ s * s ≤ n ∧ n < (s + 1) * (s + 1)
/-- r is the nearest whole number to half the root of x. -/
def Nr (x r : Int) : Prop := 0 ≤ r ∧ x ≤ (2 * r + 1) * (2 * r + 1) ∧ (r ≠ 0 → (2 * r - 1) * (2 * r - 1) < x)
/-- g is no guess below n's root. -/
def Gs (n g : Int) : Prop := 0 ≤ g ∧ g ≤ 1125899906842624 ∧ n < (g + 1) * (g + 1)
/-- The guess behind g. -/
def nx (n g : Int) : Int := (g + (if g = 0 then 0 else n / g)) / 2

theorem sq_mono {a b : Int} (h0 : 0 ≤ a) (h : a ≤ b) : a * a ≤ b * b := Int.mul_le_mul h h h0 (by omega)
theorem sq_lt {a b : Int} (h0 : 0 ≤ b) (h : a * a < b * b) : a < b := by
  rcases Int.lt_or_le a b with g | g
  · exact g
  · have := sq_mono h0 g; omega
theorem sq_succ (a : Int) : (a + 1) * (a + 1) = a * a + 2 * a + 1 := by rw [Int.add_mul, Int.mul_add]; omega
theorem am_gm {a b c : Int} (ha : 0 ≤ a) (h : a + b ≤ 2 * c) : a * b ≤ c * c := by
  have h1 : a * b ≤ a * (2 * c - a) := Int.mul_le_mul_of_nonneg_left (by omega) ha
  have h2 : 0 ≤ (c - a) * (c - a) := by
    rcases Int.le_total 0 (c - a) with g | g
    · exact Int.mul_nonneg g g
    · exact Int.mul_nonneg_of_nonpos_of_nonpos g g
  have e1 : a * (2 * c - a) = 2 * (a * c) - a * a := by rw [Int.mul_sub, Int.mul_left_comm]
  have e2 : (c - a) * (c - a) = c * c - 2 * (a * c) + a * a := by
    rw [Int.sub_mul, Int.mul_sub, Int.mul_sub, Int.mul_comm c a]; omega
  omega
theorem quo_le {n g : Int} (hn : 0 ≤ n) (h0 : 0 < g) (h : n < (g + 1) * (g + 1)) : 0 ≤ n / g ∧ n / g ≤ g + 2 := by
  refine ⟨Int.ediv_nonneg hn (by omega), ?_⟩
  rw [sq_succ] at h
  refine Int.le_of_lt_add_one ((Int.ediv_lt_iff_lt_mul h0).mpr ?_)
  have : (g + 2 + 1) * g = g * g + 3 * g := by rw [Int.add_mul, Int.add_mul]; omega
  omega
theorem nx_gs {n g : Int} (hn : 0 ≤ n) (h : Gs n g) (k : nx n g < g) : Gs n (nx n g) := by
  obtain ⟨g0, g1, g2⟩ := h
  have gp : g ≠ 0 := by
    rintro rfl
    unfold nx at k
    simp at k
  have q := quo_le hn (show 0 < g by omega) g2
  have e : nx n g = (g + n / g) / 2 := by unfold nx; rw [if_neg gp]
  rw [e] at k ⊢
  have d := Int.mul_ediv_add_emod n g
  have r1 := Int.emod_lt_of_pos n (show 0 < g by omega)
  have a := am_gm (a := g) (b := n / g + 1) (c := (g + n / g) / 2 + 1) g0 (by omega)
  rw [Int.mul_add] at a
  exact ⟨by omega, by omega, by omega⟩
theorem nx_end {n g : Int} (hn : 0 ≤ n) (h : Gs n g) (k : ¬ nx n g < g) : Rt n g := by
  obtain ⟨g0, g1, g2⟩ := h
  refine ⟨g0, ?_, g2⟩
  by_cases gp : g = 0
  · subst gp; omega
  · have e : nx n g = (g + n / g) / 2 := by unfold nx; rw [if_neg gp]
    rw [e] at k
    have d := Int.mul_ediv_add_emod n g
    have r0 := Int.emod_nonneg n gp
    have := Int.mul_le_mul_of_nonneg_left (show g ≤ n / g by omega) g0
    omega
theorem nx_bd {n g : Int} (hn : 0 ≤ n) (h : Gs n g) : 0 ≤ nx n g ∧ nx n g ≤ 1125899906842625 ∧ (g ≠ 0 → 0 ≤ n / g ∧ n / g ≤ 1125899906842626) := by
  obtain ⟨g0, g1, g2⟩ := h
  by_cases gp : g = 0
  · subst gp
    unfold nx
    rw [if_pos rfl]
    exact ⟨by decide, by decide, fun h => absurd rfl h⟩
  · have q := quo_le hn (show 0 < g by omega) g2
    unfold nx
    rw [if_neg gp]
    exact ⟨by omega, by omega, fun _ => ⟨q.1, by omega⟩⟩
theorem rt_same {n s t : Int} (h : Rt n s) (k : Rt n t) : s = t := by
  obtain ⟨a, b, c⟩ := h
  obtain ⟨d, e, f⟩ := k
  have := sq_lt (a := s) (b := t + 1) (by omega) (by omega)
  have := sq_lt (a := t) (b := s + 1) (by omega) (by omega)
  omega
/-- The first guess. -/
theorem gs_first {n : Int} (hn : 0 ≤ n) (h : n < 633825300114114700748351602688) : bl n ≤ 99 ∧ Gs n (2 ^ ((bl n + 1) / 2)) := by
  have hU : U n := by rw [U_iff]; omega
  have b : bl n ≤ 99 := by
    refine Lib.bitLenAux_le 128 n.toNat 99 ?_
    have : (2 : Nat) ^ 99 = 633825300114114700748351602688 := by decide
    omega
  refine ⟨b, ?_⟩
  have lt : n < 2 ^ bl n := by
    by_cases h0 : n = 0
    · subst h0; decide
    · exact (bl_bd hU h0).2.2
  have p : (2 : Int) ^ ((bl n + 1) / 2) ≤ 2 ^ 50 := by have := Nat.pow_le_pow_right (show 0 < 2 by decide) (show (bl n + 1) / 2 ≤ 50 by omega); exact_mod_cast this
  have p0 : (0 : Int) < 2 ^ ((bl n + 1) / 2) := Int.pow_pos (by decide)
  have m : (2 : Int) ^ bl n ≤ 2 ^ ((bl n + 1) / 2) * 2 ^ ((bl n + 1) / 2) := by
    rw [← Int.pow_add]
    have := Nat.pow_le_pow_right (show 0 < 2 by decide) (show bl n ≤ (bl n + 1) / 2 + (bl n + 1) / 2 by omega); exact_mod_cast this
  generalize (2 : Int) ^ ((bl n + 1) / 2) = g at *
  refine ⟨by omega, by omega, ?_⟩
  rw [sq_succ]
  omega
/-- The last bit. -/
theorem nr_last {x s : Int} (h : Rt x s) : Nr x (if (2 * (s / 2) + 1) * (2 * (s / 2) + 1) < x then s / 2 + 1 else s / 2) := by
  obtain ⟨s0, s1, s2⟩ := h
  split
  · rename_i g
    have l := sq_mono (a := s + 1) (b := 2 * (s / 2 + 1) + 1) (by omega) (by omega)
    refine ⟨by omega, by omega, fun _ => ?_⟩
    rw [show 2 * (s / 2 + 1) - 1 = 2 * (s / 2) + 1 by omega]
    exact g
  · rename_i g
    refine ⟨by omega, by omega, fun h => ?_⟩
    have a := sq_succ (2 * (s / 2) - 1)
    rw [show 2 * (s / 2) - 1 + 1 = 2 * (s / 2) by omega] at a
    have := sq_mono (a := 2 * (s / 2)) (b := s) (by omega) (by omega)
    omega
theorem nr_same {x r t : Int} (h : Nr x r) (k : Nr x t) : r = t := by
  obtain ⟨a, b, c⟩ := h
  obtain ⟨d, e, f⟩ := k
  rcases Int.lt_trichotomy r t with g | g | g
  · have := f (by omega)
    have := sq_lt (a := 2 * t - 1) (b := 2 * r + 1) (by omega) (by omega)
    omega
  · exact g
  · have := c (by omega)
    have := sq_lt (a := 2 * r - 1) (b := 2 * t + 1) (by omega) (by omega)
    omega
theorem nr_mono {x y r t : Int} (h : Nr x r) (k : Nr y t) (l : x ≤ y) : r ≤ t := by
  obtain ⟨a, b, c⟩ := h
  obtain ⟨d, e, f⟩ := k
  rcases Int.lt_or_le t r with g | g
  · have := c (by omega)
    have := sq_lt (a := 2 * r - 1) (b := 2 * t + 1) (by omega) (by omega)
    omega
  · exact g
theorem nr_top {x r B : Int} (h : Nr x r) (hB : 0 ≤ B) (k : x ≤ (2 * B + 1) * (2 * B + 1)) : r ≤ B := by
  obtain ⟨a, b, c⟩ := h
  rcases Int.lt_or_le B r with g | g
  · have := c (by omega)
    have := sq_lt (a := 2 * r - 1) (b := 2 * B + 1) (by omega) (by omega)
    omega
  · exact g
/-- The root of 4 m^2. -/
theorem nr_square {m : Int} (h : 0 ≤ m) : Nr (4 * (m * m)) m := by
  have a := sq_succ (2 * m)
  have e : (2 * m) * (2 * m) = 4 * (m * m) := by rw [Int.mul_assoc, Int.mul_left_comm m 2 m]; omega
  refine ⟨h, by omega, fun g => ?_⟩
  have b := sq_succ (2 * m - 1)
  rw [show 2 * m - 1 + 1 = 2 * m by omega] at b
  omega
theorem nr_twice {x r t : Int} (h : Nr x r) (k : Nr (4 * x) t) : t - 2 * r ≤ 1 ∧ 2 * r - t ≤ 1 := by
  obtain ⟨a, b, c⟩ := h
  obtain ⟨d, e, f⟩ := k
  have q : ∀ y : Int, (2 * y) * (2 * y) = 4 * (y * y) := fun y => by rw [Int.mul_assoc, Int.mul_left_comm y 2 y]; omega
  constructor
  · by_cases g : t = 0
    · omega
    · have := f g
      have := q (2 * r + 1)
      have := sq_lt (a := 2 * t - 1) (b := 2 * (2 * r + 1)) (by omega) (by omega)
      omega
  · by_cases g : r = 0
    · omega
    · have := c g
      have := q (2 * r - 1)
      have := sq_lt (a := 2 * (2 * r - 1)) (b := 2 * t + 1) (by omega) (by omega)
      omega
theorem floor_is {x D t r : Int} (hD : 0 < D) (h : x = t * D + r) (h0 : 0 ≤ r) (h1 : r < D) : x / D = t := by
  rw [h, Int.add_comm, Int.add_mul_ediv_right _ _ (by omega), Int.ediv_eq_zero_of_lt h0 h1, Int.zero_add]
theorem dn_floor {x D : Int} (hx : 0 ≤ x) (hD : 0 < D) : dn x D = x / D := by
  have eD : ab D = D := by unfold ab; omega
  have ex : ab x = x := by unfold ab; omega
  have nD : ng D = false := by unfold ng; exact decide_eq_false (by omega)
  have nx : ng x = false := by unfold ng; exact decide_eq_false (by omega)
  unfold dn
  rw [eD, ex, nD, nx]
  simp [sd]
/-- n over d, rounded up. -/
def cl (n d : Int) : Int := -dn (-n) d
theorem cl_is {n d : Int} (hn : 0 ≤ n) (hd : 0 < d) : n ≤ cl n d * d ∧ (cl n d - 1) * d < n ∧ 0 ≤ cl n d ∧ cl n d ≤ n := by
  have eD : ab d = d := by unfold ab; omega
  have ex : ab (-n) = n := by unfold ab; omega
  have nD : ng d = false := by unfold ng; exact decide_eq_false (by omega)
  have e := Int.mul_ediv_add_emod n d
  have r0 := Int.emod_nonneg n (show d ≠ 0 by omega)
  have r1 := Int.emod_lt_of_pos n hd
  have q0 : 0 ≤ n / d := Int.ediv_nonneg hn (by omega)
  have q1 : n / d ≤ n := Int.ediv_le_self _ hn
  have v : cl n d = if n % d = 0 then n / d else n / d + 1 := by
    unfold cl dn
    rw [eD, ex, nD]
    by_cases h : n = 0
    · subst h
      have : ng (-0) = false := rfl
      rw [this]
      simp [sd]
    · have : ng (-n) = true := by unfold ng; exact decide_eq_true (by omega)
      rw [this]
      by_cases g : n % d = 0
      · simp [sd, g]
      · simp [sd, g]
  rw [v]
  have m := Int.mul_comm d (n / d)
  split
  · rename_i g
    refine ⟨by omega, ?_, q0, q1⟩
    rw [Int.sub_mul]
    omega
  · rename_i g
    refine ⟨?_, ?_, by omega, ?_⟩
    · rw [Int.add_mul]; omega
    · rw [Int.add_sub_cancel]; omega
    · have : n / d < n ∨ n / d = n := by omega
      rcases this with t | t
      · omega
      · exfalso
        have k := Int.mul_le_mul_of_nonneg_left (show 1 ≤ d by omega) q0
        rw [t] at k m e
        omega
/-- A greater divisor has no greater quotient. -/
theorem cl_mono {n a b : Int} (hn : 0 ≤ n) (ha : 0 < a) (h : a ≤ b) : cl n b ≤ cl n a := by
  have A := cl_is hn ha
  have B := cl_is hn (show 0 < b by omega)
  rcases Int.lt_or_le (cl n a) (cl n b) with g | g
  · have k := Int.mul_le_mul_of_nonneg_right (show cl n a ≤ cl n b - 1 by omega) (show 0 ≤ b by omega)
    have l := Int.mul_le_mul_of_nonneg_left h A.2.2.1
    omega
  · exact g
end Go.Proofs.Ytlidkeabadioeaa
