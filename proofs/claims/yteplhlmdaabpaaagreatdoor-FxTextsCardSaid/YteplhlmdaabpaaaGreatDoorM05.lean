/-
  Quotients of wide numbers, rounded down.
  Shifts and products of whole numbers.
  Shifts and products of wide numbers; a rounding that every statement asks for.
  Words: what the calls of package fx do, said of whole numbers.
-/
import Derived.Test.YteplhlmdaabpaaaGreatDoorM01
import Derived.Test.YteplhlmdaabpaaaGreatDoorM02
import Derived.Test.YteplhlmdaabpaaaGreatDoorM03
import Derived.Test.YteplhlmdaabpaaaGreatDoorM04
namespace Go.Proofs.YteplhlmdaabpaaaGreatDoor
open Go.RowKit


/-- What Down's variables hold behind the division. -/
def DwnAt (w0 : World) (n d q r : Int) (p6 p7 : Nat) (w : World) : Prop :=
  w.cell? ⟨w0.heap.size, 0, none⟩ = some (.int .i64 (hi n)) ∧ w.cell? ⟨w0.heap.size, 1, none⟩ = some (.int .u64 (lo n)) ∧
  w.cell? ⟨w0.heap.size + 1, 0, none⟩ = some (.int .i64 (hi d)) ∧ w.cell? ⟨w0.heap.size + 1, 1, none⟩ = some (.int .u64 (lo d)) ∧
  w.cell? ⟨w0.heap.size + 1 + 1, 0, none⟩ = some (.int .i64 0) ∧ w.cell? ⟨w0.heap.size + 1 + 1, 1, none⟩ = some (.int .u64 0) ∧
  w.cell? ⟨p6, 0, none⟩ = some (.int .u64 (hi q)) ∧ w.cell? ⟨p6, 1, none⟩ = some (.int .u64 (lo q)) ∧
  w.cell? ⟨p7, 0, none⟩ = some (.int .u64 (hi r)) ∧ w.cell? ⟨p7, 1, none⟩ = some (.int .u64 (lo r)) ∧
  w.frozen? ⟨w0.heap.size + 1 + 1, 0, none⟩ = false ∧ w.frozen? ⟨w0.heap.size + 1 + 1, 1, none⟩ = false ∧
  w.frozen? ⟨p6, 0, none⟩ = false ∧ w.frozen? ⟨p6, 1, none⟩ = false ∧
  Below w0.heap.size w0 w ∧ w0.heap.size + 1 + 1 < p6
theorem DwnAt.below {w0 : World} {n d q r : Int} {p6 p7 : Nat} {W W' : World} (h : DwnAt w0 n d q r p6 p7 W) (hb : Below W.heap.size W W') : DwnAt w0 n d q r p6 p7 W' := by
  obtain ⟨c1, c2, c3, c4, c5, c6, c7, c8, c9, ca, f1, f2, f3, f4, b, z⟩ := h
  have hz : w0.heap.size < W.heap.size := World.block_lt_of_cell? W _ c1
  exact ⟨cell_on hb c1, cell_on hb c2, cell_on hb c3, cell_on hb c4, cell_on hb c5, cell_on hb c6, cell_on hb c7, cell_on hb c8, cell_on hb c9, cell_on hb ca, frozen_on hb c5 f1, frozen_on hb c6 f2, frozen_on hb c7 f3, frozen_on hb c8 f4, b.trans (hb.mono (by omega)), z⟩

end Go.Proofs.YteplhlmdaabpaaaGreatDoor
namespace Go.Proofs.YteplhlmdaabpaaaGreatDoor
open Go.RowKit

theorem sd_ab (a : Int) (p : Int) : sd (ng a) (ab a * p) = a * p := by
  unfold sd ng ab
  by_cases h : a < 0
  · have : ((a.natAbs : Nat) : Int) = -a := by omega
    simp only [h, decide_true, if_true, this]
    rw [Int.neg_mul, Int.neg_neg]
  · have : ((a.natAbs : Nat) : Int) = a := by omega
    simp only [h, decide_false, this]; rfl
theorem left_far {a : Int} (ha : R a) (n : Nat) (h1 : n ≤ 126) (h : 128 < bl (ab a) + n) : ¬ R (a * 2 ^ n) := by
  have hU := U_ab ha
  have h0 : ab a ≠ 0 := by intro e; rw [e, bl_zero] at h; omega
  obtain ⟨b1, b2, b3⟩ := bl_bd hU h0
  have m := pow_mono (show 128 ≤ (bl (ab a) - 1) + n by omega)
  rw [Int.pow_add, pow128] at m
  have := Int.mul_le_mul_of_nonneg_right b2 (show (0 : Int) ≤ 2 ^ n from Int.le_of_lt (Int.pow_pos (by decide)))
  have e := sd_ab a (2 ^ n)
  intro hr
  rw [← e, R_iff] at hr
  unfold sd at hr
  split at hr <;> omega
theorem left_near {a : Int} (ha : R a) (n : Nat) (h : bl (ab a) + n ≤ 128) : ws (ab a * 2 ^ n) = ab a * 2 ^ n := by
  have hU := U_ab ha
  have hb := ab_bd ha
  by_cases h0 : ab a = 0
  · rw [h0, Int.zero_mul]; rfl
  obtain ⟨b1, b2, b3⟩ := bl_bd hU h0
  have m := pow_mono (show bl (ab a) + n ≤ 128 from h)
  rw [Int.pow_add, pow128] at m
  have hp : (0 : Int) < 2 ^ n := Int.pow_pos (by decide)
  have := Int.mul_le_mul_of_nonneg_right (show ab a + 1 ≤ 2 ^ bl (ab a) by omega) (Int.le_of_lt hp)
  rw [Int.add_mul] at this
  have p0 : 0 ≤ ab a * 2 ^ n := Int.mul_nonneg hb.1 (Int.le_of_lt hp)
  exact ws_in (by rw [U_iff]; omega)

theorem mul_bd {a b : Int} (a0 : -9223372036854775808 ≤ a) (a1 : a ≤ 9223372036854775807) (b0 : -9223372036854775808 ≤ b) (b1 : b ≤ 9223372036854775807) :
    -85070591730234615865843651857942052864 ≤ a * b ∧ a * b ≤ 85070591730234615865843651857942052864 := by
  have h : (a * b).natAbs ≤ 9223372036854775808 * 9223372036854775808 := by
    rw [Int.natAbs_mul]; exact Nat.mul_le_mul (by omega) (by omega)
  omega
/-- The product's high half, as it is mended for the signs. -/
def mh (a b h : Int) : Int :=
  let h1 := if a < 0 then IntKind.u64.wrap (h - IntKind.u64.wrap b) else h
  if b < 0 then IntKind.u64.wrap (h1 - IntKind.u64.wrap a) else h1
theorem mul_halves {a b : Int} (a0 : -9223372036854775808 ≤ a) (a1 : a ≤ 9223372036854775807) (b0 : -9223372036854775808 ≤ b) (b1 : b ≤ 9223372036854775807) {X : Int}
    (hX : X = IntKind.u64.wrap a * IntKind.u64.wrap b) : wrap64 (mh a b (X / 18446744073709551616)) = hi (a * b) ∧ X % 18446744073709551616 = lo (a * b) := by
  have bd := mul_bd a0 a1 b0 b1
  have key : X = a * b + (if a < 0 then 18446744073709551616 * b else 0) + (if b < 0 then 18446744073709551616 * a else 0) + (if a < 0 ∧ b < 0 then 340282366920938463463374607431768211456 else 0) := by
    rw [hX, IntKind.wrap_u64, IntKind.wrap_u64]
    by_cases ha : a < 0
    · have ea : a % 18446744073709551616 = a + 18446744073709551616 := by omega
      by_cases hb : b < 0
      · have eb : b % 18446744073709551616 = b + 18446744073709551616 := by omega
        rw [ea, eb, Int.add_mul, Int.mul_add, Int.mul_add]; simp only [ha, hb, if_true, and_self]; omega
      · have eb : b % 18446744073709551616 = b := by omega
        rw [ea, eb, Int.add_mul]; simp only [ha, hb, if_true, if_false, and_false]; omega
    · have ea : a % 18446744073709551616 = a := by omega
      by_cases hb : b < 0
      · have eb : b % 18446744073709551616 = b + 18446744073709551616 := by omega
        rw [ea, eb, Int.mul_add]; simp only [ha, hb, if_true, if_false, false_and]; omega
      · have eb : b % 18446744073709551616 = b := by omega
        rw [ea, eb]; simp only [ha, hb, if_false, and_self]; omega
  clear hX
  generalize a * b = P at *
  unfold mh hi lo wrap64
  simp only [IntKind.wrap_u64]
  by_cases ha : a < 0 <;> by_cases hb : b < 0 <;> simp only [ha, hb, if_true, if_false, and_self, and_false, false_and] at key ⊢ <;> omega
end Go.Proofs.YteplhlmdaabpaaaGreatDoor
namespace Go.Proofs.YteplhlmdaabpaaaGreatDoor
open Go.RowKit

set_option maxHeartbeats 4000000 in
/-- wide.Left, out of its bounds -/
theorem left_form (a n : Int) (w : World) (h : n < 0 ∨ 126 < n) : Calls Tryz.prog 115 #[Wv a, .int .i64 n] w fun e w' => e = .returned (.tuple #[Wv 0, .int .i64 1]) ∧ Below w.heap.size w w' := by
  rcases h with h | h
  · go_enter Tryz.func115, Tryz.ntmps115
    go_wp2
    refine bodyPost_ret (v := .tuple #[.agg #[.int .i64 0, .int .u64 0], .int .i64 1]) (by simp [results, Tryz.results115, go_sem]) rfl ⟨rfl, ?_⟩
    repeat (first | exact Below.refl _ _ | assumption | apply Below.drew | refine Below.setCell ?_ (by first | omega | (simp; done) | (simp; omega)) _ | refine Below.alloc ?_ (by first | omega | (simp; done) | (simp; omega)) _)
  · have h' : ¬ n < 0 := by omega
    go_enter Tryz.func115, Tryz.ntmps115
    go_wp2
    refine bodyPost_ret (v := .tuple #[.agg #[.int .i64 0, .int .u64 0], .int .i64 1]) (by simp [results, Tryz.results115, go_sem]) rfl ⟨rfl, ?_⟩
    repeat (first | exact Below.refl _ _ | assumption | apply Below.drew | refine Below.setCell ?_ (by first | omega | (simp; done) | (simp; omega)) _ | refine Below.alloc ?_ (by first | omega | (simp; done) | (simp; omega)) _)
set_option maxHeartbeats 8000000 in
/-- wide.Left -/
theorem shl_any (a : Int) (n : Nat) (w : World) (ha : R a) (h1 : n ≤ 126) : Calls Tryz.prog 115 #[Wv a, .int .i64 n] w fun e w' => e = .returned (.tuple #[Wv (told (a * 2 ^ n)), .int .i64 (over (a * 2 ^ n))]) ∧ Below w.heap.size w w' := by
  have lb := bl_le (U_ab ha)
  have SZ := Lib.hid (fun W : World => sizeOf_any a W ha)
  have LN := Lib.hid (fun W : World => length_any (ab a) W (U_ab ha))
  have BN := Lib.hid (fun W : World => below_any a W)
  by_cases g : 128 < bl (ab a) + n
  · have r := Lib.hid (And.intro (told_out (left_far ha n h1 g)) (over_out (left_far ha n h1 g)))
    have g' : (128 : Int) < (bl (ab a) : Int) + n := by omega
    clear ha g
    generalize ab a = s at *
    go_enter Tryz.func115, Tryz.ntmps115
    go_wp2_with (first | (go_at_call 121; (with_reducible refine (SZ.out _).mono ?_); rintro e w1 ⟨rfl, hb1⟩; have e10 : w1.cell? ⟨w.heap.size, 0, none⟩ = some (.int .i64 (hi a)) := cell_on hb1 (by first | (simp [go_sem, *]; done) | (simp [go_sem, World.cell?_alloc_some, *]; done) | fail); have e11 : w1.cell? ⟨w.heap.size, 1, none⟩ = some (.int .u64 (lo a)) := cell_on hb1 (by first | (simp [go_sem, *]; done) | (simp [go_sem, World.cell?_alloc_some, *]; done) | fail); have e12 : w1.cell? ⟨w.heap.size + 1, 0, none⟩ = some (.int .i64 0) := cell_on hb1 (by first | (simp [go_sem, *]; done) | (simp [go_sem, World.cell?_alloc_some, *]; done) | fail); have e13 : w1.cell? ⟨w.heap.size + 1, 1, none⟩ = some (.int .u64 0) := cell_on hb1 (by first | (simp [go_sem, *]; done) | (simp [go_sem, World.cell?_alloc_some, *]; done) | fail); have s10 : w.heap.size < w1.heap.size := World.block_lt_of_cell? _ _ e10; have t10 : w.heap.size < w1.heap.size + 1 := Nat.lt_succ_of_lt s10; have s12 : w.heap.size + 1 < w1.heap.size := World.block_lt_of_cell? _ _ e12; have t12 : w.heap.size + 1 < w1.heap.size + 1 := Nat.lt_succ_of_lt s12; have y12 : w1.frozen? ⟨w.heap.size + 1, 0, none⟩ = false := frozen_on hb1 (v := .int .i64 0) (by first | (simp [go_sem, *]; done) | (simp [go_sem, World.cell?_alloc_some, *]; done) | fail) (by first | (simp [go_sem, *]; done) | (simp [go_sem, frozen?_alloc_cells, *]; done) | fail); have y13 : w1.frozen? ⟨w.heap.size + 1, 1, none⟩ = false := frozen_on hb1 (v := .int .u64 0) (by first | (simp [go_sem, *]; done) | (simp [go_sem, World.cell?_alloc_some, *]; done) | fail) (by first | (simp [go_sem, *]; done) | (simp [go_sem, frozen?_alloc_cells, *]; done) | fail)) | (go_at_call 122; (with_reducible refine (LN.out _).mono ?_); rintro e w2 ⟨rfl, rfl⟩))
    refine bodyPost_ret (v := .tuple #[.agg #[.int .i64 0, .int .u64 0], .int .i64 3]) (by simp [results, Tryz.results115, go_sem, *]) rfl ⟨by rw [r.out.1, r.out.2] <;> rfl, ?_⟩
    repeat (first | exact Below.refl _ _ | assumption | apply Below.drew | refine Below.setCell ?_ (by first | omega | (simp; done) | (simp; omega)) _ | refine Below.alloc ?_ (by first | omega | (simp; done) | (simp; omega)) _ | refine Below.trans ?_ (hb1.mono (by first | omega | (simp; done) | (simp; omega))))
  · have e1 := left_near ha n (by omega)
    have LC := Lib.hid (fun W : World => left_any (ab a) n W (U_ab ha) (by omega))
    have UT : U (ab a * 2 ^ n) := by rw [← e1]; exact U_ws _
    rw [e1] at LC
    have SI := Lib.hid (fun W : World => signed_any (ab a * 2 ^ n) (ng a) W UT)
    have r := Lib.hid (sd_ab a (2 ^ n))
    have g' : ¬ (128 : Int) < (bl (ab a) : Int) + n := by omega
    clear ha g e1 UT
    generalize ab a = s at *
    generalize s * 2 ^ n = t at *
    go_enter Tryz.func115, Tryz.ntmps115
    go_wp2_with (first | (go_at_call 121; (with_reducible refine (SZ.out _).mono ?_); rintro e w1 ⟨rfl, hb1⟩; have e10 : w1.cell? ⟨w.heap.size, 0, none⟩ = some (.int .i64 (hi a)) := cell_on hb1 (by first | (simp [go_sem, *]; done) | (simp [go_sem, World.cell?_alloc_some, *]; done) | fail); have e11 : w1.cell? ⟨w.heap.size, 1, none⟩ = some (.int .u64 (lo a)) := cell_on hb1 (by first | (simp [go_sem, *]; done) | (simp [go_sem, World.cell?_alloc_some, *]; done) | fail); have e12 : w1.cell? ⟨w.heap.size + 1, 0, none⟩ = some (.int .i64 0) := cell_on hb1 (by first | (simp [go_sem, *]; done) | (simp [go_sem, World.cell?_alloc_some, *]; done) | fail); have e13 : w1.cell? ⟨w.heap.size + 1, 1, none⟩ = some (.int .u64 0) := cell_on hb1 (by first | (simp [go_sem, *]; done) | (simp [go_sem, World.cell?_alloc_some, *]; done) | fail); have s10 : w.heap.size < w1.heap.size := World.block_lt_of_cell? _ _ e10; have t10 : w.heap.size < w1.heap.size + 1 := Nat.lt_succ_of_lt s10; have s12 : w.heap.size + 1 < w1.heap.size := World.block_lt_of_cell? _ _ e12; have t12 : w.heap.size + 1 < w1.heap.size + 1 := Nat.lt_succ_of_lt s12; have y12 : w1.frozen? ⟨w.heap.size + 1, 0, none⟩ = false := frozen_on hb1 (v := .int .i64 0) (by first | (simp [go_sem, *]; done) | (simp [go_sem, World.cell?_alloc_some, *]; done) | fail) (by first | (simp [go_sem, *]; done) | (simp [go_sem, frozen?_alloc_cells, *]; done) | fail); have y13 : w1.frozen? ⟨w.heap.size + 1, 1, none⟩ = false := frozen_on hb1 (v := .int .u64 0) (by first | (simp [go_sem, *]; done) | (simp [go_sem, World.cell?_alloc_some, *]; done) | fail) (by first | (simp [go_sem, *]; done) | (simp [go_sem, frozen?_alloc_cells, *]; done) | fail)) | (go_at_call 122; (with_reducible refine (LN.out _).mono ?_); rintro e w2 ⟨rfl, rfl⟩))
    go_region_held3 (fun w' => w'.cell? ⟨w.heap.size, 0, none⟩ = some (.int .i64 (hi a)) ∧ w'.cell? ⟨w.heap.size, 1, none⟩ = some (.int .u64 (lo a)) ∧ w'.cell? ⟨w1.heap.size, 0, none⟩ = some (.int .u64 (hi s)) ∧ w'.cell? ⟨w1.heap.size, 1, none⟩ = some (.int .u64 (lo s))) (first | (simp [go_sem, *]; done) | (simp [go_sem, World.cell?_alloc_some, *]; done))
      (first
      | (go_at_call 124; (with_reducible refine (LC.out _).mono ?_); rintro e w3 ⟨rfl, hb3⟩; have e30 : w3.cell? ⟨w.heap.size, 0, none⟩ = some (.int .i64 (hi a)) := cell_on hb3 (by first | (simp [go_sem, *]; done) | (simp [go_sem, World.cell?_alloc_some, *]; done) | fail); have e31 : w3.cell? ⟨w.heap.size, 1, none⟩ = some (.int .u64 (lo a)) := cell_on hb3 (by first | (simp [go_sem, *]; done) | (simp [go_sem, World.cell?_alloc_some, *]; done) | fail); have e32 : w3.cell? ⟨w.heap.size + 1, 0, none⟩ = some (.int .i64 0) := cell_on hb3 (by first | (simp [go_sem, *]; done) | (simp [go_sem, World.cell?_alloc_some, *]; done) | fail); have e33 : w3.cell? ⟨w.heap.size + 1, 1, none⟩ = some (.int .u64 0) := cell_on hb3 (by first | (simp [go_sem, *]; done) | (simp [go_sem, World.cell?_alloc_some, *]; done) | fail); have e34 : w3.cell? ⟨w1.heap.size, 0, none⟩ = some (.int .u64 (hi s)) := cell_on hb3 (by first | (simp [go_sem, *]; done) | (simp [go_sem, World.cell?_alloc_some, *]; done) | fail); have e35 : w3.cell? ⟨w1.heap.size, 1, none⟩ = some (.int .u64 (lo s)) := cell_on hb3 (by first | (simp [go_sem, *]; done) | (simp [go_sem, World.cell?_alloc_some, *]; done) | fail); have s30 : w.heap.size < w3.heap.size := World.block_lt_of_cell? _ _ e30; have t30 : w.heap.size < w3.heap.size + 1 := Nat.lt_succ_of_lt s30; have s32 : w.heap.size + 1 < w3.heap.size := World.block_lt_of_cell? _ _ e32; have t32 : w.heap.size + 1 < w3.heap.size + 1 := Nat.lt_succ_of_lt s32; have s34 : w1.heap.size < w3.heap.size := World.block_lt_of_cell? _ _ e34; have t34 : w1.heap.size < w3.heap.size + 1 := Nat.lt_succ_of_lt s34; have y32 : w3.frozen? ⟨w.heap.size + 1, 0, none⟩ = false := frozen_on hb3 (v := .int .i64 0) (by first | (simp [go_sem, *]; done) | (simp [go_sem, World.cell?_alloc_some, *]; done) | fail) (by first | (simp [go_sem, *]; done) | (simp [go_sem, frozen?_alloc_cells, *]; done) | fail); have y33 : w3.frozen? ⟨w.heap.size + 1, 1, none⟩ = false := frozen_on hb3 (v := .int .u64 0) (by first | (simp [go_sem, *]; done) | (simp [go_sem, World.cell?_alloc_some, *]; done) | fail) (by first | (simp [go_sem, *]; done) | (simp [go_sem, frozen?_alloc_cells, *]; done) | fail))
      | (go_at_call 125; (with_reducible refine (BN.out _).mono ?_); rintro e w' ⟨rfl, rfl⟩)
      | (go_at_call 123; (with_reducible refine (SI.out _).mono ?_); rintro e w4 ⟨rfl, hb4⟩; have e40 : w4.cell? ⟨w.heap.size, 0, none⟩ = some (.int .i64 (hi a)) := cell_on hb4 (by first | (simp [go_sem, *]; done) | (simp [go_sem, World.cell?_alloc_some, *]; done) | fail); have e41 : w4.cell? ⟨w.heap.size, 1, none⟩ = some (.int .u64 (lo a)) := cell_on hb4 (by first | (simp [go_sem, *]; done) | (simp [go_sem, World.cell?_alloc_some, *]; done) | fail); have e42 : w4.cell? ⟨w.heap.size + 1, 0, none⟩ = some (.int .i64 0) := cell_on hb4 (by first | (simp [go_sem, *]; done) | (simp [go_sem, World.cell?_alloc_some, *]; done) | fail); have e43 : w4.cell? ⟨w.heap.size + 1, 1, none⟩ = some (.int .u64 0) := cell_on hb4 (by first | (simp [go_sem, *]; done) | (simp [go_sem, World.cell?_alloc_some, *]; done) | fail); have e44 : w4.cell? ⟨w1.heap.size, 0, none⟩ = some (.int .u64 (hi s)) := cell_on hb4 (by first | (simp [go_sem, *]; done) | (simp [go_sem, World.cell?_alloc_some, *]; done) | fail); have e45 : w4.cell? ⟨w1.heap.size, 1, none⟩ = some (.int .u64 (lo s)) := cell_on hb4 (by first | (simp [go_sem, *]; done) | (simp [go_sem, World.cell?_alloc_some, *]; done) | fail); have s40 : w.heap.size < w4.heap.size := World.block_lt_of_cell? _ _ e40; have t40 : w.heap.size < w4.heap.size + 1 := Nat.lt_succ_of_lt s40; have s42 : w.heap.size + 1 < w4.heap.size := World.block_lt_of_cell? _ _ e42; have t42 : w.heap.size + 1 < w4.heap.size + 1 := Nat.lt_succ_of_lt s42; have s44 : w1.heap.size < w4.heap.size := World.block_lt_of_cell? _ _ e44; have t44 : w1.heap.size < w4.heap.size + 1 := Nat.lt_succ_of_lt s44; have y42 : w4.frozen? ⟨w.heap.size + 1, 0, none⟩ = false := frozen_on hb4 (v := .int .i64 0) (by first | (simp [go_sem, *]; done) | (simp [go_sem, World.cell?_alloc_some, *]; done) | fail) (by first | (simp [go_sem, *]; done) | (simp [go_sem, frozen?_alloc_cells, *]; done) | fail); have y43 : w4.frozen? ⟨w.heap.size + 1, 1, none⟩ = false := frozen_on hb4 (v := .int .u64 0) (by first | (simp [go_sem, *]; done) | (simp [go_sem, World.cell?_alloc_some, *]; done) | fail) (by first | (simp [go_sem, *]; done) | (simp [go_sem, frozen?_alloc_cells, *]; done) | fail)))
    all_goals
      go_wp2_with fail
      refine bodyPost_ret (v := .tuple #[Wv (told (sd (ng a) t)), .int .i64 (over (sd (ng a) t))]) (by simp [results, Tryz.results115, go_sem, *]) rfl ⟨by rw [r.out], ?_⟩
      have hs4 : w.heap.size + 1 < w4.heap.size := World.block_lt_of_cell? _ _ e42
      have hs3 : w.heap.size + 1 < w3.heap.size := World.block_lt_of_cell? _ _ e32
      have hs1 : w.heap.size + 1 < w1.heap.size := World.block_lt_of_cell? _ _ e12
      repeat (first | exact Below.refl _ _ | assumption | apply Below.drew | refine Below.setCell ?_ (by first | omega | (simp; done) | (simp; omega)) _ | refine Below.alloc ?_ (by first | omega | (simp; done) | (simp; omega)) _ | refine Below.trans ?_ (hb4.mono (by first | omega | (simp; done) | (simp; omega))) | refine Below.trans ?_ (hb3.mono (by first | omega | (simp; done) | (simp; omega))) | refine Below.trans ?_ (hb1.mono (by first | omega | (simp; done) | (simp; omega))))

set_option maxHeartbeats 4000000 in
/-- wide.Mul -/
theorem mul_any (a b : Int) (w : World) (a0 : -9223372036854775808 ≤ a) (a1 : a ≤ 9223372036854775807) (b0 : -9223372036854775808 ≤ b) (b1 : b ≤ 9223372036854775807) :
    Calls Tryz.prog 108 #[.int .i64 a, .int .i64 b] w fun e w' => e = .returned (Wv (a * b)) ∧ w.alloc (.cells #[.int .i64 (hi (a * b)), .int .u64 (lo (a * b))] 143) = w' := by
  obtain ⟨x, hx⟩ := Int.eq_ofNat_of_zero_le (u64_nn a)
  obtain ⟨y, hy⟩ := Int.eq_ofNat_of_zero_le (u64_nn b)
  have x1 : x < 18446744073709551616 := by have := u64_lt a; omega
  have y1 : y < 18446744073709551616 := by have := u64_lt b; omega
  have MC := Lib.hid (fun W : World => Tryz.bits_Mul64 x y x1 y1 W)
  obtain ⟨k1, k2⟩ := mul_halves a0 a1 b0 b1 (X := ((x * y : Nat) : Int)) (by rw [hx, hy, Int.natCast_mul])
  unfold mh at k1
  rw [hx, hy] at k1
  push_cast at k1 k2
  clear x1 y1 a0 a1 b0 b1
  generalize a * b = t at *
  by_cases ga : a < 0 <;> by_cases gb : b < 0
  all_goals
    have k3 := k1
    simp only [ga, gb, if_true, if_false] at k3
    have K := Lib.hid (And.intro k3 k2)
    clear k1 k2 k3
    go_enter Tryz.func108, Tryz.ntmps108
    go_wp2_with (go_at_call 118; (with_reducible refine (MC.out _).mono ?_); rintro e w' ⟨rfl, rfl⟩)
    have K1 := K.out.1
    have K2 := K.out.2
    refine bodyPost_ret (v := Wv t) (by simp [results, Tryz.results108, go_sem, K1, K2]) rfl ⟨rfl, ?_⟩
    simp [K1, K2]

theorem rd72 : rd 7 2 = 4 := by decide
end Go.Proofs.YteplhlmdaabpaaaGreatDoor
namespace Go.Proofs.YteplhlmdaabpaaaGreatDoor
open Go.RowKit

/-- Is v a word? -/
def wd (v : Int) : Bool := decide (-140737488355328 < v ∧ v < 140737488355328)
/-- Are these counts of fraction bits? -/
def fb (f : Int) : Bool := decide (8 ≤ f ∧ f ≤ 32)
/-- A number told as a word; and the error beside it. -/
def tw (v : Int) : Int := if wd v = true then v else 0
def te (v : Int) : Int := if wd v = true then 0 else 3
theorem wd_bd {v : Int} (h : wd v = true) : -140737488355328 < v ∧ v < 140737488355328 := of_decide_eq_true h
theorem wd_mk {v : Int} (h : -140737488355328 < v ∧ v < 140737488355328) : wd v = true := decide_eq_true h
theorem wd_no {v : Int} (h : wd v = false) : v ≤ -140737488355328 ∨ 140737488355328 ≤ v := by have := of_decide_eq_false h; omega
theorem fb_bd {f : Int} (h : fb f = true) : 8 ≤ f ∧ f ≤ 32 := of_decide_eq_true h
theorem fb_mk {f : Int} (h : 8 ≤ f ∧ f ≤ 32) : fb f = true := decide_eq_true h
theorem fb_no {f : Int} (h : fb f = false) : f < 8 ∨ 32 < f := by have := of_decide_eq_false h; omega
theorem tw_in {v : Int} (h : wd v = true) : tw v = v := if_pos h
theorem te_in {v : Int} (h : wd v = true) : te v = 0 := if_pos h
theorem tw_out {v : Int} (h : wd v = false) : tw v = 0 := if_neg (by simp [h])
theorem te_out {v : Int} (h : wd v = false) : te v = 3 := if_neg (by simp [h])
theorem wd_tw (v : Int) : wd (tw v) = true := by unfold tw; split; assumption; rfl

/-- fx.Check -/
theorem check_any (v : Int) (w : World) : Calls Tryz.prog 14 #[.int .i64 v] w fun e w' => e = .returned (.int .i64 (if wd v = true then 0 else 1)) ∧ w = w' := by
  cases g : wd v with
  | true =>
    obtain ⟨g1, g2⟩ := wd_bd g
    clear g
    go_enter Tryz.func14, Tryz.ntmps14
    go_wp2
    go_ret
    exact ⟨rfl, rfl⟩
  | false =>
    have h := wd_no g
    clear g
    by_cases g1 : v ≤ -140737488355328
    · clear h
      go_enter Tryz.func14, Tryz.ntmps14
      go_wp2
      go_ret
      exact ⟨rfl, rfl⟩
    · have g2 : 140737488355328 ≤ v := by omega
      clear h
      go_enter Tryz.func14, Tryz.ntmps14
      go_wp2
      go_ret
      exact ⟨rfl, rfl⟩
/-- fx.CheckF -/
theorem checkf_any (v : Int) (w : World) : Calls Tryz.prog 15 #[.int .i64 v] w fun e w' => e = .returned (.int .i64 (if fb v = true then 0 else 1)) ∧ w = w' := by
  cases g : fb v with
  | true =>
    obtain ⟨g1, g2⟩ := fb_bd g
    clear g
    go_enter Tryz.func15, Tryz.ntmps15
    go_wp2
    go_ret
    exact ⟨rfl, rfl⟩
  | false =>
    have h := fb_no g
    clear g
    by_cases g1 : v < 8
    · clear h
      go_enter Tryz.func15, Tryz.ntmps15
      go_wp2
      go_ret
      exact ⟨rfl, rfl⟩
    · have g2 : 32 < v := by omega
      clear h
      go_enter Tryz.func15, Tryz.ntmps15
      go_wp2
      go_ret
      exact ⟨rfl, rfl⟩
/-- fx.told -/
theorem told_any (v : Int) (w : World) : Calls Tryz.prog 41 #[.int .i64 v] w fun e w' => e = .returned (.tuple #[.int .i64 (tw v), .int .i64 (te v)]) ∧ w = w' := by
  have C := Lib.hid (fun W : World => check_any v W)
  cases g : wd v with
  | true =>
    rw [g] at C
    have H := Lib.hid (And.intro (tw_in g) (te_in g))
    clear g
    go_enter Tryz.func41, Tryz.ntmps41
    go_wp2_with (go_at_call 14; (with_reducible refine (C.out _).mono ?_); rintro e w' ⟨rfl, rfl⟩)
    go_ret2
    exact ⟨by rw [H.out.1, H.out.2] <;> rfl, rfl⟩
  | false =>
    rw [g] at C
    have H := Lib.hid (And.intro (tw_out g) (te_out g))
    clear g
    go_enter Tryz.func41, Tryz.ntmps41
    go_wp2_with (go_at_call 14; (with_reducible refine (C.out _).mono ?_); rintro e w' ⟨rfl, rfl⟩)
    go_ret2
    exact ⟨by rw [H.out.1, H.out.2] <;> rfl, rfl⟩
/-- a word plus a word -/
theorem wordplus_any (a b f : Int) (w : World) (ha : wd a = true) (hb : wd b = true) : Calls Tryz.prog 93 #[.int .i64 a, .int .i64 b, .int .i64 f] w fun e w' => e = .returned (.tuple #[.int .i64 (tw (a + b)), .int .i64 (te (a + b))]) ∧ w = w' := by
  have A := wd_bd ha
  have B := wd_bd hb
  have e0 : wrap64 (a + b) = a + b := IntWalk.wrap64_in _ ⟨by omega, by omega⟩
  have C := Lib.hid (fun W : World => told_any (a + b) W)
  clear A B ha hb
  go_enter Tryz.func93, Tryz.ntmps93
  go_wp2_with (go_at_call 41; (with_reducible refine (C.out _).mono ?_); rintro e w' ⟨rfl, rfl⟩)
  go_ret2
  exact ⟨rfl, rfl⟩
/-- a word less a word -/
theorem wordless_any (a b f : Int) (w : World) (ha : wd a = true) (hb : wd b = true) : Calls Tryz.prog 94 #[.int .i64 a, .int .i64 b, .int .i64 f] w fun e w' => e = .returned (.tuple #[.int .i64 (tw (a - b)), .int .i64 (te (a - b))]) ∧ w = w' := by
  have A := wd_bd ha
  have B := wd_bd hb
  have e0 : wrap64 (a - b) = a - b := IntWalk.wrap64_in _ ⟨by omega, by omega⟩
  have C := Lib.hid (fun W : World => told_any (a - b) W)
  clear A B ha hb
  go_enter Tryz.func94, Tryz.ntmps94
  go_wp2_with (go_at_call 41; (with_reducible refine (C.out _).mono ?_); rintro e w' ⟨rfl, rfl⟩)
  go_ret2
  exact ⟨rfl, rfl⟩
end Go.Proofs.YteplhlmdaabpaaaGreatDoor
