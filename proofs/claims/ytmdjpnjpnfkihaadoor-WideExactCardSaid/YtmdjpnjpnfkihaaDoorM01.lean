/-
  Whole numbers of 128 bits, as a wide number's two halves: hi a and lo a of a whole number a.
  What the calls of package wide do, said of whole numbers: the small ones.
  What the calls of package wide do, said of whole numbers: sums, differences, small numbers.
  What the calls of package wide do, said of whole numbers: From, Small, Neg, and the statements' own small functions.
  Sizes (whole numbers of 128 bits without a sign): their halves behind a shift, their lengths.
  What the calls on sizes (whole numbers of 128 bits without a sign) do.
  Sizes: a bit set, a sign laid on, a whole number's size.
  What the calls on sizes do, the second half: a bit set, a sign laid on, a whole number's size.
  The long division of sizes, bit by bit: what holds at each round's head.
  The long division of sizes.
  Rounded quotients, said of whole numbers.
-/
import Derived.Test.YtmdjpnjpnfkihaaDoorRows
import Derived.WalkKit
import Derived.WalkSpells
import Derived.StillTactics
import Derived.Laws.Pointers
import Derived.Laws.Externs
import Derived.Deep.RegionHeld3
import Derived.Shelf.Spec.BitsCarry
import Derived.RowKit3
import Derived.Lib.Hide
import Derived.Laws.BitsAllLaws
import Derived.Lib.BitFns
import Derived.Lib.ItoaNum
import Derived.Test.YtmdjpnjpnfkihaaDoorShelf
import Derived.WalkMore
import Derived.Deep.LoopGhost
import Derived.LoopTactic
import Derived.Deep.DeepCutAuto
import Derived.Deep.CutBlock
namespace Go.Proofs.YtmdjpnjpnfkihaaDoor

def hi (a : Int) : Int := a / 18446744073709551616
def lo (a : Int) : Int := a % 18446744073709551616
/-- a is a wide number. -/
def R (a : Int) : Prop := -9223372036854775808 ≤ hi a ∧ hi a ≤ 9223372036854775807
instance (a : Int) : Decidable (R a) := inferInstanceAs (Decidable (_ ∧ _))
/-- a is below 0. -/
def ng (a : Int) : Bool := decide (a < 0)

theorem lo_bd (a : Int) : 0 ≤ lo a ∧ lo a ≤ 18446744073709551615 := by unfold lo; omega
theorem hi_lo (a : Int) : a = hi a * 18446744073709551616 + lo a := by unfold hi lo; omega
theorem hi_mk (h l : Int) (l0 : 0 ≤ l) (l1 : l ≤ 18446744073709551615) : hi (h * 18446744073709551616 + l) = h := by unfold hi; omega
theorem lo_mk (h l : Int) (l0 : 0 ≤ l) (l1 : l ≤ 18446744073709551615) : lo (h * 18446744073709551616 + l) = l := by unfold lo; omega
theorem hi_neg (a : Int) : decide (hi a < 0) = ng a := by unfold hi ng; rw [Bool.eq_iff_iff]; simp only [decide_eq_true_eq]; omega
theorem hl_inj {a b : Int} (h : hi a = hi b) (l : lo a = lo b) : a = b := by rw [hi_lo a, hi_lo b, h, l]

end Go.Proofs.YtmdjpnjpnfkihaaDoor
namespace Go.Proofs.YtmdjpnjpnfkihaaDoor
open Go.RowKit

abbrev Wv (a : Int) : Value := .agg #[.int .i64 (hi a), .int .u64 (lo a)]

theorem below_any (a : Int) (w : World) :
    Calls Tryd.prog 39 #[Wv a] w fun e w' => e = .returned (.bool (ng a)) ∧ w.alloc (.cells #[.int .i64 (hi a), .int .u64 (lo a)] 25) = w' := by
  have H := Lib.hid (hi_neg a)
  go_enter Tryd.func39, Tryd.ntmps39
  go_wp2
  go_ret
  exact ⟨by rw [H.out]; rfl, rfl⟩

theorem isNaN_i64 (a : Int) (w : World) : Calls Tryd.prog 83 #[.int .i64 a] w fun e w' => e = .returned (.bool false) ∧ w = w' := by
  go_enter Tryd.func83, Tryd.ntmps83
  go_wp2
  go_ret
  exact ⟨by simp, rfl⟩
theorem isNaN_u64 (a : Int) (w : World) : Calls Tryd.prog 84 #[.int .u64 a] w fun e w' => e = .returned (.bool false) ∧ w = w' := by
  go_enter Tryd.func84, Tryd.ntmps84
  go_wp2
  go_ret
  exact ⟨by simp, rfl⟩

/-- -1, 0, 1: as cmp.Compare tells it. -/
def sg (a b : Int) : Int := if a < b then -1 else if a > b then 1 else 0
theorem sg_lt {a b : Int} (h : a < b) : sg a b = -1 := by unfold sg; rw [if_pos h]
theorem sg_gt {a b : Int} (h : b < a) : sg a b = 1 := by unfold sg; rw [if_neg (by omega), if_pos h]
theorem sg_eq (a : Int) : sg a a = 0 := by unfold sg; rw [if_neg (by omega), if_neg (by omega)]

theorem compare_i64 (a b : Int) (w : World) : Calls Tryd.prog 58 #[.int .i64 a, .int .i64 b] w fun e w' => e = .returned (.int .i64 (sg a b)) ∧ w = w' := by
  rcases Int.lt_trichotomy a b with h | rfl | h
  · have H := Lib.hid (sg_lt h)
    go_enter Tryd.func58, Tryd.ntmps58
    go_wp2_with (go_at_call 83; refine (isNaN_i64 _ _).mono ?_; rintro e w' ⟨rfl, rfl⟩)
    go_ret
    exact ⟨by rw [H.out]; rfl, rfl⟩
  · have H := Lib.hid (sg_eq a)
    go_enter Tryd.func58, Tryd.ntmps58
    go_wp2_with (go_at_call 83; refine (isNaN_i64 _ _).mono ?_; rintro e w' ⟨rfl, rfl⟩)
    go_ret
    exact ⟨by rw [H.out]; rfl, rfl⟩
  · have H := Lib.hid (sg_gt h)
    go_enter Tryd.func58, Tryd.ntmps58
    go_wp2_with (go_at_call 83; refine (isNaN_i64 _ _).mono ?_; rintro e w' ⟨rfl, rfl⟩)
    go_ret
    exact ⟨by rw [H.out]; rfl, rfl⟩

theorem compare_u64 (a b : Int) (w : World) : Calls Tryd.prog 59 #[.int .u64 a, .int .u64 b] w fun e w' => e = .returned (.int .i64 (sg a b)) ∧ w = w' := by
  rcases Int.lt_trichotomy a b with h | rfl | h
  · have H := Lib.hid (sg_lt h)
    go_enter Tryd.func59, Tryd.ntmps59
    go_wp2_with (go_at_call 84; refine (isNaN_u64 _ _).mono ?_; rintro e w' ⟨rfl, rfl⟩)
    go_ret
    exact ⟨by rw [H.out]; rfl, rfl⟩
  · have H := Lib.hid (sg_eq a)
    go_enter Tryd.func59, Tryd.ntmps59
    go_wp2_with (go_at_call 84; refine (isNaN_u64 _ _).mono ?_; rintro e w' ⟨rfl, rfl⟩)
    go_ret
    exact ⟨by rw [H.out]; rfl, rfl⟩
  · have H := Lib.hid (sg_gt h)
    go_enter Tryd.func59, Tryd.ntmps59
    go_wp2_with (go_at_call 84; refine (isNaN_u64 _ _).mono ?_; rintro e w' ⟨rfl, rfl⟩)
    go_ret
    exact ⟨by rw [H.out]; rfl, rfl⟩

theorem sg_hi {a b : Int} (h : hi a ≠ hi b) : sg (hi a) (hi b) = sg a b := by
  unfold sg hi at *
  repeat' split <;> try omega
theorem sg_lo {a b : Int} (h : hi a = hi b) : sg (lo a) (lo b) = sg a b := by
  unfold sg lo hi at *
  repeat' split <;> try omega

/-- wide.Cmp -/
theorem cmp_any (a b : Int) (w : World) : Calls Tryd.prog 24 #[Wv a, Wv b] w fun e w' => e = .returned (.int .i64 (sg a b)) ∧ Below w.heap.size w w' := by
  by_cases h : hi a = hi b
  · have H := Lib.hid (sg_lo h)
    have g : (hi a != hi b) = false := by simp [h]
    have K := Lib.hid h
    clear h
    go_enter Tryd.func24, Tryd.ntmps24
    go_wp2_with (go_at_call 59; refine (compare_u64 _ _ _).mono ?_; rintro e w' ⟨rfl, rfl⟩)
    go_ret
    exact ⟨by rw [H.out]; rfl, ((Below.refl _ _).alloc (Nat.le_refl _) _).alloc (by simp) _⟩
  · have H := Lib.hid (sg_hi h)
    have g : (hi a != hi b) = true := by simp [h]
    clear h
    go_enter Tryd.func24, Tryd.ntmps24
    go_wp2_with (go_at_call 58; refine (compare_i64 _ _ _).mono ?_; rintro e w' ⟨rfl, rfl⟩)
    go_ret
    exact ⟨by rw [H.out]; rfl, ((Below.refl _ _).alloc (Nat.le_refl _) _).alloc (by simp) _⟩

theorem wv0 : Wv 0 = .agg #[.int .i64 0, .int .u64 0] := rfl
/-- wide.Sign -/
theorem sign_any (a : Int) (w : World) : Calls Tryd.prog 22 #[Wv a] w fun e w' => e = .returned (.int .i64 (sg a 0)) ∧ Below w.heap.size w w' := by
  have C := Lib.hid (fun W => cmp_any a 0 W)
  rw [wv0] at C
  go_enter Tryd.func22, Tryd.ntmps22
  go_wp2_with (go_at_call 24; refine (C.out _).mono ?_; rintro e w' ⟨rfl, hb⟩)
  go_ret
  exact ⟨rfl, ((Below.refl _ _).alloc (Nat.le_refl _) _).trans (hb.mono (by simp))⟩
end Go.Proofs.YtmdjpnjpnfkihaaDoor
namespace Go.Proofs.YtmdjpnjpnfkihaaDoor
open Go.RowKit

theorem add64 (x y c : Int) (hx : 0 ≤ x) (hy : 0 ≤ y) (hc0 : 0 ≤ c) (hc : c ≤ 1) (w : World) : (callFunc 38 #[.int .u64 x, .int .u64 y, .int .u64 c]).run Tryd.prog w =
    .ok (.value (.tuple #[.int .u64 ((x + y + c) % 18446744073709551616), .int .u64 ((x + y + c) / 18446744073709551616)])) w := by
  rw [run_callFunc_extern Tryd.func38 (by kernel_rfl) (by kernel_rfl) (by kernel_rfl) (e := add64Entry) (by kernel_rfl), run_add64 x y c hx hy hc0 hc]
  rfl
theorem sub64 (x y b : Int) (hx : 0 ≤ x) (hy : 0 ≤ y) (hy' : y < 18446744073709551616) (hb0 : 0 ≤ b) (hb : b ≤ 1) (w : World) : (callFunc 40 #[.int .u64 x, .int .u64 y, .int .u64 b]).run Tryd.prog w =
    .ok (.value (.tuple #[.int .u64 ((x - y - b) % 18446744073709551616), .int .u64 (if x < y + b then 1 else 0)])) w := by
  obtain ⟨x, rfl⟩ := Int.eq_ofNat_of_zero_le hx
  obtain ⟨y, rfl⟩ := Int.eq_ofNat_of_zero_le hy
  obtain ⟨b, rfl⟩ := Int.eq_ofNat_of_zero_le hb0
  have e1 : (((x + 18446744073709551616 - y - b) % 18446744073709551616 : Nat) : Int) = ((x : Int) - y - b) % 18446744073709551616 := by omega
  have e2 : ((if x < y + b then 1 else 0 : Nat) : Int) = if (x : Int) < y + b then 1 else 0 := by split <;> split <;> omega
  rw [← e1, ← e2, run_callFunc_extern Tryd.func40 (by kernel_rfl) (by kernel_rfl) (by kernel_rfl) (e := sub64Entry) (by kernel_rfl), run_sub64 x y b (by omega)]
  rfl
theorem add64_0 (x y : Int) (hx : 0 ≤ x) (hy : 0 ≤ y) (w : World) : (callFunc 38 #[.int .u64 x, .int .u64 y, .int .u64 0]).run Tryd.prog w =
    .ok (.value (.tuple #[.int .u64 ((x + y) % 18446744073709551616), .int .u64 ((x + y) / 18446744073709551616)])) w := by
  simpa using add64 x y 0 hx hy (Int.le_refl 0) (by decide) w
def bor (x y : Int) : Int := if x < y then 1 else 0
theorem bor_bd (x y : Int) : 0 ≤ bor x y ∧ bor x y ≤ 1 := by unfold bor; split <;> decide
theorem sub64_b (x y b : Int) (hx : 0 ≤ x) (hy : 0 ≤ y) (hy' : y < 18446744073709551616) (hb0 : 0 ≤ b) (hb : b ≤ 1) (w : World) : (callFunc 40 #[.int .u64 x, .int .u64 y, .int .u64 b]).run Tryd.prog w =
    .ok (.value (.tuple #[.int .u64 ((x - y - b) % 18446744073709551616), .int .u64 (bor x (y + b))])) w := sub64 x y b hx hy hy' hb0 hb w
theorem sub64_0 (x y : Int) (hx : 0 ≤ x) (hy : 0 ≤ y) (hy' : y < 18446744073709551616) (w : World) : (callFunc 40 #[.int .u64 x, .int .u64 y, .int .u64 0]).run Tryd.prog w =
    .ok (.value (.tuple #[.int .u64 ((x - y) % 18446744073709551616), .int .u64 (bor x y)])) w := by
  simpa using sub64_b x y 0 hx hy hy' (Int.le_refl 0) (by decide) w

/-- num -/
theorem num_any (n : Int) (w : World) : Calls Tryd.prog 42 #[.int .i64 n] w fun e w' => e = .returned (.int .i64 n) ∧ w = w' := by
  go_enter Tryd.func42, Tryd.ntmps42
  go_wp2
  go_ret
  exact ⟨rfl, rfl⟩

/-- What two halves added without a look at the sign hold: the sum, wrapped. -/
def wr (x : Int) : Int := (x + 170141183460469231731687303715884105728) % 340282366920938463463374607431768211456 - 170141183460469231731687303715884105728
theorem R_iff (a : Int) : R a ↔ -170141183460469231731687303715884105728 ≤ a ∧ a ≤ 170141183460469231731687303715884105727 := by unfold R hi; omega
theorem R_wr (a : Int) : R (wr a) := by rw [R_iff]; unfold wr; omega
theorem wr_in {a : Int} (h : R a) : wr a = a := by rw [R_iff] at h; unfold wr; omega
theorem wrap_hi (x : Int) : hi (wr x) = wrap64 (hi x) := by unfold wr hi wrap64; omega
theorem wr_lo (x : Int) : lo (wr x) = lo x := by unfold wr lo; omega
theorem u64_nn (x : Int) : 0 ≤ IntKind.u64.wrap x := by rw [IntKind.wrap_u64]; omega
theorem u64_lt (x : Int) : IntKind.u64.wrap x < 18446744073709551616 := by rw [IntKind.wrap_u64]; omega
theorem add_lo (a b : Int) : (lo a + lo b) % 18446744073709551616 = lo (wr (a + b)) := by rw [wr_lo]; unfold lo; omega
theorem add_hi (a b : Int) : wrap64 ((IntKind.u64.wrap (hi a) + IntKind.u64.wrap (hi b) + (lo a + lo b) / 18446744073709551616) % 18446744073709551616) = hi (wr (a + b)) := by
  rw [wrap_hi, IntKind.wrap_u64, IntKind.wrap_u64]; unfold hi lo wrap64; omega
theorem sub_lo (a b : Int) : (lo a - lo b) % 18446744073709551616 = lo (wr (a - b)) := by rw [wr_lo]; unfold lo; omega
theorem sub_hi (a b : Int) : wrap64 ((IntKind.u64.wrap (hi a) - IntKind.u64.wrap (hi b) - bor (lo a) (lo b)) % 18446744073709551616) = hi (wr (a - b)) := by
  rw [wrap_hi, IntKind.wrap_u64, IntKind.wrap_u64]; unfold hi lo wrap64 bor; split <;> omega

/-- What a sum, a difference, a rounded quotient is told as: the number, or 0 with ErrOver. -/
def told (x : Int) : Int := if R x then x else 0
def over (x : Int) : Int := if R x then 0 else 3
theorem told_in {x : Int} (h : R x) : told x = x := if_pos h
theorem over_in {x : Int} (h : R x) : over x = 0 := if_pos h
theorem told_out {x : Int} (h : ¬ R x) : told x = 0 := if_neg h
theorem over_out {x : Int} (h : ¬ R x) : over x = 3 := if_neg h
theorem add_apart {a b : Int} (ha : R a) (hb : R b) (h : (ng a == ng b) = false) : R (a + b) := by
  rw [R_iff] at *; unfold ng at h; by_cases x : a < 0 <;> by_cases y : b < 0 <;> simp [x, y] at h <;> omega
theorem add_turned {a b : Int} (h : (ng a == ng b) = true) (k : (ng (wr (a + b)) == ng a) = false) : ¬ R (a + b) := by
  intro hr; rw [wr_in hr] at k; unfold ng at h k; by_cases x : a < 0 <;> by_cases y : b < 0 <;> simp [x, y] at h k <;> omega
theorem add_kept {a b : Int} (ha : R a) (hb : R b) (h : (ng a == ng b) = true) (k : (ng (wr (a + b)) == ng a) = true) : R (a + b) := by
  rw [R_iff] at *; unfold ng wr at *; by_cases x : a < 0 <;> by_cases y : b < 0 <;> simp [x, y] at h k <;> omega
theorem sub_alike {a b : Int} (ha : R a) (hb : R b) (h : (ng a == ng b) = true) : R (a - b) := by
  rw [R_iff] at *; unfold ng at h; by_cases x : a < 0 <;> by_cases y : b < 0 <;> simp [x, y] at h <;> omega
theorem sub_turned {a b : Int} (h : (ng a == ng b) = false) (k : (ng (wr (a - b)) == ng a) = false) : ¬ R (a - b) := by
  intro hr; rw [wr_in hr] at k; unfold ng at h k; by_cases x : a < 0 <;> by_cases y : b < 0 <;> simp [x, y] at h k <;> omega
theorem sub_kept {a b : Int} (ha : R a) (hb : R b) (h : (ng a == ng b) = false) (k : (ng (wr (a - b)) == ng a) = true) : R (a - b) := by
  rw [R_iff] at *; unfold ng wr at *; by_cases x : a < 0 <;> by_cases y : b < 0 <;> simp [x, y] at h k <;> omega

set_option maxHeartbeats 2000000 in
/-- ratchet/wide.Add -/
theorem add_any (a b : Int) (w : World) (ha : R a) (hb : R b) : Calls Tryd.prog 6 #[Wv a, Wv b] w fun e w' => e = .returned (.tuple #[Wv (told (a + b)), .int .i64 (over (a + b))]) ∧ Below w.heap.size w w' := by
  obtain ⟨a0, a1⟩ := lo_bd a
  obtain ⟨b0, b1⟩ := lo_bd b
  have k0 : 0 ≤ (lo a + lo b) / 18446744073709551616 := by omega
  have k1 : (lo a + lo b) / 18446744073709551616 ≤ 1 := by omega
  have el := add_lo a b
  have eh := add_hi a b
  rcases (by cases (ng a == ng b) <;> cases (ng (wr (a + b)) == ng a) <;> simp : (ng a == ng b) = false ∨ ((ng a == ng b) = true ∧ (ng (wr (a + b)) == ng a) = false) ∨ ((ng a == ng b) = true ∧ (ng (wr (a + b)) == ng a) = true)) with g1 | ⟨g1, g2⟩ | ⟨g1, g2⟩
  · have r := Lib.hid (And.intro ((told_in (add_apart ha hb g1)).trans (wr_in (add_apart ha hb g1)).symm) (over_in (add_apart ha hb g1)))
    clear ha hb
    generalize wr (a + b) = S at *
    go_enter Tryd.func6, Tryd.ntmps6
    go_wp2_with (first | simp only [add64_0 (lo a) (lo b) a0 b0] | simp only [add64 _ _ _ (u64_nn _) (u64_nn _) k0 k1])
    go_region_with (go_at_call 39; (with_reducible refine (below_any _ _).mono ?_); rintro e w' ⟨rfl, rfl⟩)
    all_goals
      go_wp2
      refine bodyPost_ret (v := .tuple #[.agg #[.int .i64 (hi S), .int .u64 (lo S)], .int .i64 0]) (by simp [results, Tryd.results6, go_sem]) rfl ⟨by rw [r.out.1, r.out.2] <;> rfl, ?_⟩
      repeat (first | exact Below.refl _ _ | apply Below.drew | refine Below.setCell ?_ (by simp) _ | refine Below.alloc ?_ (by simp; omega) _ | refine Below.alloc ?_ (by simp) _)
  · have r := Lib.hid (And.intro (told_out (add_turned g1 g2)) (over_out (add_turned g1 g2)))
    clear ha hb
    generalize wr (a + b) = S at *
    go_enter Tryd.func6, Tryd.ntmps6
    go_wp2_with (first | simp only [add64_0 (lo a) (lo b) a0 b0] | simp only [add64 _ _ _ (u64_nn _) (u64_nn _) k0 k1])
    first
    | go_region_held3 (fun w' => w'.cell? ⟨w.heap.size, 0, none⟩ = some (.int .i64 (hi a)) ∧ w'.cell? ⟨w.heap.size, 1, none⟩ = some (.int .u64 (lo a)) ∧ w'.cell? ⟨w.heap.size + 1, 0, none⟩ = some (.int .i64 (hi b)) ∧ w'.cell? ⟨w.heap.size + 1, 1, none⟩ = some (.int .u64 (lo b))
       ∧ w'.cell? ⟨w.heap.size + 3, 0, none⟩ = some (.int .i64 (hi S)) ∧ w'.cell? ⟨w.heap.size + 3, 1, none⟩ = some (.int .u64 (lo S))) (simp [go_sem])
      (first
      | (go_at_call 39; refine (below_any _ _).mono ?_; rintro e w' ⟨rfl, rfl⟩))
    | fail
    all_goals
      go_wp2
      refine bodyPost_ret (v := .tuple #[.agg #[.int .i64 0, .int .u64 0], .int .i64 3]) (by simp [results, Tryd.results6, go_sem]) rfl ⟨by rw [r.out.1, r.out.2] <;> rfl, ?_⟩
      repeat (first | exact Below.refl _ _ | apply Below.drew | refine Below.setCell ?_ (by simp) _ | refine Below.alloc ?_ (by simp; omega) _ | refine Below.alloc ?_ (by simp) _)
  · have r := Lib.hid (And.intro ((told_in (add_kept ha hb g1 g2)).trans (wr_in (add_kept ha hb g1 g2)).symm) (over_in (add_kept ha hb g1 g2)))
    clear ha hb
    generalize wr (a + b) = S at *
    go_enter Tryd.func6, Tryd.ntmps6
    go_wp2_with (first | simp only [add64_0 (lo a) (lo b) a0 b0] | simp only [add64 _ _ _ (u64_nn _) (u64_nn _) k0 k1])
    first
    | go_region_held3 (fun w' => w'.cell? ⟨w.heap.size, 0, none⟩ = some (.int .i64 (hi a)) ∧ w'.cell? ⟨w.heap.size, 1, none⟩ = some (.int .u64 (lo a)) ∧ w'.cell? ⟨w.heap.size + 1, 0, none⟩ = some (.int .i64 (hi b)) ∧ w'.cell? ⟨w.heap.size + 1, 1, none⟩ = some (.int .u64 (lo b))
       ∧ w'.cell? ⟨w.heap.size + 3, 0, none⟩ = some (.int .i64 (hi S)) ∧ w'.cell? ⟨w.heap.size + 3, 1, none⟩ = some (.int .u64 (lo S))) (simp [go_sem])
      (first
      | (go_at_call 39; refine (below_any _ _).mono ?_; rintro e w' ⟨rfl, rfl⟩))
    | fail
    all_goals
      go_wp2
      refine bodyPost_ret (v := .tuple #[.agg #[.int .i64 (hi S), .int .u64 (lo S)], .int .i64 0]) (by simp [results, Tryd.results6, go_sem]) rfl ⟨by rw [r.out.1, r.out.2] <;> rfl, ?_⟩
      repeat (first | exact Below.refl _ _ | apply Below.drew | refine Below.setCell ?_ (by simp) _ | refine Below.alloc ?_ (by simp; omega) _ | refine Below.alloc ?_ (by simp) _)
set_option maxHeartbeats 2000000 in
/-- ratchet/wide.Sub -/
theorem sub_any (a b : Int) (w : World) (ha : R a) (hb : R b) : Calls Tryd.prog 7 #[Wv a, Wv b] w fun e w' => e = .returned (.tuple #[Wv (told (a - b)), .int .i64 (over (a - b))]) ∧ Below w.heap.size w w' := by
  obtain ⟨a0, a1⟩ := lo_bd a
  obtain ⟨b0, b1⟩ := lo_bd b
  have b2 : lo b < 18446744073709551616 := by omega
  obtain ⟨k0, k1⟩ := bor_bd (lo a) (lo b)
  have el := sub_lo a b
  have eh := sub_hi a b
  rcases (by cases (ng a == ng b) <;> cases (ng (wr (a - b)) == ng a) <;> simp : (ng a == ng b) = true ∨ ((ng a == ng b) = false ∧ (ng (wr (a - b)) == ng a) = false) ∨ ((ng a == ng b) = false ∧ (ng (wr (a - b)) == ng a) = true)) with g1 | ⟨g1, g2⟩ | ⟨g1, g2⟩
  · have r := Lib.hid (And.intro ((told_in (sub_alike ha hb g1)).trans (wr_in (sub_alike ha hb g1)).symm) (over_in (sub_alike ha hb g1)))
    clear ha hb
    generalize wr (a - b) = S at *
    go_enter Tryd.func7, Tryd.ntmps7
    go_wp2_with (first | simp only [sub64_0 (lo a) (lo b) a0 b0 b2] | simp only [sub64_b _ _ _ (u64_nn _) (u64_nn _) (u64_lt _) k0 k1])
    go_region_with (go_at_call 39; (with_reducible refine (below_any _ _).mono ?_); rintro e w' ⟨rfl, rfl⟩)
    all_goals
      go_wp2
      refine bodyPost_ret (v := .tuple #[.agg #[.int .i64 (hi S), .int .u64 (lo S)], .int .i64 0]) (by simp [results, Tryd.results7, go_sem]) rfl ⟨by rw [r.out.1, r.out.2] <;> rfl, ?_⟩
      repeat (first | exact Below.refl _ _ | apply Below.drew | refine Below.setCell ?_ (by simp) _ | refine Below.alloc ?_ (by simp; omega) _ | refine Below.alloc ?_ (by simp) _)
  · have r := Lib.hid (And.intro (told_out (sub_turned g1 g2)) (over_out (sub_turned g1 g2)))
    clear ha hb
    generalize wr (a - b) = S at *
    go_enter Tryd.func7, Tryd.ntmps7
    go_wp2_with (first | simp only [sub64_0 (lo a) (lo b) a0 b0 b2] | simp only [sub64_b _ _ _ (u64_nn _) (u64_nn _) (u64_lt _) k0 k1])
    first
    | go_region_held3 (fun w' => w'.cell? ⟨w.heap.size, 0, none⟩ = some (.int .i64 (hi a)) ∧ w'.cell? ⟨w.heap.size, 1, none⟩ = some (.int .u64 (lo a)) ∧ w'.cell? ⟨w.heap.size + 1, 0, none⟩ = some (.int .i64 (hi b)) ∧ w'.cell? ⟨w.heap.size + 1, 1, none⟩ = some (.int .u64 (lo b))
       ∧ w'.cell? ⟨w.heap.size + 3, 0, none⟩ = some (.int .i64 (hi S)) ∧ w'.cell? ⟨w.heap.size + 3, 1, none⟩ = some (.int .u64 (lo S))) (simp [go_sem])
      (first
      | (go_at_call 39; refine (below_any _ _).mono ?_; rintro e w' ⟨rfl, rfl⟩))
    | fail
    all_goals
      go_wp2
      refine bodyPost_ret (v := .tuple #[.agg #[.int .i64 0, .int .u64 0], .int .i64 3]) (by simp [results, Tryd.results7, go_sem]) rfl ⟨by rw [r.out.1, r.out.2] <;> rfl, ?_⟩
      repeat (first | exact Below.refl _ _ | apply Below.drew | refine Below.setCell ?_ (by simp) _ | refine Below.alloc ?_ (by simp; omega) _ | refine Below.alloc ?_ (by simp) _)
  · have r := Lib.hid (And.intro ((told_in (sub_kept ha hb g1 g2)).trans (wr_in (sub_kept ha hb g1 g2)).symm) (over_in (sub_kept ha hb g1 g2)))
    clear ha hb
    generalize wr (a - b) = S at *
    go_enter Tryd.func7, Tryd.ntmps7
    go_wp2_with (first | simp only [sub64_0 (lo a) (lo b) a0 b0 b2] | simp only [sub64_b _ _ _ (u64_nn _) (u64_nn _) (u64_lt _) k0 k1])
    first
    | go_region_held3 (fun w' => w'.cell? ⟨w.heap.size, 0, none⟩ = some (.int .i64 (hi a)) ∧ w'.cell? ⟨w.heap.size, 1, none⟩ = some (.int .u64 (lo a)) ∧ w'.cell? ⟨w.heap.size + 1, 0, none⟩ = some (.int .i64 (hi b)) ∧ w'.cell? ⟨w.heap.size + 1, 1, none⟩ = some (.int .u64 (lo b))
       ∧ w'.cell? ⟨w.heap.size + 3, 0, none⟩ = some (.int .i64 (hi S)) ∧ w'.cell? ⟨w.heap.size + 3, 1, none⟩ = some (.int .u64 (lo S))) (simp [go_sem])
      (first
      | (go_at_call 39; refine (below_any _ _).mono ?_; rintro e w' ⟨rfl, rfl⟩))
    | fail
    all_goals
      go_wp2
      refine bodyPost_ret (v := .tuple #[.agg #[.int .i64 (hi S), .int .u64 (lo S)], .int .i64 0]) (by simp [results, Tryd.results7, go_sem]) rfl ⟨by rw [r.out.1, r.out.2] <;> rfl, ?_⟩
      repeat (first | exact Below.refl _ _ | apply Below.drew | refine Below.setCell ?_ (by simp) _ | refine Below.alloc ?_ (by simp; omega) _ | refine Below.alloc ?_ (by simp) _)
end Go.Proofs.YtmdjpnjpnfkihaaDoor
namespace Go.Proofs.YtmdjpnjpnfkihaaDoor
open Go.RowKit

theorem bcell {W w1 : World} (hb : Below W.heap.size W w1) : (∀ b o, b < W.heap.size → w1.cell? ⟨b, o, none⟩ = W.cell? ⟨b, o, none⟩) ∧ (∀ b o, b < W.heap.size → w1.frozen? ⟨b, o, none⟩ = W.frozen? ⟨b, o, none⟩) :=
  ⟨fun b o h => hb.cell (p := ⟨b, o, none⟩) h, fun b o h => hb.frozen (p := ⟨b, o, none⟩) h⟩
theorem bsz {W w1 : World} (hb : Below W.heap.size W w1) {n : Nat} (h : n < W.heap.size) : n < w1.heap.size := Nat.lt_of_lt_of_le h hb.size
theorem hi_small {n : Int} (h0 : -9223372036854775808 ≤ n) (h1 : n ≤ 9223372036854775807) : hi n = if n < 0 then -1 else 0 := by unfold hi; split <;> omega

/-- wide.Neg -/
theorem neg_any (a : Int) (w : World) (ha : R a) : Calls Tryd.prog 8 #[Wv a] w fun e w' => e = .returned (.tuple #[Wv (told (-a)), .int .i64 (over (-a))]) ∧ Below w.heap.size w w' := by
  have C := Lib.hid (fun W => sub_any 0 a W (by decide) ha)
  have e0 := Lib.hid (Int.zero_sub a)
  rw [wv0] at C
  go_enter Tryd.func8, Tryd.ntmps8
  go_wp2_with (go_at_call 7; refine (C.out _).mono ?_; rintro e w' ⟨rfl, hb⟩; obtain ⟨hc, hf⟩ := bcell hb)
  refine bodyPost_ret (v := .tuple #[Wv (told (-a)), .int .i64 (over (-a))]) (by simp [results, Tryd.results8, go_sem, hc]) rfl ⟨rfl, ?_⟩
  exact (((((Below.refl _ _).alloc (Nat.le_refl _) _).alloc (by simp) _).trans (hb.mono (by simp; omega))).setCell (by simp) _).setCell (by simp) _

theorem shr_hi {n : Int} (h0 : -9223372036854775808 ≤ n) (h1 : n ≤ 9223372036854775807) : n / 9223372036854775808 = hi n := by unfold hi; omega
theorem u64_lo (n : Int) : IntKind.u64.wrap n = lo n := by rw [IntKind.wrap_u64]; rfl
/-- wide.From -/
theorem from_at (n : Int) (w : World) (h0 : -9223372036854775808 ≤ n) (h1 : n ≤ 9223372036854775807) : Calls Tryd.prog 20 #[.int .i64 n] w fun e w' => e = .returned (Wv n) ∧ w.alloc (.cells #[.int .i64 (hi n), .int .u64 (lo n)] 25) = w' := by
  have e1 := shr_hi h0 h1
  have e2 := u64_lo n
  go_enter Tryd.func20, Tryd.ntmps20
  go_wp2
  exact bodyPost_ret (v := Wv n) (by simp [results, Tryd.results20, go_sem]) rfl ⟨rfl, rfl⟩
theorem from_any (n : Int) (w : World) (h0 : -9223372036854775808 ≤ n) (h1 : n ≤ 9223372036854775807) : Calls Tryd.prog 20 #[.int .i64 n] w fun e w' => e = .returned (Wv n) ∧ Below w.heap.size w w' :=
  (from_at n w h0 h1).mono fun _ _ ⟨he, hw⟩ => ⟨he, hw ▸ (Below.refl _ _).alloc (Nat.le_refl _) _⟩
/-- ratchetref1.From -/
theorem fromr_any (n : Int) (w : World) (h0 : -9223372036854775808 ≤ n) (h1 : n ≤ 9223372036854775807) : Calls Tryd.prog 21 #[.int .i64 n] w fun e w' => e = .returned (Wv n) ∧ Below w.heap.size w w' := by
  have e2 := u64_lo n
  by_cases g : n < 0
  · have e1 := Lib.hid ((hi_small h0 h1).trans (if_pos g))
    go_enter Tryd.func21, Tryd.ntmps21
    go_wp2
    refine bodyPost_ret (v := Wv n) (by simp [results, Tryd.results21, go_sem, e1.out]) rfl ⟨rfl, ?_⟩
    exact ((Below.refl _ _).alloc (Nat.le_refl _) _).alloc (by simp) _
  · have e1 := Lib.hid ((hi_small h0 h1).trans (if_neg g))
    go_enter Tryd.func21, Tryd.ntmps21
    go_wp2
    refine bodyPost_ret (v := Wv n) (by simp [results, Tryd.results21, go_sem, e1.out]) rfl ⟨rfl, ?_⟩
    exact ((Below.refl _ _).alloc (Nat.le_refl _) _).alloc (by simp) _
/-- Is a an int64? -/
def isS (a : Int) : Bool := decide (-9223372036854775808 ≤ a ∧ a ≤ 9223372036854775807)
def sm (a : Int) : Int := if isS a = true then a else 0
theorem isS_bd {a : Int} (h : isS a = true) : -9223372036854775808 ≤ a ∧ a ≤ 9223372036854775807 := by unfold isS at h; exact of_decide_eq_true h
theorem isS_mk {a : Int} (h : -9223372036854775808 ≤ a ∧ a ≤ 9223372036854775807) : isS a = true := by unfold isS; exact decide_eq_true h
theorem small_back {a : Int} (h : isS a = true) : wrap64 (lo a) = a := by have := isS_bd h; unfold wrap64 lo; omega
theorem small_not {a : Int} (h : isS a = false) : (hi a == hi (wrap64 (lo a))) = false := by
  have : ¬ (-9223372036854775808 ≤ a ∧ a ≤ 9223372036854775807) := by unfold isS at h; exact of_decide_eq_false h
  simp only [beq_eq_false_iff_ne, ne_eq]; unfold wrap64 lo hi; omega
theorem R_small {a : Int} (h0 : -9223372036854775808 ≤ a) (h1 : a ≤ 9223372036854775807) : R a := by rw [R_iff]; omega
/-- wide.Small -/
theorem small_any (a : Int) (w : World) : Calls Tryd.prog 26 #[Wv a] w fun e w' => e = .returned (.tuple #[.int .i64 (sm a), .bool (isS a)]) ∧ Below w.heap.size w w' := by
  cases g : isS a with
  | true =>
    have B := Lib.hid (isS_bd g)
    have e1 := small_back g
    have e2 := Lib.hid (show sm a = a from if_pos g)
    clear g
    go_enter Tryd.func26, Tryd.ntmps26
    go_wp2
    go_region_held3 (fun w' => w'.cell? ⟨w.heap.size, 0, none⟩ = some (.int .i64 (hi a)) ∧ w'.cell? ⟨w.heap.size, 1, none⟩ = some (.int .u64 (lo a))) (simp [go_sem])
      (first
      | (rw [e1]; go_at_call 20; refine (from_at a _ B.out.1 B.out.2).mono ?_; rintro e w' ⟨rfl, rfl⟩)
      | (go_at_call 20; refine (from_at a _ B.out.1 B.out.2).mono ?_; rintro e w' ⟨rfl, rfl⟩))
    go_wp2
    go_ret2
    exact ⟨by rw [e2.out] <;> rfl, by repeat (first | exact Below.refl _ _ | apply Below.drew | refine Below.alloc ?_ (by simp) _)⟩
  | false =>
    have e3 := small_not g
    obtain ⟨m, em⟩ : ∃ m, wrap64 (lo a) = m := ⟨_, rfl⟩
    have B : Hid (-9223372036854775808 ≤ m ∧ m ≤ 9223372036854775807) := by subst em; unfold wrap64 Hid; omega
    have e2 := Lib.hid (show sm a = 0 from if_neg (by simp [g]))
    rw [em] at e3
    clear g
    go_enter Tryd.func26, Tryd.ntmps26
    go_wp2
    go_region_held3 (fun w' => w'.cell? ⟨w.heap.size, 0, none⟩ = some (.int .i64 (hi a)) ∧ w'.cell? ⟨w.heap.size, 1, none⟩ = some (.int .u64 (lo a))) (simp [go_sem])
      (first
      | (go_at_call 20; refine (from_at m _ B.out.1 B.out.2).mono ?_; rintro e w' ⟨rfl, rfl⟩)
      | (rw [em]; go_at_call 20; refine (from_at m _ B.out.1 B.out.2).mono ?_; rintro e w' ⟨rfl, rfl⟩))
    go_wp2
    go_ret2
    exact ⟨by rw [e2.out] <;> rfl, by repeat (first | exact Below.refl _ _ | apply Below.drew | refine Below.alloc ?_ (by simp) _)⟩
theorem tmod_64 (i n : Int) (h0 : 1 ≤ n) (h1 : n ≤ 9223372036854775807) : wrap64 ((IntKind.u64.wrap i).tmod n) = (i % 18446744073709551616) % n := by
  rw [IntKind.wrap_u64, Int.tmod_eq_emod_of_nonneg (by omega)]
  have := Int.emod_nonneg (i % 18446744073709551616) (show n ≠ 0 by omega)
  have := Int.emod_lt_of_pos (i % 18446744073709551616) (show 0 < n by omega)
  exact IntWalk.wrap64_in _ ⟨by omega, by omega⟩
theorem within_any (i n : Int) (w : World) (h0 : 1 ≤ n) (h1 : n ≤ 9223372036854775807) : Calls Tryd.prog 61 #[.int .i64 i, .int .i64 n] w fun e w' => e = .returned (.int .i64 ((i % 18446744073709551616) % n)) ∧ w = w' := by
  have E := Lib.hid (tmod_64 i n h0 h1)
  go_enter Tryd.func61, Tryd.ntmps61
  go_wp2
  go_ret
  exact ⟨by rw [← E.out]; rfl, rfl⟩
end Go.Proofs.YtmdjpnjpnfkihaaDoor
namespace Go.Proofs.YtmdjpnjpnfkihaaDoor

/-- s is a size. -/
def U (s : Int) : Prop := 0 ≤ hi s ∧ hi s ≤ 18446744073709551615
instance (s : Int) : Decidable (U s) := inferInstanceAs (Decidable (_ ∧ _))
theorem U_iff (s : Int) : U s ↔ 0 ≤ s ∧ s ≤ 340282366920938463463374607431768211455 := by unfold U hi; omega
/-- A size, wrapped. -/
def ws (x : Int) : Int := x % 340282366920938463463374607431768211456
theorem U_ws (x : Int) : U (ws x) := by rw [U_iff]; unfold ws; omega
theorem ws_in {x : Int} (h : U x) : ws x = x := by rw [U_iff] at h; unfold ws; omega
theorem ws_hi (x : Int) : hi (ws x) = hi x % 18446744073709551616 := by unfold ws hi; omega
theorem ws_lo (x : Int) : lo (ws x) = lo x := by unfold ws lo; omega
theorem lo_mul (s p : Int) : lo (s * p) = lo s * p % 18446744073709551616 := by
  unfold lo; rw [Int.mul_emod s p, Int.mul_emod (s % 18446744073709551616) p, Int.emod_emod]
theorem hi_mul64 (x : Int) : hi (x * 18446744073709551616) = x := by unfold hi; omega
theorem lo_mul64 (x : Int) : lo (x * 18446744073709551616) = 0 := by unfold lo; omega

theorem pow_split {n : Nat} (h : 64 ≤ n) : (2 : Int) ^ n = 2 ^ (n - 64) * 18446744073709551616 := by
  obtain ⟨k, rfl⟩ := Nat.exists_eq_add_of_le h
  rw [Nat.add_sub_cancel_left, Int.pow_add, Int.mul_comm]; rfl
theorem left64_hi (s : Int) (n : Nat) (h : 64 ≤ n) : IntKind.u64.wrap (lo s * 2 ^ (n - 64)) = hi (ws (s * 2 ^ n)) := by
  rw [IntKind.wrap_u64, ws_hi, pow_split h, ← Int.mul_assoc, hi_mul64]
  exact (lo_mul s (2 ^ (n - 64))).symm
theorem left64_lo (s : Int) (n : Nat) (h : 64 ≤ n) : 0 = lo (ws (s * 2 ^ n)) := by
  rw [ws_lo, pow_split h, ← Int.mul_assoc, lo_mul64]
theorem left_lo (s : Int) (n : Nat) : IntKind.u64.wrap (lo s * 2 ^ n) = lo (ws (s * 2 ^ n)) := by
  rw [IntKind.wrap_u64, ws_lo, lo_mul]
theorem pow_both {n : Nat} (h : n ≤ 64) : (2 : Int) ^ n * 2 ^ (64 - n) = 18446744073709551616 := by
  rw [← Int.pow_add, Nat.add_sub_cancel' h]; rfl
theorem hi_mul (s p q : Int) (hp : 0 < p) (hpq : p * q = 18446744073709551616) : hi (s * p) = hi s * p + lo s / q := by
  have e : s * p = hi s * p * 18446744073709551616 + lo s * p := by
    conv => lhs; rw [hi_lo s]
    rw [Int.add_mul]; congr 1
    rw [Int.mul_assoc, Int.mul_comm 18446744073709551616 p, ← Int.mul_assoc]
  have f : lo s * p / 18446744073709551616 = lo s / q := by
    rw [← hpq, Int.mul_comm p q]; exact Int.mul_ediv_mul_of_pos_left _ _ hp
  rw [e, ← f]; unfold hi; omega
theorem left_hi (s : Int) (n : Nat) (h : n ≤ 63) (_hs : 0 ≤ hi s) : bits BinOp.or IntKind.u64 (IntKind.u64.wrap (hi s * 2 ^ n)) (lo s / 2 ^ (64 - n)) = hi (ws (s * 2 ^ n)) := by
  have hpq := pow_both (n := n) (by omega)
  have hp : (0 : Int) < 2 ^ n := Int.pow_pos (by decide)
  have hq : (0 : Int) < 2 ^ (64 - n) := Int.pow_pos (by decide)
  rw [ws_hi, hi_mul s _ _ hp hpq]
  have hl := lo_bd s
  -- the parts as natural numbers
  have eP : (2 : Int) ^ n = ((2 ^ n : Nat) : Int) := by simp
  have a0 := Int.emod_nonneg (hi s) (show (2 : Int) ^ (64 - n) ≠ 0 by omega)
  have a1 := Int.emod_lt_of_pos (hi s) hq
  have eA : hi s * 2 ^ n % 18446744073709551616 = 2 ^ n * (hi s % 2 ^ (64 - n)) := by
    rw [← hpq, Int.mul_comm (hi s)]; exact Int.mul_emod_mul_of_pos _ _ hp
  have b0 : 0 ≤ lo s / 2 ^ (64 - n) := Int.ediv_nonneg hl.1 (by omega)
  have b1 : lo s / 2 ^ (64 - n) < 2 ^ n := Int.ediv_lt_of_lt_mul hq (by omega)
  have m1 : 2 ^ n * (hi s % 2 ^ (64 - n)) + 2 ^ n ≤ 18446744073709551616 := by
    have : (2 : Int) ^ n * (hi s % 2 ^ (64 - n) + 1) ≤ 2 ^ n * 2 ^ (64 - n) := Int.mul_le_mul_of_nonneg_left (by omega) (by omega)
    rw [hpq, Int.mul_add, Int.mul_one] at this
    exact this
  have m0 : 0 ≤ 2 ^ n * (hi s % 2 ^ (64 - n)) := Int.mul_nonneg (by omega) a0
  rw [IntKind.wrap_u64, eA]
  generalize hA : hi s % 2 ^ (64 - n) = A at *
  generalize hB : lo s / 2 ^ (64 - n) = B at *
  obtain ⟨A, rfl⟩ := Int.eq_ofNat_of_zero_le a0
  obtain ⟨B, rfl⟩ := Int.eq_ofNat_of_zero_le b0
  have r : (hi s * 2 ^ n + (B : Int)) % 18446744073709551616 = 2 ^ n * (A : Int) + B := by
    generalize hi s * 2 ^ n = X at eA
    generalize (2 : Int) ^ n * (A : Int) = Y at *
    generalize (2 : Int) ^ n = P at *
    omega
  rw [r, eP, ← Int.natCast_mul, u64_or_nat _ _ (by rw [eP, ← Int.natCast_mul] at m1; omega) (by rw [eP] at b1 m1; rw [← Int.natCast_mul] at m1; omega)]
  rw [← Int.natCast_add]
  congr 1
  have bn : B < 2 ^ n := by rw [eP] at b1; omega
  exact (Nat.two_pow_add_eq_or_of_lt bn A).symm

/-- How many bits a size has. -/
def bl (s : Int) : Nat := Lib.bitLenAux 128 s.toNat
theorem bl_zero : bl 0 = 0 := rfl
theorem bl_bd {s : Int} (h : U s) (h0 : s ≠ 0) : 1 ≤ bl s ∧ (2 : Int) ^ (bl s - 1) ≤ s ∧ s < 2 ^ bl s := by
  rw [U_iff] at h
  obtain ⟨x, rfl⟩ := Int.eq_ofNat_of_zero_le h.1
  have := Lib.bitLenAux_bounds 128 x (by have : (2 : Nat) ^ 128 = 340282366920938463463374607431768211456 := by decide
                                         omega) (by omega)
  obtain ⟨a, b, c⟩ := this
  refine ⟨a, ?_, ?_⟩
  · have : ((2 ^ (Lib.bitLenAux 128 x - 1) : Nat) : Int) ≤ (x : Int) := by omega
    simpa [bl] using this
  · have : (x : Int) < ((2 ^ (Lib.bitLenAux 128 x) : Nat) : Int) := by omega
    simpa [bl] using this
theorem bitLenAux_up : ∀ (k f x : Nat), 2 ^ k ≤ x → Lib.bitLenAux (k + f) x = k + Lib.bitLenAux f (x / 2 ^ k)
  | 0, f, x, _ => by simp
  | k + 1, f, x, h => by
    have h2 : 2 ^ k ≤ x / 2 := by rw [Nat.pow_succ] at h; omega
    have hx : x ≠ 0 := by have := Nat.two_pow_pos (k + 1); omega
    have e : x / 2 / 2 ^ k = x / 2 ^ (k + 1) := by rw [Nat.div_div_eq_div_mul, Nat.pow_succ, Nat.mul_comm 2]
    rw [show k + 1 + f = (k + f) + 1 by omega]
    simp only [Lib.bitLenAux, if_neg hx]
    rw [bitLenAux_up k f (x / 2) h2, e]
    omega
theorem bl_low {s : Int} (h : hi s = 0) : Lib.bitLen (lo s).toNat = bl s := by
  have e : s = lo s := by have := hi_lo s; omega
  have b := lo_bd s
  unfold bl Lib.bitLen
  rw [← e]
  exact (Lib.bitLenAux_fuel 64 s.toNat (by have : (2 : Nat) ^ 64 = 18446744073709551616 := by decide
                                           omega) 128 (by omega)).symm
theorem bl_high {s : Int} (h : U s) (g : hi s ≠ 0) : 64 + Lib.bitLen (hi s).toNat = bl s := by
  obtain ⟨h0, h1⟩ := h
  have b := lo_bd s
  have hs := hi_lo s
  have e : (hi s).toNat = s.toNat / 2 ^ 64 := by
    have : (2 : Nat) ^ 64 = 18446744073709551616 := by decide
    omega
  unfold bl Lib.bitLen
  rw [e]
  exact (bitLenAux_up 64 64 s.toNat (by have : (2 : Nat) ^ 64 = 18446744073709551616 := by decide
                                        omega)).symm
theorem bl_le {s : Int} (h : U s) : bl s ≤ 128 := by
  by_cases h0 : s = 0
  · subst h0; decide
  · rw [U_iff] at h
    refine Lib.bitLenAux_le 128 s.toNat 128 ?_
    have : (2 : Nat) ^ 128 = 340282366920938463463374607431768211456 := by decide
    omega
theorem bitLen_64 (x : Int) (h0 : 0 ≤ x) (h1 : x ≤ 18446744073709551615) : Lib.bitLen x.toNat ≤ 64 :=
  Lib.bitLen_le _ 64 (Nat.le_refl _) (by have : (2 : Nat) ^ 64 = 18446744073709551616 := by decide
                                         omega)
end Go.Proofs.YtmdjpnjpnfkihaaDoor
namespace Go.Proofs.YtmdjpnjpnfkihaaDoor
open Go.RowKit

abbrev Sv (s : Int) : Value := .agg #[.int .u64 (hi s), .int .u64 (lo s)]
theorem sv0 : Sv 0 = .agg #[.int .u64 0, .int .u64 0] := rfl

/-- odd -/
theorem odd_any (s : Int) (w : World) : Calls Tryd.prog 87 #[Sv s] w fun e w' => e = .returned (.bool (s % 2 == 1)) ∧ Below w.heap.size w w' := by
  obtain ⟨a0, a1⟩ := lo_bd s
  have e1 := Lib.hid (show lo s % 2 = s % 2 by unfold lo; omega)
  go_enter Tryd.func87, Tryd.ntmps87
  go_wp2
  go_ret
  exact ⟨by rw [← e1.out]; rfl, (Below.refl _ _).alloc (Nat.le_refl _) _⟩

theorem next_lo (s : Int) : (lo s + 1) % 18446744073709551616 = lo (s + 1) := by unfold lo; omega
theorem next_hi {s : Int} (h : U (s + 1)) : IntKind.u64.wrap (hi s + (lo s + 1) / 18446744073709551616) = hi (s + 1) := by
  rw [U_iff] at h; rw [IntKind.wrap_u64]; unfold hi lo; omega
/-- next -/
theorem next_any (s : Int) (w : World) (h : U (s + 1)) : Calls Tryd.prog 88 #[Sv s] w fun e w' => e = .returned (Sv (s + 1)) ∧ Below w.heap.size w w' := by
  obtain ⟨a0, a1⟩ := lo_bd s
  have e1 := next_lo s
  have e2 := next_hi h
  generalize s + 1 = t at *
  clear h
  go_enter Tryd.func88, Tryd.ntmps88
  go_wp2_with (simp only [add64_0 (lo s) 1 a0 (by decide)])
  refine bodyPost_ret (v := Sv t) (by simp [results, Tryd.results88, go_sem]) rfl ⟨rfl, ?_⟩
  exact ((Below.refl _ _).alloc (Nat.le_refl _) _).alloc (by simp) _

theorem less_lo (s o : Int) : (lo s - lo o) % 18446744073709551616 = lo (ws (s - o)) := by rw [ws_lo]; unfold lo; omega
theorem less_hi (s o : Int) : (hi s - hi o - bor (lo s) (lo o)) % 18446744073709551616 = hi (ws (s - o)) := by
  rw [ws_hi]; unfold hi lo bor; split <;> omega
/-- less -/
theorem less_any (s o : Int) (w : World) (h : U s) (k : U o) : Calls Tryd.prog 71 #[Sv s, Sv o] w fun e w' => e = .returned (Sv (ws (s - o))) ∧ Below w.heap.size w w' := by
  obtain ⟨a0, a1⟩ := lo_bd s
  obtain ⟨b0, b1⟩ := lo_bd o
  have b2 : lo o < 18446744073709551616 := by omega
  obtain ⟨c0, c1⟩ := h
  obtain ⟨d0, d1⟩ := k
  have d2 : hi o < 18446744073709551616 := by omega
  obtain ⟨k0, k1⟩ := bor_bd (lo s) (lo o)
  have e1 := less_lo s o
  have e2 := less_hi s o
  generalize ws (s - o) = t at *
  go_enter Tryd.func71, Tryd.ntmps71
  go_wp2_with (first | simp only [sub64_0 (lo s) (lo o) a0 b0 b2] | simp only [sub64_b _ _ _ c0 d0 d2 k0 k1])
  refine bodyPost_ret (v := Sv t) (by simp [results, Tryd.results71, go_sem]) rfl ⟨rfl, ?_⟩
  exact (((Below.refl _ _).alloc (Nat.le_refl _) _).alloc (by simp) _).alloc (by simp; omega) _

/-- left -/
theorem left_any (s : Int) (n : Nat) (w : World) (h : U s) (h1 : n ≤ 127) : Calls Tryd.prog 54 #[Sv s, .int .i64 n] w fun e w' => e = .returned (Sv (ws (s * 2 ^ n))) ∧ Below w.heap.size w w' := by
  obtain ⟨a0, a1⟩ := lo_bd s
  by_cases g : 64 ≤ n
  · have e1 := left64_hi s n g
    have e2 := left64_lo s n g
    have e3 : (((n : Int) - 64).toNat) = n - 64 := by omega
    have H := Lib.hid (And.intro e1 (And.intro e2.symm e3))
    clear e1 e2 e3
    generalize ws (s * 2 ^ n) = t at *
    go_enter Tryd.func54, Tryd.ntmps54
    go_wp2
    refine bodyPost_ret (v := Sv t) (by simp [results, Tryd.results54, go_sem, H.out.1, H.out.2.1]) rfl ⟨rfl, ?_⟩
    exact ((Below.refl _ _).alloc (Nat.le_refl _) _).alloc (by simp) _
  · have g' : n < 64 := by omega
    have e1 := left_hi s n (by omega) h.1
    have e2 := left_lo s n
    have e3 : ((64 - (n : Int)).toNat) = 64 - n := by omega
    have H := Lib.hid (And.intro e1 (And.intro e2 e3))
    clear e1 e2 e3
    generalize ws (s * 2 ^ n) = t at *
    go_enter Tryd.func54, Tryd.ntmps54
    go_wp2
    go_region
    go_wp2
    refine bodyPost_ret (v := Sv t) (by simp [results, Tryd.results54, go_sem, H.out.1, H.out.2.1]) rfl ⟨rfl, ?_⟩
    exact (((Below.refl _ _).alloc (Nat.le_refl _) _).alloc (by simp) _).drew

/-- compare -/
theorem compare_any (a b : Int) (w : World) : Calls Tryd.prog 86 #[Sv a, Sv b] w fun e w' => e = .returned (.int .i64 (sg a b)) ∧ Below w.heap.size w w' := by
  by_cases h : hi a = hi b
  · have H := Lib.hid (sg_lo h)
    have g : (hi a != hi b) = false := by simp [h]
    have K := Lib.hid h
    clear h
    go_enter Tryd.func86, Tryd.ntmps86
    go_wp2_with (go_at_call 59; refine (compare_u64 _ _ _).mono ?_; rintro e w' ⟨rfl, rfl⟩)
    go_ret
    exact ⟨by rw [H.out]; rfl, ((Below.refl _ _).alloc (Nat.le_refl _) _).alloc (by simp) _⟩
  · have H := Lib.hid (sg_hi h)
    have g : (hi a != hi b) = true := by simp [h]
    clear h
    go_enter Tryd.func86, Tryd.ntmps86
    go_wp2_with (go_at_call 59; refine (compare_u64 _ _ _).mono ?_; rintro e w' ⟨rfl, rfl⟩)
    go_ret
    exact ⟨by rw [H.out]; rfl, ((Below.refl _ _).alloc (Nat.le_refl _) _).alloc (by simp) _⟩

/-- length -/
theorem length_any (s : Int) (w : World) (h : U s) : Calls Tryd.prog 52 #[Sv s] w fun e w' => e = .returned (.int .i64 (bl s)) ∧ w.alloc (.cells #[.int .u64 (hi s), .int .u64 (lo s)] 77) = w' := by
  obtain ⟨a0, a1⟩ := lo_bd s
  by_cases g : hi s = 0
  · have H := Lib.hid (bl_low g)
    have g' : (hi s != 0) = false := by simp [g]
    have K := Lib.hid g
    clear g h
    go_enter Tryd.func52, Tryd.ntmps52
    go_wp2_with (go_at_call 81; refine (Tryd.bits_Len64 (lo s) _ a0 a1).mono ?_; rintro e w' ⟨rfl, rfl⟩)
    go_ret
    exact ⟨by rw [← H.out]; rfl, rfl⟩
  · have H := Lib.hid (bl_high h g)
    have g' : (hi s != 0) = true := by simp [g]
    obtain ⟨c0, c1⟩ := h
    have l := bitLen_64 (hi s) c0 c1
    clear g
    go_enter Tryd.func52, Tryd.ntmps52
    go_wp2_with (go_at_call 81; refine (Tryd.bits_Len64 (hi s) _ c0 c1).mono ?_; rintro e w' ⟨rfl, rfl⟩)
    go_ret
    exact ⟨by rw [← H.out]; rfl, rfl⟩
end Go.Proofs.YtmdjpnjpnfkihaaDoor
namespace Go.Proofs.YtmdjpnjpnfkihaaDoor
open Go.RowKit

theorem or_add (P Q k : Int) (n : Nat) (hP : P = 2 ^ n) (hk : 0 ≤ k) (hq : Q = 2 * P * k) (hM : Q + P < 18446744073709551616) : bits BinOp.or IntKind.u64 Q P = Q + P := by
  obtain ⟨k, rfl⟩ := Int.eq_ofNat_of_zero_le hk
  have eP : P = ((2 ^ n : Nat) : Int) := by rw [hP]; simp
  have eQ : Q = ((2 ^ (n + 1) * k : Nat) : Int) := by
    rw [hq, eP, Nat.pow_succ, Int.natCast_mul, Int.natCast_mul]
    congr 1
    exact Int.mul_comm _ _
  have hM2 : ((2 ^ (n + 1) * k : Nat) : Int) + ((2 ^ n : Nat) : Int) < 18446744073709551616 := by rw [← eQ, ← eP]; exact hM
  rw [eP, eQ]
  clear eP eQ hM hP hq
  generalize hA : 2 ^ (n + 1) * k = A at *
  generalize hB : 2 ^ n = B at *
  rw [u64_or_nat A B (by omega) (by omega), ← Int.natCast_add]
  subst hA hB
  congr 1
  exact (Nat.two_pow_add_eq_or_of_lt (by rw [Nat.pow_succ]; have := Nat.two_pow_pos n; omega) k).symm
theorem or_zero (Q : Int) (h0 : 0 ≤ Q) (h1 : Q ≤ 18446744073709551615) : bits BinOp.or IntKind.u64 Q 0 = Q := by
  rw [u64_or _ _ h0 (by omega) (by decide) (by decide)]
  simp; omega

theorem bit_high (s : Int) (n : Nat) (h : U s) (g : 64 ≤ n) (h1 : n ≤ 127) (hd : s % 2 ^ (n + 1) = 0) :
    bits BinOp.or IntKind.u64 (hi s) (hi (ws (2 ^ n))) = hi (s + 2 ^ n) ∧ bits BinOp.or IntKind.u64 (lo s) (lo (ws (2 ^ n))) = lo (s + 2 ^ n) := by
  have e1 : (2 : Int) ^ n = 2 ^ (n - 64) * 18446744073709551616 := pow_split g
  have e2 : (2 : Int) ^ (n + 1) = 2 * 2 ^ (n - 64) * 18446744073709551616 := by rw [Int.pow_succ, e1]; omega
  have hp : (0 : Int) < 2 ^ (n - 64) := Int.pow_pos (by decide)
  have hp1 : (2 : Int) ^ (n - 64) ≤ 9223372036854775808 := by
    have : (2 : Int) ^ (n - 64) * 2 ^ (127 - n) = 9223372036854775808 := by rw [← Int.pow_add, show n - 64 + (127 - n) = 63 by omega]; rfl
    have q : (0 : Int) < 2 ^ (127 - n) := Int.pow_pos (by decide)
    calc (2 : Int) ^ (n - 64) = 2 ^ (n - 64) * 1 := by omega
      _ ≤ 2 ^ (n - 64) * 2 ^ (127 - n) := Int.mul_le_mul_of_nonneg_left (by omega) (by omega)
      _ = _ := this
  obtain ⟨k, hk⟩ := Int.dvd_of_emod_eq_zero hd
  rw [e2] at hk
  have hU := (U_iff s).1 h
  have eh : hi s = 2 * 2 ^ (n - 64) * k := by
    rw [hk, Int.mul_assoc _ 18446744073709551616 k, Int.mul_comm 18446744073709551616 k, ← Int.mul_assoc, hi_mul64]
  have el : lo s = 0 := by
    rw [hk, Int.mul_assoc _ 18446744073709551616 k, Int.mul_comm 18446744073709551616 k, ← Int.mul_assoc, lo_mul64]
  have k0 : 0 ≤ k := by
    rcases Int.lt_or_le k 0 with hneg | h0
    · have : 2 * 2 ^ (n - 64) * k < 0 := Int.mul_neg_of_pos_of_neg (by omega) hneg
      have := h.1
      omega
    · exact h0
  have w1 : hi (ws (2 ^ n)) = 2 ^ (n - 64) := by rw [ws_hi, e1, hi_mul64]; omega
  have w2 : lo (ws (2 ^ n)) = 0 := by rw [ws_lo, e1, lo_mul64]
  -- 2 P k + P stays below 2^64, as 2 P divides 2^64
  have hM : hi s + 2 ^ (n - 64) < 18446744073709551616 := by
    have hq : (2 : Int) * 2 ^ (n - 64) * 2 ^ (127 - n) = 18446744073709551616 := by
      have : (2 : Int) ^ (n - 64) * 2 ^ (127 - n) = 9223372036854775808 := by rw [← Int.pow_add, show n - 64 + (127 - n) = 63 by omega]; rfl
      rw [Int.mul_assoc, this]; rfl
    have hkq : k < 2 ^ (127 - n) := by
      rcases Int.lt_or_le k (2 ^ (127 - n)) with hl | hge
      · exact hl
      · have := Int.mul_le_mul_of_nonneg_left hge (show (0 : Int) ≤ 2 * 2 ^ (n - 64) by omega)
        rw [hq, ← eh] at this
        have := h.2
        omega
    have := Int.mul_le_mul_of_nonneg_left (show k + 1 ≤ 2 ^ (127 - n) by omega) (show (0 : Int) ≤ 2 * 2 ^ (n - 64) by omega)
    rw [hq, Int.mul_add, ← eh] at this
    omega
  rw [w1, w2, el]
  refine ⟨?_, ?_⟩
  · rw [or_add _ _ k (n - 64) rfl k0 eh hM, e1]; unfold hi; omega
  · rw [or_zero 0 (by decide) (by decide), e1]; unfold lo; unfold lo at el; omega

theorem bit_low (s : Int) (n : Nat) (g : n < 64) (hd : s % 2 ^ (n + 1) = 0) (h : U s) :
    bits BinOp.or IntKind.u64 (hi s) (hi (ws (2 ^ n))) = hi (s + 2 ^ n) ∧ bits BinOp.or IntKind.u64 (lo s) (lo (ws (2 ^ n))) = lo (s + 2 ^ n) := by
  have hp : (0 : Int) < 2 ^ n := Int.pow_pos (by decide)
  have hQ : (0 : Int) < 2 ^ (63 - n) := Int.pow_pos (by decide)
  have hpq : (2 : Int) * 2 ^ n * 2 ^ (63 - n) = 18446744073709551616 := by
    rw [Int.mul_assoc, ← Int.pow_add, show n + (63 - n) = 63 by omega]; rfl
  have hp1 : (2 : Int) ^ n ≤ 9223372036854775808 := by
    have := Int.mul_le_mul_of_nonneg_left (show (1 : Int) ≤ 2 ^ (63 - n) by omega) (show (0 : Int) ≤ 2 * 2 ^ n by omega)
    omega
  obtain ⟨k, hk⟩ := Int.dvd_of_emod_eq_zero hd
  have e2 : (2 : Int) ^ (n + 1) = 2 * 2 ^ n := by rw [Int.pow_succ]; omega
  rw [e2] at hk
  have el : lo s = 2 * 2 ^ n * (k % 2 ^ (63 - n)) := by
    unfold lo; rw [hk, ← hpq]; exact Int.mul_emod_mul_of_pos _ _ (by omega)
  have a0 := Int.emod_nonneg k (show (2 : Int) ^ (63 - n) ≠ 0 by omega)
  have a1 := Int.emod_lt_of_pos k hQ
  have hM : lo s + 2 ^ n < 18446744073709551616 := by
    have := Int.mul_le_mul_of_nonneg_left (show k % 2 ^ (63 - n) + 1 ≤ 2 ^ (63 - n) by omega) (show (0 : Int) ≤ 2 * 2 ^ n by omega)
    rw [hpq, Int.mul_add, ← el] at this
    omega
  have w1 : hi (ws (2 ^ n)) = 0 := by rw [ws_hi]; unfold hi; omega
  have w2 : lo (ws (2 ^ n)) = 2 ^ n := by rw [ws_lo]; unfold lo; omega
  rw [w1, w2]
  refine ⟨?_, ?_⟩
  · rw [or_zero _ h.1 h.2]; unfold hi; unfold lo at hM; omega
  · rw [or_add _ _ _ n rfl a0 el hM]; unfold lo; unfold lo at hM; omega

theorem bit_any (s : Int) (n : Nat) (h : U s) (h1 : n ≤ 127) (hd : s % 2 ^ (n + 1) = 0) :
    bits BinOp.or IntKind.u64 (hi s) (hi (ws (2 ^ n))) = hi (s + 2 ^ n) ∧ bits BinOp.or IntKind.u64 (lo s) (lo (ws (2 ^ n))) = lo (s + 2 ^ n) := by
  by_cases g : 64 ≤ n
  · exact bit_high s n h g h1 hd
  · exact bit_low s n (by omega) hd h

/-- A whole number's size. -/
def ab (a : Int) : Int := (a.natAbs : Int)
theorem U_ab {a : Int} (h : R a) : U (ab a) := by rw [R_iff] at h; rw [U_iff]; unfold ab; omega
theorem ab_of_neg {a : Int} (ha : R a) (h : ng a = true) : ws (-ws a) = ab a := by
  rw [R_iff] at ha; unfold ng at h; have := of_decide_eq_true h; unfold ws ab; omega
theorem ab_of_pos {a : Int} (ha : R a) (h : ng a = false) : ws a = ab a := by
  rw [R_iff] at ha; unfold ng at h; have := of_decide_eq_false h; unfold ws ab; omega
theorem u64_hi_ws (a : Int) : IntKind.u64.wrap (hi a) = hi (ws a) := by rw [ws_hi, IntKind.wrap_u64]
theorem lo_ws (a : Int) : lo a = lo (ws a) := (ws_lo a).symm

/-- A sign laid on a size. -/
def sd (neg : Bool) (s : Int) : Int := if neg then -s else s
theorem neg_high {s : Int} (h : (0 : Int) < sg s 170141183460469231731687303715884105728) : ¬ R (-s) := by
  rw [R_iff]; unfold sg at h; split at h
  · omega
  · split at h <;> omega
theorem neg_low {s : Int} (hU : U s) (h : ¬ (0 : Int) < sg s 170141183460469231731687303715884105728) : R (-s) ∧ wrap64 (hi (ws (-s))) = hi (-s) ∧ lo (ws (-s)) = lo (-s) := by
  rw [U_iff] at hU
  have hs : s ≤ 170141183460469231731687303715884105728 := by
    unfold sg at h; split at h
    · omega
    · split at h <;> omega
  refine ⟨by rw [R_iff]; omega, ?_, ?_⟩
  · rw [ws_hi]; unfold hi wrap64; omega
  · rw [ws_lo]
theorem pos_high {s : Int} (h : 9223372036854775808 ≤ hi s) : ¬ R s := by intro r; have := r.2; omega
theorem pos_low {s : Int} (hU : U s) (h : hi s < 9223372036854775808) : R s ∧ wrap64 (hi s) = hi s := by
  have := hU.1
  exact ⟨⟨by omega, by omega⟩, by unfold wrap64; omega⟩
end Go.Proofs.YtmdjpnjpnfkihaaDoor
namespace Go.Proofs.YtmdjpnjpnfkihaaDoor
open Go.RowKit

theorem svbit : Sv 1 = .agg #[.int .u64 0, .int .u64 1] := rfl
theorem svtop : Sv 170141183460469231731687303715884105728 = .agg #[.int .u64 9223372036854775808, .int .u64 0] := by
  have e1 : hi 170141183460469231731687303715884105728 = 9223372036854775808 := by decide
  have e2 : lo 170141183460469231731687303715884105728 = 0 := by decide
  show Value.agg #[.int .u64 (hi _), .int .u64 (lo _)] = _
  rw [e1, e2]

set_option maxHeartbeats 1000000 in
/-- withBit -/
theorem withBit_any (s : Int) (n : Nat) (w : World) (h : U s) (h1 : n ≤ 127) (hd : s % 2 ^ (n + 1) = 0) : Calls Tryd.prog 100 #[Sv s, .int .i64 n] w fun e w' => e = .returned (Sv (s + 2 ^ n)) ∧ Below w.heap.size w w' := by
  have C := fun W => left_any 1 n W (by decide) h1
  rw [svbit] at C
  simp only [Int.one_mul] at C
  have CH := Lib.hid C
  obtain ⟨e1, e2⟩ := bit_any s n h h1 hd
  have H := Lib.hid (And.intro e1 e2)
  clear e1 e2 hd h C
  generalize ws (2 ^ n) = b at *
  generalize s + 2 ^ n = t at *
  go_enter Tryd.func100, Tryd.ntmps100
  go_wp2_with (go_at_call 54; (with_reducible refine (CH.out _).mono ?_); rintro e w' ⟨rfl, hb⟩; obtain ⟨hc, hf⟩ := bcell hb; have hz0 : w.heap.size < w'.heap.size := bsz hb (by first | omega | (simp; done) | (simp; omega)); have hz1 : w.heap.size + 1 < w'.heap.size := bsz hb (by first | omega | (simp; done) | (simp; omega)))
  refine bodyPost_ret (v := Sv t) (by simp [results, Tryd.results100, go_sem, H.out.1, H.out.2, hc, hz1]) rfl ⟨rfl, ?_⟩
  repeat (first | exact Below.refl _ _ | apply Below.drew | refine Below.setCell ?_ (by first | (simp; done) | (simp; omega) | omega) _ | refine Below.alloc ?_ (by first | (simp; done) | (simp; omega) | omega) _ | refine Below.trans ?_ (hb.mono (by first | (simp; done) | (simp; omega) | omega)))

set_option maxHeartbeats 1000000 in
/-- negated -/
theorem negated_any (s : Int) (w : World) (h : U s) : Calls Tryd.prog 82 #[Sv s] w fun e w' => e = .returned (.tuple #[Wv (told (-s)), .int .i64 (over (-s))]) ∧ Below w.heap.size w w' := by
  have CH := Lib.hid (fun W => svtop ▸ compare_any s 170141183460469231731687303715884105728 W)
  have DH := Lib.hid (fun W => Int.zero_sub s ▸ sv0 ▸ less_any 0 s W (by decide) h)
  by_cases g : (0 : Int) < sg s 170141183460469231731687303715884105728
  · have r := Lib.hid (And.intro (told_out (neg_high g)) (over_out (neg_high g)))
    generalize sg s 170141183460469231731687303715884105728 = c at *
    clear h
    go_enter Tryd.func82, Tryd.ntmps82
    go_wp2_with (go_at_call 86; (with_reducible refine (CH.out _).mono ?_); rintro e w' ⟨rfl, hb⟩; obtain ⟨hc, hf⟩ := bcell hb; have hz0 : w.heap.size < w'.heap.size := bsz hb (by first | omega | (simp; done) | (simp; omega)); have hz1 : w.heap.size + 1 < w'.heap.size := bsz hb (by first | omega | (simp; done) | (simp; omega)))
    refine bodyPost_ret (v := .tuple #[.agg #[.int .i64 0, .int .u64 0], .int .i64 3]) (by simp [results, Tryd.results82, go_sem, hc]) rfl ⟨by rw [r.out.1, r.out.2] <;> rfl, ?_⟩
    repeat (first | exact Below.refl _ _ | apply Below.drew | refine Below.setCell ?_ (by first | (simp; done) | (simp; omega) | omega) _ | refine Below.alloc ?_ (by first | (simp; done) | (simp; omega) | omega) _ | refine Below.trans ?_ (hb.mono (by first | (simp; done) | (simp; omega) | omega)))
  · obtain ⟨r1, r2, r3⟩ := neg_low h g
    have r := Lib.hid (And.intro (told_in r1) (over_in r1))
    have H := Lib.hid (And.intro r2 r3)
    clear h r1 r2 r3
    generalize sg s 170141183460469231731687303715884105728 = c at *
    go_enter Tryd.func82, Tryd.ntmps82
    go_wp2_with (first | (go_at_call 86; (with_reducible refine (CH.out _).mono ?_); rintro e w' ⟨rfl, hb⟩; obtain ⟨hc, hf⟩ := bcell hb; have hz0 : w.heap.size < w'.heap.size := bsz hb (by first | omega | (simp; done) | (simp; omega)); have hz1 : w.heap.size + 1 < w'.heap.size := bsz hb (by first | omega | (simp; done) | (simp; omega))) | (go_at_call 71; (with_reducible refine (DH.out _).mono ?_); rintro e w2 ⟨rfl, hb2⟩; obtain ⟨hc2, hf2⟩ := bcell hb2; have hz2 : w.heap.size < w2.heap.size := bsz hb2 (by first | omega | (simp; done) | (simp; omega)); have hz3 : w.heap.size + 1 < w2.heap.size := bsz hb2 (by first | omega | (simp; done) | (simp; omega))))
    refine bodyPost_ret (v := .tuple #[Wv (-s), .int .i64 0]) (by simp [results, Tryd.results82, go_sem, hc, hz1, hc2, hz3, H.out.1, H.out.2]) rfl ⟨by rw [r.out.1, r.out.2] <;> rfl, ?_⟩
    repeat (first | exact Below.refl _ _ | apply Below.drew | refine Below.setCell ?_ (by first | (simp; done) | (simp; omega) | omega) _ | refine Below.alloc ?_ (by first | (simp; done) | (simp; omega) | omega) _ | refine Below.trans ?_ (hb2.mono (by first | (simp; done) | (simp; omega) | omega)) | refine Below.trans ?_ (hb.mono (by first | (simp; done) | (simp; omega) | omega)))

set_option maxHeartbeats 1000000 in
/-- signed -/
theorem signed_any (s : Int) (neg : Bool) (w : World) (h : U s) : Calls Tryd.prog 53 #[Sv s, .bool neg] w fun e w' => e = .returned (.tuple #[Wv (told (sd neg s)), .int .i64 (over (sd neg s))]) ∧ Below w.heap.size w w' := by
  cases neg with
  | true =>
    have CH := Lib.hid (fun W => negated_any s W h)
    have e0 := Lib.hid (show sd true s = -s from rfl)
    clear h
    generalize sd true s = t at *
    go_enter Tryd.func53, Tryd.ntmps53
    go_wp2_with (go_at_call 82; (with_reducible refine (CH.out _).mono ?_); rintro e w' ⟨rfl, hb⟩; obtain ⟨hc, hf⟩ := bcell hb; have hz0 : w.heap.size < w'.heap.size := bsz hb (by first | omega | (simp; done) | (simp; omega)); have hz1 : w.heap.size + 1 < w'.heap.size := bsz hb (by first | omega | (simp; done) | (simp; omega)))
    refine bodyPost_ret (v := .tuple #[Wv (told (-s)), .int .i64 (over (-s))]) (by simp [results, Tryd.results53, go_sem, hc]) rfl ⟨by rw [e0.out], ?_⟩
    repeat (first | exact Below.refl _ _ | apply Below.drew | refine Below.setCell ?_ (by first | (simp; done) | (simp; omega) | omega) _ | refine Below.alloc ?_ (by first | (simp; done) | (simp; omega) | omega) _ | refine Below.trans ?_ (hb.mono (by first | (simp; done) | (simp; omega) | omega)))
  | false =>
    have e0 := Lib.hid (show sd false s = s from rfl)
    by_cases g : 9223372036854775808 ≤ hi s
    · have r := Lib.hid (And.intro (told_out (pos_high g)) (over_out (pos_high g)))
      clear h
      generalize sd false s = t at *
      go_enter Tryd.func53, Tryd.ntmps53
      go_wp2
      refine bodyPost_ret (v := .tuple #[.agg #[.int .i64 0, .int .u64 0], .int .i64 3]) (by simp [results, Tryd.results53, go_sem]) rfl ⟨by rw [e0.out, r.out.1, r.out.2] <;> rfl, ?_⟩
      repeat (first | exact Below.refl _ _ | apply Below.drew | refine Below.setCell ?_ (by first | (simp; done) | (simp; omega) | omega) _ | refine Below.alloc ?_ (by first | (simp; done) | (simp; omega) | omega) _)
    · have g' : hi s < 9223372036854775808 := by omega
      obtain ⟨r1, r2⟩ := pos_low h g'
      have r := Lib.hid (And.intro (told_in r1) (And.intro (over_in r1) r2))
      have g0 := h.1
      clear h r1 r2 g
      generalize sd false s = t at *
      go_enter Tryd.func53, Tryd.ntmps53
      go_wp2
      refine bodyPost_ret (v := .tuple #[Wv s, .int .i64 0]) (by simp [results, Tryd.results53, go_sem]) rfl ⟨by rw [e0.out, r.out.1, r.out.2.1] <;> rfl, ?_⟩
      repeat (first | exact Below.refl _ _ | apply Below.drew | refine Below.setCell ?_ (by first | (simp; done) | (simp; omega) | omega) _ | refine Below.alloc ?_ (by first | (simp; done) | (simp; omega) | omega) _)

set_option maxHeartbeats 1000000 in
/-- sizeOf -/
theorem sizeOf_any (a : Int) (w : World) (ha : R a) : Calls Tryd.prog 46 #[Wv a] w fun e w' => e = .returned (Sv (ab a)) ∧ Below w.heap.size w w' := by
  have DH := Lib.hid (fun W => Int.zero_sub (ws a) ▸ sv0 ▸ less_any 0 (ws a) W (by decide) (U_ws a))
  have l1 := lo_ws a
  have l2 := u64_hi_ws a
  cases g : ng a with
  | true =>
    have E := Lib.hid (ab_of_neg ha g)
    have LH := Lib.hid (And.intro l1 l2)
    clear ha l1 l2
    generalize ws a = u at *
    go_enter Tryd.func46, Tryd.ntmps46
    go_wp2_with (first | (go_at_call 39; (with_reducible refine (below_any a _).mono ?_); rintro e w' ⟨rfl, rfl⟩) | (rw [LH.out.1, LH.out.2]; go_at_call 71; (with_reducible refine (DH.out _).mono ?_); rintro e w2 ⟨rfl, hb⟩; obtain ⟨hc, hf⟩ := bcell hb; have hz0 : w.heap.size < w2.heap.size := bsz hb (by first | omega | (simp; done) | (simp; omega)); have hz1 : w.heap.size + 1 < w2.heap.size := bsz hb (by first | omega | (simp; done) | (simp; omega))))
    refine bodyPost_ret (v := Sv (ws (-u))) (by simp [results, Tryd.results46, go_sem, hc]) rfl ⟨by rw [E.out] <;> rfl, ?_⟩
    repeat (first | exact Below.refl _ _ | apply Below.drew | refine Below.setCell ?_ (by first | (simp; done) | (simp; omega) | omega) _ | refine Below.alloc ?_ (by first | (simp; done) | (simp; omega) | omega) _ | refine Below.trans ?_ (hb.mono (by first | (simp; done) | (simp; omega) | omega)))
  | false =>
    have E := Lib.hid (ab_of_pos ha g)
    have LH := Lib.hid (And.intro l1 l2)
    clear ha l1 l2
    generalize ws a = u at *
    go_enter Tryd.func46, Tryd.ntmps46
    go_wp2_with (first | (go_at_call 39; (with_reducible refine (below_any a _).mono ?_); rintro e w' ⟨rfl, rfl⟩))
    refine bodyPost_ret (v := Sv u) (by simp [results, Tryd.results46, go_sem, LH.out.1, LH.out.2]) rfl ⟨by rw [E.out] <;> rfl, ?_⟩
    repeat (first | exact Below.refl _ _ | apply Below.drew | refine Below.setCell ?_ (by first | (simp; done) | (simp; omega) | omega) _ | refine Below.alloc ?_ (by first | (simp; done) | (simp; omega) | omega) _)
end Go.Proofs.YtmdjpnjpnfkihaaDoor
namespace Go.Proofs.YtmdjpnjpnfkihaaDoor

def DInv (n d a q r : Int) : Prop :=
  -200 ≤ a ∧ a ≤ 127 ∧ 0 ≤ q ∧ 0 ≤ r ∧ n = q * d + r ∧ r < d * 2 ^ (a + 1).toNat ∧ q % 2 ^ (a + 1).toNat = 0 ∧ (0 ≤ a → d * 2 ^ a.toNat ≤ 340282366920938463463374607431768211455)

theorem pow128 : (2 : Int) ^ 128 = 340282366920938463463374607431768211456 := by decide
theorem pow_mono {m n : Nat} (h : m ≤ n) : (2 : Int) ^ m ≤ 2 ^ n := by
  obtain ⟨k, rfl⟩ := Nat.exists_eq_add_of_le h
  rw [Int.pow_add]
  have h1 : (0 : Int) < 2 ^ m := Int.pow_pos (by decide)
  have h2 : (0 : Int) < 2 ^ k := Int.pow_pos (by decide)
  have := Int.mul_le_mul_of_nonneg_left (show (1 : Int) ≤ 2 ^ k by omega) (show (0 : Int) ≤ 2 ^ m by omega)
  omega
theorem dinv_start {n d : Int} (h : U n) (k : U d) (h0 : d ≠ 0) : DInv n d (bl n - bl d) 0 n := by
  have hn := (U_iff n).1 h
  have hd := (U_iff d).1 k
  have ln := bl_le h
  have ld := bl_le k
  obtain ⟨d1, d2, d3⟩ := bl_bd k h0
  by_cases z : n = 0
  · subst z
    rw [bl_zero]
    have e : (((0 : Nat) : Int) - bl d + 1).toNat = 0 := by omega
    refine ⟨by omega, by omega, by decide, by decide, by omega, ?_, ?_, fun h => by omega⟩
    · rw [e]; simp; omega
    · rw [e]; simp
  · obtain ⟨n1, n2, n3⟩ := bl_bd h z
    refine ⟨by omega, by omega, by decide, by omega, by omega, ?_, by simp, ?_⟩
    · have m := pow_mono (show bl n ≤ (bl d - 1) + ((bl n : Int) - bl d + 1).toNat by omega)
      rw [Int.pow_add] at m
      have := Int.mul_le_mul_of_nonneg_right d2 (show (0 : Int) ≤ 2 ^ ((bl n : Int) - bl d + 1).toNat from Int.le_of_lt (Int.pow_pos (by decide)))
      omega
    · intro hge
      have m := pow_mono (show bl d + ((bl n : Int) - bl d).toNat ≤ 128 by omega)
      rw [Int.pow_add, pow128] at m
      have hp : (0 : Int) < 2 ^ ((bl n : Int) - bl d).toNat := Int.pow_pos (by decide)
      have := Int.mul_le_mul_of_nonneg_right (show d + 1 ≤ 2 ^ bl d by omega) (Int.le_of_lt hp)
      rw [Int.add_mul] at this
      omega
theorem dinv_sizes {n d a q r : Int} (h : DInv n d a q r) (hn : U n) (h0 : 0 < d) : U q ∧ U r := by
  obtain ⟨_, _, q0, r0, e, _, _, _⟩ := h
  simp only [U_iff] at *
  have : q * 1 ≤ q * d := Int.mul_le_mul_of_nonneg_left (by omega) q0
  omega
theorem dinv_step {n d q r : Int} {k : Nat} (h : DInv n d k q r) (h0 : 0 < d) : k ≤ 127 ∧ ws (d * 2 ^ k) = d * 2 ^ k ∧ q % 2 ^ (k + 1) = 0 := by
  obtain ⟨_, k1, _, _, _, _, m, s⟩ := h
  have s' := s (by omega)
  rw [Int.toNat_natCast] at s'
  rw [show ((k : Int) + 1).toNat = k + 1 by omega] at m
  have : (0 : Int) < d * 2 ^ k := Int.mul_pos h0 (Int.pow_pos (by decide))
  exact ⟨by omega, ws_in ((U_iff _).2 ⟨by omega, s'⟩), m⟩
theorem dinv_end {n d a q r : Int} (h : DInv n d a q r) (ha : a < 0) (h0 : 0 < d) : q = n / d ∧ r = n % d := by
  obtain ⟨_, _, q0, r0, e, l, _, _⟩ := h
  rw [show (a + 1).toNat = 0 by omega, Int.pow_zero, Int.mul_one] at l
  have := (Int.ediv_emod_unique h0 (a := n) (r := r) (q := q)).2 ⟨by rw [e, Int.mul_comm d q]; omega, r0, l⟩
  exact ⟨this.1.symm, this.2.symm⟩
theorem dinv_hit {n d q r : Int} {k : Nat} (h : DInv n d k q r) (he : r = d * 2 ^ k) (h0 : 0 < d) : q + 2 ^ k = n / d ∧ 0 = n % d := by
  obtain ⟨_, _, q0, r0, e, l, _, _⟩ := h
  have := (Int.ediv_emod_unique h0 (a := n) (r := 0) (q := q + 2 ^ k)).2 ⟨by rw [e, he, Int.mul_comm q d, ← Int.mul_add]; omega, by omega, h0⟩
  exact ⟨this.1.symm, this.2.symm⟩
theorem dinv_up {n d q r : Int} {k : Nat} (h : DInv n d k q r) (hg : d * 2 ^ k < r) (hn : U n) (h0 : 0 < d) : ws (r - d * 2 ^ k) = r - d * 2 ^ k ∧ DInv n d (k - 1) (q + 2 ^ k) (r - d * 2 ^ k) := by
  have hU := (dinv_sizes h hn h0).2
  obtain ⟨a0, a1, q0, r0, e, l, m, s⟩ := h
  have hp : (0 : Int) < 2 ^ k := Int.pow_pos (by decide)
  have hdp : (0 : Int) < d * 2 ^ k := Int.mul_pos h0 hp
  rw [show ((k : Int) + 1).toNat = k + 1 by omega] at l m
  rw [Int.pow_succ] at l m
  refine ⟨ws_in (by rw [U_iff] at *; omega), by omega, by omega, by omega, by omega, ?_, ?_, ?_, ?_⟩
  · rw [Int.add_mul, Int.mul_comm (2 ^ k) d, e]; omega
  · rw [show ((k : Int) - 1 + 1).toNat = k by omega]
    rw [← Int.mul_assoc] at l; omega
  · rw [show ((k : Int) - 1 + 1).toNat = k by omega]
    have : q % 2 ^ k = 0 := Int.emod_eq_zero_of_dvd (Int.dvd_trans (Int.dvd_mul_right _ _) (Int.dvd_of_emod_eq_zero m))
    rw [Int.add_emod, this, Int.emod_self]; simp
  · intro hk
    have s' := s (by omega)
    rw [Int.toNat_natCast] at s'
    obtain ⟨j, rfl⟩ : ∃ j, k = j + 1 := ⟨k - 1, by omega⟩
    rw [show (((j + 1 : Nat) : Int) - 1).toNat = j by omega]
    rw [Int.pow_succ, ← Int.mul_assoc] at s'
    have : (0 : Int) < d * 2 ^ j := Int.mul_pos h0 (Int.pow_pos (by decide))
    omega
theorem dinv_down {n d q r : Int} {k : Nat} (h : DInv n d k q r) (hg : r < d * 2 ^ k) (h0 : 0 < d) : DInv n d (k - 1) q r := by
  obtain ⟨a0, a1, q0, r0, e, l, m, s⟩ := h
  have hp : (0 : Int) < 2 ^ k := Int.pow_pos (by decide)
  rw [show ((k : Int) + 1).toNat = k + 1 by omega] at l m
  rw [Int.pow_succ] at l m
  refine ⟨by omega, by omega, q0, r0, e, ?_, ?_, ?_⟩
  · rw [show ((k : Int) - 1 + 1).toNat = k by omega]; exact hg
  · rw [show ((k : Int) - 1 + 1).toNat = k by omega]
    exact Int.emod_eq_zero_of_dvd (Int.dvd_trans (Int.dvd_mul_right _ _) (Int.dvd_of_emod_eq_zero m))
  · intro hk
    have s' := s (by omega)
    rw [Int.toNat_natCast] at s'
    obtain ⟨j, rfl⟩ : ∃ j, k = j + 1 := ⟨k - 1, by omega⟩
    rw [show (((j + 1 : Nat) : Int) - 1).toNat = j by omega]
    rw [Int.pow_succ, ← Int.mul_assoc] at s'
    have : (0 : Int) < d * 2 ^ j := Int.mul_pos h0 (Int.pow_pos (by decide))
    omega
end Go.Proofs.YtmdjpnjpnfkihaaDoor
namespace Go.Proofs.YtmdjpnjpnfkihaaDoor
open Go.RowKit
/-- The four variables of divide. -/
def DivAt (w0 : World) (n d q r : Int) (w : World) : Prop :=
  w.cell? ⟨w0.heap.size, 0, none⟩ = some (.int .u64 (hi n)) ∧ w.cell? ⟨w0.heap.size, 1, none⟩ = some (.int .u64 (lo n)) ∧
  w.cell? ⟨w0.heap.size + 1, 0, none⟩ = some (.int .u64 (hi d)) ∧ w.cell? ⟨w0.heap.size + 1, 1, none⟩ = some (.int .u64 (lo d)) ∧
  w.cell? ⟨w0.heap.size + 1 + 1, 0, none⟩ = some (.int .u64 (hi q)) ∧ w.cell? ⟨w0.heap.size + 1 + 1, 1, none⟩ = some (.int .u64 (lo q)) ∧
  w.cell? ⟨w0.heap.size + 1 + 1 + 1, 0, none⟩ = some (.int .u64 (hi r)) ∧ w.cell? ⟨w0.heap.size + 1 + 1 + 1, 1, none⟩ = some (.int .u64 (lo r)) ∧
  w.frozen? ⟨w0.heap.size + 1 + 1, 0, none⟩ = false ∧ w.frozen? ⟨w0.heap.size + 1 + 1, 1, none⟩ = false ∧
  w.frozen? ⟨w0.heap.size + 1 + 1 + 1, 0, none⟩ = false ∧ w.frozen? ⟨w0.heap.size + 1 + 1 + 1, 1, none⟩ = false ∧
  Below w0.heap.size w0 w ∧ w0.heap.size + 1 + 1 + 1 < w.heap.size
theorem cell_on {W W' : World} (hb : Below W.heap.size W W') {p : Addr} {v : Value} (h : W.cell? p = some v) : W'.cell? p = some v := (hb.cell (World.block_lt_of_cell? W _ h)).trans h
theorem frozen_on {W W' : World} (hb : Below W.heap.size W W') {p : Addr} {v : Value} (h : W.cell? p = some v) {b : Bool} (hf : W.frozen? p = b) : W'.frozen? p = b := (hb.frozen (World.block_lt_of_cell? W _ h)).trans hf
theorem drew_on {W : World} {p : Addr} {v : Value} (h : W.cell? p = some v) : W.drew.cell? p = some v := h
theorem DivAt.below {w0 : World} {n d q r : Int} {W W' : World} (h : DivAt w0 n d q r W) (hb : Below W.heap.size W W') : DivAt w0 n d q r W' := by
  obtain ⟨c1, c2, c3, c4, c5, c6, c7, c8, f1, f2, f3, f4, b, z⟩ := h
  obtain ⟨hc, hf⟩ := bcell hb
  refine ⟨?_, ?_, ?_, ?_, ?_, ?_, ?_, ?_, ?_, ?_, ?_, ?_, b.trans (hb.mono (by omega)), bsz hb z⟩
  all_goals first | (rw [hc _ _ (by omega)]; assumption) | (rw [hf _ _ (by omega)]; assumption)
theorem DivAt.alloc {w0 : World} {n d q r : Int} {W : World} (h : DivAt w0 n d q r W) (o : Obj) : DivAt w0 n d q r (W.alloc o) :=
  h.below ((Below.refl _ _).alloc (Nat.le_refl _) o)
theorem DivAt.drew {w0 : World} {n d q r : Int} {W : World} (h : DivAt w0 n d q r W) : DivAt w0 n d q r W.drew := by
  obtain ⟨c1, c2, c3, c4, c5, c6, c7, c8, f1, f2, f3, f4, b, z⟩ := h
  exact ⟨c1, c2, c3, c4, c5, c6, c7, c8, f1, f2, f3, f4, b.drew, z⟩
theorem DivAt.put {w0 : World} {n d q r : Int} {W : World} (h : DivAt w0 n d q r W) (q' r' : Int) :
    DivAt w0 n d q' r' ((((W.setCell ⟨w0.heap.size + 1 + 1, 0, none⟩ (.int .u64 (hi q'))).setCell ⟨w0.heap.size + 1 + 1, 1, none⟩ (.int .u64 (lo q'))).setCell ⟨w0.heap.size + 1 + 1 + 1, 0, none⟩ (.int .u64 (hi r'))).setCell ⟨w0.heap.size + 1 + 1 + 1, 1, none⟩ (.int .u64 (lo r'))) := by
  obtain ⟨c1, c2, c3, c4, c5, c6, c7, c8, f1, f2, f3, f4, b, z⟩ := h
  refine ⟨by simp [go_sem, *], by simp [go_sem, *], by simp [go_sem, *], by simp [go_sem, *], by simp [go_sem, *], by simp [go_sem, *], by simp [go_sem, *], by simp [go_sem, *], by simp [go_sem, *], by simp [go_sem, *], by simp [go_sem, *], by simp [go_sem, *], ?_, by simp [go_sem, *]⟩
  exact (((b.setCell (by simp; omega) _).setCell (by simp; omega) _).setCell (by simp; omega) _).setCell (by simp; omega) _
set_option maxHeartbeats 4000000 in
theorem divide_any (n d : Int) (w : World) (h : U n) (k : U d) (h0 : d ≠ 0) : Calls Tryd.prog 85 #[Sv n, Sv d] w fun e w' => e = .returned (.tuple #[Sv (n / d), Sv (n % d)]) ∧ Below w.heap.size w w' := by
  have bn := bl_le h
  have bd := bl_le k
  have H := Lib.hid (And.intro h k)
  have S0 := Lib.hid (dinv_start h k h0)
  have d0 : 0 < d := by rw [U_iff] at k; omega
  have D0 := Lib.hid d0
  clear h k h0 d0
  go_enter Tryd.func85, Tryd.ntmps85
  go_wp2
  go_step3
  go_wp2
  go_step3
  go_wp2
  go_upto_region 2 with fail
  go_cut [6] (fun s6 wx => s6 = .int .i64 (bl n - bl d) ∧ DivAt w n d 0 n wx)
  case first =>
    go_region_held3 (fun w' => w'.cell? ⟨w.heap.size, 0, none⟩ = some (.int .u64 (hi n)) ∧ w'.cell? ⟨w.heap.size, 1, none⟩ = some (.int .u64 (lo n)) ∧ w'.cell? ⟨w.heap.size + 1, 0, none⟩ = some (.int .u64 (hi d)) ∧ w'.cell? ⟨w.heap.size + 1, 1, none⟩ = some (.int .u64 (lo d))) (simp [go_sem])
        (first
        | (go_at_call 52; (with_reducible refine (length_any n _ H.out.1).mono ?_); rintro e w' ⟨rfl, rfl⟩)
        | (go_at_call 52; (with_reducible refine (length_any d _ H.out.2).mono ?_); rintro e w' ⟨rfl, rfl⟩))
    all_goals
      go_wp2_with fail
      go_meet
      have e64 : IntKind.i64.wrap ((bl n : Int) - bl d) = (bl n : Int) - bl d := by have := IntWalk.i64_in ((bl n : Int) - bl d) ⟨by omega, by omega⟩; exact this
      refine ⟨by rw [e64], ?_⟩
      refine ⟨by simp [go_sem], by simp [go_sem], by simp [go_sem], by simp [go_sem], by simp [go_sem] <;> rfl, by simp [go_sem] <;> rfl, by simp [go_sem], by simp [go_sem], by simp [go_sem], by simp [go_sem], by simp [go_sem], by simp [go_sem], ?_, ?_⟩
      · repeat (first | exact Below.refl _ _ | apply Below.drew | refine Below.alloc ?_ (by first | (simp; done) | (simp; omega) | omega) _)
      · simp
  case rest =>
    obtain ⟨rfl, hD⟩ := hcut
    go_upto_block 0 with fail
    go_cut [] (fun wx => DivAt w n d (n / d) (n % d) wx)
    case rest =>
      clear hD
      obtain ⟨c1, c2, c3, c4, c5, c6, c7, c8, f1, f2, f3, f4, hbw, hz0⟩ := hcut
      go_wp2
      go_region
      go_wp2
      try rw [Exit.noGoto_ret]
      refine bodyPost_ret (v := .tuple #[Sv (n / d), Sv (n % d)]) (by simp [results, Tryd.results85, go_sem, c5, c6, c7, c8]) rfl ⟨rfl, ?_⟩
      repeat (first | exact Below.refl _ _ | assumption | apply Below.drew | refine Below.setCell ?_ (by first | (simp; done) | (simp; omega) | omega) _ | refine Below.alloc ?_ (by first | (simp; done) | (simp; omega) | omega) _)
    case first =>
    go_wp2_with fail
    go_loopw [6] (fun s6 wr => ∃ a q r : Int, s6 = .int .i64 a ∧ DInv n d a q r ∧ DivAt w n d q r wr) (fun s6 _ => (intOf s6 + 1).toNat)
    case atStart => exact ⟨_, 0, n, rfl, S0.out, hD⟩
    case round =>
      obtain ⟨a, q, r, rfl, hI, hD⟩ := hrel
      have hD0 := hD
      obtain ⟨c1, c2, c3, c4, c5, c6, c7, c8, f1, f2, f3, f4, hbw, hz0⟩ := hD
      have HD := Lib.hid hD0
      clear hD0
      have hy2 : w.heap.size + 1 + 1 < wr.heap.size := by omega
      have hy1 : w.heap.size + 1 < wr.heap.size := by omega
      have hy0 : w.heap.size < wr.heap.size := by omega
      have I := Lib.hid hI
      have a0 : -200 ≤ a := hI.1
      have a1 : a ≤ 127 := hI.2.1
      clear hI
      by_cases ha : a < 0
      · go_wp2
        go_meet
        rw [← (dinv_end I.out ha D0.out).1, ← (dinv_end I.out ha D0.out).2]
        exact HD.out
      · obtain ⟨k, rfl⟩ := Int.eq_ofNat_of_zero_le (show 0 ≤ a by omega)
        have st1 := dinv_step I.out D0.out
        obtain ⟨st, est⟩ : ∃ st, st = d * 2 ^ k := ⟨_, rfl⟩
        have ST := Lib.hid (And.intro st1 est)
        have LC := Lib.hid (fun W => (show ws (d * 2 ^ k) = st by rw [st1.2.1, est]) ▸ left_any d k W H.out.2 st1.1)
        have hq := dinv_sizes I.out H.out.1 D0.out
        have BC := Lib.hid (fun W => withBit_any q k W hq.1 st1.1 st1.2.2)
        have UR := Lib.hid hq.2
        clear st1 est hq ha
        rcases Int.lt_trichotomy r st with g | g | g
        · have e1 := sg_lt g
          have G := Lib.hid g
          clear g
          go_wp2_with (first | (go_at_call 54; (with_reducible refine (LC.out _).mono ?_); rintro e w1 ⟨rfl, hb1⟩; obtain ⟨hc1, hf1⟩ := bcell hb1; have hz1 : w.heap.size < w1.heap.size := bsz hb1 (by first | omega | (simp; done) | (simp; omega)); have hz1b : w.heap.size + 1 < w1.heap.size := bsz hb1 (by first | omega | (simp; done) | (simp; omega)); have hz1c : w.heap.size + 1 + 1 < w1.heap.size := bsz hb1 (by first | omega | (simp; done) | (simp; omega)); have hz1d : w.heap.size + 1 + 1 + 1 < w1.heap.size := bsz hb1 (by first | omega | (simp; done) | (simp; omega))) | (go_at_call 86; (with_reducible refine (compare_any r st _).mono ?_); rintro e w2 ⟨rfl, hb2⟩; obtain ⟨hc2, hf2⟩ := bcell hb2; have hz2 : w.heap.size < w2.heap.size := bsz hb2 (by first | omega | (simp; done) | (simp; omega)); have hz2b : w.heap.size + 1 < w2.heap.size := bsz hb2 (by first | omega | (simp; done) | (simp; omega)); have hz2c : w.heap.size + 1 + 1 < w2.heap.size := bsz hb2 (by first | omega | (simp; done) | (simp; omega)); have hz2d : w.heap.size + 1 + 1 + 1 < w2.heap.size := bsz hb2 (by first | omega | (simp; done) | (simp; omega))))
          refine ⟨⟨(k : Int) - 1, q, r, rfl, dinv_down I.out (by rw [← ST.out.2]; exact G.out) D0.out, ((HD.out.below hb1).alloc _).below hb2⟩, by simp [intOf]⟩
        · have e1 : sg r st = 0 := g ▸ sg_eq r
          have G := Lib.hid g
          clear g
          obtain ⟨t, et⟩ : ∃ t, t = q + 2 ^ k := ⟨_, rfl⟩
          rw [← et] at BC
          have ET := Lib.hid et
          clear et
          go_wp2_with (first | (go_at_call 54; (with_reducible refine (LC.out _).mono ?_); rintro e w1 ⟨rfl, hb1⟩; obtain ⟨hc1, hf1⟩ := bcell hb1; have hz1 : w.heap.size < w1.heap.size := bsz hb1 (by first | omega | (simp; done) | (simp; omega)); have hz1b : w.heap.size + 1 < w1.heap.size := bsz hb1 (by first | omega | (simp; done) | (simp; omega)); have hz1c : w.heap.size + 1 + 1 < w1.heap.size := bsz hb1 (by first | omega | (simp; done) | (simp; omega)); have hz1d : w.heap.size + 1 + 1 + 1 < w1.heap.size := bsz hb1 (by first | omega | (simp; done) | (simp; omega))) | (go_at_call 86; (with_reducible refine (compare_any r st _).mono ?_); rintro e w2 ⟨rfl, hb2⟩; obtain ⟨hc2, hf2⟩ := bcell hb2; have hz2 : w.heap.size < w2.heap.size := bsz hb2 (by first | omega | (simp; done) | (simp; omega)); have hz2b : w.heap.size + 1 < w2.heap.size := bsz hb2 (by first | omega | (simp; done) | (simp; omega)); have hz2c : w.heap.size + 1 + 1 < w2.heap.size := bsz hb2 (by first | omega | (simp; done) | (simp; omega)); have hz2d : w.heap.size + 1 + 1 + 1 < w2.heap.size := bsz hb2 (by first | omega | (simp; done) | (simp; omega))) | (go_at_call 100; (with_reducible refine (BC.out _).mono ?_); rintro e w3 ⟨rfl, hb3⟩; obtain ⟨hc3, hf3⟩ := bcell hb3; have hz3 : w.heap.size < w3.heap.size := bsz hb3 (by first | omega | (simp; done) | (simp; omega)); have hz3b : w.heap.size + 1 < w3.heap.size := bsz hb3 (by first | omega | (simp; done) | (simp; omega)); have hz3c : w.heap.size + 1 + 1 < w3.heap.size := bsz hb3 (by first | omega | (simp; done) | (simp; omega)); have hz3d : w.heap.size + 1 + 1 + 1 < w3.heap.size := bsz hb3 (by first | omega | (simp; done) | (simp; omega))))
          go_meet
          rw [← (dinv_hit I.out (G.out.trans ST.out.2) D0.out).1, ← (dinv_hit I.out (G.out.trans ST.out.2) D0.out).2, ← ET.out]
          exact ((((HD.out.below hb1).alloc _).below hb2).below hb3).put t 0
        · have e1 := sg_gt g
          have G := Lib.hid g
          clear g
          obtain ⟨t, et⟩ : ∃ t, t = q + 2 ^ k := ⟨_, rfl⟩
          rw [← et] at BC
          obtain ⟨v, ev⟩ : ∃ v, v = r - st := ⟨_, rfl⟩
          have up := dinv_up I.out (by rw [← ST.out.2]; exact G.out) H.out.1 D0.out
          rw [← ST.out.2, ← ev, ← et] at up
          have US : U st := by rw [ST.out.2, ← ST.out.1.2.1]; exact U_ws _
          have hv : ws (r - st) = v := by rw [ev]; exact ws_in (by have := UR.out; have g := G.out; simp only [U_iff] at *; omega)
          have SC := Lib.hid (fun W => hv ▸ less_any r st W UR.out US)
          have UP := Lib.hid up
          clear up et ev US hv
          go_wp2_with (first | (go_at_call 54; (with_reducible refine (LC.out _).mono ?_); rintro e w1 ⟨rfl, hb1⟩; obtain ⟨hc1, hf1⟩ := bcell hb1; have hz1 : w.heap.size < w1.heap.size := bsz hb1 (by first | omega | (simp; done) | (simp; omega)); have hz1b : w.heap.size + 1 < w1.heap.size := bsz hb1 (by first | omega | (simp; done) | (simp; omega)); have hz1c : w.heap.size + 1 + 1 < w1.heap.size := bsz hb1 (by first | omega | (simp; done) | (simp; omega)); have hz1d : w.heap.size + 1 + 1 + 1 < w1.heap.size := bsz hb1 (by first | omega | (simp; done) | (simp; omega))) | (go_at_call 86; (with_reducible refine (compare_any r st _).mono ?_); rintro e w2 ⟨rfl, hb2⟩; obtain ⟨hc2, hf2⟩ := bcell hb2; have hz2 : w.heap.size < w2.heap.size := bsz hb2 (by first | omega | (simp; done) | (simp; omega)); have hz2b : w.heap.size + 1 < w2.heap.size := bsz hb2 (by first | omega | (simp; done) | (simp; omega)); have hz2c : w.heap.size + 1 + 1 < w2.heap.size := bsz hb2 (by first | omega | (simp; done) | (simp; omega)); have hz2d : w.heap.size + 1 + 1 + 1 < w2.heap.size := bsz hb2 (by first | omega | (simp; done) | (simp; omega))))
          have HD2 := ((HD.out.below hb1).alloc (.cells #[.int .u64 (hi st), .int .u64 (lo st)] 77)).below hb2
          have s0 : w2.cell? ⟨w1.heap.size, 0, none⟩ = some (.int .u64 (hi st)) := cell_on hb2 (World.cell?_alloc_new _ _ _ _)
          have s1 : w2.cell? ⟨w1.heap.size, 1, none⟩ = some (.int .u64 (lo st)) := cell_on hb2 (World.cell?_alloc_new _ _ _ _)
          have HD3 := Lib.hid HD2
          obtain ⟨x1, x2, x3, x4, x5, x6, x7, x8, y1, y2, y3, y4, hbx, hx0⟩ := HD2
          clear c1 c2 c3 c4 c5 c6 c7 c8 f1 f2 f3 f4 hc1 hf1 hc2 hf2
          go_region_with (first | (go_at_call 100; (with_reducible refine (BC.out _).mono ?_); rintro e w3 ⟨rfl, hb3⟩; (first | have D3 := Lib.hid (HD3.out.drew.below hb3) | have D3 := Lib.hid (D4.out.below hb3)); (first | have t0 := cell_on hb3 (drew_on s0) | have t0 := cell_on hb3 r0); (first | have t1 := cell_on hb3 (drew_on s1) | have t1 := cell_on hb3 r1); obtain ⟨z1, z2, z3, z4, z5, z6, z7, z8, v1, v2, v3, v4, hbz, hz0⟩ := D3.out) | (go_at_call 71; (with_reducible refine (SC.out _).mono ?_); rintro e w4 ⟨rfl, hb4⟩; (first | have D4 := Lib.hid (HD3.out.drew.below hb4) | have D4 := Lib.hid (D3.out.below hb4)); (first | have r0 := cell_on hb4 (drew_on s0) | have r0 := cell_on hb4 t0); (first | have r1 := cell_on hb4 (drew_on s1) | have r1 := cell_on hb4 t1); obtain ⟨m1, m2, m3, m4, m5, m6, m7, m8, l1, l2, l3, l4, hbm, hm0⟩ := D4.out))
          all_goals
            go_wp2
            refine ⟨⟨(k : Int) - 1, t, v, rfl, UP.out.2, ?_⟩, by simp [intOf]⟩
            first | (with_reducible exact D3.out.put t v) | (with_reducible exact D4.out.put t v) | (with_reducible exact DivAt.drew (D3.out.put t v)) | (with_reducible exact DivAt.drew (D4.out.put t v))
end Go.Proofs.YtmdjpnjpnfkihaaDoor
namespace Go.Proofs.YtmdjpnjpnfkihaaDoor
open Go.RowKit

/-- Is the quotient of the sizes raised by 1? -/
def up (n d : Int) : Bool := decide (0 < sg (2 * (ab n % ab d)) (ab d)) || (decide (sg (2 * (ab n % ab d)) (ab d) = 0) && (ab n / ab d % 2 == 1))
/-- The nearest whole number to n / d, halves to even. -/
def rd (n d : Int) : Int := sd (ng n != ng d) (if up n d = true then ab n / ab d + 1 else ab n / ab d)
/-- n / d rounded down. -/
def dn (n d : Int) : Int := sd (ng n != ng d) (if ((ng n != ng d) && !(ab n % ab d == 0)) = true then ab n / ab d + 1 else ab n / ab d)

theorem ab_ne {d : Int} (h : d ≠ 0) : ab d ≠ 0 := by unfold ab; omega
theorem ab_bd {a : Int} (h : R a) : 0 ≤ ab a ∧ ab a ≤ 170141183460469231731687303715884105728 := by rw [R_iff] at h; unfold ab; omega
theorem quo_sizes {n d : Int} (hn : R n) (hd : R d) (h0 : d ≠ 0) : U (ab n / ab d) ∧ U (ab n / ab d + 1) ∧ U (ab n % ab d) ∧ U (2 * (ab n % ab d)) := by
  obtain ⟨n0, n1⟩ := ab_bd hn
  obtain ⟨d0, d1⟩ := ab_bd hd
  have dp : 0 < ab d := by have := ab_ne h0; omega
  have q0 : 0 ≤ ab n / ab d := Int.ediv_nonneg n0 d0
  have q1 : ab n / ab d ≤ ab n := Int.ediv_le_self _ n0
  have r0 := Int.emod_nonneg (ab n) (show ab d ≠ 0 by omega)
  have r1 := Int.emod_lt_of_pos (ab n) dp
  simp only [U_iff]
  omega
end Go.Proofs.YtmdjpnjpnfkihaaDoor
