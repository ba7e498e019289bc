/-
  What the calls of package wide do, said of whole numbers: the small ones.
-/
import Derived.Test.YtkpkejccphpkpaaNum
import Derived.WalkKit
import Derived.WalkSpells
import Derived.StillTactics
import Derived.Laws.Pointers
import Derived.Laws.Externs
import Derived.Deep.RegionHeld3
import Derived.Shelf.Spec.BitsCarry
import Derived.RowKit3
import Derived.Lib.Hide
namespace Go.Proofs.Ytkpkejccphpkpaa
open Go.RowKit

abbrev Wv (a : Int) : Value := .agg #[.int .i64 (hi a), .int .u64 (lo a)]

theorem below_any (a : Int) (w : World) :
    Calls Try.prog 72 #[Wv a] w fun e w' => e = .returned (.bool (ng a)) ∧ w.alloc (.cells #[.int .i64 (hi a), .int .u64 (lo a)] 25) = w' := by
  have H := Lib.hid (hi_neg a)
  go_enter Try.func72, Try.ntmps72
  go_wp2
  go_ret
  exact ⟨by rw [H.out]; rfl, rfl⟩

theorem isNaN_i64 (a : Int) (w : World) : Calls Try.prog 139 #[.int .i64 a] w fun e w' => e = .returned (.bool false) ∧ w = w' := by
  go_enter Try.func139, Try.ntmps139
  go_wp2
  go_ret
  exact ⟨by simp, rfl⟩
theorem isNaN_u64 (a : Int) (w : World) : Calls Try.prog 129 #[.int .u64 a] w fun e w' => e = .returned (.bool false) ∧ w = w' := by
  go_enter Try.func129, Try.ntmps129
  go_wp2
  go_ret
  exact ⟨by simp, rfl⟩

/-- -1, 0, 1: as cmp.Compare tells it. -/
def sg (a b : Int) : Int := if a < b then -1 else if a > b then 1 else 0
theorem sg_lt {a b : Int} (h : a < b) : sg a b = -1 := by unfold sg; rw [if_pos h]
theorem sg_gt {a b : Int} (h : b < a) : sg a b = 1 := by unfold sg; rw [if_neg (by omega), if_pos h]
theorem sg_eq (a : Int) : sg a a = 0 := by unfold sg; rw [if_neg (by omega), if_neg (by omega)]

theorem compare_i64 (a b : Int) (w : World) : Calls Try.prog 126 #[.int .i64 a, .int .i64 b] w fun e w' => e = .returned (.int .i64 (sg a b)) ∧ w = w' := by
  rcases Int.lt_trichotomy a b with h | rfl | h
  · have H := Lib.hid (sg_lt h)
    go_enter Try.func126, Try.ntmps126
    go_wp2_with (go_at_call 139; refine (isNaN_i64 _ _).mono ?_; rintro e w' ⟨rfl, rfl⟩)
    go_ret
    exact ⟨by rw [H.out]; rfl, rfl⟩
  · have H := Lib.hid (sg_eq a)
    go_enter Try.func126, Try.ntmps126
    go_wp2_with (go_at_call 139; refine (isNaN_i64 _ _).mono ?_; rintro e w' ⟨rfl, rfl⟩)
    go_ret
    exact ⟨by rw [H.out]; rfl, rfl⟩
  · have H := Lib.hid (sg_gt h)
    go_enter Try.func126, Try.ntmps126
    go_wp2_with (go_at_call 139; refine (isNaN_i64 _ _).mono ?_; rintro e w' ⟨rfl, rfl⟩)
    go_ret
    exact ⟨by rw [H.out]; rfl, rfl⟩

theorem compare_u64 (a b : Int) (w : World) : Calls Try.prog 107 #[.int .u64 a, .int .u64 b] w fun e w' => e = .returned (.int .i64 (sg a b)) ∧ w = w' := by
  rcases Int.lt_trichotomy a b with h | rfl | h
  · have H := Lib.hid (sg_lt h)
    go_enter Try.func107, Try.ntmps107
    go_wp2_with (go_at_call 129; refine (isNaN_u64 _ _).mono ?_; rintro e w' ⟨rfl, rfl⟩)
    go_ret
    exact ⟨by rw [H.out]; rfl, rfl⟩
  · have H := Lib.hid (sg_eq a)
    go_enter Try.func107, Try.ntmps107
    go_wp2_with (go_at_call 129; refine (isNaN_u64 _ _).mono ?_; rintro e w' ⟨rfl, rfl⟩)
    go_ret
    exact ⟨by rw [H.out]; rfl, rfl⟩
  · have H := Lib.hid (sg_gt h)
    go_enter Try.func107, Try.ntmps107
    go_wp2_with (go_at_call 129; refine (isNaN_u64 _ _).mono ?_; rintro e w' ⟨rfl, rfl⟩)
    go_ret
    exact ⟨by rw [H.out]; rfl, rfl⟩

theorem sg_hi {a b : Int} (h : hi a ≠ hi b) : sg (hi a) (hi b) = sg a b := by
  unfold sg hi at *
  repeat' split <;> try omega
theorem sg_lo {a b : Int} (h : hi a = hi b) : sg (lo a) (lo b) = sg a b := by
  unfold sg lo hi at *
  repeat' split <;> try omega

/-- wide.Cmp -/
theorem cmp_any (a b : Int) (w : World) : Calls Try.prog 103 #[Wv a, Wv b] w fun e w' => e = .returned (.int .i64 (sg a b)) ∧ Below w.heap.size w w' := by
  by_cases h : hi a = hi b
  · have H := Lib.hid (sg_lo h)
    have g : (hi a != hi b) = false := by simp [h]
    have K := Lib.hid h
    clear h
    go_enter Try.func103, Try.ntmps103
    go_wp2_with (go_at_call 107; refine (compare_u64 _ _ _).mono ?_; rintro e w' ⟨rfl, rfl⟩)
    go_ret
    exact ⟨by rw [H.out]; rfl, ((Below.refl _ _).alloc (Nat.le_refl _) _).alloc (by simp) _⟩
  · have H := Lib.hid (sg_hi h)
    have g : (hi a != hi b) = true := by simp [h]
    clear h
    go_enter Try.func103, Try.ntmps103
    go_wp2_with (go_at_call 126; refine (compare_i64 _ _ _).mono ?_; rintro e w' ⟨rfl, rfl⟩)
    go_ret
    exact ⟨by rw [H.out]; rfl, ((Below.refl _ _).alloc (Nat.le_refl _) _).alloc (by simp) _⟩

theorem wv0 : Wv 0 = .agg #[.int .i64 0, .int .u64 0] := rfl
/-- wide.Sign -/
theorem sign_any (a : Int) (w : World) : Calls Try.prog 64 #[Wv a] w fun e w' => e = .returned (.int .i64 (sg a 0)) ∧ Below w.heap.size w w' := by
  have C := Lib.hid (fun W => cmp_any a 0 W)
  rw [wv0] at C
  go_enter Try.func64, Try.ntmps64
  go_wp2_with (go_at_call 103; refine (C.out _).mono ?_; rintro e w' ⟨rfl, hb⟩)
  go_ret
  exact ⟨rfl, ((Below.refl _ _).alloc (Nat.le_refl _) _).trans (hb.mono (by simp))⟩
end Go.Proofs.Ytkpkejccphpkpaa
