/-
  The references' whole numbers: the greatest divisor of two.
-/
import Derived.Test.YtkpkejccphpkpaaNatY
import Derived.Test.YtkpkejccphpkpaaInt
namespace Go.Proofs.Ytkpkejccphpkpaa
open Go.RowKit

theorem Rd.eq {k : IntKind} {w : World} {v : Value} {xs ys : List Nat} (hx : Rd k w v xs) (hy : Rd k w v ys) : xs = ys := by
  obtain ⟨o1, c1, e1, h1⟩ := hx.form
  obtain ⟨o2, c2, e2, h2⟩ := hy.form
  rw [e1] at e2
  simp only [Value.slice.injEq] at e2
  obtain ⟨ho, hl, _⟩ := e2
  apply List.ext_getElem hl
  intro i hi hi2
  obtain ⟨b, off, eo, _, hc⟩ := h1 i hi
  obtain ⟨b', off', eo', _, hc'⟩ := h2 i hi2
  rw [eo] at ho
  rw [← ho] at eo'
  simp only [Option.some.injEq, Addr.mk.injEq, and_true] at eo'
  obtain ⟨rfl, rfl⟩ := eo'
  rw [hc] at hc'
  simp only [Option.some.injEq, Value.int.injEq, true_and] at hc'
  simp only [List.getD, List.getElem?_eq_getElem hi, List.getElem?_eq_getElem hi2, Option.getD_some] at hc'
  omega
theorem IsN.eq {w : World} {v : Value} {m n : Nat} (hm : IsN w v m) (hn : IsN w v n) : m = n := by
  obtain ⟨xs, r1, _, e1, _⟩ := hm
  obtain ⟨ys, r2, _, e2, _⟩ := hn
  rw [← e1, ← e2, r1.eq r2]
open Classical in
/-- The number that a slice is, if it is one. -/
noncomputable def numOf (w : World) (v : Value) : Nat := if h : ∃ n, IsN w v n then h.choose else 0
theorem IsN.num {w : World} {v : Value} {n : Nat} (h : IsN w v n) : numOf w v = n := by
  have h' : ∃ n, IsN w v n := ⟨n, h⟩
  unfold numOf
  rw [dif_pos h']
  exact h'.choose_spec.eq h

set_option maxRecDepth 100000 in
set_option maxHeartbeats 8000000 in
/-- NGcd -/
theorem ngcd_any (va vb : Value) (a b : Nat) (w : World) (ha : IsN w va a) (hb : IsN w vb b) (la : a < MID) (lb : b < MID) : Calls Try.prog 92 #[va, vb] w (SomeN w (Nat.gcd a b)) := by
  have HA := Lib.hid (And.intro ha (And.intro hb (And.intro la lb)))
  clear ha hb la lb
  go_enter Try.func92, Try.ntmps92
  go_wp2
  go_loopw [0, 1] (fun s0 s1 wr => ∃ x y : Nat, Hid (IsN wr s0 x) ∧ Hid (IsN wr s1 y) ∧ Hid (x < MID ∧ y < MID ∧ Nat.gcd x y = Nat.gcd a b) ∧ Below w.heap.size w wr) (fun _ s1 wr => numOf wr s1)
  case atStart => exact ⟨a, b, HA.out.1, HA.out.2.1, ⟨HA.out.2.2.1, HA.out.2.2.2, rfl⟩, Below.refl _ _⟩
  case round =>
    obtain ⟨x, y, HX, HY, HV, hB⟩ := hrel
    have hBs := hB.size
    obtain ⟨o, l, c, rfl, hl⟩ := HY.out.form
    by_cases h0 : l = 0
    · have hy := Lib.hid (hl.1 h0)
      subst h0
      clear hl
      go_wp2
      go_ret
      refine ⟨_, rfl, ?_, hB⟩
      have h := HV.out.2.2
      rw [hy.out, Nat.gcd_zero_right] at h
      rw [← h]; exact HX.out
    · have hy : y ≠ 0 := fun e => h0 (hl.2 e)
      have HN := Lib.hid hy
      have lp : (0 : Int) < (l : Int) := by omega
      clear hl h0 hy
      go_wp2_with (go_at_call 93; (with_reducible refine (ndivide_any _ _ x y _ (HX.out.below (by repeat (first | exact Below.refl _ _ | assumption | apply Below.drew | refine Below.setCell ?_ (by first | omega | (simp; done) | (simp; omega)) _ | refine Below.alloc ?_ (by first | omega | (simp; done) | (simp; omega)) _))) (HY.out.below (by repeat (first | exact Below.refl _ _ | assumption | apply Below.drew | refine Below.setCell ?_ (by first | omega | (simp; done) | (simp; omega)) _ | refine Below.alloc ?_ (by first | omega | (simp; done) | (simp; omega)) _))) HV.out.1 HV.out.2.1 HN.out).mono ?_); rintro e w2 ⟨u, v, rfl, hu, hv, hb2⟩)
      have ml := Nat.mod_lt x (Nat.pos_of_ne_zero HN.out)
      refine ⟨⟨y, x % y, HY.out.below (by repeat (first | exact Below.refl _ _ | assumption | apply Below.drew | refine Below.setCell ?_ (by first | omega | (simp; done) | (simp; omega)) _ | refine Below.alloc ?_ (by first | omega | (simp; done) | (simp; omega)) _ | refine Below.trans ?_ (hb2.mono (by first | omega | (simp; done) | (simp; omega))))), hv, ⟨HV.out.2.1, Nat.lt_trans ml HV.out.2.1, ?_⟩, by repeat (first | exact Below.refl _ _ | assumption | apply Below.drew | refine Below.setCell ?_ (by first | omega | (simp; done) | (simp; omega)) _ | refine Below.alloc ?_ (by first | omega | (simp; done) | (simp; omega)) _ | refine Below.trans ?_ (hb2.mono (by first | omega | (simp; done) | (simp; omega))))⟩, ?_⟩
      · rw [Nat.gcd_comm, ← Nat.gcd_rec, Nat.gcd_comm]; exact HV.out.2.2
      · rw [hv.num, HY.out.num]; exact ml
end Go.Proofs.Ytkpkejccphpkpaa
