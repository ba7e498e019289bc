/-
  The references' whole numbers with a sign: as a word, halved, divided.
-/
import Derived.Test.YtkpkejccphpkpaaNatZ
import Derived.Test.YtkpkejccphpkpaaNumE
import Derived.Test.YtkpkejccphpkpaaWideC
namespace Go.Proofs.Ytkpkejccphpkpaa
open Go.RowKit

/-- The lowest limb of a number that has one. -/
theorem IsN.low {w : World} {o : Option Addr} {l c n : Nat} (h : IsN w (.slice o l c) n) (hl : l ≠ 0) :
    ∃ b off x, o = some ⟨b, off, none⟩ ∧ w.cell? ⟨b, off, none⟩ = some (.int .u64 (x : Nat)) ∧ x < 18446744073709551616 ∧ x = n % 18446744073709551616 ∧ (l = 1 → x = n) ∧ (1 < l → 18446744073709551616 ≤ n) := by
  obtain ⟨ls, r, h1, h2, h3⟩ := h
  obtain ⟨o', c', e, hc⟩ := r.form
  simp only [Value.slice.injEq] at e
  obtain ⟨rfl, rfl, rfl⟩ := e
  obtain ⟨b, off, rfl, _, hcell⟩ := hc 0 (by omega)
  have gx := getD_lt (by decide) h1 0
  have lm := limb_at h1 0
  rw [Nat.pow_zero, Nat.div_one, h2] at lm
  refine ⟨b, off, ls.getD 0 0, rfl, hcell, gx, lm.symm, fun e => ?_, fun e => ?_⟩
  · match ls, e with
    | [x], _ => rw [← h2]; simp [lval]
  · have := lval_ge 18446744073709551616 ls h3 (by intro e'; rw [e'] at e; simp at e)
    rw [h2] at this
    have p := Nat.pow_le_pow_right (show 0 < 18446744073709551616 by decide) (show 1 ≤ ls.length - 1 by omega)
    rw [Nat.pow_one] at p
    omega
theorem isS_f {z : Int} (h : z < -9223372036854775808 ∨ 9223372036854775807 < z) : isS z = false ∧ sm z = 0 := by
  have : isS z = false := by unfold isS; simp only [decide_eq_false_iff_not]; omega
  exact ⟨this, if_neg (by simp [this])⟩
theorem isS_t {z : Int} (h : -9223372036854775808 ≤ z ∧ z ≤ 9223372036854775807) : isS z = true ∧ sm z = z := ⟨isS_mk h, if_pos (isS_mk h)⟩

set_option maxRecDepth 100000 in
set_option maxHeartbeats 4000000 in
/-- Small -/
theorem ismall_any (x : Value) (z : Int) (w : World) (h : IsI w x z) : Calls Try.prog 110 #[x] w fun e w' => e = .returned (.tuple #[.int .i64 (sm z), .bool (isS z)]) ∧ Below w.heap.size w w' := by
  obtain ⟨ba, oa, la, ca, rfl, Ha⟩ := h.open
  by_cases h0 : la = 0
  · have hz := Ha.out.2.2.1 h0
    have H := Lib.hid (isS_t (z := z) (by omega))
    have HZ := Lib.hid hz
    subst h0
    clear hz h
    go_enter Try.func110, Try.ntmps110
    go_wp2
    go_ret2
    exact ⟨by rw [H.out.1, H.out.2, HZ.out] <;> rfl, by repeat (first | exact Below.refl _ _ | assumption | apply Below.drew | refine Below.setCell ?_ (by first | omega | (simp; done) | (simp; omega)) _ | refine Below.alloc ?_ (by first | omega | (simp; done) | (simp; omega)) _)⟩
  · obtain ⟨b, off, m, rfl, hc, mb, -, m1, m2⟩ := Ha.out.2.1.low h0
    have hbl : b < w.heap.size := World.block_lt_of_cell? _ _ hc
    by_cases h1 : la = 1
    · have em := m1 h1
      subst h1
      have hneg := Ha.out.1
      clear m1 m2 h
      cases ba with
      | true =>
        have zn : z < 0 := by simpa using hneg.symm
        rcases Nat.lt_or_ge 9223372036854775808 m with hm | hm
        · have H := Lib.hid (isS_f (z := z) (by omega))
          have hm' : (9223372036854775808 : Int) < (m : Int) := by omega
          clear em zn hm hneg
          go_enter Try.func110, Try.ntmps110
          go_wp2
          go_ret2
          exact ⟨by rw [H.out.1, H.out.2] <;> rfl, by repeat (first | exact Below.refl _ _ | assumption | apply Below.drew | refine Below.setCell ?_ (by first | omega | (simp; done) | (simp; omega)) _ | refine Below.alloc ?_ (by first | omega | (simp; done) | (simp; omega)) _)⟩
        · have H := Lib.hid (isS_t (z := z) (by omega))
          have hm' : ¬ (9223372036854775808 : Int) < (m : Int) := by omega
          have e1 : wrap64 (IntKind.u64.wrap (-(m : Int))) = -(m : Int) := by rw [IntKind.wrap_u64]; unfold wrap64; omega
          have ez := Lib.hid (show z = -(m : Int) by omega)
          clear em zn hm hneg
          go_enter Try.func110, Try.ntmps110
          go_wp2
          go_ret2
          exact ⟨by rw [H.out.1, H.out.2, ez.out] <;> rfl, by repeat (first | exact Below.refl _ _ | assumption | apply Below.drew | refine Below.setCell ?_ (by first | omega | (simp; done) | (simp; omega)) _ | refine Below.alloc ?_ (by first | omega | (simp; done) | (simp; omega)) _)⟩
      | false =>
        have zp : 0 ≤ z := by simpa using hneg.symm
        rcases Nat.lt_or_ge m 9223372036854775808 with hm | hm
        · have H := Lib.hid (isS_t (z := z) (by omega))
          have hm' : ¬ (9223372036854775808 : Int) ≤ (m : Int) := by omega
          have e1 : wrap64 (m : Int) = (m : Int) := by unfold wrap64; omega
          have ez := Lib.hid (show z = (m : Int) by omega)
          clear em zp hm hneg
          go_enter Try.func110, Try.ntmps110
          go_wp2
          go_ret2
          exact ⟨by rw [H.out.1, H.out.2, ez.out] <;> rfl, by repeat (first | exact Below.refl _ _ | assumption | apply Below.drew | refine Below.setCell ?_ (by first | omega | (simp; done) | (simp; omega)) _ | refine Below.alloc ?_ (by first | omega | (simp; done) | (simp; omega)) _)⟩
        · have H := Lib.hid (isS_f (z := z) (by omega))
          have hm' : (9223372036854775808 : Int) ≤ (m : Int) := by omega
          clear em zp hm hneg
          go_enter Try.func110, Try.ntmps110
          go_wp2
          go_ret2
          exact ⟨by rw [H.out.1, H.out.2] <;> rfl, by repeat (first | exact Below.refl _ _ | assumption | apply Below.drew | refine Below.setCell ?_ (by first | omega | (simp; done) | (simp; omega)) _ | refine Below.alloc ?_ (by first | omega | (simp; done) | (simp; omega)) _)⟩
    · have hm := m2 (by omega)
      have H := Lib.hid (isS_f (z := z) (by omega))
      have l1 : (1 : Int) < (la : Int) := by omega
      clear m1 m2 hm h
      go_enter Try.func110, Try.ntmps110
      go_wp2
      go_ret2
      exact ⟨by rw [H.out.1, H.out.2] <;> rfl, by repeat (first | exact Below.refl _ _ | assumption | apply Below.drew | refine Below.setCell ?_ (by first | omega | (simp; done) | (simp; omega)) _ | refine Below.alloc ?_ (by first | omega | (simp; done) | (simp; omega)) _)⟩
end Go.Proofs.Ytkpkejccphpkpaa
