/-
  The references' whole numbers: the greatest divisor of two.
  The references' whole numbers with a sign: as a word, halved, divided.
-/
import Derived.Test.YteplhlmdaabpaaaGreatDoorM01
import Derived.Test.YteplhlmdaabpaaaGreatDoorM03
import Derived.Test.YteplhlmdaabpaaaGreatDoorM15
import Derived.Test.YteplhlmdaabpaaaGreatDoorM16
namespace Go.Proofs.YteplhlmdaabpaaaGreatDoor
open Go.RowKit

theorem Rd.eq {k : IntKind} {w : World} {v : Value} {xs ys : List Nat} (hx : Rd k w v xs) (hy : Rd k w v ys) : xs = ys := by
  obtain ⟨o1, c1, e1, h1⟩ := hx.form
  obtain ⟨o2, c2, e2, h2⟩ := hy.form
  rw [e1] at e2
  simp only [Value.slice.injEq] at e2
  obtain ⟨ho, hl, _⟩ := e2
  apply List.ext_getElem hl
  intro i hi hi2
  obtain ⟨b, off, eo, _, hc⟩ := h1 i hi
  obtain ⟨b', off', eo', _, hc'⟩ := h2 i hi2
  rw [eo] at ho
  rw [← ho] at eo'
  simp only [Option.some.injEq, Addr.mk.injEq, and_true] at eo'
  obtain ⟨rfl, rfl⟩ := eo'
  rw [hc] at hc'
  simp only [Option.some.injEq, Value.int.injEq, true_and] at hc'
  simp only [List.getD, List.getElem?_eq_getElem hi, List.getElem?_eq_getElem hi2, Option.getD_some] at hc'
  omega
theorem IsN.eq {w : World} {v : Value} {m n : Nat} (hm : IsN w v m) (hn : IsN w v n) : m = n := by
  obtain ⟨xs, r1, _, e1, _⟩ := hm
  obtain ⟨ys, r2, _, e2, _⟩ := hn
  rw [← e1, ← e2, r1.eq r2]
open Classical in
/-- The number that a slice is, if it is one. -/
noncomputable def numOf (w : World) (v : Value) : Nat := if h : ∃ n, IsN w v n then h.choose else 0
theorem IsN.num {w : World} {v : Value} {n : Nat} (h : IsN w v n) : numOf w v = n := by
  have h' : ∃ n, IsN w v n := ⟨n, h⟩
  unfold numOf
  rw [dif_pos h']
  exact h'.choose_spec.eq h

set_option maxRecDepth 100000 in
set_option maxHeartbeats 8000000 in
/-- NGcd -/
theorem ngcd_any (va vb : Value) (a b : Nat) (w : World) (ha : IsN w va a) (hb : IsN w vb b) (la : a < MID) (lb : b < MID) : Calls Tryz.prog 92 #[va, vb] w (SomeN w (Nat.gcd a b)) := by
  have HA := Lib.hid (And.intro ha (And.intro hb (And.intro la lb)))
  clear ha hb la lb
  go_enter Tryz.func92, Tryz.ntmps92
  go_wp2
  go_loopw [0, 1] (fun s0 s1 wr => ∃ x y : Nat, Hid (IsN wr s0 x) ∧ Hid (IsN wr s1 y) ∧ Hid (x < MID ∧ y < MID ∧ Nat.gcd x y = Nat.gcd a b) ∧ Below w.heap.size w wr) (fun _ s1 wr => numOf wr s1)
  case atStart => exact ⟨a, b, HA.out.1, HA.out.2.1, ⟨HA.out.2.2.1, HA.out.2.2.2, rfl⟩, Below.refl _ _⟩
  case round =>
    obtain ⟨x, y, HX, HY, HV, hB⟩ := hrel
    have hBs := hB.size
    obtain ⟨o, l, c, rfl, hl⟩ := HY.out.form
    by_cases h0 : l = 0
    · have hy := Lib.hid (hl.1 h0)
      subst h0
      clear hl
      go_wp2
      go_ret
      refine ⟨_, rfl, ?_, hB⟩
      have h := HV.out.2.2
      rw [hy.out, Nat.gcd_zero_right] at h
      rw [← h]; exact HX.out
    · have hy : y ≠ 0 := fun e => h0 (hl.2 e)
      have HN := Lib.hid hy
      have lp : (0 : Int) < (l : Int) := by omega
      clear hl h0 hy
      go_wp2_with (go_at_call 90; (with_reducible refine (ndivide_any _ _ x y _ (HX.out.below (by repeat (first | exact Below.refl _ _ | assumption | apply Below.drew | refine Below.setCell ?_ (by first | omega | (simp; done) | (simp; omega)) _ | refine Below.alloc ?_ (by first | omega | (simp; done) | (simp; omega)) _))) (HY.out.below (by repeat (first | exact Below.refl _ _ | assumption | apply Below.drew | refine Below.setCell ?_ (by first | omega | (simp; done) | (simp; omega)) _ | refine Below.alloc ?_ (by first | omega | (simp; done) | (simp; omega)) _))) HV.out.1 HV.out.2.1 HN.out).mono ?_); rintro e w2 ⟨u, v, rfl, hu, hv, hb2⟩)
      have ml := Nat.mod_lt x (Nat.pos_of_ne_zero HN.out)
      refine ⟨⟨y, x % y, HY.out.below (by repeat (first | exact Below.refl _ _ | assumption | apply Below.drew | refine Below.setCell ?_ (by first | omega | (simp; done) | (simp; omega)) _ | refine Below.alloc ?_ (by first | omega | (simp; done) | (simp; omega)) _ | refine Below.trans ?_ (hb2.mono (by first | omega | (simp; done) | (simp; omega))))), hv, ⟨HV.out.2.1, Nat.lt_trans ml HV.out.2.1, ?_⟩, by repeat (first | exact Below.refl _ _ | assumption | apply Below.drew | refine Below.setCell ?_ (by first | omega | (simp; done) | (simp; omega)) _ | refine Below.alloc ?_ (by first | omega | (simp; done) | (simp; omega)) _ | refine Below.trans ?_ (hb2.mono (by first | omega | (simp; done) | (simp; omega))))⟩, ?_⟩
      · rw [Nat.gcd_comm, ← Nat.gcd_rec, Nat.gcd_comm]; exact HV.out.2.2
      · rw [hv.num, HY.out.num]; exact ml
end Go.Proofs.YteplhlmdaabpaaaGreatDoor
namespace Go.Proofs.YteplhlmdaabpaaaGreatDoor
open Go.RowKit

/-- The lowest limb of a number that has one. -/
theorem IsN.low {w : World} {o : Option Addr} {l c n : Nat} (h : IsN w (.slice o l c) n) (hl : l ≠ 0) :
    ∃ b off x, o = some ⟨b, off, none⟩ ∧ w.cell? ⟨b, off, none⟩ = some (.int .u64 (x : Nat)) ∧ x < 18446744073709551616 ∧ x = n % 18446744073709551616 ∧ (l = 1 → x = n) ∧ (1 < l → 18446744073709551616 ≤ n) := by
  obtain ⟨ls, r, h1, h2, h3⟩ := h
  obtain ⟨o', c', e, hc⟩ := r.form
  simp only [Value.slice.injEq] at e
  obtain ⟨rfl, rfl, rfl⟩ := e
  obtain ⟨b, off, rfl, _, hcell⟩ := hc 0 (by omega)
  have gx := getD_lt (by decide) h1 0
  have lm := limb_at h1 0
  rw [Nat.pow_zero, Nat.div_one, h2] at lm
  refine ⟨b, off, ls.getD 0 0, rfl, hcell, gx, lm.symm, fun e => ?_, fun e => ?_⟩
  · match ls, e with
    | [x], _ => rw [← h2]; simp [lval]
  · have := lval_ge 18446744073709551616 ls h3 (by intro e'; rw [e'] at e; simp at e)
    rw [h2] at this
    have p := Nat.pow_le_pow_right (show 0 < 18446744073709551616 by decide) (show 1 ≤ ls.length - 1 by omega)
    rw [Nat.pow_one] at p
    omega
theorem isS_f {z : Int} (h : z < -9223372036854775808 ∨ 9223372036854775807 < z) : isS z = false ∧ sm z = 0 := by
  have : isS z = false := by unfold isS; simp only [decide_eq_false_iff_not]; omega
  exact ⟨this, if_neg (by simp [this])⟩
theorem isS_t {z : Int} (h : -9223372036854775808 ≤ z ∧ z ≤ 9223372036854775807) : isS z = true ∧ sm z = z := ⟨isS_mk h, if_pos (isS_mk h)⟩

set_option maxRecDepth 100000 in
set_option maxHeartbeats 4000000 in
/-- Small -/
theorem ismall_any (x : Value) (z : Int) (w : World) (h : IsI w x z) : Calls Tryz.prog 71 #[x] w fun e w' => e = .returned (.tuple #[.int .i64 (sm z), .bool (isS z)]) ∧ Below w.heap.size w w' := by
  obtain ⟨ba, oa, la, ca, rfl, Ha⟩ := h.open
  by_cases h0 : la = 0
  · have hz := Ha.out.2.2.1 h0
    have H := Lib.hid (isS_t (z := z) (by omega))
    have HZ := Lib.hid hz
    subst h0
    clear hz h
    go_enter Tryz.func71, Tryz.ntmps71
    go_wp2
    go_ret2
    exact ⟨by rw [H.out.1, H.out.2, HZ.out] <;> rfl, by repeat (first | exact Below.refl _ _ | assumption | apply Below.drew | refine Below.setCell ?_ (by first | omega | (simp; done) | (simp; omega)) _ | refine Below.alloc ?_ (by first | omega | (simp; done) | (simp; omega)) _)⟩
  · obtain ⟨b, off, m, rfl, hc, mb, -, m1, m2⟩ := Ha.out.2.1.low h0
    have hbl : b < w.heap.size := World.block_lt_of_cell? _ _ hc
    by_cases h1 : la = 1
    · have em := m1 h1
      subst h1
      have hneg := Ha.out.1
      clear m1 m2 h
      cases ba with
      | true =>
        have zn : z < 0 := by simpa using hneg.symm
        rcases Nat.lt_or_ge 9223372036854775808 m with hm | hm
        · have H := Lib.hid (isS_f (z := z) (by omega))
          have hm' : (9223372036854775808 : Int) < (m : Int) := by omega
          clear em zn hm hneg
          go_enter Tryz.func71, Tryz.ntmps71
          go_wp2
          go_ret2
          exact ⟨by rw [H.out.1, H.out.2] <;> rfl, by repeat (first | exact Below.refl _ _ | assumption | apply Below.drew | refine Below.setCell ?_ (by first | omega | (simp; done) | (simp; omega)) _ | refine Below.alloc ?_ (by first | omega | (simp; done) | (simp; omega)) _)⟩
        · have H := Lib.hid (isS_t (z := z) (by omega))
          have hm' : ¬ (9223372036854775808 : Int) < (m : Int) := by omega
          have e1 : wrap64 (IntKind.u64.wrap (-(m : Int))) = -(m : Int) := by rw [IntKind.wrap_u64]; unfold wrap64; omega
          have ez := Lib.hid (show z = -(m : Int) by omega)
          clear em zn hm hneg
          go_enter Tryz.func71, Tryz.ntmps71
          go_wp2
          go_ret2
          exact ⟨by rw [H.out.1, H.out.2, ez.out] <;> rfl, by repeat (first | exact Below.refl _ _ | assumption | apply Below.drew | refine Below.setCell ?_ (by first | omega | (simp; done) | (simp; omega)) _ | refine Below.alloc ?_ (by first | omega | (simp; done) | (simp; omega)) _)⟩
      | false =>
        have zp : 0 ≤ z := by simpa using hneg.symm
        rcases Nat.lt_or_ge m 9223372036854775808 with hm | hm
        · have H := Lib.hid (isS_t (z := z) (by omega))
          have hm' : ¬ (9223372036854775808 : Int) ≤ (m : Int) := by omega
          have e1 : wrap64 (m : Int) = (m : Int) := by unfold wrap64; omega
          have ez := Lib.hid (show z = (m : Int) by omega)
          clear em zp hm hneg
          go_enter Tryz.func71, Tryz.ntmps71
          go_wp2
          go_ret2
          exact ⟨by rw [H.out.1, H.out.2, ez.out] <;> rfl, by repeat (first | exact Below.refl _ _ | assumption | apply Below.drew | refine Below.setCell ?_ (by first | omega | (simp; done) | (simp; omega)) _ | refine Below.alloc ?_ (by first | omega | (simp; done) | (simp; omega)) _)⟩
        · have H := Lib.hid (isS_f (z := z) (by omega))
          have hm' : (9223372036854775808 : Int) ≤ (m : Int) := by omega
          clear em zp hm hneg
          go_enter Tryz.func71, Tryz.ntmps71
          go_wp2
          go_ret2
          exact ⟨by rw [H.out.1, H.out.2] <;> rfl, by repeat (first | exact Below.refl _ _ | assumption | apply Below.drew | refine Below.setCell ?_ (by first | omega | (simp; done) | (simp; omega)) _ | refine Below.alloc ?_ (by first | omega | (simp; done) | (simp; omega)) _)⟩
    · have hm := m2 (by omega)
      have H := Lib.hid (isS_f (z := z) (by omega))
      have l1 : (1 : Int) < (la : Int) := by omega
      clear m1 m2 hm h
      go_enter Tryz.func71, Tryz.ntmps71
      go_wp2
      go_ret2
      exact ⟨by rw [H.out.1, H.out.2] <;> rfl, by repeat (first | exact Below.refl _ _ | assumption | apply Below.drew | refine Below.setCell ?_ (by first | omega | (simp; done) | (simp; omega)) _ | refine Below.alloc ?_ (by first | omega | (simp; done) | (simp; omega)) _)⟩
end Go.Proofs.YteplhlmdaabpaaaGreatDoor
