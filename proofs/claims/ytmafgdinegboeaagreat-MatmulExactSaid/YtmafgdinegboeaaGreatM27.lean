/-
  
  
  
-/
import Derived.Test.YtmafgdinegboeaaGreatM08
import Derived.Test.YtmafgdinegboeaaGreatM09
import Derived.Test.YtmafgdinegboeaaGreatM25
import Derived.Test.YtmafgdinegboeaaGreatM26
namespace Go.Proofs.YtmafgdinegboeaaGreat
open Go.RowKit

theorem Rd.eq {k : IntKind} {w : World} {v : Value} {xs ys : List Nat} (hx : Rd k w v xs) (hy : Rd k w v ys) : xs = ys := by
  obtain ⟨o1, c1, e1, h1⟩ := hx.form
  obtain ⟨o2, c2, e2, h2⟩ := hy.form
  rw [e1] at e2
  simp only [Value.slice.injEq] at e2
  obtain ⟨ho, hl, _⟩ := e2
  apply List.ext_getElem hl
  intro i hi hi2
  obtain ⟨b, off, eo, _, hc⟩ := h1 i hi
  obtain ⟨b', off', eo', _, hc'⟩ := h2 i hi2
  rw [eo] at ho
  rw [← ho] at eo'
  simp only [Option.some.injEq, Addr.mk.injEq, and_true] at eo'
  obtain ⟨rfl, rfl⟩ := eo'
  rw [hc] at hc'
  simp only [Option.some.injEq, Value.int.injEq, true_and] at hc'
  simp only [List.getD, List.getElem?_eq_getElem hi, List.getElem?_eq_getElem hi2, Option.getD_some] at hc'
  omega
theorem IsN.eq {w : World} {v : Value} {m n : Nat} (hm : IsN w v m) (hn : IsN w v n) : m = n := by
  obtain ⟨xs, r1, _, e1, _⟩ := hm
  obtain ⟨ys, r2, _, e2, _⟩ := hn
  rw [← e1, ← e2, r1.eq r2]
open Classical in
noncomputable def numOf (w : World) (v : Value) : Nat := if h : ∃ n, IsN w v n then h.choose else 0
theorem IsN.num {w : World} {v : Value} {n : Nat} (h : IsN w v n) : numOf w v = n := by
  have h' : ∃ n, IsN w v n := ⟨n, h⟩
  unfold numOf
  rw [dif_pos h']
  exact h'.choose_spec.eq h

set_option maxRecDepth 100000 in
set_option maxHeartbeats 8000000 in
theorem ngcd_any (va vb : Value) (a b : Nat) (w : World) (ha : IsN w va a) (hb : IsN w vb b) (la : a < MID) (lb : b < MID) : Calls Tryz.prog 119 #[va, vb] w (SomeN w (Nat.gcd a b)) := by
  have HA := Lib.hid (And.intro ha (And.intro hb (And.intro la lb)))
  clear ha hb la lb
  go_enter Tryz.func119, Tryz.ntmps119
  go_wp2
  go_loopw [0, 1] (fun s0 s1 wr => ∃ x y : Nat, Hid (IsN wr s0 x) ∧ Hid (IsN wr s1 y) ∧ Hid (x < MID ∧ y < MID ∧ Nat.gcd x y = Nat.gcd a b) ∧ Below w.heap.size w wr) (fun _ s1 wr => numOf wr s1)
  case atStart => exact ⟨a, b, HA.out.1, HA.out.2.1, ⟨HA.out.2.2.1, HA.out.2.2.2, rfl⟩, Below.refl _ _⟩
  case round =>
    obtain ⟨x, y, HX, HY, HV, hB⟩ := hrel
    have hBs := hB.size
    obtain ⟨o, l, c, rfl, hl⟩ := HY.out.form
    by_cases h0 : l = 0
    · have hy := Lib.hid (hl.1 h0)
      subst h0
      clear hl
      go_wp2
      go_ret
      refine ⟨_, rfl, ?_, hB⟩
      have h := HV.out.2.2
      rw [hy.out, Nat.gcd_zero_right] at h
      rw [← h]; exact HX.out
    · have hy : y ≠ 0 := fun e => h0 (hl.2 e)
      have HN := Lib.hid hy
      have lp : (0 : Int) < (l : Int) := by omega
      clear hl h0 hy
      go_wp2_with (go_at_call 120; (with_reducible refine (ndivide_any _ _ x y _ (HX.out.below (by repeat (first | exact Below.refl _ _ | assumption | apply Below.drew | refine Below.setCell ?_ (by first | omega | (simp; done) | (simp; omega)) _ | refine Below.alloc ?_ (by first | omega | (simp; done) | (simp; omega)) _))) (HY.out.below (by repeat (first | exact Below.refl _ _ | assumption | apply Below.drew | refine Below.setCell ?_ (by first | omega | (simp; done) | (simp; omega)) _ | refine Below.alloc ?_ (by first | omega | (simp; done) | (simp; omega)) _))) HV.out.1 HV.out.2.1 HN.out).mono ?_); rintro e w2 ⟨u, v, rfl, hu, hv, hb2⟩)
      have ml := Nat.mod_lt x (Nat.pos_of_ne_zero HN.out)
      refine ⟨⟨y, x % y, HY.out.below (by repeat (first | exact Below.refl _ _ | assumption | apply Below.drew | refine Below.setCell ?_ (by first | omega | (simp; done) | (simp; omega)) _ | refine Below.alloc ?_ (by first | omega | (simp; done) | (simp; omega)) _ | refine Below.trans ?_ (hb2.mono (by first | omega | (simp; done) | (simp; omega))))), hv, ⟨HV.out.2.1, Nat.lt_trans ml HV.out.2.1, ?_⟩, by repeat (first | exact Below.refl _ _ | assumption | apply Below.drew | refine Below.setCell ?_ (by first | omega | (simp; done) | (simp; omega)) _ | refine Below.alloc ?_ (by first | omega | (simp; done) | (simp; omega)) _ | refine Below.trans ?_ (hb2.mono (by first | omega | (simp; done) | (simp; omega))))⟩, ?_⟩
      · rw [Nat.gcd_comm, ← Nat.gcd_rec, Nat.gcd_comm]; exact HV.out.2.2
      · rw [hv.num, HY.out.num]; exact ml
end Go.Proofs.YtmafgdinegboeaaGreat
namespace Go.Proofs.YtmafgdinegboeaaGreat
open Go.RowKit

theorem IsN.low {w : World} {o : Option Addr} {l c n : Nat} (h : IsN w (.slice o l c) n) (hl : l ≠ 0) :
    ∃ b off x, o = some ⟨b, off, none⟩ ∧ w.cell? ⟨b, off, none⟩ = some (.int .u64 (x : Nat)) ∧ x < 18446744073709551616 ∧ x = n % 18446744073709551616 ∧ (l = 1 → x = n) ∧ (1 < l → 18446744073709551616 ≤ n) := by
  obtain ⟨ls, r, h1, h2, h3⟩ := h
  obtain ⟨o', c', e, hc⟩ := r.form
  simp only [Value.slice.injEq] at e
  obtain ⟨rfl, rfl, rfl⟩ := e
  obtain ⟨b, off, rfl, _, hcell⟩ := hc 0 (by omega)
  have gx := getD_lt (by decide) h1 0
  have lm := limb_at h1 0
  rw [Nat.pow_zero, Nat.div_one, h2] at lm
  refine ⟨b, off, ls.getD 0 0, rfl, hcell, gx, lm.symm, fun e => ?_, fun e => ?_⟩
  · match ls, e with
    | [x], _ => rw [← h2]; simp [lval]
  · have := lval_ge 18446744073709551616 ls h3 (by intro e'; rw [e'] at e; simp at e)
    rw [h2] at this
    have p := Nat.pow_le_pow_right (show 0 < 18446744073709551616 by decide) (show 1 ≤ ls.length - 1 by omega)
    rw [Nat.pow_one] at p
    omega
theorem isS_f {z : Int} (h : z < -9223372036854775808 ∨ 9223372036854775807 < z) : isS z = false ∧ sm z = 0 := by
  have : isS z = false := by unfold isS; simp only [decide_eq_false_iff_not]; omega
  exact ⟨this, if_neg (by simp [this])⟩
theorem isS_t {z : Int} (h : -9223372036854775808 ≤ z ∧ z ≤ 9223372036854775807) : isS z = true ∧ sm z = z := ⟨isS_mk h, if_pos (isS_mk h)⟩

set_option maxRecDepth 100000 in
set_option maxHeartbeats 4000000 in
theorem ismall_any (x : Value) (z : Int) (w : World) (h : IsI w x z) : Calls Tryz.prog 172 #[x] w fun e w' => e = .returned (.tuple #[.int .i64 (sm z), .bool (isS z)]) ∧ Below w.heap.size w w' := by
  obtain ⟨ba, oa, la, ca, rfl, Ha⟩ := h.open
  by_cases h0 : la = 0
  · have hz := Ha.out.2.2.1 h0
    have H := Lib.hid (isS_t (z := z) (by omega))
    have HZ := Lib.hid hz
    subst h0
    clear hz h
    go_enter Tryz.func172, Tryz.ntmps172
    go_wp2
    go_ret2
    exact ⟨by rw [H.out.1, H.out.2, HZ.out] <;> rfl, by repeat (first | exact Below.refl _ _ | assumption | apply Below.drew | refine Below.setCell ?_ (by first | omega | (simp; done) | (simp; omega)) _ | refine Below.alloc ?_ (by first | omega | (simp; done) | (simp; omega)) _)⟩
  · obtain ⟨b, off, m, rfl, hc, mb, -, m1, m2⟩ := Ha.out.2.1.low h0
    have hbl : b < w.heap.size := World.block_lt_of_cell? _ _ hc
    by_cases h1 : la = 1
    · have em := m1 h1
      subst h1
      have hneg := Ha.out.1
      clear m1 m2 h
      cases ba with
      | true =>
        have zn : z < 0 := by simpa using hneg.symm
        rcases Nat.lt_or_ge 9223372036854775808 m with hm | hm
        · have H := Lib.hid (isS_f (z := z) (by omega))
          have hm' : (9223372036854775808 : Int) < (m : Int) := by omega
          clear em zn hm hneg
          go_enter Tryz.func172, Tryz.ntmps172
          go_wp2
          go_ret2
          exact ⟨by rw [H.out.1, H.out.2] <;> rfl, by repeat (first | exact Below.refl _ _ | assumption | apply Below.drew | refine Below.setCell ?_ (by first | omega | (simp; done) | (simp; omega)) _ | refine Below.alloc ?_ (by first | omega | (simp; done) | (simp; omega)) _)⟩
        · have H := Lib.hid (isS_t (z := z) (by omega))
          have hm' : ¬ (9223372036854775808 : Int) < (m : Int) := by omega
          have e1 : wrap64 (IntKind.u64.wrap (-(m : Int))) = -(m : Int) := by rw [IntKind.wrap_u64]; unfold wrap64; omega
          have ez := Lib.hid (show z = -(m : Int) by omega)
          clear em zn hm hneg
          go_enter Tryz.func172, Tryz.ntmps172
          go_wp2
          go_ret2
          exact ⟨by rw [H.out.1, H.out.2, ez.out] <;> rfl, by repeat (first | exact Below.refl _ _ | assumption | apply Below.drew | refine Below.setCell ?_ (by first | omega | (simp; done) | (simp; omega)) _ | refine Below.alloc ?_ (by first | omega | (simp; done) | (simp; omega)) _)⟩
      | false =>
        have zp : 0 ≤ z := by simpa using hneg.symm
        rcases Nat.lt_or_ge m 9223372036854775808 with hm | hm
        · have H := Lib.hid (isS_t (z := z) (by omega))
          have hm' : ¬ (9223372036854775808 : Int) ≤ (m : Int) := by omega
          have e1 : wrap64 (m : Int) = (m : Int) := by unfold wrap64; omega
          have ez := Lib.hid (show z = (m : Int) by omega)
          clear em zp hm hneg
          go_enter Tryz.func172, Tryz.ntmps172
          go_wp2
          go_ret2
          exact ⟨by rw [H.out.1, H.out.2, ez.out] <;> rfl, by repeat (first | exact Below.refl _ _ | assumption | apply Below.drew | refine Below.setCell ?_ (by first | omega | (simp; done) | (simp; omega)) _ | refine Below.alloc ?_ (by first | omega | (simp; done) | (simp; omega)) _)⟩
        · have H := Lib.hid (isS_f (z := z) (by omega))
          have hm' : (9223372036854775808 : Int) ≤ (m : Int) := by omega
          clear em zp hm hneg
          go_enter Tryz.func172, Tryz.ntmps172
          go_wp2
          go_ret2
          exact ⟨by rw [H.out.1, H.out.2] <;> rfl, by repeat (first | exact Below.refl _ _ | assumption | apply Below.drew | refine Below.setCell ?_ (by first | omega | (simp; done) | (simp; omega)) _ | refine Below.alloc ?_ (by first | omega | (simp; done) | (simp; omega)) _)⟩
    · have hm := m2 (by omega)
      have H := Lib.hid (isS_f (z := z) (by omega))
      have l1 : (1 : Int) < (la : Int) := by omega
      clear m1 m2 hm h
      go_enter Tryz.func172, Tryz.ntmps172
      go_wp2
      go_ret2
      exact ⟨by rw [H.out.1, H.out.2] <;> rfl, by repeat (first | exact Below.refl _ _ | assumption | apply Below.drew | refine Below.setCell ?_ (by first | omega | (simp; done) | (simp; omega)) _ | refine Below.alloc ?_ (by first | omega | (simp; done) | (simp; omega)) _)⟩
end Go.Proofs.YtmafgdinegboeaaGreat
namespace Go.Proofs.YtmafgdinegboeaaGreat
open Go.RowKit

theorem right_pos {z : Int} (h : 0 ≤ z) (n : Nat) : z / 2 ^ n = if false = true then -((z.natAbs / 2 ^ n : Nat) : Int) else ((z.natAbs / 2 ^ n : Nat) : Int) := by
  rw [if_neg (by decide), Int.natCast_ediv, Int.natAbs_of_nonneg h]
  simp
theorem right_even {z : Int} {n m : Nat} (h : z < 0) (_hm : m = z.natAbs / 2 ^ n) (he : m * 2 ^ n = z.natAbs) : z / 2 ^ n = -(m : Int) := by
  have p : (0 : Int) < 2 ^ n := Int.pow_pos (by decide)
  have e : z = -(m : Int) * 2 ^ n := by
    have : ((m * 2 ^ n : Nat) : Int) = z.natAbs := by rw [he]
    rw [Int.natCast_mul, Int.natCast_pow] at this
    rw [Int.neg_mul]
    have e2 : ((2 : Nat) : Int) = 2 := rfl
    rw [e2] at this
    omega
  rw [e, Int.mul_ediv_cancel _ (by omega)]
theorem right_odd {z : Int} {n m : Nat} (h : z < 0) (hm : m = z.natAbs / 2 ^ n) (he : m * 2 ^ n ≠ z.natAbs) : z / 2 ^ n = -((m + 1 : Nat) : Int) := by
  have p : (0 : Nat) < 2 ^ n := Nat.two_pow_pos n
  have d := Nat.div_add_mod z.natAbs (2 ^ n)
  have l := Nat.mod_lt z.natAbs p
  rw [← hm] at d
  have r0 : z.natAbs % 2 ^ n ≠ 0 := by intro e; rw [e, Nat.mul_comm] at d; exact he (by omega)
  have hP : (((2 : Nat) ^ n : Nat) : Int) = (2 : Int) ^ n := by simp
  rw [← hP]
  generalize z.natAbs % 2 ^ n = r at *
  generalize (2 : Nat) ^ n = P at *
  have e : z = ((P : Int) - r) + (P : Int) * (-((m : Int) + 1)) := by
    have h1 : ((P * m + r : Nat) : Int) = z.natAbs := by rw [d]
    rw [Int.natCast_add, Int.natCast_mul] at h1
    rw [Int.mul_neg, Int.mul_add, Int.mul_one]
    generalize (P : Int) * (m : Int) = A at *
    omega
  rw [e, Int.add_mul_ediv_left _ _ (by omega), Int.ediv_eq_zero_of_lt (by omega) (by omega)]
  omega

theorem nof_1 (w : World) : Calls Tryz.prog 57 #[.int .u64 1] w (SomeN w 1) := nof_num 1 w (by decide)
set_option maxRecDepth 100000 in
set_option maxHeartbeats 8000000 in
theorem iright_any (x : Value) (z : Int) (n : Nat) (w : World) (h : IsI w x z) (gz : z.natAbs < BIG) (hn : n ≤ 1048576) : Calls Tryz.prog 175 #[x, .int .i64 n] w (SomeI w (z / 2 ^ n)) := by
  obtain ⟨ba, oa, la, ca, rfl, Ha⟩ := h.open
  have G := Lib.hid (And.intro gz hn)
  have DC := Lib.hid (fun W h => down2_any (.slice oa la ca) z.natAbs n W h gz (by omega))
  clear gz hn h
  cases ba with
  | false =>
    have zp : Hid (0 ≤ z) := by have := Ha.out.1; simp at this; exact this
    go_enter Tryz.func175, Tryz.ntmps175
    go_wp2_with (first | (go_at_call 180; (with_reducible refine (DC.out _ (Ha.out.2.1.below (by repeat (first | exact Below.refl _ _ | assumption | apply Below.drew | refine Below.setCell ?_ (by first | omega | (simp; done) | (simp; omega)) _ | refine Below.alloc ?_ (by first | omega | (simp; done) | (simp; omega)) _)))).mono ?_); rintro e w1 ⟨vm, rfl, hnm, hb1⟩; have e10 : w1.cell? ⟨w.heap.size, 0, none⟩ = some (.bool false) := cell_on hb1; have e11 : w1.cell? ⟨w.heap.size, 1, none⟩ = some (Value.slice oa la ca) := cell_on hb1; have e12 : w1.cell? ⟨w.heap.size + 1, 0, none⟩ = some (.bool false) := cell_on hb1; have e13 : w1.cell? ⟨w.heap.size + 1, 1, none⟩ = some (.slice none 0 0) := cell_on hb1; have s10 : w.heap.size < w1.heap.size := World.block_lt_of_cell? _ _ e10; have t10 : w.heap.size < w1.heap.size + 1 := Nat.lt_succ_of_lt s10; have s12 : w.heap.size + 1 < w1.heap.size := World.block_lt_of_cell? _ _ e12; have t12 : w.heap.size + 1 < w1.heap.size + 1 := Nat.lt_succ_of_lt s12; have y12 : w1.frozen? ⟨w.heap.size + 1, 0, none⟩ = false := frozen_on hb1 (v := .bool false); have y13 : w1.frozen? ⟨w.heap.size + 1, 1, none⟩ = false := frozen_on hb1 (v := .slice none 0 0); have q1 := hb1.size; (try simp at q1); have Nm := Lib.hid hnm; clear hnm) | (go_at_call 112; (with_reducible refine (made_as _ _ (z.natAbs / 2 ^ n) (z / 2 ^ n) _ Nm.out (right_pos zp.out n)).mono ?_); rintro e w2 ⟨v, rfl, hv, hb2⟩; have e20 : w2.cell? ⟨w.heap.size, 0, none⟩ = some (.bool false) := cell_on hb2; have e21 : w2.cell? ⟨w.heap.size, 1, none⟩ = some (Value.slice oa la ca) := cell_on hb2; have e22 : w2.cell? ⟨w.heap.size + 1, 0, none⟩ = some (.bool false) := cell_on hb2; have e23 : w2.cell? ⟨w.heap.size + 1, 1, none⟩ = some (.slice none 0 0) := cell_on hb2; have s20 : w.heap.size < w2.heap.size := World.block_lt_of_cell? _ _ e20; have t20 : w.heap.size < w2.heap.size + 1 := Nat.lt_succ_of_lt s20; have s22 : w.heap.size + 1 < w2.heap.size := World.block_lt_of_cell? _ _ e22; have t22 : w.heap.size + 1 < w2.heap.size + 1 := Nat.lt_succ_of_lt s22; have y22 : w2.frozen? ⟨w.heap.size + 1, 0, none⟩ = false := frozen_on hb2 (v := .bool false); have y23 : w2.frozen? ⟨w.heap.size + 1, 1, none⟩ = false := frozen_on hb2 (v := .slice none 0 0); have q2 := hb2.size; (try simp at q2); obtain ⟨bv, ov, lv, cv, rfl, Hv⟩ := hv.open; clear hv) | fail)
    first | (go_region_with fail) | fail
    all_goals
      go_wp2_with (first | (go_at_call 112; (with_reducible refine (made_as _ _ (z.natAbs / 2 ^ n) (z / 2 ^ n) _ (Nm.out.below (by repeat (first | exact Below.refl _ _ | assumption | apply Below.drew | refine Below.setCell ?_ (by first | omega | (simp; done) | (simp; omega)) _ | refine Below.alloc ?_ (by first | omega | (simp; done) | (simp; omega)) _))) (right_pos zp.out n)).mono ?_); rintro e w2 ⟨v, rfl, hv, hb2⟩; have e20 : w2.cell? ⟨w.heap.size, 0, none⟩ = some (.bool false) := cell_on hb2; have e21 : w2.cell? ⟨w.heap.size, 1, none⟩ = some (Value.slice oa la ca) := cell_on hb2; have e22 : w2.cell? ⟨w.heap.size + 1, 0, none⟩ = some (.bool false) := cell_on hb2; have e23 : w2.cell? ⟨w.heap.size + 1, 1, none⟩ = some (.slice none 0 0) := cell_on hb2; have s20 : w.heap.size < w2.heap.size := World.block_lt_of_cell? _ _ e20; have t20 : w.heap.size < w2.heap.size + 1 := Nat.lt_succ_of_lt s20; have s22 : w.heap.size + 1 < w2.heap.size := World.block_lt_of_cell? _ _ e22; have t22 : w.heap.size + 1 < w2.heap.size + 1 := Nat.lt_succ_of_lt s22; have y22 : w2.frozen? ⟨w.heap.size + 1, 0, none⟩ = false := frozen_on hb2 (v := .bool false); have y23 : w2.frozen? ⟨w.heap.size + 1, 1, none⟩ = false := frozen_on hb2 (v := .slice none 0 0); have q2 := hb2.size; (try simp at q2); obtain ⟨bv, ov, lv, cv, rfl, Hv⟩ := hv.open; clear hv) | fail)
      refine bodyPost_ret (v := Iv bv (.slice ov lv cv)) (by simp [results, Tryz.results175, go_sem, *]) rfl ⟨_, rfl, (IsI.mk Hv.out.1 Hv.out.2.1).put e22 (by simp) e23 (by simp), ?_⟩
      repeat (first | exact Below.refl _ _ | assumption | apply Below.drew | refine Below.setCell ?_ (by first | omega | (simp; done) | (simp; omega)) _ | refine Below.alloc ?_ (by first | omega | (simp; done) | (simp; omega)) _ | refine Below.trans ?_ (hb2.mono (by first | omega | (simp; done) | (simp; omega))) | refine Below.trans ?_ (hb1.mono (by first | omega | (simp; done) | (simp; omega))))
  | true =>
    have zn : Hid (z < 0) := by have := Ha.out.1; simp at this; exact this
    obtain ⟨m, hm⟩ : ∃ m, m = z.natAbs / 2 ^ n := ⟨_, rfl⟩
    rw [← hm] at DC
    have mle : m ≤ z.natAbs := by rw [hm]; exact Nat.div_le_self _ _
    have mul : m * 2 ^ n ≤ z.natAbs := by rw [hm]; exact Nat.div_mul_le_self _ _
    have GM : Hid (m < BIG ∧ m * 2 ^ n < BIG ∧ m + 1 ≤ BIG) := ⟨Nat.lt_of_le_of_lt mle G.out.1, Nat.lt_of_le_of_lt mul G.out.1, Nat.lt_of_le_of_lt mle G.out.1⟩
    by_cases he : m * 2 ^ n = z.natAbs
    · have RV := Lib.hid (right_even zn.out hm he)
      have CE := Lib.hid he
      have CM : Hid (∀ (W : World) (u : Value), IsN W u (m * 2 ^ n) → IsN W (.slice oa la ca) z.natAbs → Calls Tryz.prog 115 #[u, .slice oa la ca] W fun e w' => e = .returned (.int .i64 (0)) ∧ Below W.heap.size W w') := fun W u h1 h2 => by
        have h := ncmp_any _ _ _ _ W h1 h2 GM.out.2.1 G.out.1
        rw [show sg ((m * 2 ^ n : Nat) : Int) (z.natAbs : Nat) = 0 from by rw [CE.out]; exact sg_eq _] at h
        exact h
      clear he mle mul hm
      go_enter Tryz.func175, Tryz.ntmps175
      go_wp2_with (first | (go_at_call 180; (with_reducible refine (DC.out _ (Ha.out.2.1.below (by repeat (first | exact Below.refl _ _ | assumption | apply Below.drew | refine Below.setCell ?_ (by first | omega | (simp; done) | (simp; omega)) _ | refine Below.alloc ?_ (by first | omega | (simp; done) | (simp; omega)) _)))).mono ?_); rintro e w1 ⟨vm, rfl, hnm, hb1⟩; have e10 : w1.cell? ⟨w.heap.size, 0, none⟩ = some (.bool true) := cell_on hb1; have e11 : w1.cell? ⟨w.heap.size, 1, none⟩ = some (Value.slice oa la ca) := cell_on hb1; have e12 : w1.cell? ⟨w.heap.size + 1, 0, none⟩ = some (.bool false) := cell_on hb1; have e13 : w1.cell? ⟨w.heap.size + 1, 1, none⟩ = some (.slice none 0 0) := cell_on hb1; have s10 : w.heap.size < w1.heap.size := World.block_lt_of_cell? _ _ e10; have t10 : w.heap.size < w1.heap.size + 1 := Nat.lt_succ_of_lt s10; have s12 : w.heap.size + 1 < w1.heap.size := World.block_lt_of_cell? _ _ e12; have t12 : w.heap.size + 1 < w1.heap.size + 1 := Nat.lt_succ_of_lt s12; have y12 : w1.frozen? ⟨w.heap.size + 1, 0, none⟩ = false := frozen_on hb1 (v := .bool false); have y13 : w1.frozen? ⟨w.heap.size + 1, 1, none⟩ = false := frozen_on hb1 (v := .slice none 0 0); have q1 := hb1.size; (try simp at q1); have Nm := Lib.hid hnm; clear hnm) | fail)
      go_region_held3 (fun w' => w'.cell? ⟨w.heap.size, 0, none⟩ = some (.bool true) ∧ w'.cell? ⟨w.heap.size, 1, none⟩ = some (Value.slice oa la ca)) (first | (simp [go_sem, *]; done) | (simp [go_sem, World.cell?_alloc_some, *]; done)) (first | (go_at_call 82; (with_reducible refine (up2_any _ m n _ (Nm.out.below (by repeat (first | exact Below.refl _ _ | assumption | apply Below.drew | refine Below.setCell ?_ (by first | omega | (simp; done) | (simp; omega)) _ | refine Below.alloc ?_ (by first | omega | (simp; done) | (simp; omega)) _))) GM.out.1 G.out.2).mono ?_); rintro e w3 ⟨vu, rfl, hnu, hb3⟩; have e30 : w3.cell? ⟨w.heap.size, 0, none⟩ = some (.bool true) := cell_on hb3; have e31 : w3.cell? ⟨w.heap.size, 1, none⟩ = some (Value.slice oa la ca) := cell_on hb3; have e32 : w3.cell? ⟨w.heap.size + 1, 0, none⟩ = some (.bool false) := cell_on hb3; have e33 : w3.cell? ⟨w.heap.size + 1, 1, none⟩ = some (.slice none 0 0) := cell_on hb3; have s30 : w.heap.size < w3.heap.size := World.block_lt_of_cell? _ _ e30; have t30 : w.heap.size < w3.heap.size + 1 := Nat.lt_succ_of_lt s30; have s32 : w.heap.size + 1 < w3.heap.size := World.block_lt_of_cell? _ _ e32; have t32 : w.heap.size + 1 < w3.heap.size + 1 := Nat.lt_succ_of_lt s32; have y32 : w3.frozen? ⟨w.heap.size + 1, 0, none⟩ = false := frozen_on hb3 (v := .bool false); have y33 : w3.frozen? ⟨w.heap.size + 1, 1, none⟩ = false := frozen_on hb3 (v := .slice none 0 0); have q3 := hb3.size; (try simp at q3); have Nu := Lib.hid hnu; clear hnu) | (go_at_call 115; (with_reducible refine (CM.out _ _ (Nu.out.below (by repeat (first | exact Below.refl _ _ | assumption | apply Below.drew | refine Below.setCell ?_ (by first | omega | (simp; done) | (simp; omega)) _ | refine Below.alloc ?_ (by first | omega | (simp; done) | (simp; omega)) _))) (Ha.out.2.1.below (by repeat (first | exact Below.refl _ _ | assumption | apply Below.drew | refine Below.setCell ?_ (by first | omega | (simp; done) | (simp; omega)) _ | refine Below.alloc ?_ (by first | omega | (simp; done) | (simp; omega)) _ | refine Below.trans ?_ (hb3.mono (by first | omega | (simp; done) | (simp; omega))) | refine Below.trans ?_ (hb1.mono (by first | omega | (simp; done) | (simp; omega))))))).mono ?_); rintro e w4 ⟨rfl, hb4⟩; have e40 : w4.cell? ⟨w.heap.size, 0, none⟩ = some (.bool true) := cell_on hb4; have e41 : w4.cell? ⟨w.heap.size, 1, none⟩ = some (Value.slice oa la ca) := cell_on hb4; have e42 : w4.cell? ⟨w.heap.size + 1, 0, none⟩ = some (.bool false) := cell_on hb4; have e43 : w4.cell? ⟨w.heap.size + 1, 1, none⟩ = some (.slice none 0 0) := cell_on hb4; have s40 : w.heap.size < w4.heap.size := World.block_lt_of_cell? _ _ e40; have t40 : w.heap.size < w4.heap.size + 1 := Nat.lt_succ_of_lt s40; have s42 : w.heap.size + 1 < w4.heap.size := World.block_lt_of_cell? _ _ e42; have t42 : w.heap.size + 1 < w4.heap.size + 1 := Nat.lt_succ_of_lt s42; have y42 : w4.frozen? ⟨w.heap.size + 1, 0, none⟩ = false := frozen_on hb4 (v := .bool false); have y43 : w4.frozen? ⟨w.heap.size + 1, 1, none⟩ = false := frozen_on hb4 (v := .slice none 0 0); have q4 := hb4.size; (try simp at q4)))
      all_goals
        go_wp2_with (first | (go_at_call 112; (with_reducible refine (made_as _ _ m (z / 2 ^ n) _ (Nm.out.below (by repeat (first | exact Below.refl _ _ | assumption | apply Below.drew | refine Below.setCell ?_ (by first | omega | (simp; done) | (simp; omega)) _ | refine Below.alloc ?_ (by first | omega | (simp; done) | (simp; omega)) _ | refine Below.trans ?_ (hb4.mono (by first | omega | (simp; done) | (simp; omega))) | refine Below.trans ?_ (hb3.mono (by first | omega | (simp; done) | (simp; omega)))))) (RV.out.trans (if_pos rfl).symm)).mono ?_); rintro e w7 ⟨v, rfl, hv, hb7⟩; have e70 : w7.cell? ⟨w.heap.size, 0, none⟩ = some (.bool true) := cell_on hb7; have e71 : w7.cell? ⟨w.heap.size, 1, none⟩ = some (Value.slice oa la ca) := cell_on hb7; have e72 : w7.cell? ⟨w.heap.size + 1, 0, none⟩ = some (.bool false) := cell_on hb7; have e73 : w7.cell? ⟨w.heap.size + 1, 1, none⟩ = some (.slice none 0 0) := cell_on hb7; have s70 : w.heap.size < w7.heap.size := World.block_lt_of_cell? _ _ e70; have t70 : w.heap.size < w7.heap.size + 1 := Nat.lt_succ_of_lt s70; have s72 : w.heap.size + 1 < w7.heap.size := World.block_lt_of_cell? _ _ e72; have t72 : w.heap.size + 1 < w7.heap.size + 1 := Nat.lt_succ_of_lt s72; have y72 : w7.frozen? ⟨w.heap.size + 1, 0, none⟩ = false := frozen_on hb7 (v := .bool false); have y73 : w7.frozen? ⟨w.heap.size + 1, 1, none⟩ = false := frozen_on hb7 (v := .slice none 0 0); have q7 := hb7.size; (try simp at q7); obtain ⟨bv, ov, lv, cv, rfl, Hv⟩ := hv.open; clear hv) | fail)
        refine bodyPost_ret (v := Iv bv (.slice ov lv cv)) (by simp [results, Tryz.results175, go_sem, *]) rfl ⟨_, rfl, (IsI.mk Hv.out.1 Hv.out.2.1).put e72 (by simp) e73 (by simp), ?_⟩
        repeat (first | exact Below.refl _ _ | assumption | apply Below.drew | refine Below.setCell ?_ (by first | omega | (simp; done) | (simp; omega)) _ | refine Below.alloc ?_ (by first | omega | (simp; done) | (simp; omega)) _ | refine Below.trans ?_ (hb7.mono (by first | omega | (simp; done) | (simp; omega))) | refine Below.trans ?_ (hb6.mono (by first | omega | (simp; done) | (simp; omega))) | refine Below.trans ?_ (hb5.mono (by first | omega | (simp; done) | (simp; omega))) | refine Below.trans ?_ (hb4.mono (by first | omega | (simp; done) | (simp; omega))) | refine Below.trans ?_ (hb3.mono (by first | omega | (simp; done) | (simp; omega))) | refine Below.trans ?_ (hb1.mono (by first | omega | (simp; done) | (simp; omega))))
    · have RV := Lib.hid (right_odd zn.out hm he)
      have CE := Lib.hid (show m * 2 ^ n < z.natAbs by omega)
      have CM : Hid (∀ (W : World) (u : Value), IsN W u (m * 2 ^ n) → IsN W (.slice oa la ca) z.natAbs → Calls Tryz.prog 115 #[u, .slice oa la ca] W fun e w' => e = .returned (.int .i64 (-1)) ∧ Below W.heap.size W w') := fun W u h1 h2 => by
        have h := ncmp_any _ _ _ _ W h1 h2 GM.out.2.1 G.out.1
        rw [show sg ((m * 2 ^ n : Nat) : Int) (z.natAbs : Nat) = -1 from sg_lt (by have := CE.out; omega)] at h
        exact h
      clear he mle mul hm
      go_enter Tryz.func175, Tryz.ntmps175
      go_wp2_with (first | (go_at_call 180; (with_reducible refine (DC.out _ (Ha.out.2.1.below (by repeat (first | exact Below.refl _ _ | assumption | apply Below.drew | refine Below.setCell ?_ (by first | omega | (simp; done) | (simp; omega)) _ | refine Below.alloc ?_ (by first | omega | (simp; done) | (simp; omega)) _)))).mono ?_); rintro e w1 ⟨vm, rfl, hnm, hb1⟩; have e10 : w1.cell? ⟨w.heap.size, 0, none⟩ = some (.bool true) := cell_on hb1; have e11 : w1.cell? ⟨w.heap.size, 1, none⟩ = some (Value.slice oa la ca) := cell_on hb1; have e12 : w1.cell? ⟨w.heap.size + 1, 0, none⟩ = some (.bool false) := cell_on hb1; have e13 : w1.cell? ⟨w.heap.size + 1, 1, none⟩ = some (.slice none 0 0) := cell_on hb1; have s10 : w.heap.size < w1.heap.size := World.block_lt_of_cell? _ _ e10; have t10 : w.heap.size < w1.heap.size + 1 := Nat.lt_succ_of_lt s10; have s12 : w.heap.size + 1 < w1.heap.size := World.block_lt_of_cell? _ _ e12; have t12 : w.heap.size + 1 < w1.heap.size + 1 := Nat.lt_succ_of_lt s12; have y12 : w1.frozen? ⟨w.heap.size + 1, 0, none⟩ = false := frozen_on hb1 (v := .bool false); have y13 : w1.frozen? ⟨w.heap.size + 1, 1, none⟩ = false := frozen_on hb1 (v := .slice none 0 0); have q1 := hb1.size; (try simp at q1); have Nm := Lib.hid hnm; clear hnm) | fail)
      go_region_held3 (fun w' => w'.cell? ⟨w.heap.size, 0, none⟩ = some (.bool true) ∧ w'.cell? ⟨w.heap.size, 1, none⟩ = some (Value.slice oa la ca)) (first | (simp [go_sem, *]; done) | (simp [go_sem, World.cell?_alloc_some, *]; done)) (first | (go_at_call 82; (with_reducible refine (up2_any _ m n _ (Nm.out.below (by repeat (first | exact Below.refl _ _ | assumption | apply Below.drew | refine Below.setCell ?_ (by first | omega | (simp; done) | (simp; omega)) _ | refine Below.alloc ?_ (by first | omega | (simp; done) | (simp; omega)) _))) GM.out.1 G.out.2).mono ?_); rintro e w3 ⟨vu, rfl, hnu, hb3⟩; have e30 : w3.cell? ⟨w.heap.size, 0, none⟩ = some (.bool true) := cell_on hb3; have e31 : w3.cell? ⟨w.heap.size, 1, none⟩ = some (Value.slice oa la ca) := cell_on hb3; have e32 : w3.cell? ⟨w.heap.size + 1, 0, none⟩ = some (.bool false) := cell_on hb3; have e33 : w3.cell? ⟨w.heap.size + 1, 1, none⟩ = some (.slice none 0 0) := cell_on hb3; have s30 : w.heap.size < w3.heap.size := World.block_lt_of_cell? _ _ e30; have t30 : w.heap.size < w3.heap.size + 1 := Nat.lt_succ_of_lt s30; have s32 : w.heap.size + 1 < w3.heap.size := World.block_lt_of_cell? _ _ e32; have t32 : w.heap.size + 1 < w3.heap.size + 1 := Nat.lt_succ_of_lt s32; have y32 : w3.frozen? ⟨w.heap.size + 1, 0, none⟩ = false := frozen_on hb3 (v := .bool false); have y33 : w3.frozen? ⟨w.heap.size + 1, 1, none⟩ = false := frozen_on hb3 (v := .slice none 0 0); have q3 := hb3.size; (try simp at q3); have Nu := Lib.hid hnu; clear hnu) | (go_at_call 115; (with_reducible refine (CM.out _ _ (Nu.out.below (by repeat (first | exact Below.refl _ _ | assumption | apply Below.drew | refine Below.setCell ?_ (by first | omega | (simp; done) | (simp; omega)) _ | refine Below.alloc ?_ (by first | omega | (simp; done) | (simp; omega)) _))) (Ha.out.2.1.below (by repeat (first | exact Below.refl _ _ | assumption | apply Below.drew | refine Below.setCell ?_ (by first | omega | (simp; done) | (simp; omega)) _ | refine Below.alloc ?_ (by first | omega | (simp; done) | (simp; omega)) _ | refine Below.trans ?_ (hb3.mono (by first | omega | (simp; done) | (simp; omega))) | refine Below.trans ?_ (hb1.mono (by first | omega | (simp; done) | (simp; omega))))))).mono ?_); rintro e w4 ⟨rfl, hb4⟩; have e40 : w4.cell? ⟨w.heap.size, 0, none⟩ = some (.bool true) := cell_on hb4; have e41 : w4.cell? ⟨w.heap.size, 1, none⟩ = some (Value.slice oa la ca) := cell_on hb4; have e42 : w4.cell? ⟨w.heap.size + 1, 0, none⟩ = some (.bool false) := cell_on hb4; have e43 : w4.cell? ⟨w.heap.size + 1, 1, none⟩ = some (.slice none 0 0) := cell_on hb4; have s40 : w.heap.size < w4.heap.size := World.block_lt_of_cell? _ _ e40; have t40 : w.heap.size < w4.heap.size + 1 := Nat.lt_succ_of_lt s40; have s42 : w.heap.size + 1 < w4.heap.size := World.block_lt_of_cell? _ _ e42; have t42 : w.heap.size + 1 < w4.heap.size + 1 := Nat.lt_succ_of_lt s42; have y42 : w4.frozen? ⟨w.heap.size + 1, 0, none⟩ = false := frozen_on hb4 (v := .bool false); have y43 : w4.frozen? ⟨w.heap.size + 1, 1, none⟩ = false := frozen_on hb4 (v := .slice none 0 0); have q4 := hb4.size; (try simp at q4)))
      all_goals
        go_wp2_with (first | (go_at_call 57; (with_reducible refine (nof_1 _).mono ?_); rintro e w5 ⟨vo, rfl, hno, hb5⟩; have e50 : w5.cell? ⟨w.heap.size, 0, none⟩ = some (.bool true) := cell_on hb5; have e51 : w5.cell? ⟨w.heap.size, 1, none⟩ = some (Value.slice oa la ca) := cell_on hb5; have e52 : w5.cell? ⟨w.heap.size + 1, 0, none⟩ = some (.bool false) := cell_on hb5; have e53 : w5.cell? ⟨w.heap.size + 1, 1, none⟩ = some (.slice none 0 0) := cell_on hb5; have s50 : w.heap.size < w5.heap.size := World.block_lt_of_cell? _ _ e50; have t50 : w.heap.size < w5.heap.size + 1 := Nat.lt_succ_of_lt s50; have s52 : w.heap.size + 1 < w5.heap.size := World.block_lt_of_cell? _ _ e52; have t52 : w.heap.size + 1 < w5.heap.size + 1 := Nat.lt_succ_of_lt s52; have y52 : w5.frozen? ⟨w.heap.size + 1, 0, none⟩ = false := frozen_on hb5 (v := .bool false); have y53 : w5.frozen? ⟨w.heap.size + 1, 1, none⟩ = false := frozen_on hb5 (v := .slice none 0 0); have q5 := hb5.size; (try simp at q5); have No := Lib.hid hno; clear hno) | (go_at_call 114; (with_reducible refine (nplus_any _ _ m 1 _ (Nm.out.below (by repeat (first | exact Below.refl _ _ | assumption | apply Below.drew | refine Below.setCell ?_ (by first | omega | (simp; done) | (simp; omega)) _ | refine Below.alloc ?_ (by first | omega | (simp; done) | (simp; omega)) _ | refine Below.trans ?_ (hb5.mono (by first | omega | (simp; done) | (simp; omega))) | refine Below.trans ?_ (hb4.mono (by first | omega | (simp; done) | (simp; omega))) | refine Below.trans ?_ (hb3.mono (by first | omega | (simp; done) | (simp; omega)))))) (No.out.below (by repeat (first | exact Below.refl _ _ | assumption | apply Below.drew | refine Below.setCell ?_ (by first | omega | (simp; done) | (simp; omega)) _ | refine Below.alloc ?_ (by first | omega | (simp; done) | (simp; omega)) _))) GM.out.1 (big_of (k := 1) (by decide) (by decide))).mono ?_); rintro e w6 ⟨vp, rfl, hnp, hb6⟩; have e60 : w6.cell? ⟨w.heap.size, 0, none⟩ = some (.bool true) := cell_on hb6; have e61 : w6.cell? ⟨w.heap.size, 1, none⟩ = some (Value.slice oa la ca) := cell_on hb6; have e62 : w6.cell? ⟨w.heap.size + 1, 0, none⟩ = some (.bool false) := cell_on hb6; have e63 : w6.cell? ⟨w.heap.size + 1, 1, none⟩ = some (.slice none 0 0) := cell_on hb6; have s60 : w.heap.size < w6.heap.size := World.block_lt_of_cell? _ _ e60; have t60 : w.heap.size < w6.heap.size + 1 := Nat.lt_succ_of_lt s60; have s62 : w.heap.size + 1 < w6.heap.size := World.block_lt_of_cell? _ _ e62; have t62 : w.heap.size + 1 < w6.heap.size + 1 := Nat.lt_succ_of_lt s62; have y62 : w6.frozen? ⟨w.heap.size + 1, 0, none⟩ = false := frozen_on hb6 (v := .bool false); have y63 : w6.frozen? ⟨w.heap.size + 1, 1, none⟩ = false := frozen_on hb6 (v := .slice none 0 0); have q6 := hb6.size; (try simp at q6); have Np := Lib.hid hnp; clear hnp) | (go_at_call 112; (with_reducible refine (made_as _ _ (m + 1) (z / 2 ^ n) _ (Np.out.below (by repeat (first | exact Below.refl _ _ | assumption | apply Below.drew | refine Below.setCell ?_ (by first | omega | (simp; done) | (simp; omega)) _ | refine Below.alloc ?_ (by first | omega | (simp; done) | (simp; omega)) _ | refine Below.trans ?_ (hb4.mono (by first | omega | (simp; done) | (simp; omega))) | refine Below.trans ?_ (hb3.mono (by first | omega | (simp; done) | (simp; omega)))))) (RV.out.trans (if_pos rfl).symm)).mono ?_); rintro e w7 ⟨v, rfl, hv, hb7⟩; have e70 : w7.cell? ⟨w.heap.size, 0, none⟩ = some (.bool true) := cell_on hb7; have e71 : w7.cell? ⟨w.heap.size, 1, none⟩ = some (Value.slice oa la ca) := cell_on hb7; have e72 : w7.cell? ⟨w.heap.size + 1, 0, none⟩ = some (.bool false) := cell_on hb7; have e73 : w7.cell? ⟨w.heap.size + 1, 1, none⟩ = some (.slice none 0 0) := cell_on hb7; have s70 : w.heap.size < w7.heap.size := World.block_lt_of_cell? _ _ e70; have t70 : w.heap.size < w7.heap.size + 1 := Nat.lt_succ_of_lt s70; have s72 : w.heap.size + 1 < w7.heap.size := World.block_lt_of_cell? _ _ e72; have t72 : w.heap.size + 1 < w7.heap.size + 1 := Nat.lt_succ_of_lt s72; have y72 : w7.frozen? ⟨w.heap.size + 1, 0, none⟩ = false := frozen_on hb7 (v := .bool false); have y73 : w7.frozen? ⟨w.heap.size + 1, 1, none⟩ = false := frozen_on hb7 (v := .slice none 0 0); have q7 := hb7.size; (try simp at q7); obtain ⟨bv, ov, lv, cv, rfl, Hv⟩ := hv.open; clear hv) | fail)
        refine bodyPost_ret (v := Iv bv (.slice ov lv cv)) (by simp [results, Tryz.results175, go_sem, *]) rfl ⟨_, rfl, (IsI.mk Hv.out.1 Hv.out.2.1).put e72 (by simp) e73 (by simp), ?_⟩
        repeat (first | exact Below.refl _ _ | assumption | apply Below.drew | refine Below.setCell ?_ (by first | omega | (simp; done) | (simp; omega)) _ | refine Below.alloc ?_ (by first | omega | (simp; done) | (simp; omega)) _ | refine Below.trans ?_ (hb7.mono (by first | omega | (simp; done) | (simp; omega))) | refine Below.trans ?_ (hb6.mono (by first | omega | (simp; done) | (simp; omega))) | refine Below.trans ?_ (hb5.mono (by first | omega | (simp; done) | (simp; omega))) | refine Below.trans ?_ (hb4.mono (by first | omega | (simp; done) | (simp; omega))) | refine Below.trans ?_ (hb3.mono (by first | omega | (simp; done) | (simp; omega))) | refine Below.trans ?_ (hb1.mono (by first | omega | (simp; done) | (simp; omega))))
end Go.Proofs.YtmafgdinegboeaaGreat
