/-
  The references' whole numbers: the greatest divisor of two.
  The references' whole numbers with a sign: as a word, halved, divided.
  The references' whole numbers with a sign: halved, divided.
  The references' whole numbers with a sign: divided, rounded down.
  The references' rational numbers: made, in lowest terms.
  The references' rational numbers: the nearest whole one.
  Shifted and rounded back: whole numbers.
  Rounded quotients: of multiples, of negatives.
  The nearest whole number to a quotient, as the references reckon it.
  The document's own answer for package wide: the nearest quotient.
  The document's own answer for package wide: a wide number as a whole one.
  The document's own answer for package fx: sums, products, quotients, closings, told as words.
  Tensors: alike? spoilt; may they be?
  The reference's May, of a tensor.
-/
import Derived.Deep.RegionHeld3
import Derived.Test.YtimmgmhgahbcbaaM01
import Derived.Test.YtimmgmhgahbcbaaM03
import Derived.Test.YtimmgmhgahbcbaaM05
import Derived.Test.YtimmgmhgahbcbaaM07
import Derived.Test.YtimmgmhgahbcbaaM09
import Derived.Test.YtimmgmhgahbcbaaM11
import Derived.Test.YtimmgmhgahbcbaaM12
namespace Go.Proofs.Ytimmgmhgahbcbaa
open Go.RowKit

theorem Rd.eq {k : IntKind} {w : World} {v : Value} {xs ys : List Nat} (hx : Rd k w v xs) (hy : Rd k w v ys) : xs = ys := by
  obtain ⟨o1, c1, e1, h1⟩ := hx.form
  obtain ⟨o2, c2, e2, h2⟩ := hy.form
  rw [e1] at e2
  simp only [Value.slice.injEq] at e2
  obtain ⟨ho, hl, _⟩ := e2
  apply List.ext_getElem hl
  intro i hi hi2
  obtain ⟨b, off, eo, _, hc⟩ := h1 i hi
  obtain ⟨b', off', eo', _, hc'⟩ := h2 i hi2
  rw [eo] at ho
  rw [← ho] at eo'
  simp only [Option.some.injEq, Addr.mk.injEq, and_true] at eo'
  obtain ⟨rfl, rfl⟩ := eo'
  rw [hc] at hc'
  simp only [Option.some.injEq, Value.int.injEq, true_and] at hc'
  simp only [List.getD, List.getElem?_eq_getElem hi, List.getElem?_eq_getElem hi2, Option.getD_some] at hc'
  omega
theorem IsN.eq {w : World} {v : Value} {m n : Nat} (hm : IsN w v m) (hn : IsN w v n) : m = n := by
  obtain ⟨xs, r1, _, e1, _⟩ := hm
  obtain ⟨ys, r2, _, e2, _⟩ := hn
  rw [← e1, ← e2, r1.eq r2]
open Classical in
/-- The number that a slice is, if it is one. -/
noncomputable def numOf (w : World) (v : Value) : Nat := if h : ∃ n, IsN w v n then h.choose else 0
theorem IsN.num {w : World} {v : Value} {n : Nat} (h : IsN w v n) : numOf w v = n := by
  have h' : ∃ n, IsN w v n := ⟨n, h⟩
  unfold numOf
  rw [dif_pos h']
  exact h'.choose_spec.eq h

end Go.Proofs.Ytimmgmhgahbcbaa
namespace Go.Proofs.Ytimmgmhgahbcbaa
open Go.RowKit

/-- The lowest limb of a number that has one. -/
theorem IsN.low {w : World} {o : Option Addr} {l c n : Nat} (h : IsN w (.slice o l c) n) (hl : l ≠ 0) :
    ∃ b off x, o = some ⟨b, off, none⟩ ∧ w.cell? ⟨b, off, none⟩ = some (.int .u64 (x : Nat)) ∧ x < 18446744073709551616 ∧ x = n % 18446744073709551616 ∧ (l = 1 → x = n) ∧ (1 < l → 18446744073709551616 ≤ n) := by
  obtain ⟨ls, r, h1, h2, h3⟩ := h
  obtain ⟨o', c', e, hc⟩ := r.form
  simp only [Value.slice.injEq] at e
  obtain ⟨rfl, rfl, rfl⟩ := e
  obtain ⟨b, off, rfl, _, hcell⟩ := hc 0 (by omega)
  have gx := getD_lt (by decide) h1 0
  have lm := limb_at h1 0
  rw [Nat.pow_zero, Nat.div_one, h2] at lm
  refine ⟨b, off, ls.getD 0 0, rfl, hcell, gx, lm.symm, fun e => ?_, fun e => ?_⟩
  · match ls, e with
    | [x], _ => rw [← h2]; simp [lval]
  · have := lval_ge 18446744073709551616 ls h3 (by intro e'; rw [e'] at e; simp at e)
    rw [h2] at this
    have p := Nat.pow_le_pow_right (show 0 < 18446744073709551616 by decide) (show 1 ≤ ls.length - 1 by omega)
    rw [Nat.pow_one] at p
    omega
theorem isS_f {z : Int} (h : z < -9223372036854775808 ∨ 9223372036854775807 < z) : isS z = false ∧ sm z = 0 := by
  have : isS z = false := by unfold isS; simp only [decide_eq_false_iff_not]; omega
  exact ⟨this, if_neg (by simp [this])⟩
theorem isS_t {z : Int} (h : -9223372036854775808 ≤ z ∧ z ≤ 9223372036854775807) : isS z = true ∧ sm z = z := ⟨isS_mk h, if_pos (isS_mk h)⟩

set_option maxRecDepth 100000 in
set_option maxHeartbeats 4000000 in
/-- Small -/
theorem ismall_any (x : Value) (z : Int) (w : World) (h : IsI w x z) : Calls Try.prog 56 #[x] w fun e w' => e = .returned (.tuple #[.int .i64 (sm z), .bool (isS z)]) ∧ Below w.heap.size w w' := by
  obtain ⟨ba, oa, la, ca, rfl, Ha⟩ := h.open
  by_cases h0 : la = 0
  · have hz := Ha.out.2.2.1 h0
    have H := Lib.hid (isS_t (z := z) (by omega))
    have HZ := Lib.hid hz
    subst h0
    clear hz h
    go_enter Try.func56, Try.ntmps56
    go_wp2
    go_ret2
    exact ⟨by rw [H.out.1, H.out.2, HZ.out] <;> rfl, by repeat (first | exact Below.refl _ _ | assumption | apply Below.drew | refine Below.setCell ?_ (by first | omega | (simp; done) | (simp; omega)) _ | refine Below.alloc ?_ (by first | omega | (simp; done) | (simp; omega)) _)⟩
  · obtain ⟨b, off, m, rfl, hc, mb, -, m1, m2⟩ := Ha.out.2.1.low h0
    have hbl : b < w.heap.size := World.block_lt_of_cell? _ _ hc
    by_cases h1 : la = 1
    · have em := m1 h1
      subst h1
      have hneg := Ha.out.1
      clear m1 m2 h
      cases ba with
      | true =>
        have zn : z < 0 := by simpa using hneg.symm
        rcases Nat.lt_or_ge 9223372036854775808 m with hm | hm
        · have H := Lib.hid (isS_f (z := z) (by omega))
          have hm' : (9223372036854775808 : Int) < (m : Int) := by omega
          clear em zn hm hneg
          go_enter Try.func56, Try.ntmps56
          go_wp2
          go_ret2
          exact ⟨by rw [H.out.1, H.out.2] <;> rfl, by repeat (first | exact Below.refl _ _ | assumption | apply Below.drew | refine Below.setCell ?_ (by first | omega | (simp; done) | (simp; omega)) _ | refine Below.alloc ?_ (by first | omega | (simp; done) | (simp; omega)) _)⟩
        · have H := Lib.hid (isS_t (z := z) (by omega))
          have hm' : ¬ (9223372036854775808 : Int) < (m : Int) := by omega
          have e1 : wrap64 (IntKind.u64.wrap (-(m : Int))) = -(m : Int) := by rw [IntKind.wrap_u64]; unfold wrap64; omega
          have ez := Lib.hid (show z = -(m : Int) by omega)
          clear em zn hm hneg
          go_enter Try.func56, Try.ntmps56
          go_wp2
          go_ret2
          exact ⟨by rw [H.out.1, H.out.2, ez.out] <;> rfl, by repeat (first | exact Below.refl _ _ | assumption | apply Below.drew | refine Below.setCell ?_ (by first | omega | (simp; done) | (simp; omega)) _ | refine Below.alloc ?_ (by first | omega | (simp; done) | (simp; omega)) _)⟩
      | false =>
        have zp : 0 ≤ z := by simpa using hneg.symm
        rcases Nat.lt_or_ge m 9223372036854775808 with hm | hm
        · have H := Lib.hid (isS_t (z := z) (by omega))
          have hm' : ¬ (9223372036854775808 : Int) ≤ (m : Int) := by omega
          have e1 : wrap64 (m : Int) = (m : Int) := by unfold wrap64; omega
          have ez := Lib.hid (show z = (m : Int) by omega)
          clear em zp hm hneg
          go_enter Try.func56, Try.ntmps56
          go_wp2
          go_ret2
          exact ⟨by rw [H.out.1, H.out.2, ez.out] <;> rfl, by repeat (first | exact Below.refl _ _ | assumption | apply Below.drew | refine Below.setCell ?_ (by first | omega | (simp; done) | (simp; omega)) _ | refine Below.alloc ?_ (by first | omega | (simp; done) | (simp; omega)) _)⟩
        · have H := Lib.hid (isS_f (z := z) (by omega))
          have hm' : (9223372036854775808 : Int) ≤ (m : Int) := by omega
          clear em zp hm hneg
          go_enter Try.func56, Try.ntmps56
          go_wp2
          go_ret2
          exact ⟨by rw [H.out.1, H.out.2] <;> rfl, by repeat (first | exact Below.refl _ _ | assumption | apply Below.drew | refine Below.setCell ?_ (by first | omega | (simp; done) | (simp; omega)) _ | refine Below.alloc ?_ (by first | omega | (simp; done) | (simp; omega)) _)⟩
    · have hm := m2 (by omega)
      have H := Lib.hid (isS_f (z := z) (by omega))
      have l1 : (1 : Int) < (la : Int) := by omega
      clear m1 m2 hm h
      go_enter Try.func56, Try.ntmps56
      go_wp2
      go_ret2
      exact ⟨by rw [H.out.1, H.out.2] <;> rfl, by repeat (first | exact Below.refl _ _ | assumption | apply Below.drew | refine Below.setCell ?_ (by first | omega | (simp; done) | (simp; omega)) _ | refine Below.alloc ?_ (by first | omega | (simp; done) | (simp; omega)) _)⟩
end Go.Proofs.Ytimmgmhgahbcbaa
namespace Go.Proofs.Ytimmgmhgahbcbaa
open Go.RowKit

end Go.Proofs.Ytimmgmhgahbcbaa
namespace Go.Proofs.Ytimmgmhgahbcbaa
open Go.RowKit

end Go.Proofs.Ytimmgmhgahbcbaa
namespace Go.Proofs.Ytimmgmhgahbcbaa
open Go.RowKit

end Go.Proofs.Ytimmgmhgahbcbaa
namespace Go.Proofs.Ytimmgmhgahbcbaa
open Go.RowKit

/-- Twice the number, rounded down. -/
def t2 (p : Int) (q : Nat) : Int := dn (p * 2 ^ 1) q
/-- The nearest whole number to p / q, halves to even. -/
def nr (p : Int) (q : Nat) : Int := if t2 p q / 2 ^ 1 * 2 ^ 1 = t2 p q then t2 p q / 2 ^ 1 else if p * 2 ^ 1 - t2 p q * q ≠ 0 then t2 p q / 2 ^ 1 + 1 else if t2 p q / 2 ^ 1 / 2 ^ 1 * 2 ^ 1 = t2 p q / 2 ^ 1 then t2 p q / 2 ^ 1 else t2 p q / 2 ^ 1 + 1

end Go.Proofs.Ytimmgmhgahbcbaa
namespace Go.Proofs.Ytimmgmhgahbcbaa
open Go.RowKit

end Go.Proofs.Ytimmgmhgahbcbaa
namespace Go.Proofs.Ytimmgmhgahbcbaa
open Go.RowKit

theorem ab_mul (a b : Int) : ab (a * b) = ab a * ab b := by unfold ab; rw [Int.natAbs_mul]; rfl
theorem ng_mul_pos (a : Int) {k : Int} (hk : 0 < k) : ng (a * k) = ng a := by
  unfold ng
  rw [Bool.eq_iff_iff]; simp only [decide_eq_true_eq]
  constructor
  · intro h
    rcases Int.lt_or_le a 0 with h1 | h1
    · exact h1
    · have := Int.mul_nonneg h1 (Int.le_of_lt hk); omega
  · intro h; exact Int.mul_neg_of_neg_of_pos h hk
theorem sg_scale (a b : Int) {k : Int} (hk : 0 < k) : sg (a * k) (b * k) = sg a b := by
  rcases Int.lt_trichotomy a b with h | h | h
  · rw [sg_lt h, sg_lt (Int.mul_lt_mul_of_pos_right h hk)]
  · rw [h, sg_eq, sg_eq]
  · rw [sg_gt h, sg_gt (Int.mul_lt_mul_of_pos_right h hk)]
theorem rd_scale (n d : Int) {k : Int} (hk : 0 < k) : rd (n * k) (d * k) = rd n d := by
  have ek : ab k = k := by unfold ab; omega
  unfold rd up
  have er : ab n * k % (ab d * k) = (ab n % ab d) * k := by rw [Int.mul_comm (ab n) k, Int.mul_comm (ab d) k, Int.mul_emod_mul_of_pos _ _ hk, Int.mul_comm]
  rw [ab_mul, ab_mul, ng_mul_pos n hk, ng_mul_pos d hk, ek, Int.mul_ediv_mul_of_pos_left _ _ hk, er, ← Int.mul_assoc, sg_scale _ _ hk]
end Go.Proofs.Ytimmgmhgahbcbaa
namespace Go.Proofs.Ytimmgmhgahbcbaa
open Go.RowKit

theorem ediv_is {x D t r : Int} (hD : 0 < D) (h : x = t * D + r) (h0 : 0 ≤ r) (h1 : r < D) : x / D = t := by
  rw [h, Int.add_comm, Int.add_mul_ediv_right _ _ (by omega), Int.ediv_eq_zero_of_lt h0 h1, Int.zero_add]
theorem dn_ediv (x : Int) {D : Int} (hD : 0 < D) : dn x D = x / D := by
  have eD : ab D = D := by unfold ab; omega
  have nD : ng D = false := by unfold ng; exact decide_eq_false (by omega)
  have e := Int.mul_ediv_add_emod (ab x) D
  have r0 := Int.emod_nonneg (ab x) (show D ≠ 0 by omega)
  have r1 := Int.emod_lt_of_pos (ab x) hD
  unfold dn
  rw [eD, nD]
  rcases Int.lt_or_le x 0 with h | h
  · have nx : ng x = true := by unfold ng; exact decide_eq_true h
    have ax : ab x = -x := by unfold ab; omega
    rw [nx]
    generalize ab x / D = q at *
    generalize ab x % D = r at *
    by_cases hr : r = 0
    · subst hr
      simp [sd]
      refine (ediv_is hD (r := 0) ?_ (by omega) hD).symm
      rw [Int.neg_mul, Int.mul_comm q]
      omega
    · have hb : (r == 0) = false := by rw [beq_eq_false_iff_ne]; exact hr
      rw [hb]
      simp [sd]
      refine (ediv_is hD (r := D - r) ?_ (by omega) (by omega)).symm
      rw [Int.neg_mul, Int.add_mul, Int.mul_comm q]
      omega
  · have nx : ng x = false := by unfold ng; exact decide_eq_false (by omega)
    have ax : ab x = x := by unfold ab; omega
    rw [nx, ax]
    simp [sd]
theorem nr_of {p : Int} {q : Nat} {t r : Int} (_hq : q ≠ 0) (h : p * 2 ^ 1 = t * q + r) (h0 : 0 ≤ r) (h1 : r < q) : nr p q = if t % 2 = 0 then t / 2 else if r ≠ 0 then t / 2 + 1 else if t / 2 % 2 = 0 then t / 2 else t / 2 + 1 := by
  have e : t2 p q = t := by
    unfold t2
    rw [dn_ediv _ (by omega : (0 : Int) < q)]
    exact ediv_is (by omega) h h0 h1
  unfold nr
  rw [e, h]
  have e2 : t * (q : Int) + r - t * q = r := by omega
  rw [e2]
  have p1 : (2 : Int) ^ 1 = 2 := by decide
  rw [p1]
  have c1 : (t / 2 * 2 = t) = (t % 2 = 0) := by apply propext; omega
  have c2 : (t / 2 / 2 * 2 = t / 2) = (t / 2 % 2 = 0) := by apply propext; omega
  simp only [c1, c2]
theorem nr_rd (m : Int) {D : Nat} (hD : D ≠ 0) : nr m D = rd m D := by
  have eD : ab (D : Int) = D := by unfold ab; omega
  have nD : ng (D : Int) = false := by unfold ng; exact decide_eq_false (by omega)
  have U := up_cases m D
  have e := Int.mul_ediv_add_emod (ab m) (D : Int)
  have r0 := Int.emod_nonneg (ab m) (show (D : Int) ≠ 0 by omega)
  have r1 := Int.emod_lt_of_pos (ab m) (show (0 : Int) < D by omega)
  have q0 : 0 ≤ ab m / D := Int.ediv_nonneg (by unfold ab; omega) (by omega)
  rw [eD] at U
  unfold rd
  rw [eD, nD]
  have p1 : (2 : Int) ^ 1 = 2 := by decide
  rcases Int.lt_or_le m 0 with h | h
  · have nx : ng m = true := by unfold ng; exact decide_eq_true h
    have ax : ab m = -m := by unfold ab; omega
    rw [nx]
    generalize ab m / D = q at *
    generalize ab m % D = r at *
    have f : ∀ c : Int, (-(2 * q) - c) * (D : Int) = -(2 * (D * q)) - c * D := fun c => by
      rw [Int.sub_mul, Int.neg_mul, Int.mul_assoc, Int.mul_comm q]
    rcases (by omega : r = 0 ∨ (0 < r ∧ 2 * r < D) ∨ 2 * r = D ∨ (D : Int) < 2 * r) with c | c | c | c
    · rw [nr_of (t := -(2 * q) - 0) (r := 0) hD (by rw [f, p1]; omega) (by omega) (by omega)]
      rcases U with ⟨u, hu⟩ | ⟨u, hu⟩ <;> rw [u] <;> simp [sd] <;> omega
    · rw [nr_of (t := -(2 * q) - 1) (r := D - 2 * r) hD (by rw [f, p1]; omega) (by omega) (by omega)]
      rcases U with ⟨u, hu⟩ | ⟨u, hu⟩ <;> rw [u] <;> simp [sd] <;> omega
    · rw [nr_of (t := -(2 * q) - 1) (r := 0) hD (by rw [f, p1]; omega) (by omega) (by omega)]
      rcases U with ⟨u, hu⟩ | ⟨u, hu⟩ <;> rw [u] <;> simp [sd] <;> omega
    · rw [nr_of (t := -(2 * q) - 2) (r := 2 * D - 2 * r) hD (by rw [f, p1]; omega) (by omega) (by omega)]
      rcases U with ⟨u, hu⟩ | ⟨u, hu⟩ <;> rw [u] <;> simp [sd] <;> omega
  · have nx : ng m = false := by unfold ng; exact decide_eq_false (by omega)
    have ax : ab m = m := by unfold ab; omega
    rw [nx]
    generalize ab m / D = q at *
    generalize ab m % D = r at *
    have f : ∀ c : Int, (2 * q + c) * (D : Int) = 2 * (D * q) + c * D := fun c => by
      rw [Int.add_mul, Int.mul_assoc, Int.mul_comm q]
    rcases (by omega : 2 * r < D ∨ 2 * r = D ∨ (D : Int) < 2 * r) with c | c | c
    · rw [nr_of (t := 2 * q + 0) (r := 2 * r) hD (by rw [f, p1]; omega) (by omega) (by omega)]
      rcases U with ⟨u, hu⟩ | ⟨u, hu⟩ <;> rw [u] <;> simp [sd] <;> omega
    · rw [nr_of (t := 2 * q + 1) (r := 0) hD (by rw [f, p1]; omega) (by omega) (by omega)]
      rcases U with ⟨u, hu⟩ | ⟨u, hu⟩ <;> rw [u] <;> simp [sd] <;> omega
    · rw [nr_of (t := 2 * q + 1) (r := 2 * r - D) hD (by rw [f, p1]; omega) (by omega) (by omega)]
      rcases U with ⟨u, hu⟩ | ⟨u, hu⟩ <;> rw [u] <;> simp [sd] <;> omega
theorem lowest (m : Int) {D : Nat} (hD : D ≠ 0) : nr (m.tdiv (Nat.gcd m.natAbs D : Nat)) (D / Nat.gcd m.natAbs D) = rd m D ∧ D / Nat.gcd m.natAbs D ≠ 0 := by
  have gp := Nat.gcd_pos_of_pos_right m.natAbs (Nat.pos_of_ne_zero hD)
  have d1 := Nat.gcd_dvd_left m.natAbs D
  have d2 := Nat.gcd_dvd_right m.natAbs D
  generalize Nat.gcd m.natAbs D = g at *
  obtain ⟨k, hk⟩ := d2
  have kp : k ≠ 0 := fun e => hD (by rw [hk, e, Nat.mul_zero])
  have e2 : D / g = k := by rw [hk, Nat.mul_div_cancel_left _ gp]
  have e1 : m.tdiv (g : Int) * g = m := Int.tdiv_mul_cancel (Int.ofNat_dvd_left.2 d1)
  rw [e2]
  refine ⟨?_, kp⟩
  rw [nr_rd _ kp, ← rd_scale _ _ (show (0 : Int) < g by omega), e1]
  congr 1
  rw [hk, Int.natCast_mul, Int.mul_comm]
end Go.Proofs.Ytimmgmhgahbcbaa
namespace Go.Proofs.Ytimmgmhgahbcbaa
open Go.RowKit

end Go.Proofs.Ytimmgmhgahbcbaa
namespace Go.Proofs.Ytimmgmhgahbcbaa
open Go.RowKit

end Go.Proofs.Ytimmgmhgahbcbaa
namespace Go.Proofs.Ytimmgmhgahbcbaa
open Go.RowKit

set_option maxRecDepth 100000 in
set_option maxHeartbeats 8000000 in
theorem r2word_any (x : Value) (z : Int) (w : World) (h : IsI w x z) : Calls Try.prog 38 #[x] w fun e w' => e = .returned (.tuple #[.int .i64 (tw z), .int .i64 (te z)]) ∧ Below w.heap.size w w' := by
  obtain ⟨bn, on, ln, cn, rfl, Hn⟩ := h.open
  clear h
  have SC := Lib.hid (fun (W : World) (h : IsI W (Iv bn (.slice on ln cn)) z) => ismall_any _ z W h)
  cases g : isS z with
  | false =>
    have gw : wd z = false := by
      have := isS_no g
      unfold wd; simp only [decide_eq_false_iff_not]; omega
    have H := Lib.hid (And.intro (tw_out gw) (te_out gw))
    have SC := fun (W : World) (h : IsI W (Iv bn (.slice on ln cn)) z) => SC.out W h
    rw [g] at SC
    have SC := Lib.hid SC
    clear g gw
    go_enter Try.func38, Try.ntmps38
    go_wp2_with (go_at_call 56; (with_reducible refine (SC.out _ ((IsI.mk Hn.out.1 Hn.out.2.1).below (by repeat (first | exact Below.refl _ _ | assumption | apply Below.drew | refine Below.setCell ?_ (by first | omega | (simp; done) | (simp; omega)) _ | refine Below.alloc ?_ (by first | omega | (simp; done) | (simp; omega)) _)))).mono ?_); rintro e w1 ⟨rfl, hb1⟩; have e10 : w1.cell? ⟨w.heap.size, 0, none⟩ = some (.bool bn) := cell_on hb1 (by first | (simp [go_sem, *]; done) | (simp [go_sem, World.cell?_alloc_some, *]; done) | fail); have e11 : w1.cell? ⟨w.heap.size, 1, none⟩ = some (Value.slice on ln cn) := cell_on hb1 (by first | (simp [go_sem, *]; done) | (simp [go_sem, World.cell?_alloc_some, *]; done) | fail); have s10 : w.heap.size < w1.heap.size := World.block_lt_of_cell? _ _ e10; have t10 : w.heap.size < w1.heap.size + 1 := Nat.lt_succ_of_lt s10; have q1 := hb1.size; (try simp at q1))
    go_ret2
    refine ⟨by rw [H.out.1, H.out.2] <;> rfl, ?_⟩
    repeat (first | exact Below.refl _ _ | assumption | apply Below.drew | refine Below.setCell ?_ (by first | omega | (simp; done) | (simp; omega)) _ | refine Below.alloc ?_ (by first | omega | (simp; done) | (simp; omega)) _ | refine Below.trans ?_ (hb1.mono (by first | omega | (simp; done) | (simp; omega))))
  | true =>
    have SC := fun (W : World) (h : IsI W (Iv bn (.slice on ln cn)) z) => SC.out W h
    rw [g, show sm z = z from if_pos g] at SC
    have SC := Lib.hid SC
    have MC := fun W : World => may_any z W
    cases gw : wd z with
    | true =>
      have H := Lib.hid (And.intro (tw_in gw) (te_in gw))
      rw [gw] at MC
      have MC := Lib.hid MC
      clear g gw
      go_enter Try.func38, Try.ntmps38
      go_wp2_with (first | (go_at_call 56; (with_reducible refine (SC.out _ ((IsI.mk Hn.out.1 Hn.out.2.1).below (by repeat (first | exact Below.refl _ _ | assumption | apply Below.drew | refine Below.setCell ?_ (by first | omega | (simp; done) | (simp; omega)) _ | refine Below.alloc ?_ (by first | omega | (simp; done) | (simp; omega)) _)))).mono ?_); rintro e w1 ⟨rfl, hb1⟩; have e10 : w1.cell? ⟨w.heap.size, 0, none⟩ = some (.bool bn) := cell_on hb1 (by first | (simp [go_sem, *]; done) | (simp [go_sem, World.cell?_alloc_some, *]; done) | fail); have e11 : w1.cell? ⟨w.heap.size, 1, none⟩ = some (Value.slice on ln cn) := cell_on hb1 (by first | (simp [go_sem, *]; done) | (simp [go_sem, World.cell?_alloc_some, *]; done) | fail); have s10 : w.heap.size < w1.heap.size := World.block_lt_of_cell? _ _ e10; have t10 : w.heap.size < w1.heap.size + 1 := Nat.lt_succ_of_lt s10; have q1 := hb1.size; (try simp at q1)) | (go_at_call 7; (with_reducible refine (MC.out _).mono ?_); rintro e w' ⟨rfl, rfl⟩))
      go_ret2
      refine ⟨by rw [H.out.1, H.out.2] <;> rfl, ?_⟩
      repeat (first | exact Below.refl _ _ | assumption | apply Below.drew | refine Below.setCell ?_ (by first | omega | (simp; done) | (simp; omega)) _ | refine Below.alloc ?_ (by first | omega | (simp; done) | (simp; omega)) _ | refine Below.trans ?_ (hb1.mono (by first | omega | (simp; done) | (simp; omega))))
    | false =>
      have H := Lib.hid (And.intro (tw_out gw) (te_out gw))
      rw [gw] at MC
      have MC := Lib.hid MC
      clear g gw
      go_enter Try.func38, Try.ntmps38
      go_wp2_with (first | (go_at_call 56; (with_reducible refine (SC.out _ ((IsI.mk Hn.out.1 Hn.out.2.1).below (by repeat (first | exact Below.refl _ _ | assumption | apply Below.drew | refine Below.setCell ?_ (by first | omega | (simp; done) | (simp; omega)) _ | refine Below.alloc ?_ (by first | omega | (simp; done) | (simp; omega)) _)))).mono ?_); rintro e w1 ⟨rfl, hb1⟩; have e10 : w1.cell? ⟨w.heap.size, 0, none⟩ = some (.bool bn) := cell_on hb1 (by first | (simp [go_sem, *]; done) | (simp [go_sem, World.cell?_alloc_some, *]; done) | fail); have e11 : w1.cell? ⟨w.heap.size, 1, none⟩ = some (Value.slice on ln cn) := cell_on hb1 (by first | (simp [go_sem, *]; done) | (simp [go_sem, World.cell?_alloc_some, *]; done) | fail); have s10 : w.heap.size < w1.heap.size := World.block_lt_of_cell? _ _ e10; have t10 : w.heap.size < w1.heap.size + 1 := Nat.lt_succ_of_lt s10; have q1 := hb1.size; (try simp at q1)) | (go_at_call 7; (with_reducible refine (MC.out _).mono ?_); rintro e w' ⟨rfl, rfl⟩))
      go_ret2
      refine ⟨by rw [H.out.1, H.out.2] <;> rfl, ?_⟩
      repeat (first | exact Below.refl _ _ | assumption | apply Below.drew | refine Below.setCell ?_ (by first | omega | (simp; done) | (simp; omega)) _ | refine Below.alloc ?_ (by first | omega | (simp; done) | (simp; omega)) _ | refine Below.trans ?_ (hb1.mono (by first | omega | (simp; done) | (simp; omega))))
set_option maxRecDepth 100000 in
set_option maxHeartbeats 8000000 in
theorem r2add_any (a b : Int) (w : World) (a0 : -9223372036854775808 ≤ a) (a1 : a ≤ 9223372036854775807) (b0 : -9223372036854775808 ≤ b) (b1 : b ≤ 9223372036854775807) : Calls Try.prog 14 #[.int .i64 a, .int .i64 b] w fun e w' => e = .returned (.tuple #[.int .i64 (tw (a + b)), .int .i64 (te (a + b))]) ∧ Below w.heap.size w w' := by
  have FA := Lib.hid (fun W : World => ifrom_any a W a0 a1)
  have FB := Lib.hid (fun W : World => ifrom_any b W b0 b1)
  have G : Hid (a.natAbs < BIG ∧ b.natAbs < BIG) := ⟨big_of (k := 64) (by omega) (by decide), big_of (k := 64) (by omega) (by decide)⟩
  clear a0 a1 b0 b1
  go_enter Try.func14, Try.ntmps14
  go_wp2_with (first | (go_at_call 16; have _g := hb1; (with_reducible refine (FB.out _).mono ?_); rintro e w2 ⟨vg, rfl, hv, hb2⟩; have q2 := hb2.size; (try simp at q2); obtain ⟨bg, og, lg, cg, rfl, Hg⟩ := hv.open; clear hv) | (go_at_call 16; (with_reducible refine (FA.out _).mono ?_); rintro e w1 ⟨vf, rfl, hv, hb1⟩; have q1 := hb1.size; (try simp at q1); obtain ⟨bf, of, lf, cf, rfl, Hf⟩ := hv.open; clear hv) | (go_at_call 21; (with_reducible refine (iplus_any _ _ a b _ ((IsI.mk Hf.out.1 Hf.out.2.1).below (by repeat (first | exact Below.refl _ _ | assumption | apply Below.drew | refine Below.setCell ?_ (by first | omega | (simp; done) | (simp; omega)) _ | refine Below.alloc ?_ (by first | omega | (simp; done) | (simp; omega)) _ | refine Below.trans ?_ (hb2.mono (by first | omega | (simp; done) | (simp; omega)))))) ((IsI.mk Hg.out.1 Hg.out.2.1).below (by repeat (first | exact Below.refl _ _ | assumption | apply Below.drew | refine Below.setCell ?_ (by first | omega | (simp; done) | (simp; omega)) _ | refine Below.alloc ?_ (by first | omega | (simp; done) | (simp; omega)) _))) G.out.1 G.out.2).mono ?_); rintro e w3 ⟨vn, rfl, hv, hb3⟩; have q3 := hb3.size; (try simp at q3); obtain ⟨bn, on, ln, cn, rfl, Hn⟩ := hv.open; clear hv) | (go_at_call 38; (with_reducible refine (r2word_any _ (a + b) _ ((IsI.mk Hn.out.1 Hn.out.2.1).below (by repeat (first | exact Below.refl _ _ | assumption | apply Below.drew | refine Below.setCell ?_ (by first | omega | (simp; done) | (simp; omega)) _ | refine Below.alloc ?_ (by first | omega | (simp; done) | (simp; omega)) _)))).mono ?_); rintro e w4 ⟨rfl, hb4⟩; have q4 := hb4.size; (try simp at q4)))
  go_ret2
  refine ⟨rfl, ?_⟩
  repeat (first | exact Below.refl _ _ | assumption | apply Below.drew | refine Below.setCell ?_ (by first | omega | (simp; done) | (simp; omega)) _ | refine Below.alloc ?_ (by first | omega | (simp; done) | (simp; omega)) _ | refine Below.trans ?_ (hb4.mono (by first | omega | (simp; done) | (simp; omega))) | refine Below.trans ?_ (hb3.mono (by first | omega | (simp; done) | (simp; omega))) | refine Below.trans ?_ (hb2.mono (by first | omega | (simp; done) | (simp; omega))) | refine Below.trans ?_ (hb1.mono (by first | omega | (simp; done) | (simp; omega))))
end Go.Proofs.Ytimmgmhgahbcbaa
namespace Go.Proofs.Ytimmgmhgahbcbaa
open Go.RowKit Go.Shelf

set_option maxRecDepth 100000 in
set_option maxHeartbeats 4000000 in
theorem eqtensor_same (va vb ua ub : Value) (a b : List Int) (w : World) (ha : Ld w va a) (hb : Ld w vb b) (hc : Ld w ua a) (hd : Ld w ub b) (l1 : a.length ≤ 17592186044416) (l2 : b.length ≤ 17592186044416) :
    Calls Try.prog 15 #[.agg #[va, vb], .agg #[ua, ub]] w fun e w' => e = .returned (.bool true) ∧ Below w.heap.size w w' := by
  have hB0 : Below w.heap.size w ((w.alloc (.cells #[va, vb] 26)).alloc (.cells #[ua, ub] 26)) := ((Below.refl _ _).alloc (Nat.le_refl _) _).alloc (by simp) _
  have X0 := Lib.hid ((Blk.new w 26 #[va, vb]).alloc (.cells #[ua, ub] 26))
  have X1 := Lib.hid (blk_new1 w (.cells #[va, vb] 26) 26 #[ua, ub])
  have C1 : Hid (∀ n, ((w.alloc (.cells #[va, vb] 26)).alloc (.cells #[ua, ub] 26)).heap.size = n → Calls Try.prog 39 #[va, ua] ((w.alloc (.cells #[va, vb] 26)).alloc (.cells #[ua, ub] 26)) fun e w' => e = .returned (.bool true) ∧ Below n ((w.alloc (.cells #[va, vb] 26)).alloc (.cells #[ua, ub] 26)) w') := fun n hn => by
    subst hn
    have := eqn_any va ua a a _ (ha.below hB0) (hc.below hB0) l1 l1
    rwa [show decide (a = a) = true by simp] at this
  have C2 : Hid (∀ W, Below w.heap.size w W → Calls Try.prog 35 #[vb, ub] W fun e w' => e = .returned (.bool true) ∧ Below W.heap.size W w') := fun W hW => by
    have := eqw_any vb ub b b _ (hb.below hW) (hd.below hW) l2 l2
    rwa [show decide (b = b) = true by simp] at this
  replace C1 := Lib.hid (C1.out (w.heap.size + 2) (by simp))
  obtain ⟨o1, n1, rfl, _, _⟩ := ha
  obtain ⟨o2, n2, rfl, _, _⟩ := hb
  obtain ⟨o3, n3, rfl, _, _⟩ := hc
  obtain ⟨o4, n4, rfl, _, _⟩ := hd
  have HB0 := Lib.hid hB0
  clear hB0
  go_enter Try.func15, Try.ntmps15
  go_wp2_with (first
    | (go_at_call 39; (with_reducible refine C1.out.mono ?_); rintro e w2 ⟨rfl, hb2⟩; have b2 := HB0.out.trans (hb2.mono (by omega)); have Z0 := Lib.hid (X0.out.below hb2 (by omega)); have Z1 := Lib.hid (X1.out.below hb2 (by omega)); obtain ⟨c0, c1, _⟩ := blk2 Z0.out; obtain ⟨d0, d1, _⟩ := blk2 Z1.out; clear hb2)
    | (go_at_call 35; (with_reducible refine (C2.out _ b2).mono ?_); rintro e w3 ⟨rfl, hb3⟩; have b3 := b2.trans (hb3.mono b2.size); clear hb3))
  go_ret
  exact ⟨rfl, b3⟩

end Go.Proofs.Ytimmgmhgahbcbaa
namespace Go.Proofs.Ytimmgmhgahbcbaa
open Go.RowKit Go.Shelf

set_option maxRecDepth 100000 in
set_option maxHeartbeats 8000000 in
theorem rmay8_any (vp vr : Value) (ts tds : List Int) (w : World) (hp : Ld w vp ts) (hr : Ld w vr tds) (lp : ts.length ≤ 1073741824) (lr : tds.length ≤ 17592186044416) :
    Calls Try.prog 6 #[.agg #[vp, vr]] w fun e w' => e = .returned (.bool (tnb ts tds)) ∧ Below w.heap.size w w' := by
  have B0 := Lib.hid ((Below.refl w.heap.size w).alloc (Nat.le_refl _) (.cells #[vp, vr] 26))
  have BD : Hid (Below w.heap.size w (w.alloc (.cells #[vp, vr] 26)).drew) := below_drw B0.out 1
  have KM := Lib.hid (fun (W : World) (hW : Below w.heap.size w W) => rmay_any vp ts W (hp.below hW) lp)
  have KD := Lib.hid (fun (W : World) (hW : Below w.heap.size w W) => words_any vr tds W (hr.below hW) (by omega))
  have KC := Lib.hid (fun (hm : may ts = true) (W : World) (hW : Below w.heap.size w W) => (rct_may hm ▸ rcount_any vp ts W (hp.below hW) (may_dms hm) lp : Calls Try.prog 25 #[vp] W fun e w' => e = .returned (.int .i64 (prod ts)) ∧ W = w'))
  obtain ⟨op, cp, rfl, _, _⟩ := hp
  obtain ⟨od, cd, rfl, _, _⟩ := hr
  obtain ⟨x0, x1, _⟩ := blk2 (show Blk (w.alloc (.cells #[.slice op ts.length cp, .slice od tds.length cd] 26)).drew w.heap.size 26 _ from Blk.new w _ _)
  cases hm : may ts with
  | false =>
    have E : Hid (tnb ts tds = false) := by unfold tnb; rw [hm]; exact Lib.hid (by simp)
    rw [hm] at KM
    clear hm KC
    go_enter Try.func6, Try.ntmps6
    go_wp2
    refine wp_region_held_drew (S := (fun W => W.cell? ⟨w.heap.size, 0, none⟩ = some (.slice op ts.length cp) ∧ W.cell? ⟨w.heap.size, 1, none⟩ = some (.slice od tds.length cd))) (by kernel_rfl) ?_ (fun hHeld => ?_)
    · exact ⟨x0, x1⟩
    have hHd := hHeld
    (refine wpAnyH_take (i := 0) (oi := ⟨some 3, _, _, _, _, _⟩) (v := ?v0a) rfl (by kernel_rfl) (by kernel_rfl) (by kernel_rfl) (fun _ _ _ h => h) (Or.inl ⟨by rfl, ?hy0a⟩) (by assumption) ?rest0a; (case hy0a => ((intro w hSw); (try dsimp only at hSw); go_simp; first | done | (with_reducible rfl) | (rw [b1]))))
    (try simp only [Act.put, List.setIfInBounds_toArray, List.set_cons_zero, List.set_cons_succ])
    (refine wpAnyH_take (i := 1) (oi := ⟨some 4, _, _, _, _, _⟩) (v := ?v1a) rfl (by kernel_rfl) (by kernel_rfl) (by kernel_rfl) (fun _ _ _ h => h) (Or.inl ⟨by rfl, ?hy1a⟩) (by assumption) ?rest1a; (case hy1a => ((intro w hSw); (try dsimp only at hSw); go_simp; first | done | (with_reducible rfl) | (rw [b1]))))
    (try simp only [Act.put, List.setIfInBounds_toArray, List.set_cons_zero, List.set_cons_succ])
    refine wpAnyH_ready (rs := [2]) (by kernel_rfl) (by simp) ?_
    refine AllReadyH.cons (o := ⟨some 5, _, _, _, _, _⟩) rfl (fun K hK => ?_) AllReadyH.nil
    go_simp
    (go_at_call 24; (with_reducible refine (KM.out _ BD.out).mono ?_); rintro e w' ⟨rfl, rfl⟩)
    refine hK.out _ _ ?_ (fun hHeld => ?_)
    · (try dsimp only)
      assumption
    clear hK K
    (try simp only [Act.put, List.setIfInBounds_toArray, List.set_cons_zero, List.set_cons_succ])
    (refine wpAnyH_take (i := 3) (oi := ⟨some 6, _, _, _, _, _⟩) (v := ?v3a) rfl (by kernel_rfl) (by kernel_rfl) (by kernel_rfl) (fun _ _ _ h => h) (Or.inl ⟨by rfl, ?hy3a⟩) (by assumption) ?rest3a; (case hy3a => ((intro w hSw); (try dsimp only at hSw); go_simp; first | done | (with_reducible rfl) | (rw [b1]))))
    (try simp only [Act.put, List.setIfInBounds_toArray, List.set_cons_zero, List.set_cons_succ])
    (refine wpAnyH_take (i := 4) (oi := ⟨some 7, _, _, _, _, _⟩) (v := _) rfl (by kernel_rfl) (by kernel_rfl) (by kernel_rfl) (fun _ _ _ h => h) (Or.inr ⟨by rfl, rfl⟩) (by assumption) ?_)
    (try simp only [Act.put, List.setIfInBounds_toArray, List.set_cons_zero, List.set_cons_succ])
    (refine wpAnyH_take (i := 5) (oi := ⟨some 8, _, _, _, _, _⟩) (v := _) rfl (by kernel_rfl) (by kernel_rfl) (by kernel_rfl) (fun _ _ _ h => h) (Or.inr ⟨by rfl, rfl⟩) (by assumption) ?_)
    (try simp only [Act.put, List.setIfInBounds_toArray, List.set_cons_zero, List.set_cons_succ])
    (refine wpAnyH_take (i := 6) (oi := ⟨some 9, _, _, _, _, _⟩) (v := _) rfl (by kernel_rfl) (by kernel_rfl) (by kernel_rfl) (fun _ _ _ h => h) (Or.inr ⟨by rfl, rfl⟩) (by assumption) ?_)
    (try simp only [Act.put, List.setIfInBounds_toArray, List.set_cons_zero, List.set_cons_succ])
    (refine wpAnyH_take (i := 7) (oi := ⟨some 10, _, _, _, _, _⟩) (v := _) rfl (by kernel_rfl) (by kernel_rfl) (by kernel_rfl) (fun _ _ _ h => h) (Or.inr ⟨by rfl, rfl⟩) (by assumption) ?_)
    (try simp only [Act.put, List.setIfInBounds_toArray, List.set_cons_zero, List.set_cons_succ])
    (refine wpAnyH_take (i := 8) (oi := ⟨some 11, _, _, _, _, _⟩) (v := _) rfl (by kernel_rfl) (by kernel_rfl) (by kernel_rfl) (fun _ _ _ h => h) (Or.inr ⟨by rfl, rfl⟩) (by assumption) ?_)
    (try simp only [Act.put, List.setIfInBounds_toArray, List.set_cons_zero, List.set_cons_succ])
    (refine wpAnyH_take (i := 9) (oi := ⟨some 12, _, _, _, _, _⟩) (v := _) rfl (by kernel_rfl) (by kernel_rfl) (by kernel_rfl) (fun _ _ _ h => h) (Or.inr ⟨by rfl, rfl⟩) (by assumption) ?_)
    (try simp only [Act.put, List.setIfInBounds_toArray, List.set_cons_zero, List.set_cons_succ])
    (refine wpAnyH_take (i := 10) (oi := ⟨some 13, _, _, _, _, _⟩) (v := _) rfl (by kernel_rfl) (by kernel_rfl) (by kernel_rfl) (fun _ _ _ h => h) (Or.inr ⟨by rfl, rfl⟩) (by assumption) ?_)
    (try simp only [Act.put, List.setIfInBounds_toArray, List.set_cons_zero, List.set_cons_succ])
    (refine wpAnyH_take (i := 11) (oi := ⟨some 14, _, _, _, _, _⟩) (v := ?v11a) rfl (by kernel_rfl) (by kernel_rfl) (by kernel_rfl) (fun _ _ _ h => h) (Or.inl ⟨by rfl, ?hy11a⟩) (by assumption) ?rest11a; (case hy11a => ((intro w hSw); (try dsimp only at hSw); go_simp; first | done | (with_reducible rfl) | (rw [b1]))))
    (try simp only [Act.put, List.setIfInBounds_toArray, List.set_cons_zero, List.set_cons_succ])
    (refine wpAnyH_take (i := 12) (oi := ⟨some 15, _, _, _, _, _⟩) (v := ?v12a) rfl (by kernel_rfl) (by kernel_rfl) (by kernel_rfl) (fun _ _ _ h => h) (Or.inl ⟨by rfl, ?hy12a⟩) (by assumption) ?rest12a; (case hy12a => ((intro w hSw); (try dsimp only at hSw); go_simp; first | done | (with_reducible rfl) | (rw [b1]))))
    (try simp only [Act.put, List.setIfInBounds_toArray, List.set_cons_zero, List.set_cons_succ])
    (refine wpAnyH_take (i := 13) (oi := ⟨some 16, _, _, _, _, _⟩) (v := _) rfl (by kernel_rfl) (by kernel_rfl) (by kernel_rfl) (fun _ _ _ h => h) (Or.inr ⟨by rfl, rfl⟩) (by assumption) ?_)
    (try simp only [Act.put, List.setIfInBounds_toArray, List.set_cons_zero, List.set_cons_succ])
    (refine wpAnyH_take (i := 14) (oi := ⟨some 17, _, _, _, _, _⟩) (v := _) rfl (by kernel_rfl) (by kernel_rfl) (by kernel_rfl) (fun _ _ _ h => h) (Or.inr ⟨by rfl, rfl⟩) (by assumption) ?_)
    (try simp only [Act.put, List.setIfInBounds_toArray, List.set_cons_zero, List.set_cons_succ])
    (refine wpAnyH_take (i := 15) (oi := ⟨some 18, _, _, _, _, _⟩) (v := _) rfl (by kernel_rfl) (by kernel_rfl) (by kernel_rfl) (fun _ _ _ h => h) (Or.inr ⟨by rfl, rfl⟩) (by assumption) ?_)
    (try simp only [Act.put, List.setIfInBounds_toArray, List.set_cons_zero, List.set_cons_succ])
    (refine wpAnyH_take (i := 16) (oi := ⟨some 19, _, _, _, _, _⟩) (v := ?v16a) rfl (by kernel_rfl) (by kernel_rfl) (by kernel_rfl) (fun _ _ _ h => h) (Or.inl ⟨by rfl, ?hy16a⟩) (by assumption) ?rest16a; (case hy16a => ((intro w hSw); (try dsimp only at hSw); go_simp; first | done | (with_reducible rfl) | (rw [b1]))))
    (try simp only [Act.put, List.setIfInBounds_toArray, List.set_cons_zero, List.set_cons_succ])
    (refine wpAnyH_take (i := 17) (oi := ⟨some 2, _, _, _, _, _⟩) (v := ?v17a) rfl (by kernel_rfl) (by kernel_rfl) (by kernel_rfl) (fun _ _ _ h => h) (Or.inl ⟨by rfl, ?hy17a⟩) (by assumption) ?rest17a; (case hy17a => ((intro w hSw); (try dsimp only at hSw); go_simp; first | done | (with_reducible rfl) | (rw [b1]))))
    (try simp only [Act.put, List.setIfInBounds_toArray, List.set_cons_zero, List.set_cons_succ])
    refine wpAnyH_done (by kernel_rfl) ?_ _
    go_wp2
    go_ret
    exact ⟨by rw [E.out]; rfl, BD.out⟩
  | true =>
    have KC2 := Lib.hid (KC.out hm)
    have E0 : Hid (tnb ts tds = (decide ((tds.length : Int) = prod ts) && wds tds)) := by unfold tnb; rw [hm]; exact Lib.hid (by simp)
    rw [hm] at KM
    clear hm KC
    generalize prod ts = n at *
    by_cases q : (tds.length : Int) = n
    · have b1 : ((tds.length : Int) == n) = true := by simpa using q
      have E : Hid (tnb ts tds = wds tds) := by rw [Hid, E0.out, decide_eq_true q, Bool.true_and]
      clear q E0
      go_enter Try.func6, Try.ntmps6
      go_wp2
      refine wp_region_held_drew (S := (fun W => W.cell? ⟨w.heap.size, 0, none⟩ = some (.slice op ts.length cp) ∧ W.cell? ⟨w.heap.size, 1, none⟩ = some (.slice od tds.length cd))) (by kernel_rfl) ?_ (fun hHeld => ?_)
      · exact ⟨x0, x1⟩
      have hHd := hHeld
      (refine wpAnyH_take (i := 0) (oi := ⟨some 3, _, _, _, _, _⟩) (v := ?v0b) rfl (by kernel_rfl) (by kernel_rfl) (by kernel_rfl) (fun _ _ _ h => h) (Or.inl ⟨by rfl, ?hy0b⟩) (by assumption) ?rest0b; (case hy0b => ((intro w hSw); (try dsimp only at hSw); go_simp; first | done | (with_reducible rfl) | (rw [b1]))))
      (try simp only [Act.put, List.setIfInBounds_toArray, List.set_cons_zero, List.set_cons_succ])
      (refine wpAnyH_take (i := 1) (oi := ⟨some 4, _, _, _, _, _⟩) (v := ?v1b) rfl (by kernel_rfl) (by kernel_rfl) (by kernel_rfl) (fun _ _ _ h => h) (Or.inl ⟨by rfl, ?hy1b⟩) (by assumption) ?rest1b; (case hy1b => ((intro w hSw); (try dsimp only at hSw); go_simp; first | done | (with_reducible rfl) | (rw [b1]))))
      (try simp only [Act.put, List.setIfInBounds_toArray, List.set_cons_zero, List.set_cons_succ])
      refine wpAnyH_ready (rs := [2]) (by kernel_rfl) (by simp) ?_
      refine AllReadyH.cons (o := ⟨some 5, _, _, _, _, _⟩) rfl (fun K hK => ?_) AllReadyH.nil
      go_simp
      (go_at_call 24; (with_reducible refine (KM.out _ BD.out).mono ?_); rintro e w' ⟨rfl, rfl⟩)
      refine hK.out _ _ ?_ (fun hHeld => ?_)
      · (try dsimp only)
        assumption
      clear hK K
      (try simp only [Act.put, List.setIfInBounds_toArray, List.set_cons_zero, List.set_cons_succ])
      (refine wpAnyH_take (i := 3) (oi := ⟨some 6, _, _, _, _, _⟩) (v := ?v3b) rfl (by kernel_rfl) (by kernel_rfl) (by kernel_rfl) (fun _ _ _ h => h) (Or.inl ⟨by rfl, ?hy3b⟩) (by assumption) ?rest3b; (case hy3b => ((intro w hSw); (try dsimp only at hSw); go_simp; first | done | (with_reducible rfl) | (rw [b1]))))
      (try simp only [Act.put, List.setIfInBounds_toArray, List.set_cons_zero, List.set_cons_succ])
      (refine wpAnyH_take (i := 4) (oi := ⟨some 7, _, _, _, _, _⟩) (v := ?v4b) rfl (by kernel_rfl) (by kernel_rfl) (by kernel_rfl) (fun _ _ _ h => h) (Or.inl ⟨by rfl, ?hy4b⟩) (by assumption) ?rest4b; (case hy4b => ((intro w hSw); (try dsimp only at hSw); go_simp; first | done | (with_reducible rfl) | (rw [b1]))))
      (try simp only [Act.put, List.setIfInBounds_toArray, List.set_cons_zero, List.set_cons_succ])
      (refine wpAnyH_take (i := 5) (oi := ⟨some 8, _, _, _, _, _⟩) (v := ?v5b) rfl (by kernel_rfl) (by kernel_rfl) (by kernel_rfl) (fun _ _ _ h => h) (Or.inl ⟨by rfl, ?hy5b⟩) (by assumption) ?rest5b; (case hy5b => ((intro w hSw); (try dsimp only at hSw); go_simp; first | done | (with_reducible rfl) | (rw [b1]))))
      (try simp only [Act.put, List.setIfInBounds_toArray, List.set_cons_zero, List.set_cons_succ])
      (refine wpAnyH_take (i := 6) (oi := ⟨some 9, _, _, _, _, _⟩) (v := ?v6b) rfl (by kernel_rfl) (by kernel_rfl) (by kernel_rfl) (fun _ _ _ h => h) (Or.inl ⟨by rfl, ?hy6b⟩) (by assumption) ?rest6b; (case hy6b => ((intro w hSw); (try dsimp only at hSw); go_simp; first | done | (with_reducible rfl) | (rw [b1]))))
      (try simp only [Act.put, List.setIfInBounds_toArray, List.set_cons_zero, List.set_cons_succ])
      (refine wpAnyH_take (i := 7) (oi := ⟨some 10, _, _, _, _, _⟩) (v := ?v7b) rfl (by kernel_rfl) (by kernel_rfl) (by kernel_rfl) (fun _ _ _ h => h) (Or.inl ⟨by rfl, ?hy7b⟩) (by assumption) ?rest7b; (case hy7b => ((intro w hSw); (try dsimp only at hSw); go_simp; first | done | (with_reducible rfl) | (rw [b1]))))
      (try simp only [Act.put, List.setIfInBounds_toArray, List.set_cons_zero, List.set_cons_succ])
      (refine wpAnyH_take (i := 8) (oi := ⟨some 11, _, _, _, _, _⟩) (v := ?v8b) rfl (by kernel_rfl) (by kernel_rfl) (by kernel_rfl) (fun _ _ _ h => h) (Or.inl ⟨by rfl, ?hy8b⟩) (by assumption) ?rest8b; (case hy8b => ((intro w hSw); (try dsimp only at hSw); go_simp; first | done | (with_reducible rfl) | (rw [b1]))))
      (try simp only [Act.put, List.setIfInBounds_toArray, List.set_cons_zero, List.set_cons_succ])
      refine wpAnyH_ready (rs := [9]) (by kernel_rfl) (by simp) ?_
      refine AllReadyH.cons (o := ⟨some 12, _, _, _, _, _⟩) rfl (fun K hK => ?_) AllReadyH.nil
      go_simp
      (go_at_call 25; (with_reducible refine (KC2.out _ BD.out).mono ?_); rintro e w' ⟨rfl, rfl⟩)
      refine hK.out _ _ ?_ (fun hHeld => ?_)
      · (try dsimp only)
        assumption
      clear hK K
      (try simp only [Act.put, List.setIfInBounds_toArray, List.set_cons_zero, List.set_cons_succ])
      (refine wpAnyH_take (i := 10) (oi := ⟨some 13, _, _, _, _, _⟩) (v := .bool true) rfl (by kernel_rfl) (by kernel_rfl) (by kernel_rfl) (fun _ _ _ h => h) (Or.inl ⟨by rfl, ?hy10b⟩) (by assumption) ?rest10b; (case hy10b => ((intro w hSw); (try dsimp only at hSw); go_simp; first | done | (with_reducible rfl) | (rw [b1]))))
      (try simp only [Act.put, List.setIfInBounds_toArray, List.set_cons_zero, List.set_cons_succ])
      (refine wpAnyH_take (i := 11) (oi := ⟨some 14, _, _, _, _, _⟩) (v := ?v11b) rfl (by kernel_rfl) (by kernel_rfl) (by kernel_rfl) (fun _ _ _ h => h) (Or.inl ⟨by rfl, ?hy11b⟩) (by assumption) ?rest11b; (case hy11b => ((intro w hSw); (try dsimp only at hSw); go_simp; first | done | (with_reducible rfl) | (rw [b1]))))
      (try simp only [Act.put, List.setIfInBounds_toArray, List.set_cons_zero, List.set_cons_succ])
      (refine wpAnyH_take (i := 12) (oi := ⟨some 15, _, _, _, _, _⟩) (v := ?v12b) rfl (by kernel_rfl) (by kernel_rfl) (by kernel_rfl) (fun _ _ _ h => h) (Or.inl ⟨by rfl, ?hy12b⟩) (by assumption) ?rest12b; (case hy12b => ((intro w hSw); (try dsimp only at hSw); go_simp; first | done | (with_reducible rfl) | (rw [b1]))))
      (try simp only [Act.put, List.setIfInBounds_toArray, List.set_cons_zero, List.set_cons_succ])
      (refine wpAnyH_take (i := 13) (oi := ⟨some 16, _, _, _, _, _⟩) (v := ?v13b) rfl (by kernel_rfl) (by kernel_rfl) (by kernel_rfl) (fun _ _ _ h => h) (Or.inl ⟨by rfl, ?hy13b⟩) (by assumption) ?rest13b; (case hy13b => ((intro w hSw); (try dsimp only at hSw); go_simp; first | done | (with_reducible rfl) | (rw [b1]))))
      (try simp only [Act.put, List.setIfInBounds_toArray, List.set_cons_zero, List.set_cons_succ])
      (refine wpAnyH_take (i := 14) (oi := ⟨some 17, _, _, _, _, _⟩) (v := ?v14b) rfl (by kernel_rfl) (by kernel_rfl) (by kernel_rfl) (fun _ _ _ h => h) (Or.inl ⟨by rfl, ?hy14b⟩) (by assumption) ?rest14b; (case hy14b => ((intro w hSw); (try dsimp only at hSw); go_simp; first | done | (with_reducible rfl) | (rw [b1]))))
      (try simp only [Act.put, List.setIfInBounds_toArray, List.set_cons_zero, List.set_cons_succ])
      refine wpAnyH_ready (rs := [15]) (by kernel_rfl) (by simp) ?_
      refine AllReadyH.cons (o := ⟨some 18, _, _, _, _, _⟩) rfl (fun K hK => ?_) AllReadyH.nil
      go_simp
      (go_at_call 26; (with_reducible refine (KD.out _ BD.out).mono ?_); rintro e w' ⟨rfl, rfl⟩)
      refine hK.out _ _ ?_ (fun hHeld => ?_)
      · (try dsimp only)
        assumption
      clear hK K
      (try simp only [Act.put, List.setIfInBounds_toArray, List.set_cons_zero, List.set_cons_succ])
      (refine wpAnyH_take (i := 16) (oi := ⟨some 19, _, _, _, _, _⟩) (v := ?v16b) rfl (by kernel_rfl) (by kernel_rfl) (by kernel_rfl) (fun _ _ _ h => h) (Or.inl ⟨by rfl, ?hy16b⟩) (by assumption) ?rest16b; (case hy16b => ((intro w hSw); (try dsimp only at hSw); go_simp; first | done | (with_reducible rfl) | (rw [b1]))))
      (try simp only [Act.put, List.setIfInBounds_toArray, List.set_cons_zero, List.set_cons_succ])
      (refine wpAnyH_take (i := 17) (oi := ⟨some 2, _, _, _, _, _⟩) (v := ?v17b) rfl (by kernel_rfl) (by kernel_rfl) (by kernel_rfl) (fun _ _ _ h => h) (Or.inl ⟨by rfl, ?hy17b⟩) (by assumption) ?rest17b; (case hy17b => ((intro w hSw); (try dsimp only at hSw); go_simp; first | done | (with_reducible rfl) | (rw [b1]))))
      (try simp only [Act.put, List.setIfInBounds_toArray, List.set_cons_zero, List.set_cons_succ])
      refine wpAnyH_done (by kernel_rfl) ?_ _
      go_wp2
      go_ret
      exact ⟨by rw [E.out]; rfl, BD.out⟩
    · have b1 : ((tds.length : Int) == n) = false := by simpa using q
      have E : Hid (tnb ts tds = false) := by rw [Hid, E0.out, decide_eq_false q, Bool.false_and]
      clear q E0
      go_enter Try.func6, Try.ntmps6
      go_wp2
      refine wp_region_held_drew (S := (fun W => W.cell? ⟨w.heap.size, 0, none⟩ = some (.slice op ts.length cp) ∧ W.cell? ⟨w.heap.size, 1, none⟩ = some (.slice od tds.length cd))) (by kernel_rfl) ?_ (fun hHeld => ?_)
      · exact ⟨x0, x1⟩
      have hHd := hHeld
      (refine wpAnyH_take (i := 0) (oi := ⟨some 3, _, _, _, _, _⟩) (v := ?v0c) rfl (by kernel_rfl) (by kernel_rfl) (by kernel_rfl) (fun _ _ _ h => h) (Or.inl ⟨by rfl, ?hy0c⟩) (by assumption) ?rest0c; (case hy0c => ((intro w hSw); (try dsimp only at hSw); go_simp; first | done | (with_reducible rfl) | (rw [b1]))))
      (try simp only [Act.put, List.setIfInBounds_toArray, List.set_cons_zero, List.set_cons_succ])
      (refine wpAnyH_take (i := 1) (oi := ⟨some 4, _, _, _, _, _⟩) (v := ?v1c) rfl (by kernel_rfl) (by kernel_rfl) (by kernel_rfl) (fun _ _ _ h => h) (Or.inl ⟨by rfl, ?hy1c⟩) (by assumption) ?rest1c; (case hy1c => ((intro w hSw); (try dsimp only at hSw); go_simp; first | done | (with_reducible rfl) | (rw [b1]))))
      (try simp only [Act.put, List.setIfInBounds_toArray, List.set_cons_zero, List.set_cons_succ])
      refine wpAnyH_ready (rs := [2]) (by kernel_rfl) (by simp) ?_
      refine AllReadyH.cons (o := ⟨some 5, _, _, _, _, _⟩) rfl (fun K hK => ?_) AllReadyH.nil
      go_simp
      (go_at_call 24; (with_reducible refine (KM.out _ BD.out).mono ?_); rintro e w' ⟨rfl, rfl⟩)
      refine hK.out _ _ ?_ (fun hHeld => ?_)
      · (try dsimp only)
        assumption
      clear hK K
      (try simp only [Act.put, List.setIfInBounds_toArray, List.set_cons_zero, List.set_cons_succ])
      (refine wpAnyH_take (i := 3) (oi := ⟨some 6, _, _, _, _, _⟩) (v := ?v3c) rfl (by kernel_rfl) (by kernel_rfl) (by kernel_rfl) (fun _ _ _ h => h) (Or.inl ⟨by rfl, ?hy3c⟩) (by assumption) ?rest3c; (case hy3c => ((intro w hSw); (try dsimp only at hSw); go_simp; first | done | (with_reducible rfl) | (rw [b1]))))
      (try simp only [Act.put, List.setIfInBounds_toArray, List.set_cons_zero, List.set_cons_succ])
      (refine wpAnyH_take (i := 4) (oi := ⟨some 7, _, _, _, _, _⟩) (v := ?v4c) rfl (by kernel_rfl) (by kernel_rfl) (by kernel_rfl) (fun _ _ _ h => h) (Or.inl ⟨by rfl, ?hy4c⟩) (by assumption) ?rest4c; (case hy4c => ((intro w hSw); (try dsimp only at hSw); go_simp; first | done | (with_reducible rfl) | (rw [b1]))))
      (try simp only [Act.put, List.setIfInBounds_toArray, List.set_cons_zero, List.set_cons_succ])
      (refine wpAnyH_take (i := 5) (oi := ⟨some 8, _, _, _, _, _⟩) (v := ?v5c) rfl (by kernel_rfl) (by kernel_rfl) (by kernel_rfl) (fun _ _ _ h => h) (Or.inl ⟨by rfl, ?hy5c⟩) (by assumption) ?rest5c; (case hy5c => ((intro w hSw); (try dsimp only at hSw); go_simp; first | done | (with_reducible rfl) | (rw [b1]))))
      (try simp only [Act.put, List.setIfInBounds_toArray, List.set_cons_zero, List.set_cons_succ])
      (refine wpAnyH_take (i := 6) (oi := ⟨some 9, _, _, _, _, _⟩) (v := ?v6c) rfl (by kernel_rfl) (by kernel_rfl) (by kernel_rfl) (fun _ _ _ h => h) (Or.inl ⟨by rfl, ?hy6c⟩) (by assumption) ?rest6c; (case hy6c => ((intro w hSw); (try dsimp only at hSw); go_simp; first | done | (with_reducible rfl) | (rw [b1]))))
      (try simp only [Act.put, List.setIfInBounds_toArray, List.set_cons_zero, List.set_cons_succ])
      (refine wpAnyH_take (i := 7) (oi := ⟨some 10, _, _, _, _, _⟩) (v := ?v7c) rfl (by kernel_rfl) (by kernel_rfl) (by kernel_rfl) (fun _ _ _ h => h) (Or.inl ⟨by rfl, ?hy7c⟩) (by assumption) ?rest7c; (case hy7c => ((intro w hSw); (try dsimp only at hSw); go_simp; first | done | (with_reducible rfl) | (rw [b1]))))
      (try simp only [Act.put, List.setIfInBounds_toArray, List.set_cons_zero, List.set_cons_succ])
      (refine wpAnyH_take (i := 8) (oi := ⟨some 11, _, _, _, _, _⟩) (v := ?v8c) rfl (by kernel_rfl) (by kernel_rfl) (by kernel_rfl) (fun _ _ _ h => h) (Or.inl ⟨by rfl, ?hy8c⟩) (by assumption) ?rest8c; (case hy8c => ((intro w hSw); (try dsimp only at hSw); go_simp; first | done | (with_reducible rfl) | (rw [b1]))))
      (try simp only [Act.put, List.setIfInBounds_toArray, List.set_cons_zero, List.set_cons_succ])
      refine wpAnyH_ready (rs := [9]) (by kernel_rfl) (by simp) ?_
      refine AllReadyH.cons (o := ⟨some 12, _, _, _, _, _⟩) rfl (fun K hK => ?_) AllReadyH.nil
      go_simp
      (go_at_call 25; (with_reducible refine (KC2.out _ BD.out).mono ?_); rintro e w' ⟨rfl, rfl⟩)
      refine hK.out _ _ ?_ (fun hHeld => ?_)
      · (try dsimp only)
        assumption
      clear hK K
      (try simp only [Act.put, List.setIfInBounds_toArray, List.set_cons_zero, List.set_cons_succ])
      (refine wpAnyH_take (i := 10) (oi := ⟨some 13, _, _, _, _, _⟩) (v := .bool false) rfl (by kernel_rfl) (by kernel_rfl) (by kernel_rfl) (fun _ _ _ h => h) (Or.inl ⟨by rfl, ?hy10c⟩) (by assumption) ?rest10c; (case hy10c => ((intro w hSw); (try dsimp only at hSw); go_simp; first | done | (with_reducible rfl) | (rw [b1]))))
      (try simp only [Act.put, List.setIfInBounds_toArray, List.set_cons_zero, List.set_cons_succ])
      (refine wpAnyH_take (i := 11) (oi := ⟨some 14, _, _, _, _, _⟩) (v := ?v11c) rfl (by kernel_rfl) (by kernel_rfl) (by kernel_rfl) (fun _ _ _ h => h) (Or.inl ⟨by rfl, ?hy11c⟩) (by assumption) ?rest11c; (case hy11c => ((intro w hSw); (try dsimp only at hSw); go_simp; first | done | (with_reducible rfl) | (rw [b1]))))
      (try simp only [Act.put, List.setIfInBounds_toArray, List.set_cons_zero, List.set_cons_succ])
      (refine wpAnyH_take (i := 12) (oi := ⟨some 15, _, _, _, _, _⟩) (v := ?v12c) rfl (by kernel_rfl) (by kernel_rfl) (by kernel_rfl) (fun _ _ _ h => h) (Or.inl ⟨by rfl, ?hy12c⟩) (by assumption) ?rest12c; (case hy12c => ((intro w hSw); (try dsimp only at hSw); go_simp; first | done | (with_reducible rfl) | (rw [b1]))))
      (try simp only [Act.put, List.setIfInBounds_toArray, List.set_cons_zero, List.set_cons_succ])
      (refine wpAnyH_take (i := 13) (oi := ⟨some 16, _, _, _, _, _⟩) (v := _) rfl (by kernel_rfl) (by kernel_rfl) (by kernel_rfl) (fun _ _ _ h => h) (Or.inr ⟨by rfl, rfl⟩) (by assumption) ?_)
      (try simp only [Act.put, List.setIfInBounds_toArray, List.set_cons_zero, List.set_cons_succ])
      (refine wpAnyH_take (i := 14) (oi := ⟨some 17, _, _, _, _, _⟩) (v := _) rfl (by kernel_rfl) (by kernel_rfl) (by kernel_rfl) (fun _ _ _ h => h) (Or.inr ⟨by rfl, rfl⟩) (by assumption) ?_)
      (try simp only [Act.put, List.setIfInBounds_toArray, List.set_cons_zero, List.set_cons_succ])
      (refine wpAnyH_take (i := 15) (oi := ⟨some 18, _, _, _, _, _⟩) (v := _) rfl (by kernel_rfl) (by kernel_rfl) (by kernel_rfl) (fun _ _ _ h => h) (Or.inr ⟨by rfl, rfl⟩) (by assumption) ?_)
      (try simp only [Act.put, List.setIfInBounds_toArray, List.set_cons_zero, List.set_cons_succ])
      (refine wpAnyH_take (i := 16) (oi := ⟨some 19, _, _, _, _, _⟩) (v := ?v16c) rfl (by kernel_rfl) (by kernel_rfl) (by kernel_rfl) (fun _ _ _ h => h) (Or.inl ⟨by rfl, ?hy16c⟩) (by assumption) ?rest16c; (case hy16c => ((intro w hSw); (try dsimp only at hSw); go_simp; first | done | (with_reducible rfl) | (rw [b1]))))
      (try simp only [Act.put, List.setIfInBounds_toArray, List.set_cons_zero, List.set_cons_succ])
      (refine wpAnyH_take (i := 17) (oi := ⟨some 2, _, _, _, _, _⟩) (v := ?v17c) rfl (by kernel_rfl) (by kernel_rfl) (by kernel_rfl) (fun _ _ _ h => h) (Or.inl ⟨by rfl, ?hy17c⟩) (by assumption) ?rest17c; (case hy17c => ((intro w hSw); (try dsimp only at hSw); go_simp; first | done | (with_reducible rfl) | (rw [b1]))))
      (try simp only [Act.put, List.setIfInBounds_toArray, List.set_cons_zero, List.set_cons_succ])
      refine wpAnyH_done (by kernel_rfl) ?_ _
      go_wp2
      go_ret
      exact ⟨by rw [E.out]; rfl, BD.out⟩
end Go.Proofs.Ytimmgmhgahbcbaa
