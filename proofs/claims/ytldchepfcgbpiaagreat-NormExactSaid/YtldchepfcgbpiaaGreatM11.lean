/-
  The nearest whole number to a quotient, as the references reckon it.
  The document's own answer for package wide: the nearest quotient.
-/
import Derived.Test.YtldchepfcgbpiaaGreatM09
import Derived.Test.YtldchepfcgbpiaaGreatM10
namespace Go.Proofs.YtldchepfcgbpiaaGreat
open Go.RowKit

theorem ediv_is {x D t r : Int} (hD : 0 < D) (h : x = t * D + r) (h0 : 0 ≤ r) (h1 : r < D) : x / D = t := by
  rw [h, Int.add_comm, Int.add_mul_ediv_right _ _ (by omega), Int.ediv_eq_zero_of_lt h0 h1, Int.zero_add]
theorem dn_ediv (x : Int) {D : Int} (hD : 0 < D) : dn x D = x / D := by
  have eD : ab D = D := by unfold ab; omega
  have nD : ng D = false := by unfold ng; exact decide_eq_false (by omega)
  have e := Int.mul_ediv_add_emod (ab x) D
  have r0 := Int.emod_nonneg (ab x) (show D ≠ 0 by omega)
  have r1 := Int.emod_lt_of_pos (ab x) hD
  unfold dn
  rw [eD, nD]
  rcases Int.lt_or_le x 0 with h | h
  · have nx : ng x = true := by unfold ng; exact decide_eq_true h
    have ax : ab x = -x := by unfold ab; omega
    rw [nx]
    generalize ab x / D = q at *
    generalize ab x % D = r at *
    by_cases hr : r = 0
    · subst hr
      simp [sd]
      refine (ediv_is hD (r := 0) ?_ (by omega) hD).symm
      rw [Int.neg_mul, Int.mul_comm q]
      omega
    · have hb : (r == 0) = false := by rw [beq_eq_false_iff_ne]; exact hr
      rw [hb]
      simp [sd]
      refine (ediv_is hD (r := D - r) ?_ (by omega) (by omega)).symm
      rw [Int.neg_mul, Int.add_mul, Int.mul_comm q]
      omega
  · have nx : ng x = false := by unfold ng; exact decide_eq_false (by omega)
    have ax : ab x = x := by unfold ab; omega
    rw [nx, ax]
    simp [sd]
theorem nr_of {p : Int} {q : Nat} {t r : Int} (_hq : q ≠ 0) (h : p * 2 ^ 1 = t * q + r) (h0 : 0 ≤ r) (h1 : r < q) : nr p q = if t % 2 = 0 then t / 2 else if r ≠ 0 then t / 2 + 1 else if t / 2 % 2 = 0 then t / 2 else t / 2 + 1 := by
  have e : t2 p q = t := by
    unfold t2
    rw [dn_ediv _ (by omega : (0 : Int) < q)]
    exact ediv_is (by omega) h h0 h1
  unfold nr
  rw [e, h]
  have e2 : t * (q : Int) + r - t * q = r := by omega
  rw [e2]
  have p1 : (2 : Int) ^ 1 = 2 := by decide
  rw [p1]
  have c1 : (t / 2 * 2 = t) = (t % 2 = 0) := by apply propext; omega
  have c2 : (t / 2 / 2 * 2 = t / 2) = (t / 2 % 2 = 0) := by apply propext; omega
  simp only [c1, c2]
theorem nr_rd (m : Int) {D : Nat} (hD : D ≠ 0) : nr m D = rd m D := by
  have eD : ab (D : Int) = D := by unfold ab; omega
  have nD : ng (D : Int) = false := by unfold ng; exact decide_eq_false (by omega)
  have U := up_cases m D
  have e := Int.mul_ediv_add_emod (ab m) (D : Int)
  have r0 := Int.emod_nonneg (ab m) (show (D : Int) ≠ 0 by omega)
  have r1 := Int.emod_lt_of_pos (ab m) (show (0 : Int) < D by omega)
  have q0 : 0 ≤ ab m / D := Int.ediv_nonneg (by unfold ab; omega) (by omega)
  rw [eD] at U
  unfold rd
  rw [eD, nD]
  have p1 : (2 : Int) ^ 1 = 2 := by decide
  rcases Int.lt_or_le m 0 with h | h
  · have nx : ng m = true := by unfold ng; exact decide_eq_true h
    have ax : ab m = -m := by unfold ab; omega
    rw [nx]
    generalize ab m / D = q at *
    generalize ab m % D = r at *
    have f : ∀ c : Int, (-(2 * q) - c) * (D : Int) = -(2 * (D * q)) - c * D := fun c => by
      rw [Int.sub_mul, Int.neg_mul, Int.mul_assoc, Int.mul_comm q]
    rcases (by omega : r = 0 ∨ (0 < r ∧ 2 * r < D) ∨ 2 * r = D ∨ (D : Int) < 2 * r) with c | c | c | c
    · rw [nr_of (t := -(2 * q) - 0) (r := 0) hD (by rw [f, p1]; omega) (by omega) (by omega)]
      rcases U with ⟨u, hu⟩ | ⟨u, hu⟩ <;> rw [u] <;> simp [sd] <;> omega
    · rw [nr_of (t := -(2 * q) - 1) (r := D - 2 * r) hD (by rw [f, p1]; omega) (by omega) (by omega)]
      rcases U with ⟨u, hu⟩ | ⟨u, hu⟩ <;> rw [u] <;> simp [sd] <;> omega
    · rw [nr_of (t := -(2 * q) - 1) (r := 0) hD (by rw [f, p1]; omega) (by omega) (by omega)]
      rcases U with ⟨u, hu⟩ | ⟨u, hu⟩ <;> rw [u] <;> simp [sd] <;> omega
    · rw [nr_of (t := -(2 * q) - 2) (r := 2 * D - 2 * r) hD (by rw [f, p1]; omega) (by omega) (by omega)]
      rcases U with ⟨u, hu⟩ | ⟨u, hu⟩ <;> rw [u] <;> simp [sd] <;> omega
  · have nx : ng m = false := by unfold ng; exact decide_eq_false (by omega)
    have ax : ab m = m := by unfold ab; omega
    rw [nx]
    generalize ab m / D = q at *
    generalize ab m % D = r at *
    have f : ∀ c : Int, (2 * q + c) * (D : Int) = 2 * (D * q) + c * D := fun c => by
      rw [Int.add_mul, Int.mul_assoc, Int.mul_comm q]
    rcases (by omega : 2 * r < D ∨ 2 * r = D ∨ (D : Int) < 2 * r) with c | c | c
    · rw [nr_of (t := 2 * q + 0) (r := 2 * r) hD (by rw [f, p1]; omega) (by omega) (by omega)]
      rcases U with ⟨u, hu⟩ | ⟨u, hu⟩ <;> rw [u] <;> simp [sd] <;> omega
    · rw [nr_of (t := 2 * q + 1) (r := 0) hD (by rw [f, p1]; omega) (by omega) (by omega)]
      rcases U with ⟨u, hu⟩ | ⟨u, hu⟩ <;> rw [u] <;> simp [sd] <;> omega
    · rw [nr_of (t := 2 * q + 1) (r := 2 * r - D) hD (by rw [f, p1]; omega) (by omega) (by omega)]
      rcases U with ⟨u, hu⟩ | ⟨u, hu⟩ <;> rw [u] <;> simp [sd] <;> omega
theorem lowest (m : Int) {D : Nat} (hD : D ≠ 0) : nr (m.tdiv (Nat.gcd m.natAbs D : Nat)) (D / Nat.gcd m.natAbs D) = rd m D ∧ D / Nat.gcd m.natAbs D ≠ 0 := by
  have gp := Nat.gcd_pos_of_pos_right m.natAbs (Nat.pos_of_ne_zero hD)
  have d1 := Nat.gcd_dvd_left m.natAbs D
  have d2 := Nat.gcd_dvd_right m.natAbs D
  generalize Nat.gcd m.natAbs D = g at *
  obtain ⟨k, hk⟩ := d2
  have kp : k ≠ 0 := fun e => hD (by rw [hk, e, Nat.mul_zero])
  have e2 : D / g = k := by rw [hk, Nat.mul_div_cancel_left _ gp]
  have e1 : m.tdiv (g : Int) * g = m := Int.tdiv_mul_cancel (Int.ofNat_dvd_left.2 d1)
  rw [e2]
  refine ⟨?_, kp⟩
  rw [nr_rd _ kp, ← rd_scale _ _ (show (0 : Int) < g by omega), e1]
  congr 1
  rw [hk, Int.natCast_mul, Int.mul_comm]
end Go.Proofs.YtldchepfcgbpiaaGreat
namespace Go.Proofs.YtldchepfcgbpiaaGreat
open Go.RowKit

end Go.Proofs.YtldchepfcgbpiaaGreat
