/-
  Quotients by a divisor above 0: the rounded one is the lower one, or 1 more; both are wide numbers.
-/
import Derived.Test.YtkpkejccphpkpaaNumF
namespace Go.Proofs.Ytkpkejccphpkpaa
open Go.RowKit

theorem up_rest {n d : Int} (hd : 0 < d) (h : up n d = true) : ab n % ab d ≠ 0 := by
  intro e
  have dp : 0 < ab d := by unfold ab; omega
  unfold up at h
  rw [e, Int.mul_zero, sg_lt dp] at h
  simp at h
theorem quo_small {n d : Int} (hd : 0 < d) : 0 ≤ ab n / ab d ∧ ab n / ab d ≤ ab n ∧ (ab n % ab d ≠ 0 → ab n / ab d + 1 ≤ ab n) := by
  have dp : 0 < ab d := by unfold ab; omega
  have n0 : 0 ≤ ab n := by unfold ab; omega
  have q0 : 0 ≤ ab n / ab d := Int.ediv_nonneg n0 (by omega)
  refine ⟨q0, Int.ediv_le_self _ n0, fun hr => ?_⟩
  have r0 := Int.emod_nonneg (ab n) (show ab d ≠ 0 by omega)
  have e := Int.mul_ediv_add_emod (ab n) (ab d)
  have : 1 * (ab n / ab d) ≤ ab d * (ab n / ab d) := Int.mul_le_mul_of_nonneg_right (by omega) q0
  omega
theorem downs_math {n d : Int} (hn : R n) (hd : 0 < d) : R (dn n d) ∧ R (rd n d) ∧ R (rd n d - dn n d) ∧ 0 ≤ rd n d - dn n d ∧ rd n d - dn n d ≤ 1 := by
  obtain ⟨q0, q1, q2⟩ := quo_small (n := n) hd
  have hb := ab_bd hn
  have hu := up_rest (n := n) hd
  have ed : ng d = false := by unfold ng; exact decide_eq_false (by omega)
  have en : ng n = decide (n < 0) := rfl
  rw [R_iff] at hn
  simp only [R_iff]
  unfold dn rd sd
  rw [ed, en]
  generalize up n d = u at *
  have ea : n < 0 → ab n = -n := by intro h; unfold ab; omega
  have eb : ¬ n < 0 → ab n = n := by intro h; unfold ab; omega
  generalize ab n / ab d = q at *
  generalize ab n % ab d = r at *
  by_cases h : n < 0 <;> by_cases hr : r = 0 <;> cases u <;> simp [h, hr] at hu ea eb q2 ⊢ <;> omega
end Go.Proofs.Ytkpkejccphpkpaa
