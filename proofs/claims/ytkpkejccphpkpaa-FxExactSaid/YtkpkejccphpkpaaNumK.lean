/-
  Rounded quotients of words: they are words, but for one.
-/
import Derived.Test.YtkpkejccphpkpaaNumI
import Derived.Test.YtkpkejccphpkpaaWideC
namespace Go.Proofs.Ytkpkejccphpkpaa
open Go.RowKit

theorem sd_abs (s : Bool) (x : Int) : (sd s x).natAbs = x.natAbs := by cases s <;> simp [sd]
theorem ab_ab (d : Int) : ab (ab d) = ab d := by unfold ab; omega
theorem up_ab (n d : Int) : up n d = up n (ab d) := by unfold up; rw [ab_ab]
theorem rd_small {n d : Int} (hd : d ≠ 0) : (rd n d).natAbs ≤ n.natAbs := by
  have dp : 0 < ab d := by unfold ab; omega
  obtain ⟨q0, q1, q2⟩ := quo_small (n := n) dp
  have hu := up_rest (n := n) dp
  rw [← up_ab] at hu
  rw [ab_ab] at q0 q1 q2 hu
  unfold rd
  rw [sd_abs]
  have en : ab n = n.natAbs := rfl
  generalize ab n / ab d = q at *
  generalize ab n % ab d = r at *
  generalize ab n = A at *
  cases h : up n d with
  | true => have := q2 (hu h); simp only [if_true]; omega
  | false => simp only [Bool.false_eq_true, if_false]; omega
theorem rd_top {n d : Int} (h0 : -9223372036854775808 ≤ n) (h1 : n ≤ 9223372036854775807) (hd : d ≠ 0) (hs : isS (rd n d) = false) : n = -9223372036854775808 ∧ d = -1 := by
  have hs2 : ¬ (-9223372036854775808 ≤ rd n d ∧ rd n d ≤ 9223372036854775807) := by unfold isS at hs; exact of_decide_eq_false hs
  have sm := rd_small (n := n) hd
  have top : rd n d = 9223372036854775808 := by omega
  have hn : n = -9223372036854775808 := by omega
  refine ⟨hn, ?_⟩
  subst hn
  have dp : 0 < ab d := by unfold ab; omega
  have hu := up_rest (n := -9223372036854775808) dp
  rw [← up_ab, ab_ab] at hu
  have ea : ab (-9223372036854775808) = 9223372036854775808 := by decide
  unfold rd at top
  rw [ea] at top hu
  have nn : ng (-9223372036854775808) = true := by decide
  rw [nn] at top
  rcases (by omega : ab d = 1 ∨ 2 ≤ ab d) with h | h
  · rw [h, Int.ediv_one] at top
    rw [h, Int.emod_one] at hu
    cases hd2 : ng d with
    | true =>
      unfold ng at hd2
      have := of_decide_eq_true hd2
      unfold ab at h
      omega
    | false =>
      rw [hd2] at top
      cases hup : up (-9223372036854775808) d with
      | true => exact absurd rfl (hu hup)
      | false => rw [hup] at top; simp [sd] at top
  · have q1 : 9223372036854775808 / ab d ≤ 9223372036854775808 / 2 := by
      have r0 := Int.emod_nonneg 9223372036854775808 (show ab d ≠ 0 by omega)
      have e := Int.mul_ediv_add_emod 9223372036854775808 (ab d)
      have q0 : 0 ≤ 9223372036854775808 / ab d := Int.ediv_nonneg (by decide) (by omega)
      have : 2 * (9223372036854775808 / ab d) ≤ ab d * (9223372036854775808 / ab d) := Int.mul_le_mul_of_nonneg_right h q0
      omega
    have q0 : 0 ≤ 9223372036854775808 / ab d := Int.ediv_nonneg (by decide) (by omega)
    generalize 9223372036854775808 / ab d = q at *
    generalize (true != ng d) = s at *
    generalize up (-9223372036854775808) d = u at *
    cases s <;> cases u <;> simp [sd] at top <;> omega
end Go.Proofs.Ytkpkejccphpkpaa
