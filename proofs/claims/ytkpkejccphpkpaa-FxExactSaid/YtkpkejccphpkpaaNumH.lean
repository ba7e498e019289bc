/-
  Shifted and rounded back: whole numbers.
-/
import Derived.Test.YtkpkejccphpkpaaNumG
namespace Go.Proofs.Ytkpkejccphpkpaa
open Go.RowKit

theorem ab_mul_pow (x : Int) (n : Nat) : ab (x * 2 ^ n) = ab x * 2 ^ n := by
  unfold ab
  rw [Int.natAbs_mul, Int.natCast_mul, Int.natAbs_pow]
  simp
theorem shift_back (x : Int) (n : Nat) : rd (x * 2 ^ n) (2 ^ n) = x ∧ dn (x * 2 ^ n) (2 ^ n) = x := by
  have hp : (0 : Int) < 2 ^ n := Int.pow_pos (by decide)
  have ep : ab (2 ^ n) = 2 ^ n := by unfold ab; omega
  have en : ng ((2 : Int) ^ n) = false := by unfold ng; exact decide_eq_false (by omega)
  have q : ab (x * 2 ^ n) / ab (2 ^ n) = ab x := by rw [ab_mul_pow, ep]; exact Int.mul_ediv_cancel _ (by omega)
  have r : ab (x * 2 ^ n) % ab (2 ^ n) = 0 := by rw [ab_mul_pow, ep]; exact Int.mul_emod_left _ _
  have u : up (x * 2 ^ n) (2 ^ n) = false := by
    cases h : up (x * 2 ^ n) (2 ^ n) with
    | false => rfl
    | true => exact absurd r (up_rest hp h)
  have sn : ng (x * 2 ^ n) = ng x := by
    unfold ng
    rw [Bool.eq_iff_iff]; simp only [decide_eq_true_eq]
    constructor
    · intro h
      rcases Int.lt_or_le x 0 with h1 | h1
      · exact h1
      · have := Int.mul_nonneg h1 (Int.le_of_lt hp); omega
    · intro h; exact Int.mul_neg_of_neg_of_pos h hp
  have fin : sd (ng x) (ab x) = x := by have := sd_ab x 1; simpa using this
  unfold rd dn
  rw [u, q, r, en, sn]
  simp [fin]
theorem small_shift {x : Int} (n : Nat) (h0 : -36028797018963968 ≤ x) (h1 : x ≤ 36028797018963967) (hn : n ≤ 59) : R x ∧ R (x * 2 ^ n) ∧ R ((2 : Int) ^ n) := by
  have hp : (0 : Int) < 2 ^ n := Int.pow_pos (by decide)
  have m := pow_mono hn
  have e : (2 : Int) ^ 59 = 576460752303423488 := by decide
  rw [e] at m
  have a1 : (x * 2 ^ n).natAbs ≤ 36028797018963968 * 576460752303423488 := by
    rw [Int.natAbs_mul]; exact Nat.mul_le_mul (by omega) (by omega)
  simp only [R_iff]
  omega
end Go.Proofs.Ytkpkejccphpkpaa
