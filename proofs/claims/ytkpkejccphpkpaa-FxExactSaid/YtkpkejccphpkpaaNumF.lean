/-
  Shifts and products of whole numbers.
-/
import Derived.Test.YtkpkejccphpkpaaNumE
import Derived.Test.YtkpkejccphpkpaaNumD
namespace Go.Proofs.Ytkpkejccphpkpaa
open Go.RowKit

theorem sd_ab (a : Int) (p : Int) : sd (ng a) (ab a * p) = a * p := by
  unfold sd ng ab
  by_cases h : a < 0
  · have : ((a.natAbs : Nat) : Int) = -a := by omega
    simp only [h, decide_true, if_true, this]
    rw [Int.neg_mul, Int.neg_neg]
  · have : ((a.natAbs : Nat) : Int) = a := by omega
    simp only [h, decide_false, this]; rfl
theorem left_far {a : Int} (ha : R a) (n : Nat) (h1 : n ≤ 126) (h : 128 < bl (ab a) + n) : ¬ R (a * 2 ^ n) := by
  have hU := U_ab ha
  have h0 : ab a ≠ 0 := by intro e; rw [e, bl_zero] at h; omega
  obtain ⟨b1, b2, b3⟩ := bl_bd hU h0
  have m := pow_mono (show 128 ≤ (bl (ab a) - 1) + n by omega)
  rw [Int.pow_add, pow128] at m
  have := Int.mul_le_mul_of_nonneg_right b2 (show (0 : Int) ≤ 2 ^ n from Int.le_of_lt (Int.pow_pos (by decide)))
  have e := sd_ab a (2 ^ n)
  intro hr
  rw [← e, R_iff] at hr
  unfold sd at hr
  split at hr <;> omega
theorem left_near {a : Int} (ha : R a) (n : Nat) (h : bl (ab a) + n ≤ 128) : ws (ab a * 2 ^ n) = ab a * 2 ^ n := by
  have hU := U_ab ha
  have hb := ab_bd ha
  by_cases h0 : ab a = 0
  · rw [h0, Int.zero_mul]; rfl
  obtain ⟨b1, b2, b3⟩ := bl_bd hU h0
  have m := pow_mono (show bl (ab a) + n ≤ 128 from h)
  rw [Int.pow_add, pow128] at m
  have hp : (0 : Int) < 2 ^ n := Int.pow_pos (by decide)
  have := Int.mul_le_mul_of_nonneg_right (show ab a + 1 ≤ 2 ^ bl (ab a) by omega) (Int.le_of_lt hp)
  rw [Int.add_mul] at this
  have p0 : 0 ≤ ab a * 2 ^ n := Int.mul_nonneg hb.1 (Int.le_of_lt hp)
  exact ws_in (by rw [U_iff]; omega)

theorem mul_bd {a b : Int} (a0 : -9223372036854775808 ≤ a) (a1 : a ≤ 9223372036854775807) (b0 : -9223372036854775808 ≤ b) (b1 : b ≤ 9223372036854775807) :
    -85070591730234615865843651857942052864 ≤ a * b ∧ a * b ≤ 85070591730234615865843651857942052864 := by
  have h : (a * b).natAbs ≤ 9223372036854775808 * 9223372036854775808 := by
    rw [Int.natAbs_mul]; exact Nat.mul_le_mul (by omega) (by omega)
  omega
/-- The product's high half, as it is mended for the signs. -/
def mh (a b h : Int) : Int :=
  let h1 := if a < 0 then IntKind.u64.wrap (h - IntKind.u64.wrap b) else h
  if b < 0 then IntKind.u64.wrap (h1 - IntKind.u64.wrap a) else h1
theorem mul_halves {a b : Int} (a0 : -9223372036854775808 ≤ a) (a1 : a ≤ 9223372036854775807) (b0 : -9223372036854775808 ≤ b) (b1 : b ≤ 9223372036854775807) {X : Int}
    (hX : X = IntKind.u64.wrap a * IntKind.u64.wrap b) : wrap64 (mh a b (X / 18446744073709551616)) = hi (a * b) ∧ X % 18446744073709551616 = lo (a * b) := by
  have bd := mul_bd a0 a1 b0 b1
  have key : X = a * b + (if a < 0 then 18446744073709551616 * b else 0) + (if b < 0 then 18446744073709551616 * a else 0) + (if a < 0 ∧ b < 0 then 340282366920938463463374607431768211456 else 0) := by
    rw [hX, IntKind.wrap_u64, IntKind.wrap_u64]
    by_cases ha : a < 0
    · have ea : a % 18446744073709551616 = a + 18446744073709551616 := by omega
      by_cases hb : b < 0
      · have eb : b % 18446744073709551616 = b + 18446744073709551616 := by omega
        rw [ea, eb, Int.add_mul, Int.mul_add, Int.mul_add]; simp only [ha, hb, if_true, and_self]; omega
      · have eb : b % 18446744073709551616 = b := by omega
        rw [ea, eb, Int.add_mul]; simp only [ha, hb, if_true, if_false, and_false]; omega
    · have ea : a % 18446744073709551616 = a := by omega
      by_cases hb : b < 0
      · have eb : b % 18446744073709551616 = b + 18446744073709551616 := by omega
        rw [ea, eb, Int.mul_add]; simp only [ha, hb, if_true, if_false, false_and]; omega
      · have eb : b % 18446744073709551616 = b := by omega
        rw [ea, eb]; simp only [ha, hb, if_false, and_self]; omega
  clear hX
  generalize a * b = P at *
  unfold mh hi lo wrap64
  simp only [IntKind.wrap_u64]
  by_cases ha : a < 0 <;> by_cases hb : b < 0 <;> simp only [ha, hb, if_true, if_false, and_self, and_false, false_and] at key ⊢ <;> omega
end Go.Proofs.Ytkpkejccphpkpaa
