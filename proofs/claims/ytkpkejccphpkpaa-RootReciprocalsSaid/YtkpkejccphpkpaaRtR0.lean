/-
  The signs and sizes behind the roots' statements.
-/
import Derived.Test.YtkpkejccphpkpaaRtW
import Derived.Test.YtkpkejccphpkpaaNear
namespace Go.Proofs.Ytkpkejccphpkpaa
open Go.RowKit
theorem sg_le {a b : Int} (h : a ≤ b) : ¬ 0 < sg a b := by
  rcases Int.lt_or_le a b with q | q
  · rw [sg_lt q]; decide
  · rw [show a = b by omega, sg_eq]; decide
theorem sg_ge {a b : Int} (h : b ≤ a) : ¬ sg a b < 0 := by
  rcases Int.lt_or_le b a with q | q
  · rw [sg_gt q]; decide
  · rw [show a = b by omega, sg_eq]; decide
theorem sg_ge2 {a b : Int} (h : b ≤ a) : sg a b = 1 ∨ sg a b = 0 := by
  rcases Int.lt_or_le b a with q | q
  · exact .inl (sg_gt q)
  · exact .inr (by rw [show a = b by omega, sg_eq])
theorem sg_le2 {a b : Int} (h : a ≤ b) : sg a b = -1 ∨ sg a b = 0 := by
  rcases Int.lt_or_le a b with q | q
  · exact .inl (sg_lt q)
  · exact .inr (by rw [show a = b by omega, sg_eq])
theorem nab_mul {x y : Int} {k m : Nat} (hx : x.natAbs < 2 ^ k) (hy : y.natAbs < 2 ^ m) : (x * y).natAbs < 2 ^ (k + m) := by
  rw [Int.natAbs_mul, Nat.pow_add]
  exact Nat.mul_lt_mul'' hx hy
theorem recip_over {N a r : Int} {k : Nat} (_hN : N = 2 ^ k) (hr : Nr (cl N a) r) (ha : 0 < a) (gr : wd r = false) (N0 : 0 ≤ N) : 281474976710655 * 281474976710655 * a ≤ N := by
  have K := cl_is N0 ha
  obtain ⟨r0, r1, r2⟩ := hr
  have b := wd_no gr
  have c := r2 (by omega)
  have d := sq_mono (a := 281474976710655) (b := 2 * r - 1) (by decide) (by omega)
  have e := Int.mul_le_mul_of_nonneg_right (show 281474976710655 * 281474976710655 ≤ cl N a - 1 by omega) (show 0 ≤ a by omega)
  omega
theorem nab_pow {N : Int} {k : Nat} (hN : N = 2 ^ k) (h : k ≤ 98) : N.natAbs < 2 ^ 99 := by
  have p1 : (2 : Int) ^ k ≤ 2 ^ 98 := by have := Nat.pow_le_pow_right (show 0 < 2 by decide) h; exact_mod_cast this
  have p0 : (0 : Int) < 2 ^ k := Int.pow_pos (by decide)
  omega
theorem recip_in {N a r : Int} (hr : Nr (cl N a) r) (ha : 0 < a) (N0 : 0 ≤ N) : N ≤ (2 * r + 1) * (2 * r + 1) * a ∧ (r ≠ 0 → (2 * r - 1) * (2 * r - 1) * a ≤ N) := by
  have K := cl_is N0 ha
  obtain ⟨r0, r1, r2⟩ := hr
  refine ⟨Int.le_trans K.1 (Int.mul_le_mul_of_nonneg_right r1 (by omega)), fun h => ?_⟩
  have c := r2 h
  have e := Int.mul_le_mul_of_nonneg_right (show (2 * r - 1) * (2 * r - 1) ≤ cl N a - 1 by omega) (show 0 ≤ a by omega)
  omega
theorem recip_big2 {a N r : Int} {f : Nat} (a0 : -140737488355328 < a) (a1 : a < 140737488355328) (hN : N = 2 ^ (3 * f + 2)) (hf : f ≤ 32) (r0 : 0 ≤ r) (r1 : r < 140737488355328) :
    ((2 * r + 1) * (2 * r + 1)).natAbs < BIG ∧ ((2 * r + 1) * (2 * r + 1) * a).natAbs < BIG ∧ N.natAbs < BIG ∧ a.natAbs < BIG ∧ (2 * r + 1).natAbs < BIG ∧ (2 * r - 1).natAbs < BIG ∧ ((2 * r - 1) * (2 * r - 1)).natAbs < BIG ∧ ((2 * r - 1) * (2 * r - 1) * a).natAbs < BIG := by
  have u : (2 * r + 1).natAbs < 2 ^ 49 := by omega
  have d : (2 * r - 1).natAbs < 2 ^ 49 := by omega
  have h : a.natAbs < 2 ^ 47 := by omega
  exact ⟨big_of (nab_mul u u) (by decide), big_of (nab_mul (nab_mul u u) h) (by decide), big_of (nab_pow hN (by omega)) (by decide), big_of h (by decide), big_of u (by decide), big_of d (by decide), big_of (nab_mul d d) (by decide), big_of (nab_mul (nab_mul d d) h) (by decide)⟩
theorem recip_big1 {a N : Int} {f : Nat} (a0 : -140737488355328 < a) (a1 : a < 140737488355328) (hN : N = 2 ^ (3 * f + 2)) (hf : f ≤ 32) :
    (281474976710655 * 281474976710655 : Int).natAbs < BIG ∧ (281474976710655 * 281474976710655 * a).natAbs < BIG ∧ N.natAbs < BIG ∧ a.natAbs < BIG ∧ (281474976710656 : Int).natAbs < BIG ∧ (281474976710655 : Int).natAbs < BIG :=
  ⟨big_of (k := 96) (by decide) (by decide), big_of (nab_mul (k := 96) (m := 47) (by decide) (by omega)) (by decide), big_of (nab_pow hN (by omega)) (by decide), big_of (k := 47) (by omega) (by decide), big_of (k := 49) (by decide) (by decide), big_of (k := 49) (by decide) (by decide)⟩
end Go.Proofs.Ytkpkejccphpkpaa
