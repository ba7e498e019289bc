/-
  Rounded quotients: of multiples, of negatives.
-/
import Derived.Test.YtkpkejccphpkpaaNumH
import Derived.Test.YtkpkejccphpkpaaNumI
import Derived.Test.YtkpkejccphpkpaaFxA
namespace Go.Proofs.Ytkpkejccphpkpaa
open Go.RowKit

theorem ab_mul (a b : Int) : ab (a * b) = ab a * ab b := by unfold ab; rw [Int.natAbs_mul]; rfl
theorem ng_mul_pos (a : Int) {k : Int} (hk : 0 < k) : ng (a * k) = ng a := by
  unfold ng
  rw [Bool.eq_iff_iff]; simp only [decide_eq_true_eq]
  constructor
  · intro h
    rcases Int.lt_or_le a 0 with h1 | h1
    · exact h1
    · have := Int.mul_nonneg h1 (Int.le_of_lt hk); omega
  · intro h; exact Int.mul_neg_of_neg_of_pos h hk
theorem sg_scale (a b : Int) {k : Int} (hk : 0 < k) : sg (a * k) (b * k) = sg a b := by
  rcases Int.lt_trichotomy a b with h | h | h
  · rw [sg_lt h, sg_lt (Int.mul_lt_mul_of_pos_right h hk)]
  · rw [h, sg_eq, sg_eq]
  · rw [sg_gt h, sg_gt (Int.mul_lt_mul_of_pos_right h hk)]
theorem rd_scale (n d : Int) {k : Int} (hk : 0 < k) : rd (n * k) (d * k) = rd n d := by
  have ek : ab k = k := by unfold ab; omega
  unfold rd up
  have er : ab n * k % (ab d * k) = (ab n % ab d) * k := by rw [Int.mul_comm (ab n) k, Int.mul_comm (ab d) k, Int.mul_emod_mul_of_pos _ _ hk, Int.mul_comm]
  rw [ab_mul, ab_mul, ng_mul_pos n hk, ng_mul_pos d hk, ek, Int.mul_ediv_mul_of_pos_left _ _ hk, er, ← Int.mul_assoc, sg_scale _ _ hk]
theorem tw_neg (q : Int) : tw (-q) = -tw q ∧ te (-q) = te q := by
  cases g : wd q with
  | true =>
    have h := wd_bd g
    have k : wd (-q) = true := wd_mk (by omega)
    rw [tw_in g, tw_in k, te_in g, te_in k]
    exact ⟨rfl, rfl⟩
  | false =>
    have h := wd_no g
    have k : wd (-q) = false := by
      unfold wd; simp only [decide_eq_false_iff_not]; omega
    rw [tw_out g, tw_out k, te_out g, te_out k]
    exact ⟨rfl, rfl⟩
theorem tw_bd (q : Int) : -140737488355328 < tw q ∧ tw q < 140737488355328 := wd_bd (wd_tw q)
end Go.Proofs.Ytkpkejccphpkpaa
