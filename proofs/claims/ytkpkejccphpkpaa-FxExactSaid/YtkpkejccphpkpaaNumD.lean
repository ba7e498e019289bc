/-
  The long division of sizes, bit by bit: what holds at each round's head.
-/
import Derived.Test.YtkpkejccphpkpaaNumB
namespace Go.Proofs.Ytkpkejccphpkpaa

def DInv (n d a q r : Int) : Prop :=
  -200 ≤ a ∧ a ≤ 127 ∧ 0 ≤ q ∧ 0 ≤ r ∧ n = q * d + r ∧ r < d * 2 ^ (a + 1).toNat ∧ q % 2 ^ (a + 1).toNat = 0 ∧ (0 ≤ a → d * 2 ^ a.toNat ≤ 340282366920938463463374607431768211455)

theorem pow128 : (2 : Int) ^ 128 = 340282366920938463463374607431768211456 := by decide
theorem pow_mono {m n : Nat} (h : m ≤ n) : (2 : Int) ^ m ≤ 2 ^ n := by
  obtain ⟨k, rfl⟩ := Nat.exists_eq_add_of_le h
  rw [Int.pow_add]
  have h1 : (0 : Int) < 2 ^ m := Int.pow_pos (by decide)
  have h2 : (0 : Int) < 2 ^ k := Int.pow_pos (by decide)
  have := Int.mul_le_mul_of_nonneg_left (show (1 : Int) ≤ 2 ^ k by omega) (show (0 : Int) ≤ 2 ^ m by omega)
  omega
theorem dinv_start {n d : Int} (h : U n) (k : U d) (h0 : d ≠ 0) : DInv n d (bl n - bl d) 0 n := by
  have hn := (U_iff n).1 h
  have hd := (U_iff d).1 k
  have ln := bl_le h
  have ld := bl_le k
  obtain ⟨d1, d2, d3⟩ := bl_bd k h0
  by_cases z : n = 0
  · subst z
    rw [bl_zero]
    have e : (((0 : Nat) : Int) - bl d + 1).toNat = 0 := by omega
    refine ⟨by omega, by omega, by decide, by decide, by omega, ?_, ?_, fun h => by omega⟩
    · rw [e]; simp; omega
    · rw [e]; simp
  · obtain ⟨n1, n2, n3⟩ := bl_bd h z
    refine ⟨by omega, by omega, by decide, by omega, by omega, ?_, by simp, ?_⟩
    · have m := pow_mono (show bl n ≤ (bl d - 1) + ((bl n : Int) - bl d + 1).toNat by omega)
      rw [Int.pow_add] at m
      have := Int.mul_le_mul_of_nonneg_right d2 (show (0 : Int) ≤ 2 ^ ((bl n : Int) - bl d + 1).toNat from Int.le_of_lt (Int.pow_pos (by decide)))
      omega
    · intro hge
      have m := pow_mono (show bl d + ((bl n : Int) - bl d).toNat ≤ 128 by omega)
      rw [Int.pow_add, pow128] at m
      have hp : (0 : Int) < 2 ^ ((bl n : Int) - bl d).toNat := Int.pow_pos (by decide)
      have := Int.mul_le_mul_of_nonneg_right (show d + 1 ≤ 2 ^ bl d by omega) (Int.le_of_lt hp)
      rw [Int.add_mul] at this
      omega
theorem dinv_sizes {n d a q r : Int} (h : DInv n d a q r) (hn : U n) (h0 : 0 < d) : U q ∧ U r := by
  obtain ⟨_, _, q0, r0, e, _, _, _⟩ := h
  simp only [U_iff] at *
  have : q * 1 ≤ q * d := Int.mul_le_mul_of_nonneg_left (by omega) q0
  omega
theorem dinv_step {n d q r : Int} {k : Nat} (h : DInv n d k q r) (h0 : 0 < d) : k ≤ 127 ∧ ws (d * 2 ^ k) = d * 2 ^ k ∧ q % 2 ^ (k + 1) = 0 := by
  obtain ⟨_, k1, _, _, _, _, m, s⟩ := h
  have s' := s (by omega)
  rw [Int.toNat_natCast] at s'
  rw [show ((k : Int) + 1).toNat = k + 1 by omega] at m
  have : (0 : Int) < d * 2 ^ k := Int.mul_pos h0 (Int.pow_pos (by decide))
  exact ⟨by omega, ws_in ((U_iff _).2 ⟨by omega, s'⟩), m⟩
theorem dinv_end {n d a q r : Int} (h : DInv n d a q r) (ha : a < 0) (h0 : 0 < d) : q = n / d ∧ r = n % d := by
  obtain ⟨_, _, q0, r0, e, l, _, _⟩ := h
  rw [show (a + 1).toNat = 0 by omega, Int.pow_zero, Int.mul_one] at l
  have := (Int.ediv_emod_unique h0 (a := n) (r := r) (q := q)).2 ⟨by rw [e, Int.mul_comm d q]; omega, r0, l⟩
  exact ⟨this.1.symm, this.2.symm⟩
theorem dinv_hit {n d q r : Int} {k : Nat} (h : DInv n d k q r) (he : r = d * 2 ^ k) (h0 : 0 < d) : q + 2 ^ k = n / d ∧ 0 = n % d := by
  obtain ⟨_, _, q0, r0, e, l, _, _⟩ := h
  have := (Int.ediv_emod_unique h0 (a := n) (r := 0) (q := q + 2 ^ k)).2 ⟨by rw [e, he, Int.mul_comm q d, ← Int.mul_add]; omega, by omega, h0⟩
  exact ⟨this.1.symm, this.2.symm⟩
theorem dinv_up {n d q r : Int} {k : Nat} (h : DInv n d k q r) (hg : d * 2 ^ k < r) (hn : U n) (h0 : 0 < d) : ws (r - d * 2 ^ k) = r - d * 2 ^ k ∧ DInv n d (k - 1) (q + 2 ^ k) (r - d * 2 ^ k) := by
  have hU := (dinv_sizes h hn h0).2
  obtain ⟨a0, a1, q0, r0, e, l, m, s⟩ := h
  have hp : (0 : Int) < 2 ^ k := Int.pow_pos (by decide)
  have hdp : (0 : Int) < d * 2 ^ k := Int.mul_pos h0 hp
  rw [show ((k : Int) + 1).toNat = k + 1 by omega] at l m
  rw [Int.pow_succ] at l m
  refine ⟨ws_in (by rw [U_iff] at *; omega), by omega, by omega, by omega, by omega, ?_, ?_, ?_, ?_⟩
  · rw [Int.add_mul, Int.mul_comm (2 ^ k) d, e]; omega
  · rw [show ((k : Int) - 1 + 1).toNat = k by omega]
    rw [← Int.mul_assoc] at l; omega
  · rw [show ((k : Int) - 1 + 1).toNat = k by omega]
    have : q % 2 ^ k = 0 := Int.emod_eq_zero_of_dvd (Int.dvd_trans (Int.dvd_mul_right _ _) (Int.dvd_of_emod_eq_zero m))
    rw [Int.add_emod, this, Int.emod_self]; simp
  · intro hk
    have s' := s (by omega)
    rw [Int.toNat_natCast] at s'
    obtain ⟨j, rfl⟩ : ∃ j, k = j + 1 := ⟨k - 1, by omega⟩
    rw [show (((j + 1 : Nat) : Int) - 1).toNat = j by omega]
    rw [Int.pow_succ, ← Int.mul_assoc] at s'
    have : (0 : Int) < d * 2 ^ j := Int.mul_pos h0 (Int.pow_pos (by decide))
    omega
theorem dinv_down {n d q r : Int} {k : Nat} (h : DInv n d k q r) (hg : r < d * 2 ^ k) (h0 : 0 < d) : DInv n d (k - 1) q r := by
  obtain ⟨a0, a1, q0, r0, e, l, m, s⟩ := h
  have hp : (0 : Int) < 2 ^ k := Int.pow_pos (by decide)
  rw [show ((k : Int) + 1).toNat = k + 1 by omega] at l m
  rw [Int.pow_succ] at l m
  refine ⟨by omega, by omega, q0, r0, e, ?_, ?_, ?_⟩
  · rw [show ((k : Int) - 1 + 1).toNat = k by omega]; exact hg
  · rw [show ((k : Int) - 1 + 1).toNat = k by omega]
    exact Int.emod_eq_zero_of_dvd (Int.dvd_trans (Int.dvd_mul_right _ _) (Int.dvd_of_emod_eq_zero m))
  · intro hk
    have s' := s (by omega)
    rw [Int.toNat_natCast] at s'
    obtain ⟨j, rfl⟩ : ∃ j, k = j + 1 := ⟨k - 1, by omega⟩
    rw [show (((j + 1 : Nat) : Int) - 1).toNat = j by omega]
    rw [Int.pow_succ, ← Int.mul_assoc] at s'
    have : (0 : Int) < d * 2 ^ j := Int.mul_pos h0 (Int.pow_pos (by decide))
    omega
end Go.Proofs.Ytkpkejccphpkpaa
