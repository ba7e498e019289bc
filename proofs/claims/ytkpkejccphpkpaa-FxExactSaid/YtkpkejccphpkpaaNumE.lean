/-
  Rounded quotients, said of whole numbers.
-/
import Derived.Test.YtkpkejccphpkpaaNumC
namespace Go.Proofs.Ytkpkejccphpkpaa
open Go.RowKit

/-- Is the quotient of the sizes raised by 1? -/
def up (n d : Int) : Bool := decide (0 < sg (2 * (ab n % ab d)) (ab d)) || (decide (sg (2 * (ab n % ab d)) (ab d) = 0) && (ab n / ab d % 2 == 1))
/-- The nearest whole number to n / d, halves to even. -/
def rd (n d : Int) : Int := sd (ng n != ng d) (if up n d = true then ab n / ab d + 1 else ab n / ab d)
/-- n / d rounded down. -/
def dn (n d : Int) : Int := sd (ng n != ng d) (if ((ng n != ng d) && !(ab n % ab d == 0)) = true then ab n / ab d + 1 else ab n / ab d)

theorem ab_ne {d : Int} (h : d ≠ 0) : ab d ≠ 0 := by unfold ab; omega
theorem ab_bd {a : Int} (h : R a) : 0 ≤ ab a ∧ ab a ≤ 170141183460469231731687303715884105728 := by rw [R_iff] at h; unfold ab; omega
theorem quo_sizes {n d : Int} (hn : R n) (hd : R d) (h0 : d ≠ 0) : U (ab n / ab d) ∧ U (ab n / ab d + 1) ∧ U (ab n % ab d) ∧ U (2 * (ab n % ab d)) := by
  obtain ⟨n0, n1⟩ := ab_bd hn
  obtain ⟨d0, d1⟩ := ab_bd hd
  have dp : 0 < ab d := by have := ab_ne h0; omega
  have q0 : 0 ≤ ab n / ab d := Int.ediv_nonneg n0 d0
  have q1 : ab n / ab d ≤ ab n := Int.ediv_le_self _ n0
  have r0 := Int.emod_nonneg (ab n) (show ab d ≠ 0 by omega)
  have r1 := Int.emod_lt_of_pos (ab n) dp
  simp only [U_iff]
  omega
end Go.Proofs.Ytkpkejccphpkpaa
