/-
  Whole numbers of 128 bits, as a wide number's two halves: hi a and lo a of a whole number a.
-/
import Derived.Test.YtkpkejccphpkpaaRows
namespace Go.Proofs.Ytkpkejccphpkpaa

def hi (a : Int) : Int := a / 18446744073709551616
def lo (a : Int) : Int := a % 18446744073709551616
/-- a is a wide number. -/
def R (a : Int) : Prop := -9223372036854775808 ≤ hi a ∧ hi a ≤ 9223372036854775807
instance (a : Int) : Decidable (R a) := inferInstanceAs (Decidable (_ ∧ _))
/-- a is below 0. -/
def ng (a : Int) : Bool := decide (a < 0)

theorem lo_bd (a : Int) : 0 ≤ lo a ∧ lo a ≤ 18446744073709551615 := by unfold lo; omega
theorem hi_lo (a : Int) : a = hi a * 18446744073709551616 + lo a := by unfold hi lo; omega
theorem hi_mk (h l : Int) (l0 : 0 ≤ l) (l1 : l ≤ 18446744073709551615) : hi (h * 18446744073709551616 + l) = h := by unfold hi; omega
theorem lo_mk (h l : Int) (l0 : 0 ≤ l) (l1 : l ≤ 18446744073709551615) : lo (h * 18446744073709551616 + l) = l := by unfold lo; omega
theorem hi_neg (a : Int) : decide (hi a < 0) = ng a := by unfold hi ng; rw [Bool.eq_iff_iff]; simp only [decide_eq_true_eq]; omega
theorem hl_inj {a b : Int} (h : hi a = hi b) (l : lo a = lo b) : a = b := by rw [hi_lo a, hi_lo b, h, l]

end Go.Proofs.Ytkpkejccphpkpaa
