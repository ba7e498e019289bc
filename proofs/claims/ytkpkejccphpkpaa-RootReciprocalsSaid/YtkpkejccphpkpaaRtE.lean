/-
  The statements' lists of package root: what an element's cells hold; the small functions beside.
-/
import Derived.Test.YtkpkejccphpkpaaFxA
import Derived.LoopTactic
namespace Go.Proofs.Ytkpkejccphpkpaa
open Go.RowKit

/-- An element: a word (or not), fraction bits (or not). -/
structure Rl where
  a : Int
  f : Int
def Rl.ok (e : Rl) : Prop := (-9223372036854775808 ≤ e.a ∧ e.a ≤ 9223372036854775807) ∧ (-9223372036854775808 ≤ e.f ∧ e.f ≤ 9223372036854775807)
/-- Its two cells. -/
def RlAt (w : World) (b o : Nat) (e : Rl) : Prop :=
  w.cell? ⟨b, o, none⟩ = some (.int .i64 e.a) ∧ w.cell? ⟨b, o + 1, none⟩ = some (.int .i64 e.f)
theorem RlAt.below {w w' : World} {B b o : Nat} {e : Rl} (h : RlAt w b o e) (hb : Below B w w') (hB : b < B) : RlAt w' b o e := by
  obtain ⟨h1, h2⟩ := h
  exact ⟨(hb.cell (p := ⟨b, o, none⟩) hB).trans h1, (hb.cell (p := ⟨b, o + 1, none⟩) hB).trans h2⟩
theorem num3_any (v : Int) (w : World) : Calls Try.prog 54 #[.int .i64 v] w fun e w' => e = .returned (.int .i64 v) ∧ w = w' := by
  go_enter Try.func54, Try.ntmps54
  go_wp2
  go_ret
  exact ⟨rfl, rfl⟩
end Go.Proofs.Ytkpkejccphpkpaa
