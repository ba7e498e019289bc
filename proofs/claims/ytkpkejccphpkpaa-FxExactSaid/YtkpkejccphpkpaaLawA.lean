/-
  The statements' loops over a list of pairs: what an element's cells hold; WideDowns.
-/
import Derived.Test.YtkpkejccphpkpaaWideJ
import Derived.Test.YtkpkejccphpkpaaNumG
import Derived.LoopTactic
namespace Go.Proofs.Ytkpkejccphpkpaa
open Go.RowKit

/-- An element of the list: two wide numbers, two words, a count. -/
structure El where
  a : Int
  b : Int
  x : Int
  y : Int
  n : Int
def El.ok (e : El) : Prop := R e.a ∧ R e.b ∧ (-9223372036854775808 ≤ e.x ∧ e.x ≤ 9223372036854775807) ∧ (-9223372036854775808 ≤ e.y ∧ e.y ≤ 9223372036854775807) ∧ (-9223372036854775808 ≤ e.n ∧ e.n ≤ 9223372036854775807)
/-- Its seven cells. -/
def TwoAt (w : World) (b o : Nat) (e : El) : Prop :=
  w.cell? ⟨b, o, none⟩ = some (.int .i64 (hi e.a)) ∧ w.cell? ⟨b, o + 1, none⟩ = some (.int .u64 (lo e.a)) ∧
  w.cell? ⟨b, o + 2, none⟩ = some (.int .i64 (hi e.b)) ∧ w.cell? ⟨b, o + 3, none⟩ = some (.int .u64 (lo e.b)) ∧
  w.cell? ⟨b, o + 4, none⟩ = some (.int .i64 e.x) ∧ w.cell? ⟨b, o + 5, none⟩ = some (.int .i64 e.y) ∧ w.cell? ⟨b, o + 6, none⟩ = some (.int .i64 e.n)
theorem TwoAt.below {w w' : World} {B b o : Nat} {e : El} (h : TwoAt w b o e) (hb : Below B w w') (hB : b < B) : TwoAt w' b o e := by
  obtain ⟨h1, h2, h3, h4, h5, h6, h7⟩ := h
  exact ⟨(hb.cell (p := ⟨b, o, none⟩) hB).trans h1, (hb.cell (p := ⟨b, o + 1, none⟩) hB).trans h2, (hb.cell (p := ⟨b, o + 2, none⟩) hB).trans h3, (hb.cell (p := ⟨b, o + 3, none⟩) hB).trans h4, (hb.cell (p := ⟨b, o + 4, none⟩) hB).trans h5, (hb.cell (p := ⟨b, o + 5, none⟩) hB).trans h6, (hb.cell (p := ⟨b, o + 6, none⟩) hB).trans h7⟩

end Go.Proofs.Ytkpkejccphpkpaa
