/-
  The statements' lists of package fx: what an element's cells hold.
-/
import Derived.Test.YtkpkejccphpkpaaFxA
import Derived.LoopTactic
namespace Go.Proofs.Ytkpkejccphpkpaa
open Go.RowKit

/-- An element: two words (or not), fraction bits (or not), two numbers, a wide one, a count. -/
structure Fl where
  a : Int
  b : Int
  f : Int
  n : Int
  d : Int
  v : Int
  k : Int
def Fl.ok (e : Fl) : Prop := (-9223372036854775808 ≤ e.a ∧ e.a ≤ 9223372036854775807) ∧ (-9223372036854775808 ≤ e.b ∧ e.b ≤ 9223372036854775807) ∧ (-9223372036854775808 ≤ e.f ∧ e.f ≤ 9223372036854775807) ∧ (-9223372036854775808 ≤ e.n ∧ e.n ≤ 9223372036854775807) ∧ (-9223372036854775808 ≤ e.d ∧ e.d ≤ 9223372036854775807) ∧ R e.v ∧ (-9223372036854775808 ≤ e.k ∧ e.k ≤ 9223372036854775807)
/-- Its eight cells. -/
def FlAt (w : World) (b o : Nat) (e : Fl) : Prop :=
  w.cell? ⟨b, o, none⟩ = some (.int .i64 e.a) ∧ w.cell? ⟨b, o + 1, none⟩ = some (.int .i64 e.b) ∧ w.cell? ⟨b, o + 2, none⟩ = some (.int .i64 e.f) ∧ w.cell? ⟨b, o + 3, none⟩ = some (.int .i64 e.n) ∧ w.cell? ⟨b, o + 4, none⟩ = some (.int .i64 e.d) ∧ w.cell? ⟨b, o + 5, none⟩ = some (.int .i64 (hi e.v)) ∧ w.cell? ⟨b, o + 6, none⟩ = some (.int .u64 (lo e.v)) ∧ w.cell? ⟨b, o + 7, none⟩ = some (.int .i64 e.k)
theorem FlAt.below {w w' : World} {B b o : Nat} {e : Fl} (h : FlAt w b o e) (hb : Below B w w') (hB : b < B) : FlAt w' b o e := by
  obtain ⟨h1, h2, h3, h4, h5, h6, h7, h8⟩ := h
  exact ⟨(hb.cell (p := ⟨b, o, none⟩) hB).trans h1, (hb.cell (p := ⟨b, o + 1, none⟩) hB).trans h2, (hb.cell (p := ⟨b, o + 2, none⟩) hB).trans h3, (hb.cell (p := ⟨b, o + 3, none⟩) hB).trans h4, (hb.cell (p := ⟨b, o + 4, none⟩) hB).trans h5, (hb.cell (p := ⟨b, o + 5, none⟩) hB).trans h6, (hb.cell (p := ⟨b, o + 6, none⟩) hB).trans h7, (hb.cell (p := ⟨b, o + 7, none⟩) hB).trans h8⟩
end Go.Proofs.Ytkpkejccphpkpaa
