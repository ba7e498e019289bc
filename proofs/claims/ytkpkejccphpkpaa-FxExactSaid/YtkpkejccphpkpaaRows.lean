/-
  No cell of these rows narrows 'for every input' (looked for: loops, veiled, ifaces, maps, wideKeys, modest, calm, conditions, laid).
  DERIVED. THE GIVEN ROWS OF THIS SEAT. 7 by the template 'for every input the law returns true; each argument reads behind the call as it read before'; 0 by the template 'total and deterministic' (their statements: YtkpkejccphpkpaaTotals.lean).
  GIVEN WITH THE SEED: the statements are not yours to turn. If you find one false, say at which input.
  Laid BY PROGRAM, IN A SANDBOX (cutbox-rows.mjs): the forced cells as the released guide's own fill.sh prints them over the translation dc47abf84b3c6cbe… (all of the seat's roots in one cut). By AI agents, Wed Nov 11 2026. No macro, syntax, notation, axiom, sorry.
-/
import Derived.Test.YtkpkejccphpkpaaChecked
import GoSem.Claim
import GoSem.ClaimJoined
import GoSem.ClaimMapViews
import Derived.JoinedTies
import Derived.KernelRfl
namespace Go.Proofs.Ytkpkejccphpkpaa
/- THE CELL 'sum', in the pinned program and in every row, IS THE sha256 OF THE DUMP (.gsa) THAT YtkpkejccphpkpaaProg.lean LOADS. Nothing in Lean hashes anything: it is a label: what it is worth is what the hold of that sum in a sandbox is worth. -/
noncomputable def Try.pinned : Pinned := { name := "ytkpkejccphpkpaa", sum := "dc47abf84b3c6cbe905bcc8d1727c16b66040b1aea2308c0d8c598c5e8779822", checked := Try.checked }
namespace Rows
def none {H : Type} : Left H := { results := [], args := [] }

/-- 'ratchetlaw1.WideRounds': WHATEVER THE INPUT: true; the input reads as it did. -/
def wideRoundsSpec : ChangeSpec := { name := "wideRounds", fn := fun _ => fun
  | [d] => { results := [.lit (.bool true)], args := [d] }
  | _ => none }
def wideRoundsRow : OpenClaim := { program := "ytkpkejccphpkpaa", sum := "dc47abf84b3c6cbe905bcc8d1727c16b66040b1aea2308c0d8c598c5e8779822", func := "ratchet/ratchetlaw1.WideRounds", spec := "wideRounds", inPlace := ["math/bits.Sub64", "math/bits.Add64"], apart := false }
def WideRoundsSaid : Prop := wideRoundsRow.holds Try.pinned (OpenSpec.ofChange wideRoundsSpec)

/-- ITS FALSE NEIGHBOUR: 'it returns false'. Refute it at one input. -/
def wideRoundsWrong : ChangeSpec := { name := "wideRounds", fn := fun _ => fun
  | [d] => { results := [.lit (.bool false)], args := [d] }
  | _ => none }
def WideRoundsWrongFalsely : Prop := wideRoundsRow.holds Try.pinned (OpenSpec.ofChange wideRoundsWrong)

/-- 'ratchetlaw2.FxExact': WHATEVER THE INPUT: true; the input reads as it did. -/
def fxExactSpec : ChangeSpec := { name := "fxExact", fn := fun _ => fun
  | [d] => { results := [.lit (.bool true)], args := [d] }
  | _ => none }
def fxExactRow : OpenClaim := { program := "ytkpkejccphpkpaa", sum := "dc47abf84b3c6cbe905bcc8d1727c16b66040b1aea2308c0d8c598c5e8779822", func := "ratchet/ratchetlaw2.FxExact", spec := "fxExact", inPlace := ["math/bits.Sub64", "math/bits.Add64"], unfollowed := true, recurses := true, apart := false }
def FxExactSaid : Prop := fxExactRow.holds Try.pinned (OpenSpec.ofChange fxExactSpec)

/-- ITS FALSE NEIGHBOUR: 'it returns false'. Refute it at one input. -/
def fxExactWrong : ChangeSpec := { name := "fxExact", fn := fun _ => fun
  | [d] => { results := [.lit (.bool false)], args := [d] }
  | _ => none }
def FxExactWrongFalsely : Prop := fxExactRow.holds Try.pinned (OpenSpec.ofChange fxExactWrong)

/-- 'ratchetlaw2.FxLaws': WHATEVER THE INPUT: true; the input reads as it did. -/
def fxLawsSpec : ChangeSpec := { name := "fxLaws", fn := fun _ => fun
  | [d] => { results := [.lit (.bool true)], args := [d] }
  | _ => none }
def fxLawsRow : OpenClaim := { program := "ytkpkejccphpkpaa", sum := "dc47abf84b3c6cbe905bcc8d1727c16b66040b1aea2308c0d8c598c5e8779822", func := "ratchet/ratchetlaw2.FxLaws", spec := "fxLaws", inPlace := ["math/bits.Sub64", "math/bits.Add64"], unfollowed := true, recurses := true, apart := false }
def FxLawsSaid : Prop := fxLawsRow.holds Try.pinned (OpenSpec.ofChange fxLawsSpec)

/-- ITS FALSE NEIGHBOUR: 'it returns false'. Refute it at one input. -/
def fxLawsWrong : ChangeSpec := { name := "fxLaws", fn := fun _ => fun
  | [d] => { results := [.lit (.bool false)], args := [d] }
  | _ => none }
def FxLawsWrongFalsely : Prop := fxLawsRow.holds Try.pinned (OpenSpec.ofChange fxLawsWrong)

/-- 'ratchetlaw3.RootReciprocals': WHATEVER THE INPUT: true; the input reads as it did. -/
def rootReciprocalsSpec : ChangeSpec := { name := "rootReciprocals", fn := fun _ => fun
  | [d] => { results := [.lit (.bool true)], args := [d] }
  | _ => none }
def rootReciprocalsRow : OpenClaim := { program := "ytkpkejccphpkpaa", sum := "dc47abf84b3c6cbe905bcc8d1727c16b66040b1aea2308c0d8c598c5e8779822", func := "ratchet/ratchetlaw3.RootReciprocals", spec := "rootReciprocals", inPlace := ["math/bits.Sub64", "math/bits.Add64"], apart := false }
def RootReciprocalsSaid : Prop := rootReciprocalsRow.holds Try.pinned (OpenSpec.ofChange rootReciprocalsSpec)

/-- ITS FALSE NEIGHBOUR: 'it returns false'. Refute it at one input. -/
def rootReciprocalsWrong : ChangeSpec := { name := "rootReciprocals", fn := fun _ => fun
  | [d] => { results := [.lit (.bool false)], args := [d] }
  | _ => none }
def RootReciprocalsWrongFalsely : Prop := rootReciprocalsRow.holds Try.pinned (OpenSpec.ofChange rootReciprocalsWrong)

/-- 'ratchetlaw3.RootExact': WHATEVER THE INPUT: true; the input reads as it did. -/
def rootExactSpec : ChangeSpec := { name := "rootExact", fn := fun _ => fun
  | [d] => { results := [.lit (.bool true)], args := [d] }
  | _ => none }
def rootExactRow : OpenClaim := { program := "ytkpkejccphpkpaa", sum := "dc47abf84b3c6cbe905bcc8d1727c16b66040b1aea2308c0d8c598c5e8779822", func := "ratchet/ratchetlaw3.RootExact", spec := "rootExact", inPlace := ["math/bits.Sub64", "math/bits.Add64"], apart := false }
def RootExactSaid : Prop := rootExactRow.holds Try.pinned (OpenSpec.ofChange rootExactSpec)

/-- ITS FALSE NEIGHBOUR: 'it returns false'. Refute it at one input. -/
def rootExactWrong : ChangeSpec := { name := "rootExact", fn := fun _ => fun
  | [d] => { results := [.lit (.bool false)], args := [d] }
  | _ => none }
def RootExactWrongFalsely : Prop := rootExactRow.holds Try.pinned (OpenSpec.ofChange rootExactWrong)

/-- 'ratchetlaw3.RootSquares': WHATEVER THE INPUT: true; the input reads as it did. -/
def rootSquaresSpec : ChangeSpec := { name := "rootSquares", fn := fun _ => fun
  | [d] => { results := [.lit (.bool true)], args := [d] }
  | _ => none }
def rootSquaresRow : OpenClaim := { program := "ytkpkejccphpkpaa", sum := "dc47abf84b3c6cbe905bcc8d1727c16b66040b1aea2308c0d8c598c5e8779822", func := "ratchet/ratchetlaw3.RootSquares", spec := "rootSquares", inPlace := ["math/bits.Sub64", "math/bits.Add64"], apart := false }
def RootSquaresSaid : Prop := rootSquaresRow.holds Try.pinned (OpenSpec.ofChange rootSquaresSpec)

/-- ITS FALSE NEIGHBOUR: 'it returns false'. Refute it at one input. -/
def rootSquaresWrong : ChangeSpec := { name := "rootSquares", fn := fun _ => fun
  | [d] => { results := [.lit (.bool false)], args := [d] }
  | _ => none }
def RootSquaresWrongFalsely : Prop := rootSquaresRow.holds Try.pinned (OpenSpec.ofChange rootSquaresWrong)

/-- 'ratchetlaw3.RootPowers': WHATEVER THE INPUT: true; the input reads as it did. -/
def rootPowersSpec : ChangeSpec := { name := "rootPowers", fn := fun _ => fun
  | [d] => { results := [.lit (.bool true)], args := [d] }
  | _ => none }
def rootPowersRow : OpenClaim := { program := "ytkpkejccphpkpaa", sum := "dc47abf84b3c6cbe905bcc8d1727c16b66040b1aea2308c0d8c598c5e8779822", func := "ratchet/ratchetlaw3.RootPowers", spec := "rootPowers", inPlace := ["math/bits.Sub64", "math/bits.Add64"], apart := false }
def RootPowersSaid : Prop := rootPowersRow.holds Try.pinned (OpenSpec.ofChange rootPowersSpec)

/-- ITS FALSE NEIGHBOUR: 'it returns false'. Refute it at one input. -/
def rootPowersWrong : ChangeSpec := { name := "rootPowers", fn := fun _ => fun
  | [d] => { results := [.lit (.bool false)], args := [d] }
  | _ => none }
def RootPowersWrongFalsely : Prop := rootPowersRow.holds Try.pinned (OpenSpec.ofChange rootPowersWrong)

/- THE SECOND FORM. 'bulk': how many values and letters a reading holds, each counted each time it is reached (what is shared counts as often as it is met; a slice's spare places count too). A statement '..UptoSaid' is the law's where the arguments, and the package variables that the reading takes, are together of bulk at most 1048576: NARROWER than '..Said'. Prove '..Said' where nothing that the law and all that it calls make is longer than what came in: it says more and counts as full. Else prove '..UptoSaid'. A law counts once. -/
mutual
def uptoBulk {H : Type} : DataW H → Nat
  | .lit (.string bytes) => bytes.length + 1
  | .lit _ => 1
  | .nil => 1
  | .ptr d => uptoBulk d + 1
  | .slice elems spare => uptoBulkAll elems + uptoBulkAll spare + 1
  | .agg parts => uptoBulkAll parts + 1
  | .iface _ d => uptoBulk d + 1
  | .map entries => uptoBulkEntries entries + 1
  | .held _ => 1
def uptoBulkAll {H : Type} : List (DataW H) → Nat
  | [] => 0
  | d :: r => uptoBulk d + uptoBulkAll r
def uptoBulkEntries {H : Type} : List (Lit × DataW H) → Nat
  | [] => 0
  | x :: r => uptoBulkEntry x + uptoBulkEntries r
def uptoBulkEntry {H : Type} : Lit × DataW H → Nat
  | (.string bytes, d) => bytes.length + uptoBulk d + 1
  | (_, d) => uptoBulk d + 1
 end
def uptoSmall : (H : Type) → List (DataW H) → Bool := fun _ ds => decide (uptoBulkAll ds ≤ 1048576)
def OpenSpec.upto (s : _root_.Go.ChangeSpec) : _root_.Go.OpenSpec := { _root_.Go.OpenSpec.ofChange s with cond := some uptoSmall }

/-- 'ratchetlaw1.WideRounds', WHERE WHAT IT READS IS OF BULK AT MOST 1048576: true; the input reads as it did. -/
def wideRoundsUptoRow : OpenClaim := { program := "ytkpkejccphpkpaa", sum := "dc47abf84b3c6cbe905bcc8d1727c16b66040b1aea2308c0d8c598c5e8779822", func := "ratchet/ratchetlaw1.WideRounds", spec := "wideRounds", inPlace := ["math/bits.Sub64", "math/bits.Add64"], apart := false, narrowed := true }
def WideRoundsUptoSaid : Prop := wideRoundsUptoRow.holds Try.pinned (OpenSpec.upto wideRoundsSpec)

/-- 'ratchetlaw2.FxExact', WHERE WHAT IT READS IS OF BULK AT MOST 1048576: true; the input reads as it did. -/
def fxExactUptoRow : OpenClaim := { program := "ytkpkejccphpkpaa", sum := "dc47abf84b3c6cbe905bcc8d1727c16b66040b1aea2308c0d8c598c5e8779822", func := "ratchet/ratchetlaw2.FxExact", spec := "fxExact", inPlace := ["math/bits.Sub64", "math/bits.Add64"], unfollowed := true, recurses := true, apart := false, narrowed := true }
def FxExactUptoSaid : Prop := fxExactUptoRow.holds Try.pinned (OpenSpec.upto fxExactSpec)

/-- 'ratchetlaw2.FxLaws', WHERE WHAT IT READS IS OF BULK AT MOST 1048576: true; the input reads as it did. -/
def fxLawsUptoRow : OpenClaim := { program := "ytkpkejccphpkpaa", sum := "dc47abf84b3c6cbe905bcc8d1727c16b66040b1aea2308c0d8c598c5e8779822", func := "ratchet/ratchetlaw2.FxLaws", spec := "fxLaws", inPlace := ["math/bits.Sub64", "math/bits.Add64"], unfollowed := true, recurses := true, apart := false, narrowed := true }
def FxLawsUptoSaid : Prop := fxLawsUptoRow.holds Try.pinned (OpenSpec.upto fxLawsSpec)

/-- 'ratchetlaw3.RootReciprocals', WHERE WHAT IT READS IS OF BULK AT MOST 1048576: true; the input reads as it did. -/
def rootReciprocalsUptoRow : OpenClaim := { program := "ytkpkejccphpkpaa", sum := "dc47abf84b3c6cbe905bcc8d1727c16b66040b1aea2308c0d8c598c5e8779822", func := "ratchet/ratchetlaw3.RootReciprocals", spec := "rootReciprocals", inPlace := ["math/bits.Sub64", "math/bits.Add64"], apart := false, narrowed := true }
def RootReciprocalsUptoSaid : Prop := rootReciprocalsUptoRow.holds Try.pinned (OpenSpec.upto rootReciprocalsSpec)

/-- 'ratchetlaw3.RootExact', WHERE WHAT IT READS IS OF BULK AT MOST 1048576: true; the input reads as it did. -/
def rootExactUptoRow : OpenClaim := { program := "ytkpkejccphpkpaa", sum := "dc47abf84b3c6cbe905bcc8d1727c16b66040b1aea2308c0d8c598c5e8779822", func := "ratchet/ratchetlaw3.RootExact", spec := "rootExact", inPlace := ["math/bits.Sub64", "math/bits.Add64"], apart := false, narrowed := true }
def RootExactUptoSaid : Prop := rootExactUptoRow.holds Try.pinned (OpenSpec.upto rootExactSpec)

/-- 'ratchetlaw3.RootSquares', WHERE WHAT IT READS IS OF BULK AT MOST 1048576: true; the input reads as it did. -/
def rootSquaresUptoRow : OpenClaim := { program := "ytkpkejccphpkpaa", sum := "dc47abf84b3c6cbe905bcc8d1727c16b66040b1aea2308c0d8c598c5e8779822", func := "ratchet/ratchetlaw3.RootSquares", spec := "rootSquares", inPlace := ["math/bits.Sub64", "math/bits.Add64"], apart := false, narrowed := true }
def RootSquaresUptoSaid : Prop := rootSquaresUptoRow.holds Try.pinned (OpenSpec.upto rootSquaresSpec)

/-- 'ratchetlaw3.RootPowers', WHERE WHAT IT READS IS OF BULK AT MOST 1048576: true; the input reads as it did. -/
def rootPowersUptoRow : OpenClaim := { program := "ytkpkejccphpkpaa", sum := "dc47abf84b3c6cbe905bcc8d1727c16b66040b1aea2308c0d8c598c5e8779822", func := "ratchet/ratchetlaw3.RootPowers", spec := "rootPowers", inPlace := ["math/bits.Sub64", "math/bits.Add64"], apart := false, narrowed := true }
def RootPowersUptoSaid : Prop := rootPowersUptoRow.holds Try.pinned (OpenSpec.upto rootPowersSpec)

end Rows
end Go.Proofs.Ytkpkejccphpkpaa
