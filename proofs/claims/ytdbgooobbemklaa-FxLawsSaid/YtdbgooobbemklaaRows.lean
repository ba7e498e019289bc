/-
  No cell of these rows narrows 'for every input' (looked for: loops, veiled, ifaces, maps, wideKeys, modest, calm, conditions, laid).
  DERIVED. THE GIVEN ROWS OF THIS SEAT. 7 by the template 'for every input the law returns true; each argument reads behind the call as it read before'; 0 by the template 'total and deterministic' (their statements: YtdbgooobbemklaaTotals.lean).
  GIVEN WITH THE SEED: the statements are not yours to turn. If you find one false, say at which input.
  Laid BY PROGRAM, IN A SANDBOX (cutbox-rows.mjs): the forced cells as the released guide's own fill.sh prints them over the translation 3dbf25e8874ade71… (all of the seat's roots in one cut). By AI agents, Wed Nov 11 2026. No macro, syntax, notation, axiom, sorry.
-/
import Derived.Test.YtdbgooobbemklaaChecked
import GoSem.Claim
import GoSem.ClaimJoined
import GoSem.ClaimMapViews
import Derived.JoinedTies
import Derived.KernelRfl
namespace Go.Proofs.Ytdbgooobbemklaa
/- THE CELL 'sum', in the pinned program and in every row, IS THE sha256 OF THE DUMP (.gsa) THAT YtdbgooobbemklaaProg.lean LOADS. Nothing in Lean hashes anything: it is a label: what it is worth is what the hold of that sum in a sandbox is worth. -/
noncomputable def Try.pinned : Pinned := { name := "ytdbgooobbemklaa", sum := "3dbf25e8874ade71e8655548a9eda3afb8ea6d035ab8ff9061af488dadfd0253", checked := Try.checked }
namespace Rows
def none {H : Type} : Left H := { results := [], args := [] }

/-- 'ratchetlaw2.FxExact': WHATEVER THE INPUT: true; the input reads as it did. -/
def fxExactSpec : ChangeSpec := { name := "fxExact", fn := fun _ => fun
  | [d] => { results := [.lit (.bool true)], args := [d] }
  | _ => none }
def fxExactRow : OpenClaim := { program := "ytdbgooobbemklaa", sum := "3dbf25e8874ade71e8655548a9eda3afb8ea6d035ab8ff9061af488dadfd0253", func := "ratchet/ratchetlaw2.FxExact", spec := "fxExact", inPlace := ["math/bits.Sub64", "math/bits.Add64"], unfollowed := true, recurses := true, apart := false }
def FxExactSaid : Prop := fxExactRow.holds Try.pinned (OpenSpec.ofChange fxExactSpec)

/-- ITS FALSE NEIGHBOUR: 'it returns false'. Refute it at one input. -/
def fxExactWrong : ChangeSpec := { name := "fxExact", fn := fun _ => fun
  | [d] => { results := [.lit (.bool false)], args := [d] }
  | _ => none }
def FxExactWrongFalsely : Prop := fxExactRow.holds Try.pinned (OpenSpec.ofChange fxExactWrong)

/-- 'ratchetlaw2.FxLaws': WHATEVER THE INPUT: true; the input reads as it did. -/
def fxLawsSpec : ChangeSpec := { name := "fxLaws", fn := fun _ => fun
  | [d] => { results := [.lit (.bool true)], args := [d] }
  | _ => none }
def fxLawsRow : OpenClaim := { program := "ytdbgooobbemklaa", sum := "3dbf25e8874ade71e8655548a9eda3afb8ea6d035ab8ff9061af488dadfd0253", func := "ratchet/ratchetlaw2.FxLaws", spec := "fxLaws", inPlace := ["math/bits.Sub64", "math/bits.Add64"], unfollowed := true, recurses := true, apart := false }
def FxLawsSaid : Prop := fxLawsRow.holds Try.pinned (OpenSpec.ofChange fxLawsSpec)

/-- ITS FALSE NEIGHBOUR: 'it returns false'. Refute it at one input. -/
def fxLawsWrong : ChangeSpec := { name := "fxLaws", fn := fun _ => fun
  | [d] => { results := [.lit (.bool false)], args := [d] }
  | _ => none }
def FxLawsWrongFalsely : Prop := fxLawsRow.holds Try.pinned (OpenSpec.ofChange fxLawsWrong)

/-- 'ratchetlaw3.RootExact': WHATEVER THE INPUT: true; the input reads as it did. -/
def rootExactSpec : ChangeSpec := { name := "rootExact", fn := fun _ => fun
  | [d] => { results := [.lit (.bool true)], args := [d] }
  | _ => none }
def rootExactRow : OpenClaim := { program := "ytdbgooobbemklaa", sum := "3dbf25e8874ade71e8655548a9eda3afb8ea6d035ab8ff9061af488dadfd0253", func := "ratchet/ratchetlaw3.RootExact", spec := "rootExact", inPlace := ["math/bits.Sub64", "math/bits.Add64"], apart := false }
def RootExactSaid : Prop := rootExactRow.holds Try.pinned (OpenSpec.ofChange rootExactSpec)

/-- ITS FALSE NEIGHBOUR: 'it returns false'. Refute it at one input. -/
def rootExactWrong : ChangeSpec := { name := "rootExact", fn := fun _ => fun
  | [d] => { results := [.lit (.bool false)], args := [d] }
  | _ => none }
def RootExactWrongFalsely : Prop := rootExactRow.holds Try.pinned (OpenSpec.ofChange rootExactWrong)

/-- 'ratchetlaw4.ExpoBounds': WHATEVER THE INPUT: true; the input reads as it did. -/
def expoBoundsSpec : ChangeSpec := { name := "expoBounds", fn := fun _ => fun
  | [d] => { results := [.lit (.bool true)], args := [d] }
  | _ => none }
def expoBoundsRow : OpenClaim := { program := "ytdbgooobbemklaa", sum := "3dbf25e8874ade71e8655548a9eda3afb8ea6d035ab8ff9061af488dadfd0253", func := "ratchet/ratchetlaw4.ExpoBounds", spec := "expoBounds", inPlace := ["math/bits.Add64", "math/bits.Sub64"], unfollowed := true, recurses := true, named := ["math/bits.divideError", "math/bits.overflowError"], apart := false }
def ExpoBoundsSaid : Prop := expoBoundsRow.holds Try.pinned (OpenSpec.ofChange expoBoundsSpec)

/-- ITS FALSE NEIGHBOUR: 'it returns false'. Refute it at one input. -/
def expoBoundsWrong : ChangeSpec := { name := "expoBounds", fn := fun _ => fun
  | [d] => { results := [.lit (.bool false)], args := [d] }
  | _ => none }
def ExpoBoundsWrongFalsely : Prop := expoBoundsRow.holds Try.pinned (OpenSpec.ofChange expoBoundsWrong)

/-- 'ratchetlaw4.ExpoRises': WHATEVER THE INPUT: true; the input reads as it did. -/
def expoRisesSpec : ChangeSpec := { name := "expoRises", fn := fun _ => fun
  | [d] => { results := [.lit (.bool true)], args := [d] }
  | _ => none }
def expoRisesRow : OpenClaim := { program := "ytdbgooobbemklaa", sum := "3dbf25e8874ade71e8655548a9eda3afb8ea6d035ab8ff9061af488dadfd0253", func := "ratchet/ratchetlaw4.ExpoRises", spec := "expoRises", inPlace := ["math/bits.Add64", "math/bits.Sub64"], unfollowed := true, recurses := true, named := ["math/bits.divideError", "math/bits.overflowError"], apart := false }
def ExpoRisesSaid : Prop := expoRisesRow.holds Try.pinned (OpenSpec.ofChange expoRisesSpec)

/-- ITS FALSE NEIGHBOUR: 'it returns false'. Refute it at one input. -/
def expoRisesWrong : ChangeSpec := { name := "expoRises", fn := fun _ => fun
  | [d] => { results := [.lit (.bool false)], args := [d] }
  | _ => none }
def ExpoRisesWrongFalsely : Prop := expoRisesRow.holds Try.pinned (OpenSpec.ofChange expoRisesWrong)

/-- 'ratchetlaw4.ExpoBack': WHATEVER THE INPUT: true; the input reads as it did. -/
def expoBackSpec : ChangeSpec := { name := "expoBack", fn := fun _ => fun
  | [d] => { results := [.lit (.bool true)], args := [d] }
  | _ => none }
def expoBackRow : OpenClaim := { program := "ytdbgooobbemklaa", sum := "3dbf25e8874ade71e8655548a9eda3afb8ea6d035ab8ff9061af488dadfd0253", func := "ratchet/ratchetlaw4.ExpoBack", spec := "expoBack", inPlace := ["math/bits.Add64", "math/bits.Sub64"], unfollowed := true, recurses := true, named := ["math/bits.divideError", "math/bits.overflowError"], apart := false }
def ExpoBackSaid : Prop := expoBackRow.holds Try.pinned (OpenSpec.ofChange expoBackSpec)

/-- ITS FALSE NEIGHBOUR: 'it returns false'. Refute it at one input. -/
def expoBackWrong : ChangeSpec := { name := "expoBack", fn := fun _ => fun
  | [d] => { results := [.lit (.bool false)], args := [d] }
  | _ => none }
def ExpoBackWrongFalsely : Prop := expoBackRow.holds Try.pinned (OpenSpec.ofChange expoBackWrong)

/-- 'ratchetlaw4.ExpoDoubles': WHATEVER THE INPUT: true; the input reads as it did. -/
def expoDoublesSpec : ChangeSpec := { name := "expoDoubles", fn := fun _ => fun
  | [d] => { results := [.lit (.bool true)], args := [d] }
  | _ => none }
def expoDoublesRow : OpenClaim := { program := "ytdbgooobbemklaa", sum := "3dbf25e8874ade71e8655548a9eda3afb8ea6d035ab8ff9061af488dadfd0253", func := "ratchet/ratchetlaw4.ExpoDoubles", spec := "expoDoubles", inPlace := ["math/bits.Add64", "math/bits.Sub64"], unfollowed := true, recurses := true, named := ["math/bits.divideError", "math/bits.overflowError"], apart := false }
def ExpoDoublesSaid : Prop := expoDoublesRow.holds Try.pinned (OpenSpec.ofChange expoDoublesSpec)

/-- ITS FALSE NEIGHBOUR: 'it returns false'. Refute it at one input. -/
def expoDoublesWrong : ChangeSpec := { name := "expoDoubles", fn := fun _ => fun
  | [d] => { results := [.lit (.bool false)], args := [d] }
  | _ => none }
def ExpoDoublesWrongFalsely : Prop := expoDoublesRow.holds Try.pinned (OpenSpec.ofChange expoDoublesWrong)

/- THE SECOND FORM. 'bulk': how many values and letters a reading holds, each counted each time it is reached (what is shared counts as often as it is met; a slice's spare places count too). A statement '..UptoSaid' is the law's where the arguments, and the package variables that the reading takes, are together of bulk at most 1048576: NARROWER than '..Said'. Prove '..Said' where nothing that the law and all that it calls make is longer than what came in: it says more and counts as full. Else prove '..UptoSaid'. A law counts once. -/
mutual
def uptoBulk {H : Type} : DataW H → Nat
  | .lit (.string bytes) => bytes.length + 1
  | .lit _ => 1
  | .nil => 1
  | .ptr d => uptoBulk d + 1
  | .slice elems spare => uptoBulkAll elems + uptoBulkAll spare + 1
  | .agg parts => uptoBulkAll parts + 1
  | .iface _ d => uptoBulk d + 1
  | .map entries => uptoBulkEntries entries + 1
  | .held _ => 1
def uptoBulkAll {H : Type} : List (DataW H) → Nat
  | [] => 0
  | d :: r => uptoBulk d + uptoBulkAll r
def uptoBulkEntries {H : Type} : List (Lit × DataW H) → Nat
  | [] => 0
  | x :: r => uptoBulkEntry x + uptoBulkEntries r
def uptoBulkEntry {H : Type} : Lit × DataW H → Nat
  | (.string bytes, d) => bytes.length + uptoBulk d + 1
  | (_, d) => uptoBulk d + 1
 end
def uptoSmall : (H : Type) → List (DataW H) → Bool := fun _ ds => decide (uptoBulkAll ds ≤ 1048576)
def OpenSpec.upto (s : _root_.Go.ChangeSpec) : _root_.Go.OpenSpec := { _root_.Go.OpenSpec.ofChange s with cond := some uptoSmall }

/-- 'ratchetlaw2.FxExact', WHERE WHAT IT READS IS OF BULK AT MOST 1048576: true; the input reads as it did. -/
def fxExactUptoRow : OpenClaim := { program := "ytdbgooobbemklaa", sum := "3dbf25e8874ade71e8655548a9eda3afb8ea6d035ab8ff9061af488dadfd0253", func := "ratchet/ratchetlaw2.FxExact", spec := "fxExact", inPlace := ["math/bits.Sub64", "math/bits.Add64"], unfollowed := true, recurses := true, apart := false, narrowed := true }
def FxExactUptoSaid : Prop := fxExactUptoRow.holds Try.pinned (OpenSpec.upto fxExactSpec)

/-- 'ratchetlaw2.FxLaws', WHERE WHAT IT READS IS OF BULK AT MOST 1048576: true; the input reads as it did. -/
def fxLawsUptoRow : OpenClaim := { program := "ytdbgooobbemklaa", sum := "3dbf25e8874ade71e8655548a9eda3afb8ea6d035ab8ff9061af488dadfd0253", func := "ratchet/ratchetlaw2.FxLaws", spec := "fxLaws", inPlace := ["math/bits.Sub64", "math/bits.Add64"], unfollowed := true, recurses := true, apart := false, narrowed := true }
def FxLawsUptoSaid : Prop := fxLawsUptoRow.holds Try.pinned (OpenSpec.upto fxLawsSpec)

/-- 'ratchetlaw3.RootExact', WHERE WHAT IT READS IS OF BULK AT MOST 1048576: true; the input reads as it did. -/
def rootExactUptoRow : OpenClaim := { program := "ytdbgooobbemklaa", sum := "3dbf25e8874ade71e8655548a9eda3afb8ea6d035ab8ff9061af488dadfd0253", func := "ratchet/ratchetlaw3.RootExact", spec := "rootExact", inPlace := ["math/bits.Sub64", "math/bits.Add64"], apart := false, narrowed := true }
def RootExactUptoSaid : Prop := rootExactUptoRow.holds Try.pinned (OpenSpec.upto rootExactSpec)

/-- 'ratchetlaw4.ExpoBounds', WHERE WHAT IT READS IS OF BULK AT MOST 1048576: true; the input reads as it did. -/
def expoBoundsUptoRow : OpenClaim := { program := "ytdbgooobbemklaa", sum := "3dbf25e8874ade71e8655548a9eda3afb8ea6d035ab8ff9061af488dadfd0253", func := "ratchet/ratchetlaw4.ExpoBounds", spec := "expoBounds", inPlace := ["math/bits.Add64", "math/bits.Sub64"], unfollowed := true, recurses := true, named := ["math/bits.divideError", "math/bits.overflowError"], apart := false, narrowed := true }
def ExpoBoundsUptoSaid : Prop := expoBoundsUptoRow.holds Try.pinned (OpenSpec.upto expoBoundsSpec)

/-- 'ratchetlaw4.ExpoRises', WHERE WHAT IT READS IS OF BULK AT MOST 1048576: true; the input reads as it did. -/
def expoRisesUptoRow : OpenClaim := { program := "ytdbgooobbemklaa", sum := "3dbf25e8874ade71e8655548a9eda3afb8ea6d035ab8ff9061af488dadfd0253", func := "ratchet/ratchetlaw4.ExpoRises", spec := "expoRises", inPlace := ["math/bits.Add64", "math/bits.Sub64"], unfollowed := true, recurses := true, named := ["math/bits.divideError", "math/bits.overflowError"], apart := false, narrowed := true }
def ExpoRisesUptoSaid : Prop := expoRisesUptoRow.holds Try.pinned (OpenSpec.upto expoRisesSpec)

/-- 'ratchetlaw4.ExpoBack', WHERE WHAT IT READS IS OF BULK AT MOST 1048576: true; the input reads as it did. -/
def expoBackUptoRow : OpenClaim := { program := "ytdbgooobbemklaa", sum := "3dbf25e8874ade71e8655548a9eda3afb8ea6d035ab8ff9061af488dadfd0253", func := "ratchet/ratchetlaw4.ExpoBack", spec := "expoBack", inPlace := ["math/bits.Add64", "math/bits.Sub64"], unfollowed := true, recurses := true, named := ["math/bits.divideError", "math/bits.overflowError"], apart := false, narrowed := true }
def ExpoBackUptoSaid : Prop := expoBackUptoRow.holds Try.pinned (OpenSpec.upto expoBackSpec)

/-- 'ratchetlaw4.ExpoDoubles', WHERE WHAT IT READS IS OF BULK AT MOST 1048576: true; the input reads as it did. -/
def expoDoublesUptoRow : OpenClaim := { program := "ytdbgooobbemklaa", sum := "3dbf25e8874ade71e8655548a9eda3afb8ea6d035ab8ff9061af488dadfd0253", func := "ratchet/ratchetlaw4.ExpoDoubles", spec := "expoDoubles", inPlace := ["math/bits.Add64", "math/bits.Sub64"], unfollowed := true, recurses := true, named := ["math/bits.divideError", "math/bits.overflowError"], apart := false, narrowed := true }
def ExpoDoublesUptoSaid : Prop := expoDoublesUptoRow.holds Try.pinned (OpenSpec.upto expoDoublesSpec)

end Rows
end Go.Proofs.Ytdbgooobbemklaa
