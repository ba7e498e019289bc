/-
  No cell of these rows narrows 'for every input' (looked for: loops, veiled, ifaces, maps, wideKeys, modest, calm, conditions, laid).
  DERIVED. THE GIVEN ROWS OF THIS SEAT. 4 by the template 'for every input the law returns true; each argument reads behind the call as it read before'; 0 by the template 'total and deterministic' (their statements: YtpfcjajmfadcbaaGreatTotals.lean).
  GIVEN WITH THE SEED: the statements are not yours to turn. If you find one false, say at which input.
  Laid BY PROGRAM, IN A SANDBOX (cutbox-rows.mjs): the forced cells as the released guide's own fill.sh prints them over the translation 987b1353704664db… (all of the seat's roots in one cut). By AI agents, Wed Nov 11 2026. No macro, syntax, notation, axiom, sorry.
-/
import Derived.Test.YtpfcjajmfadcbaaGreatChecked
import GoSem.Claim
import GoSem.ClaimJoined
import GoSem.ClaimMapViews
import Derived.JoinedTies
import Derived.KernelRfl
namespace Go.Proofs.YtpfcjajmfadcbaaGreat
/- THE CELL 'sum', in the pinned program and in every row, IS THE sha256 OF THE DUMP (.gsa) THAT YtpfcjajmfadcbaaGreatProg.lean LOADS. Nothing in Lean hashes anything: it is a label: what it is worth is what the hold of that sum in a sandbox is worth. -/
noncomputable def Tryz.pinned : Pinned := { name := "ytpfcjajmfadcbaagreat", sum := "987b1353704664db82f51fe68bd3764de96c471f3261b08ddc51bea6bd32328c", checked := Tryz.checked }
namespace Rows
def none {H : Type} : Left H := { results := [], args := [] }

/-- 'ratchetlaw8.ElemTurns': WHATEVER THE INPUT: true; the input reads as it did. -/
def elemTurnsSpec : ChangeSpec := { name := "elemTurns", fn := fun _ => fun
  | [d] => { results := [.lit (.bool true)], args := [d] }
  | _ => none }
def elemTurnsRow : OpenClaim := { program := "ytpfcjajmfadcbaagreat", sum := "987b1353704664db82f51fe68bd3764de96c471f3261b08ddc51bea6bd32328c", func := "ratchet/ratchetlaw8.ElemTurns", spec := "elemTurns", inPlace := ["math/bits.Sub64", "math/bits.Add64"], unfollowed := true, recurses := true, named := ["math/bits.divideError", "math/bits.overflowError"], apart := false }
def ElemTurnsSaid : Prop := elemTurnsRow.holds Tryz.pinned (OpenSpec.ofChange elemTurnsSpec)

/-- ITS FALSE NEIGHBOUR: 'it returns false'. Refute it at one input. -/
def elemTurnsWrong : ChangeSpec := { name := "elemTurns", fn := fun _ => fun
  | [d] => { results := [.lit (.bool false)], args := [d] }
  | _ => none }
def ElemTurnsWrongFalsely : Prop := elemTurnsRow.holds Tryz.pinned (OpenSpec.ofChange elemTurnsWrong)

/-- 'ratchetlaw8.ElemExact': WHATEVER THE INPUT: true; the input reads as it did. -/
def elemExactSpec : ChangeSpec := { name := "elemExact", fn := fun _ => fun
  | [d] => { results := [.lit (.bool true)], args := [d] }
  | _ => none }
def elemExactRow : OpenClaim := { program := "ytpfcjajmfadcbaagreat", sum := "987b1353704664db82f51fe68bd3764de96c471f3261b08ddc51bea6bd32328c", func := "ratchet/ratchetlaw8.ElemExact", spec := "elemExact", inPlace := ["math/bits.Sub64", "math/bits.Add64"], unfollowed := true, recurses := true, named := ["math/bits.divideError", "math/bits.overflowError"], apart := false }
def ElemExactSaid : Prop := elemExactRow.holds Tryz.pinned (OpenSpec.ofChange elemExactSpec)

/-- ITS FALSE NEIGHBOUR: 'it returns false'. Refute it at one input. -/
def elemExactWrong : ChangeSpec := { name := "elemExact", fn := fun _ => fun
  | [d] => { results := [.lit (.bool false)], args := [d] }
  | _ => none }
def ElemExactWrongFalsely : Prop := elemExactRow.holds Tryz.pinned (OpenSpec.ofChange elemExactWrong)

/-- 'ratchetlaw8.ElemOne': WHATEVER THE INPUT: true; the input reads as it did. -/
def elemOneSpec : ChangeSpec := { name := "elemOne", fn := fun _ => fun
  | [d] => { results := [.lit (.bool true)], args := [d] }
  | _ => none }
def elemOneRow : OpenClaim := { program := "ytpfcjajmfadcbaagreat", sum := "987b1353704664db82f51fe68bd3764de96c471f3261b08ddc51bea6bd32328c", func := "ratchet/ratchetlaw8.ElemOne", spec := "elemOne", inPlace := ["math/bits.Sub64", "math/bits.Add64"], unfollowed := true, recurses := true, named := ["math/bits.divideError", "math/bits.overflowError"], apart := false }
def ElemOneSaid : Prop := elemOneRow.holds Tryz.pinned (OpenSpec.ofChange elemOneSpec)

/-- ITS FALSE NEIGHBOUR: 'it returns false'. Refute it at one input. -/
def elemOneWrong : ChangeSpec := { name := "elemOne", fn := fun _ => fun
  | [d] => { results := [.lit (.bool false)], args := [d] }
  | _ => none }
def ElemOneWrongFalsely : Prop := elemOneRow.holds Tryz.pinned (OpenSpec.ofChange elemOneWrong)

/-- 'ratchetlaw8.ElemScales': WHATEVER THE INPUT: true; the input reads as it did. -/
def elemScalesSpec : ChangeSpec := { name := "elemScales", fn := fun _ => fun
  | [d] => { results := [.lit (.bool true)], args := [d] }
  | _ => none }
def elemScalesRow : OpenClaim := { program := "ytpfcjajmfadcbaagreat", sum := "987b1353704664db82f51fe68bd3764de96c471f3261b08ddc51bea6bd32328c", func := "ratchet/ratchetlaw8.ElemScales", spec := "elemScales", inPlace := ["math/bits.Sub64", "math/bits.Add64"], unfollowed := true, recurses := true, named := ["math/bits.divideError", "math/bits.overflowError"], apart := false }
def ElemScalesSaid : Prop := elemScalesRow.holds Tryz.pinned (OpenSpec.ofChange elemScalesSpec)

/-- ITS FALSE NEIGHBOUR: 'it returns false'. Refute it at one input. -/
def elemScalesWrong : ChangeSpec := { name := "elemScales", fn := fun _ => fun
  | [d] => { results := [.lit (.bool false)], args := [d] }
  | _ => none }
def ElemScalesWrongFalsely : Prop := elemScalesRow.holds Tryz.pinned (OpenSpec.ofChange elemScalesWrong)

/- THE SECOND FORM. 'bulk': how many values and letters a reading holds, each counted each time it is reached (what is shared counts as often as it is met; a slice's spare places count too). A statement '..UptoSaid' is the law's where the arguments, and the package variables that the reading takes, are together of bulk at most 1048576: NARROWER than '..Said'. Prove '..Said' where nothing that the law and all that it calls make is longer than what came in: it says more and counts as full. Else prove '..UptoSaid'. A law counts once. -/
mutual
def uptoBulk {H : Type} : DataW H → Nat
  | .lit (.string bytes) => bytes.length + 1
  | .lit _ => 1
  | .nil => 1
  | .ptr d => uptoBulk d + 1
  | .slice elems spare => uptoBulkAll elems + uptoBulkAll spare + 1
  | .agg parts => uptoBulkAll parts + 1
  | .iface _ d => uptoBulk d + 1
  | .map entries => uptoBulkEntries entries + 1
  | .held _ => 1
def uptoBulkAll {H : Type} : List (DataW H) → Nat
  | [] => 0
  | d :: r => uptoBulk d + uptoBulkAll r
def uptoBulkEntries {H : Type} : List (Lit × DataW H) → Nat
  | [] => 0
  | x :: r => uptoBulkEntry x + uptoBulkEntries r
def uptoBulkEntry {H : Type} : Lit × DataW H → Nat
  | (.string bytes, d) => bytes.length + uptoBulk d + 1
  | (_, d) => uptoBulk d + 1
 end
def uptoSmall : (H : Type) → List (DataW H) → Bool := fun _ ds => decide (uptoBulkAll ds ≤ 1048576)
def OpenSpec.upto (s : _root_.Go.ChangeSpec) : _root_.Go.OpenSpec := { _root_.Go.OpenSpec.ofChange s with cond := some uptoSmall }

/-- 'ratchetlaw8.ElemTurns', WHERE WHAT IT READS IS OF BULK AT MOST 1048576: true; the input reads as it did. -/
def elemTurnsUptoRow : OpenClaim := { program := "ytpfcjajmfadcbaagreat", sum := "987b1353704664db82f51fe68bd3764de96c471f3261b08ddc51bea6bd32328c", func := "ratchet/ratchetlaw8.ElemTurns", spec := "elemTurns", inPlace := ["math/bits.Sub64", "math/bits.Add64"], unfollowed := true, recurses := true, named := ["math/bits.divideError", "math/bits.overflowError"], apart := false, narrowed := true }
def ElemTurnsUptoSaid : Prop := elemTurnsUptoRow.holds Tryz.pinned (OpenSpec.upto elemTurnsSpec)

/-- 'ratchetlaw8.ElemExact', WHERE WHAT IT READS IS OF BULK AT MOST 1048576: true; the input reads as it did. -/
def elemExactUptoRow : OpenClaim := { program := "ytpfcjajmfadcbaagreat", sum := "987b1353704664db82f51fe68bd3764de96c471f3261b08ddc51bea6bd32328c", func := "ratchet/ratchetlaw8.ElemExact", spec := "elemExact", inPlace := ["math/bits.Sub64", "math/bits.Add64"], unfollowed := true, recurses := true, named := ["math/bits.divideError", "math/bits.overflowError"], apart := false, narrowed := true }
def ElemExactUptoSaid : Prop := elemExactUptoRow.holds Tryz.pinned (OpenSpec.upto elemExactSpec)

/-- 'ratchetlaw8.ElemOne', WHERE WHAT IT READS IS OF BULK AT MOST 1048576: true; the input reads as it did. -/
def elemOneUptoRow : OpenClaim := { program := "ytpfcjajmfadcbaagreat", sum := "987b1353704664db82f51fe68bd3764de96c471f3261b08ddc51bea6bd32328c", func := "ratchet/ratchetlaw8.ElemOne", spec := "elemOne", inPlace := ["math/bits.Sub64", "math/bits.Add64"], unfollowed := true, recurses := true, named := ["math/bits.divideError", "math/bits.overflowError"], apart := false, narrowed := true }
def ElemOneUptoSaid : Prop := elemOneUptoRow.holds Tryz.pinned (OpenSpec.upto elemOneSpec)

/-- 'ratchetlaw8.ElemScales', WHERE WHAT IT READS IS OF BULK AT MOST 1048576: true; the input reads as it did. -/
def elemScalesUptoRow : OpenClaim := { program := "ytpfcjajmfadcbaagreat", sum := "987b1353704664db82f51fe68bd3764de96c471f3261b08ddc51bea6bd32328c", func := "ratchet/ratchetlaw8.ElemScales", spec := "elemScales", inPlace := ["math/bits.Sub64", "math/bits.Add64"], unfollowed := true, recurses := true, named := ["math/bits.divideError", "math/bits.overflowError"], apart := false, narrowed := true }
def ElemScalesUptoSaid : Prop := elemScalesUptoRow.holds Tryz.pinned (OpenSpec.upto elemScalesSpec)

end Rows
end Go.Proofs.YtpfcjajmfadcbaaGreat
