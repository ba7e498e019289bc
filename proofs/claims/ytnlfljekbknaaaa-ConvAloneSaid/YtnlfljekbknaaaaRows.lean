/-
  No cell of these rows narrows 'for every input' (looked for: loops, veiled, ifaces, maps, wideKeys, modest, calm, conditions, laid).
  DERIVED. THE GIVEN ROWS OF THIS SEAT. 8 by the template 'for every input the law returns true; each argument reads behind the call as it read before'; 0 by the template 'total and deterministic' (their statements: YtnlfljekbknaaaaTotals.lean).
  GIVEN WITH THE SEED: the statements are not yours to turn. If you find one false, say at which input.
  Laid BY PROGRAM, IN A SANDBOX (cutbox-rows.mjs): the forced cells as the released guide's own fill.sh prints them over the translation bbfb7cf1ba07e74d… (all of the seat's roots in one cut). By AI agents, Wed Nov 11 2026. No macro, syntax, notation, axiom, sorry.
-/
import Derived.Test.YtnlfljekbknaaaaChecked
import GoSem.Claim
import GoSem.ClaimJoined
import GoSem.ClaimMapViews
import Derived.JoinedTies
import Derived.KernelRfl
namespace Go.Proofs.Ytnlfljekbknaaaa
/- THE CELL 'sum', in the pinned program and in every row, IS THE sha256 OF THE DUMP (.gsa) THAT YtnlfljekbknaaaaProg.lean LOADS. Nothing in Lean hashes anything: it is a label: what it is worth is what the hold of that sum in a sandbox is worth. -/
noncomputable def Try.pinned : Pinned := { name := "ytnlfljekbknaaaa", sum := "bbfb7cf1ba07e74da592b86fa9aef03163c9827a47315faaac800af0faf1f45f", checked := Try.checked }
namespace Rows
def none {H : Type} : Left H := { results := [], args := [] }

/-- 'ratchetlaw11.ConvAlone': WHATEVER THE INPUT: true; the input reads as it did. -/
def convAloneSpec : ChangeSpec := { name := "convAlone", fn := fun _ => fun
  | [d] => { results := [.lit (.bool true)], args := [d] }
  | _ => none }
def convAloneRow : OpenClaim := { program := "ytnlfljekbknaaaa", sum := "bbfb7cf1ba07e74da592b86fa9aef03163c9827a47315faaac800af0faf1f45f", func := "ratchet/ratchetlaw11.ConvAlone", spec := "convAlone", inPlace := ["math/bits.Add64", "math/bits.Sub64"], unfollowed := true, recurses := true, apart := false }
def ConvAloneSaid : Prop := convAloneRow.holds Try.pinned (OpenSpec.ofChange convAloneSpec)

/-- ITS FALSE NEIGHBOUR: 'it returns false'. Refute it at one input. -/
def convAloneWrong : ChangeSpec := { name := "convAlone", fn := fun _ => fun
  | [d] => { results := [.lit (.bool false)], args := [d] }
  | _ => none }
def ConvAloneWrongFalsely : Prop := convAloneRow.holds Try.pinned (OpenSpec.ofChange convAloneWrong)

/-- 'ratchetlaw11.ConvProduct': WHATEVER THE INPUT: true; the input reads as it did. -/
def convProductSpec : ChangeSpec := { name := "convProduct", fn := fun _ => fun
  | [d] => { results := [.lit (.bool true)], args := [d] }
  | _ => none }
def convProductRow : OpenClaim := { program := "ytnlfljekbknaaaa", sum := "bbfb7cf1ba07e74da592b86fa9aef03163c9827a47315faaac800af0faf1f45f", func := "ratchet/ratchetlaw11.ConvProduct", spec := "convProduct", inPlace := ["math/bits.Add64", "math/bits.Sub64"], unfollowed := true, recurses := true, apart := false }
def ConvProductSaid : Prop := convProductRow.holds Try.pinned (OpenSpec.ofChange convProductSpec)

/-- ITS FALSE NEIGHBOUR: 'it returns false'. Refute it at one input. -/
def convProductWrong : ChangeSpec := { name := "convProduct", fn := fun _ => fun
  | [d] => { results := [.lit (.bool false)], args := [d] }
  | _ => none }
def ConvProductWrongFalsely : Prop := convProductRow.holds Try.pinned (OpenSpec.ofChange convProductWrong)

/-- 'ratchetlaw11.ConvPairs': WHATEVER THE INPUT: true; the input reads as it did. -/
def convPairsSpec : ChangeSpec := { name := "convPairs", fn := fun _ => fun
  | [d] => { results := [.lit (.bool true)], args := [d] }
  | _ => none }
def convPairsRow : OpenClaim := { program := "ytnlfljekbknaaaa", sum := "bbfb7cf1ba07e74da592b86fa9aef03163c9827a47315faaac800af0faf1f45f", func := "ratchet/ratchetlaw11.ConvPairs", spec := "convPairs", inPlace := ["math/bits.Sub64", "math/bits.Add64"], unfollowed := true, recurses := true, apart := false }
def ConvPairsSaid : Prop := convPairsRow.holds Try.pinned (OpenSpec.ofChange convPairsSpec)

/-- ITS FALSE NEIGHBOUR: 'it returns false'. Refute it at one input. -/
def convPairsWrong : ChangeSpec := { name := "convPairs", fn := fun _ => fun
  | [d] => { results := [.lit (.bool false)], args := [d] }
  | _ => none }
def ConvPairsWrongFalsely : Prop := convPairsRow.holds Try.pinned (OpenSpec.ofChange convPairsWrong)

/-- 'ratchetlaw11.ConvOnes': WHATEVER THE INPUT: true; the input reads as it did. -/
def convOnesSpec : ChangeSpec := { name := "convOnes", fn := fun _ => fun
  | [d] => { results := [.lit (.bool true)], args := [d] }
  | _ => none }
def convOnesRow : OpenClaim := { program := "ytnlfljekbknaaaa", sum := "bbfb7cf1ba07e74da592b86fa9aef03163c9827a47315faaac800af0faf1f45f", func := "ratchet/ratchetlaw11.ConvOnes", spec := "convOnes", inPlace := ["math/bits.Add64", "math/bits.Sub64"], unfollowed := true, recurses := true, apart := false }
def ConvOnesSaid : Prop := convOnesRow.holds Try.pinned (OpenSpec.ofChange convOnesSpec)

/-- ITS FALSE NEIGHBOUR: 'it returns false'. Refute it at one input. -/
def convOnesWrong : ChangeSpec := { name := "convOnes", fn := fun _ => fun
  | [d] => { results := [.lit (.bool false)], args := [d] }
  | _ => none }
def ConvOnesWrongFalsely : Prop := convOnesRow.holds Try.pinned (OpenSpec.ofChange convOnesWrong)

/-- 'ratchetlaw12.PoolMoves': WHATEVER THE INPUT: true; the input reads as it did. -/
def poolMovesSpec : ChangeSpec := { name := "poolMoves", fn := fun _ => fun
  | [d] => { results := [.lit (.bool true)], args := [d] }
  | _ => none }
def poolMovesRow : OpenClaim := { program := "ytnlfljekbknaaaa", sum := "bbfb7cf1ba07e74da592b86fa9aef03163c9827a47315faaac800af0faf1f45f", func := "ratchet/ratchetlaw12.PoolMoves", spec := "poolMoves", inPlace := ["math/bits.Sub64", "math/bits.Add64"], unfollowed := true, recurses := true, apart := false }
def PoolMovesSaid : Prop := poolMovesRow.holds Try.pinned (OpenSpec.ofChange poolMovesSpec)

/-- ITS FALSE NEIGHBOUR: 'it returns false'. Refute it at one input. -/
def poolMovesWrong : ChangeSpec := { name := "poolMoves", fn := fun _ => fun
  | [d] => { results := [.lit (.bool false)], args := [d] }
  | _ => none }
def PoolMovesWrongFalsely : Prop := poolMovesRow.holds Try.pinned (OpenSpec.ofChange poolMovesWrong)

/-- 'ratchetlaw12.PoolBetween': WHATEVER THE INPUT: true; the input reads as it did. -/
def poolBetweenSpec : ChangeSpec := { name := "poolBetween", fn := fun _ => fun
  | [d] => { results := [.lit (.bool true)], args := [d] }
  | _ => none }
def poolBetweenRow : OpenClaim := { program := "ytnlfljekbknaaaa", sum := "bbfb7cf1ba07e74da592b86fa9aef03163c9827a47315faaac800af0faf1f45f", func := "ratchet/ratchetlaw12.PoolBetween", spec := "poolBetween", inPlace := ["math/bits.Sub64", "math/bits.Add64"], unfollowed := true, recurses := true, apart := false }
def PoolBetweenSaid : Prop := poolBetweenRow.holds Try.pinned (OpenSpec.ofChange poolBetweenSpec)

/-- ITS FALSE NEIGHBOUR: 'it returns false'. Refute it at one input. -/
def poolBetweenWrong : ChangeSpec := { name := "poolBetween", fn := fun _ => fun
  | [d] => { results := [.lit (.bool false)], args := [d] }
  | _ => none }
def PoolBetweenWrongFalsely : Prop := poolBetweenRow.holds Try.pinned (OpenSpec.ofChange poolBetweenWrong)

/-- 'ratchetlaw14.NormRows': WHATEVER THE INPUT: true; the input reads as it did. -/
def normRowsSpec : ChangeSpec := { name := "normRows", fn := fun _ => fun
  | [d] => { results := [.lit (.bool true)], args := [d] }
  | _ => none }
def normRowsRow : OpenClaim := { program := "ytnlfljekbknaaaa", sum := "bbfb7cf1ba07e74da592b86fa9aef03163c9827a47315faaac800af0faf1f45f", func := "ratchet/ratchetlaw14.NormRows", spec := "normRows", inPlace := ["math/bits.Sub64", "math/bits.Add64"], unfollowed := true, recurses := true, apart := false }
def NormRowsSaid : Prop := normRowsRow.holds Try.pinned (OpenSpec.ofChange normRowsSpec)

/-- ITS FALSE NEIGHBOUR: 'it returns false'. Refute it at one input. -/
def normRowsWrong : ChangeSpec := { name := "normRows", fn := fun _ => fun
  | [d] => { results := [.lit (.bool false)], args := [d] }
  | _ => none }
def NormRowsWrongFalsely : Prop := normRowsRow.holds Try.pinned (OpenSpec.ofChange normRowsWrong)

/-- 'ratchetlaw14.NormMoves': WHATEVER THE INPUT: true; the input reads as it did. -/
def normMovesSpec : ChangeSpec := { name := "normMoves", fn := fun _ => fun
  | [d] => { results := [.lit (.bool true)], args := [d] }
  | _ => none }
def normMovesRow : OpenClaim := { program := "ytnlfljekbknaaaa", sum := "bbfb7cf1ba07e74da592b86fa9aef03163c9827a47315faaac800af0faf1f45f", func := "ratchet/ratchetlaw14.NormMoves", spec := "normMoves", inPlace := ["math/bits.Sub64", "math/bits.Add64"], unfollowed := true, recurses := true, apart := false }
def NormMovesSaid : Prop := normMovesRow.holds Try.pinned (OpenSpec.ofChange normMovesSpec)

/-- ITS FALSE NEIGHBOUR: 'it returns false'. Refute it at one input. -/
def normMovesWrong : ChangeSpec := { name := "normMoves", fn := fun _ => fun
  | [d] => { results := [.lit (.bool false)], args := [d] }
  | _ => none }
def NormMovesWrongFalsely : Prop := normMovesRow.holds Try.pinned (OpenSpec.ofChange normMovesWrong)

/- THE SECOND FORM. 'bulk': how many values and letters a reading holds, each counted each time it is reached (what is shared counts as often as it is met; a slice's spare places count too). A statement '..UptoSaid' is the law's where the arguments, and the package variables that the reading takes, are together of bulk at most 1048576: NARROWER than '..Said'. Prove '..Said' where nothing that the law and all that it calls make is longer than what came in: it says more and counts as full. Else prove '..UptoSaid'. A law counts once. -/
mutual
def uptoBulk {H : Type} : DataW H → Nat
  | .lit (.string bytes) => bytes.length + 1
  | .lit _ => 1
  | .nil => 1
  | .ptr d => uptoBulk d + 1
  | .slice elems spare => uptoBulkAll elems + uptoBulkAll spare + 1
  | .agg parts => uptoBulkAll parts + 1
  | .iface _ d => uptoBulk d + 1
  | .map entries => uptoBulkEntries entries + 1
  | .held _ => 1
def uptoBulkAll {H : Type} : List (DataW H) → Nat
  | [] => 0
  | d :: r => uptoBulk d + uptoBulkAll r
def uptoBulkEntries {H : Type} : List (Lit × DataW H) → Nat
  | [] => 0
  | x :: r => uptoBulkEntry x + uptoBulkEntries r
def uptoBulkEntry {H : Type} : Lit × DataW H → Nat
  | (.string bytes, d) => bytes.length + uptoBulk d + 1
  | (_, d) => uptoBulk d + 1
 end
def uptoSmall : (H : Type) → List (DataW H) → Bool := fun _ ds => decide (uptoBulkAll ds ≤ 1048576)
def OpenSpec.upto (s : _root_.Go.ChangeSpec) : _root_.Go.OpenSpec := { _root_.Go.OpenSpec.ofChange s with cond := some uptoSmall }

/-- 'ratchetlaw11.ConvAlone', WHERE WHAT IT READS IS OF BULK AT MOST 1048576: true; the input reads as it did. -/
def convAloneUptoRow : OpenClaim := { program := "ytnlfljekbknaaaa", sum := "bbfb7cf1ba07e74da592b86fa9aef03163c9827a47315faaac800af0faf1f45f", func := "ratchet/ratchetlaw11.ConvAlone", spec := "convAlone", inPlace := ["math/bits.Add64", "math/bits.Sub64"], unfollowed := true, recurses := true, apart := false, narrowed := true }
def ConvAloneUptoSaid : Prop := convAloneUptoRow.holds Try.pinned (OpenSpec.upto convAloneSpec)

/-- 'ratchetlaw11.ConvProduct', WHERE WHAT IT READS IS OF BULK AT MOST 1048576: true; the input reads as it did. -/
def convProductUptoRow : OpenClaim := { program := "ytnlfljekbknaaaa", sum := "bbfb7cf1ba07e74da592b86fa9aef03163c9827a47315faaac800af0faf1f45f", func := "ratchet/ratchetlaw11.ConvProduct", spec := "convProduct", inPlace := ["math/bits.Add64", "math/bits.Sub64"], unfollowed := true, recurses := true, apart := false, narrowed := true }
def ConvProductUptoSaid : Prop := convProductUptoRow.holds Try.pinned (OpenSpec.upto convProductSpec)

/-- 'ratchetlaw11.ConvPairs', WHERE WHAT IT READS IS OF BULK AT MOST 1048576: true; the input reads as it did. -/
def convPairsUptoRow : OpenClaim := { program := "ytnlfljekbknaaaa", sum := "bbfb7cf1ba07e74da592b86fa9aef03163c9827a47315faaac800af0faf1f45f", func := "ratchet/ratchetlaw11.ConvPairs", spec := "convPairs", inPlace := ["math/bits.Sub64", "math/bits.Add64"], unfollowed := true, recurses := true, apart := false, narrowed := true }
def ConvPairsUptoSaid : Prop := convPairsUptoRow.holds Try.pinned (OpenSpec.upto convPairsSpec)

/-- 'ratchetlaw11.ConvOnes', WHERE WHAT IT READS IS OF BULK AT MOST 1048576: true; the input reads as it did. -/
def convOnesUptoRow : OpenClaim := { program := "ytnlfljekbknaaaa", sum := "bbfb7cf1ba07e74da592b86fa9aef03163c9827a47315faaac800af0faf1f45f", func := "ratchet/ratchetlaw11.ConvOnes", spec := "convOnes", inPlace := ["math/bits.Add64", "math/bits.Sub64"], unfollowed := true, recurses := true, apart := false, narrowed := true }
def ConvOnesUptoSaid : Prop := convOnesUptoRow.holds Try.pinned (OpenSpec.upto convOnesSpec)

/-- 'ratchetlaw12.PoolMoves', WHERE WHAT IT READS IS OF BULK AT MOST 1048576: true; the input reads as it did. -/
def poolMovesUptoRow : OpenClaim := { program := "ytnlfljekbknaaaa", sum := "bbfb7cf1ba07e74da592b86fa9aef03163c9827a47315faaac800af0faf1f45f", func := "ratchet/ratchetlaw12.PoolMoves", spec := "poolMoves", inPlace := ["math/bits.Sub64", "math/bits.Add64"], unfollowed := true, recurses := true, apart := false, narrowed := true }
def PoolMovesUptoSaid : Prop := poolMovesUptoRow.holds Try.pinned (OpenSpec.upto poolMovesSpec)

/-- 'ratchetlaw12.PoolBetween', WHERE WHAT IT READS IS OF BULK AT MOST 1048576: true; the input reads as it did. -/
def poolBetweenUptoRow : OpenClaim := { program := "ytnlfljekbknaaaa", sum := "bbfb7cf1ba07e74da592b86fa9aef03163c9827a47315faaac800af0faf1f45f", func := "ratchet/ratchetlaw12.PoolBetween", spec := "poolBetween", inPlace := ["math/bits.Sub64", "math/bits.Add64"], unfollowed := true, recurses := true, apart := false, narrowed := true }
def PoolBetweenUptoSaid : Prop := poolBetweenUptoRow.holds Try.pinned (OpenSpec.upto poolBetweenSpec)

/-- 'ratchetlaw14.NormRows', WHERE WHAT IT READS IS OF BULK AT MOST 1048576: true; the input reads as it did. -/
def normRowsUptoRow : OpenClaim := { program := "ytnlfljekbknaaaa", sum := "bbfb7cf1ba07e74da592b86fa9aef03163c9827a47315faaac800af0faf1f45f", func := "ratchet/ratchetlaw14.NormRows", spec := "normRows", inPlace := ["math/bits.Sub64", "math/bits.Add64"], unfollowed := true, recurses := true, apart := false, narrowed := true }
def NormRowsUptoSaid : Prop := normRowsUptoRow.holds Try.pinned (OpenSpec.upto normRowsSpec)

/-- 'ratchetlaw14.NormMoves', WHERE WHAT IT READS IS OF BULK AT MOST 1048576: true; the input reads as it did. -/
def normMovesUptoRow : OpenClaim := { program := "ytnlfljekbknaaaa", sum := "bbfb7cf1ba07e74da592b86fa9aef03163c9827a47315faaac800af0faf1f45f", func := "ratchet/ratchetlaw14.NormMoves", spec := "normMoves", inPlace := ["math/bits.Sub64", "math/bits.Add64"], unfollowed := true, recurses := true, apart := false, narrowed := true }
def NormMovesUptoSaid : Prop := normMovesUptoRow.holds Try.pinned (OpenSpec.upto normMovesSpec)

end Rows
end Go.Proofs.Ytnlfljekbknaaaa
