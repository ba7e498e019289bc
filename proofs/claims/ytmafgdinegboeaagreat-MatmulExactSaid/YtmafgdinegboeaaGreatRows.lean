/-
  No cell of these rows narrows 'for every input' (looked for: loops, veiled, ifaces, maps, wideKeys, modest, calm, conditions, laid).
  DERIVED. THE GIVEN ROWS OF THIS SEAT. 5 by the template 'for every input the law returns true; each argument reads behind the call as it read before'; 0 by the template 'total and deterministic' (their statements: YtmafgdinegboeaaGreatTotals.lean).
  GIVEN WITH THE SEED: the statements are not yours to turn. If you find one false, say at which input.
  Laid BY PROGRAM, IN A SANDBOX (cutbox-rows.mjs): the forced cells as the released guide's own fill.sh prints them over the translation 5b26411ef60c2ee1… (all of the seat's roots in one cut). By AI agents, Wed Nov 11 2026. No macro, syntax, notation, axiom, sorry.
-/
import Derived.Test.YtmafgdinegboeaaGreatChecked
import GoSem.Claim
import GoSem.ClaimJoined
import GoSem.ClaimMapViews
import Derived.JoinedTies
import Derived.KernelRfl
namespace Go.Proofs.YtmafgdinegboeaaGreat
/- THE CELL 'sum', in the pinned program and in every row, IS THE sha256 OF THE DUMP (.gsa) THAT YtmafgdinegboeaaGreatProg.lean LOADS. Nothing in Lean hashes anything: it is a label: what it is worth is what the hold of that sum in a sandbox is worth. -/
noncomputable def Tryz.pinned : Pinned := { name := "ytmafgdinegboeaagreat", sum := "5b26411ef60c2ee11e105dc1fb7a6b13ddd10717bb272a12930bab36a601cc42", checked := Tryz.checked }
namespace Rows
def none {H : Type} : Left H := { results := [], args := [] }

/-- 'ratchetlaw12.PoolExact': WHATEVER THE INPUT: true; the input reads as it did. -/
def poolExactSpec : ChangeSpec := { name := "poolExact", fn := fun _ => fun
  | [d] => { results := [.lit (.bool true)], args := [d] }
  | _ => none }
def poolExactRow : OpenClaim := { program := "ytmafgdinegboeaagreat", sum := "5b26411ef60c2ee11e105dc1fb7a6b13ddd10717bb272a12930bab36a601cc42", func := "ratchet/ratchetlaw12.PoolExact", spec := "poolExact", inPlace := ["math/bits.Sub64", "math/bits.Add64"], unfollowed := true, recurses := true, apart := false }
def PoolExactSaid : Prop := poolExactRow.holds Tryz.pinned (OpenSpec.ofChange poolExactSpec)

/-- ITS FALSE NEIGHBOUR: 'it returns false'. Refute it at one input. -/
def poolExactWrong : ChangeSpec := { name := "poolExact", fn := fun _ => fun
  | [d] => { results := [.lit (.bool false)], args := [d] }
  | _ => none }
def PoolExactWrongFalsely : Prop := poolExactRow.holds Tryz.pinned (OpenSpec.ofChange poolExactWrong)

/-- 'ratchetlaw12.PoolWhole': WHATEVER THE INPUT: true; the input reads as it did. -/
def poolWholeSpec : ChangeSpec := { name := "poolWhole", fn := fun _ => fun
  | [d] => { results := [.lit (.bool true)], args := [d] }
  | _ => none }
def poolWholeRow : OpenClaim := { program := "ytmafgdinegboeaagreat", sum := "5b26411ef60c2ee11e105dc1fb7a6b13ddd10717bb272a12930bab36a601cc42", func := "ratchet/ratchetlaw12.PoolWhole", spec := "poolWhole", inPlace := ["math/bits.Sub64", "math/bits.Add64"], unfollowed := true, recurses := true, apart := false }
def PoolWholeSaid : Prop := poolWholeRow.holds Tryz.pinned (OpenSpec.ofChange poolWholeSpec)

/-- ITS FALSE NEIGHBOUR: 'it returns false'. Refute it at one input. -/
def poolWholeWrong : ChangeSpec := { name := "poolWhole", fn := fun _ => fun
  | [d] => { results := [.lit (.bool false)], args := [d] }
  | _ => none }
def PoolWholeWrongFalsely : Prop := poolWholeRow.holds Tryz.pinned (OpenSpec.ofChange poolWholeWrong)

/-- 'ratchetlaw11.ConvExact': WHATEVER THE INPUT: true; the input reads as it did. -/
def convExactSpec : ChangeSpec := { name := "convExact", fn := fun _ => fun
  | [d] => { results := [.lit (.bool true)], args := [d] }
  | _ => none }
def convExactRow : OpenClaim := { program := "ytmafgdinegboeaagreat", sum := "5b26411ef60c2ee11e105dc1fb7a6b13ddd10717bb272a12930bab36a601cc42", func := "ratchet/ratchetlaw11.ConvExact", spec := "convExact", inPlace := ["math/bits.Add64", "math/bits.Sub64"], unfollowed := true, recurses := true, apart := false }
def ConvExactSaid : Prop := convExactRow.holds Tryz.pinned (OpenSpec.ofChange convExactSpec)

/-- ITS FALSE NEIGHBOUR: 'it returns false'. Refute it at one input. -/
def convExactWrong : ChangeSpec := { name := "convExact", fn := fun _ => fun
  | [d] => { results := [.lit (.bool false)], args := [d] }
  | _ => none }
def ConvExactWrongFalsely : Prop := convExactRow.holds Tryz.pinned (OpenSpec.ofChange convExactWrong)

/-- 'ratchetlaw9.ReduceExact': WHATEVER THE INPUT: true; the input reads as it did. -/
def reduceExactSpec : ChangeSpec := { name := "reduceExact", fn := fun _ => fun
  | [d] => { results := [.lit (.bool true)], args := [d] }
  | _ => none }
def reduceExactRow : OpenClaim := { program := "ytmafgdinegboeaagreat", sum := "5b26411ef60c2ee11e105dc1fb7a6b13ddd10717bb272a12930bab36a601cc42", func := "ratchet/ratchetlaw9.ReduceExact", spec := "reduceExact", inPlace := ["math/bits.Add64", "math/bits.Sub64"], unfollowed := true, recurses := true, apart := false }
def ReduceExactSaid : Prop := reduceExactRow.holds Tryz.pinned (OpenSpec.ofChange reduceExactSpec)

/-- ITS FALSE NEIGHBOUR: 'it returns false'. Refute it at one input. -/
def reduceExactWrong : ChangeSpec := { name := "reduceExact", fn := fun _ => fun
  | [d] => { results := [.lit (.bool false)], args := [d] }
  | _ => none }
def ReduceExactWrongFalsely : Prop := reduceExactRow.holds Tryz.pinned (OpenSpec.ofChange reduceExactWrong)

/-- 'ratchetlaw10.MatmulExact': WHATEVER THE INPUT: true; the input reads as it did. -/
def matmulExactSpec : ChangeSpec := { name := "matmulExact", fn := fun _ => fun
  | [d] => { results := [.lit (.bool true)], args := [d] }
  | _ => none }
def matmulExactRow : OpenClaim := { program := "ytmafgdinegboeaagreat", sum := "5b26411ef60c2ee11e105dc1fb7a6b13ddd10717bb272a12930bab36a601cc42", func := "ratchet/ratchetlaw10.MatmulExact", spec := "matmulExact", inPlace := ["math/bits.Add64", "math/bits.Sub64"], unfollowed := true, recurses := true, apart := false }
def MatmulExactSaid : Prop := matmulExactRow.holds Tryz.pinned (OpenSpec.ofChange matmulExactSpec)

/-- ITS FALSE NEIGHBOUR: 'it returns false'. Refute it at one input. -/
def matmulExactWrong : ChangeSpec := { name := "matmulExact", fn := fun _ => fun
  | [d] => { results := [.lit (.bool false)], args := [d] }
  | _ => none }
def MatmulExactWrongFalsely : Prop := matmulExactRow.holds Tryz.pinned (OpenSpec.ofChange matmulExactWrong)

/- THE SECOND FORM. 'bulk': how many values and letters a reading holds, each counted each time it is reached (what is shared counts as often as it is met; a slice's spare places count too). A statement '..UptoSaid' is the law's where the arguments, and the package variables that the reading takes, are together of bulk at most 1048576: NARROWER than '..Said'. Prove '..Said' where nothing that the law and all that it calls make is longer than what came in: it says more and counts as full. Else prove '..UptoSaid'. A law counts once. -/
mutual
def uptoBulk {H : Type} : DataW H → Nat
  | .lit (.string bytes) => bytes.length + 1
  | .lit _ => 1
  | .nil => 1
  | .ptr d => uptoBulk d + 1
  | .slice elems spare => uptoBulkAll elems + uptoBulkAll spare + 1
  | .agg parts => uptoBulkAll parts + 1
  | .iface _ d => uptoBulk d + 1
  | .map entries => uptoBulkEntries entries + 1
  | .held _ => 1
def uptoBulkAll {H : Type} : List (DataW H) → Nat
  | [] => 0
  | d :: r => uptoBulk d + uptoBulkAll r
def uptoBulkEntries {H : Type} : List (Lit × DataW H) → Nat
  | [] => 0
  | x :: r => uptoBulkEntry x + uptoBulkEntries r
def uptoBulkEntry {H : Type} : Lit × DataW H → Nat
  | (.string bytes, d) => bytes.length + uptoBulk d + 1
  | (_, d) => uptoBulk d + 1
 end
def uptoSmall : (H : Type) → List (DataW H) → Bool := fun _ ds => decide (uptoBulkAll ds ≤ 1048576)
def OpenSpec.upto (s : _root_.Go.ChangeSpec) : _root_.Go.OpenSpec := { _root_.Go.OpenSpec.ofChange s with cond := some uptoSmall }

/-- 'ratchetlaw12.PoolExact', WHERE WHAT IT READS IS OF BULK AT MOST 1048576: true; the input reads as it did. -/
def poolExactUptoRow : OpenClaim := { program := "ytmafgdinegboeaagreat", sum := "5b26411ef60c2ee11e105dc1fb7a6b13ddd10717bb272a12930bab36a601cc42", func := "ratchet/ratchetlaw12.PoolExact", spec := "poolExact", inPlace := ["math/bits.Sub64", "math/bits.Add64"], unfollowed := true, recurses := true, apart := false, narrowed := true }
def PoolExactUptoSaid : Prop := poolExactUptoRow.holds Tryz.pinned (OpenSpec.upto poolExactSpec)

/-- 'ratchetlaw12.PoolWhole', WHERE WHAT IT READS IS OF BULK AT MOST 1048576: true; the input reads as it did. -/
def poolWholeUptoRow : OpenClaim := { program := "ytmafgdinegboeaagreat", sum := "5b26411ef60c2ee11e105dc1fb7a6b13ddd10717bb272a12930bab36a601cc42", func := "ratchet/ratchetlaw12.PoolWhole", spec := "poolWhole", inPlace := ["math/bits.Sub64", "math/bits.Add64"], unfollowed := true, recurses := true, apart := false, narrowed := true }
def PoolWholeUptoSaid : Prop := poolWholeUptoRow.holds Tryz.pinned (OpenSpec.upto poolWholeSpec)

/-- 'ratchetlaw11.ConvExact', WHERE WHAT IT READS IS OF BULK AT MOST 1048576: true; the input reads as it did. -/
def convExactUptoRow : OpenClaim := { program := "ytmafgdinegboeaagreat", sum := "5b26411ef60c2ee11e105dc1fb7a6b13ddd10717bb272a12930bab36a601cc42", func := "ratchet/ratchetlaw11.ConvExact", spec := "convExact", inPlace := ["math/bits.Add64", "math/bits.Sub64"], unfollowed := true, recurses := true, apart := false, narrowed := true }
def ConvExactUptoSaid : Prop := convExactUptoRow.holds Tryz.pinned (OpenSpec.upto convExactSpec)

/-- 'ratchetlaw9.ReduceExact', WHERE WHAT IT READS IS OF BULK AT MOST 1048576: true; the input reads as it did. -/
def reduceExactUptoRow : OpenClaim := { program := "ytmafgdinegboeaagreat", sum := "5b26411ef60c2ee11e105dc1fb7a6b13ddd10717bb272a12930bab36a601cc42", func := "ratchet/ratchetlaw9.ReduceExact", spec := "reduceExact", inPlace := ["math/bits.Add64", "math/bits.Sub64"], unfollowed := true, recurses := true, apart := false, narrowed := true }
def ReduceExactUptoSaid : Prop := reduceExactUptoRow.holds Tryz.pinned (OpenSpec.upto reduceExactSpec)

/-- 'ratchetlaw10.MatmulExact', WHERE WHAT IT READS IS OF BULK AT MOST 1048576: true; the input reads as it did. -/
def matmulExactUptoRow : OpenClaim := { program := "ytmafgdinegboeaagreat", sum := "5b26411ef60c2ee11e105dc1fb7a6b13ddd10717bb272a12930bab36a601cc42", func := "ratchet/ratchetlaw10.MatmulExact", spec := "matmulExact", inPlace := ["math/bits.Add64", "math/bits.Sub64"], unfollowed := true, recurses := true, apart := false, narrowed := true }
def MatmulExactUptoSaid : Prop := matmulExactUptoRow.holds Tryz.pinned (OpenSpec.upto matmulExactSpec)

end Rows
end Go.Proofs.YtmafgdinegboeaaGreat
