/-
  DERIVED. GIVEN WITH THE SEED: THE CARDS: each row of YteplhlmdaabpaaaGreatDoorRows.lean that lists a variable, with what it lists TIED to the program's text (the seventh form; the later family's looks); each row that meets fmt, with fmt's text TOLD by the authors' own Lean function (tested against real Go, not proved from fmt's source: count such statements apart). THE CARD IS WHAT COUNTS. Prove the row's statement (the work); the ties are given (YteplhlmdaabpaaaGreatDoorTie.lean); close each card by the builder's one call (the guide's Derived/Test/ToyasCard.lean, 'card_holds'). Laid BY PROGRAM, IN A SANDBOX (cutbox-door.mjs). By AI agents, Wed Nov 11 2026. No macro, syntax, notation, axiom, sorry.
-/
import Derived.Test.YteplhlmdaabpaaaGreatDoorRows
import GoSem.ClaimSeven
namespace Go.Proofs.YteplhlmdaabpaaaGreatDoor
namespace Rows

/-- THE TIED CARD OF 'ratchetlaw2.FxTexts'. -/
def fxTextsCard : Claim7 := { stood := { row := fxTextsRow, standIns := [], harness := (true, "d97afd3c5f40a8bfc704073a9fc7508552fdd603e1092e327e50aecfebc354db"), looks := false }, kinds := [], alts := [], laidByText := true, laidKinds := [.data, .data, .data, .data, .pinned], laidTests := true, laidLooks := .later }
def FxTextsCardSaid : Prop := Claim7.holds Tryz.pinned (.plain (OpenSpec.ofChange fxTextsSpec)) fxTextsCard

/-- THE SECOND FORM's CARD OF 'ratchetlaw2.FxTexts'. -/
def fxTextsUptoCard : Claim7 := { stood := { row := fxTextsUptoRow, standIns := [], harness := (true, "d97afd3c5f40a8bfc704073a9fc7508552fdd603e1092e327e50aecfebc354db"), looks := false }, kinds := [], alts := [], laidByText := true, laidKinds := [.data, .data, .data, .data, .pinned], laidTests := true, laidLooks := .later }
def FxTextsUptoCardSaid : Prop := Claim7.holds Tryz.pinned (.plain (OpenSpec.upto fxTextsSpec)) fxTextsUptoCard
end Rows
end Go.Proofs.YteplhlmdaabpaaaGreatDoor
