/-
  DERIVED. GIVEN WITH THE SEED: THE CARDS: each row of YtmdjpnjpnfkihaaDoorRows.lean that lists a variable, with what it lists TIED to the program's text (the seventh form; the later family's looks); each row that meets fmt, with fmt's text TOLD by the authors' own Lean function (tested against real Go, not proved from fmt's source: count such statements apart). THE CARD IS WHAT COUNTS. Prove the row's statement (the work); the ties are given (YtmdjpnjpnfkihaaDoorTie.lean); close each card by the builder's one call (the guide's Derived/Test/ToyasCard.lean, 'card_holds'). Laid BY PROGRAM, IN A SANDBOX (cutbox-door.mjs). By AI agents, Wed Nov 11 2026. No macro, syntax, notation, axiom, sorry.
-/
import Derived.Test.YtmdjpnjpnfkihaaDoorRows
import GoSem.ClaimSeven
namespace Go.Proofs.YtmdjpnjpnfkihaaDoor
namespace Rows

/-- THE TIED CARD OF 'ratchetlaw1.WideExact'. -/
def wideExactCard : Claim7 := { stood := { row := wideExactRow, standIns := [], harness := (true, "9f5036b3aef2b2881a73307c7dea2bf283b5bc698299a37696941026f17058b4"), looks := false }, kinds := [], alts := [], laidByText := true, laidKinds := [.data, .data, .data], laidTests := true, laidLooks := .later }
def WideExactCardSaid : Prop := Claim7.holds Tryd.pinned (.plain (OpenSpec.ofChange wideExactSpec)) wideExactCard

/-- THE TIED CARD OF 'ratchetlaw2.FxOrder'. -/
def fxOrderCard : Claim7 := { stood := { row := fxOrderRow, standIns := [], harness := (true, "9f5036b3aef2b2881a73307c7dea2bf283b5bc698299a37696941026f17058b4"), looks := false }, kinds := [], alts := [], laidByText := true, laidKinds := [.data, .data, .data], laidTests := true, laidLooks := .later }
def FxOrderCardSaid : Prop := Claim7.holds Tryd.pinned (.plain (OpenSpec.ofChange fxOrderSpec)) fxOrderCard

/-- THE SECOND FORM's CARD OF 'ratchetlaw1.WideExact'. -/
def wideExactUptoCard : Claim7 := { stood := { row := wideExactUptoRow, standIns := [], harness := (true, "9f5036b3aef2b2881a73307c7dea2bf283b5bc698299a37696941026f17058b4"), looks := false }, kinds := [], alts := [], laidByText := true, laidKinds := [.data, .data, .data], laidTests := true, laidLooks := .later }
def WideExactUptoCardSaid : Prop := Claim7.holds Tryd.pinned (.plain (OpenSpec.upto wideExactSpec)) wideExactUptoCard

/-- THE SECOND FORM's CARD OF 'ratchetlaw2.FxOrder'. -/
def fxOrderUptoCard : Claim7 := { stood := { row := fxOrderUptoRow, standIns := [], harness := (true, "9f5036b3aef2b2881a73307c7dea2bf283b5bc698299a37696941026f17058b4"), looks := false }, kinds := [], alts := [], laidByText := true, laidKinds := [.data, .data, .data], laidTests := true, laidLooks := .later }
def FxOrderUptoCardSaid : Prop := Claim7.holds Tryd.pinned (.plain (OpenSpec.upto fxOrderSpec)) fxOrderUptoCard
end Rows
end Go.Proofs.YtmdjpnjpnfkihaaDoor
