/-
  DERIVED. GIVEN WITH THE SEED: THE CARDS: each row of YteoappoacapdhabDoorRows.lean that lists a variable, with what it lists TIED to the program's text (the seventh form; the later family's looks); each row that meets fmt, with fmt's text TOLD by the authors' own Lean function (tested against real Go, not proved from fmt's source: count such statements apart). THE CARD IS WHAT COUNTS. Prove the row's statement (the work); the ties are given (YteoappoacapdhabDoorTie.lean); close each card by the builder's one call (the guide's Derived/Test/ToyasCard.lean, 'card_holds'). Laid BY PROGRAM, IN A SANDBOX (cutbox-door.mjs). By AI agents, Wed Nov 11 2026. No macro, syntax, notation, axiom, sorry.
-/
import Derived.Test.YteoappoacapdhabDoorRows
import GoSem.ClaimSeven
namespace Go.Proofs.YteoappoacapdhabDoor
namespace Rows

/-- THE TIED CARD OF 'embrasurelaw03.IsaTotal'. -/
def isaTotalCard : Claim7 := { stood := { row := isaTotalRow, standIns := [], harness := (true, "bed4de296150ec917cebcf27911c2baabd8d0cb86ca011cad17f61af35a6d77c"), looks := true }, kinds := [], alts := [], laidByText := true, laidKinds := [.data, .data, .data, .data, .data, .pinned], laidTests := true, laidLooks := .later }
def IsaTotalCardSaid : Prop := Claim7.holds Tryd.pinned (.plain (OpenSpec.ofChange isaTotalSpec)) isaTotalCard

/-- THE SECOND FORM's CARD OF 'embrasurelaw03.IsaTotal'. -/
def isaTotalUptoCard : Claim7 := { stood := { row := isaTotalUptoRow, standIns := [], harness := (true, "bed4de296150ec917cebcf27911c2baabd8d0cb86ca011cad17f61af35a6d77c"), looks := true }, kinds := [], alts := [], laidByText := true, laidKinds := [.data, .data, .data, .data, .data, .pinned], laidTests := true, laidLooks := .later }
def IsaTotalUptoCardSaid : Prop := Claim7.holds Tryd.pinned (.plain (OpenSpec.upto isaTotalSpec)) isaTotalUptoCard
end Rows
end Go.Proofs.YteoappoacapdhabDoor
