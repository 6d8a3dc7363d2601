/-
  DERIVED. GIVEN WITH THE SEED: THE CARDS: each row of YtghbmgionmlejacDoorRows.lean that lists a variable, with what it lists TIED to the program's text (the seventh form; the later family's looks); each row that meets fmt, with fmt's text TOLD by the authors' own Lean function (tested against real Go, not proved from fmt's source: count such statements apart). THE CARD IS WHAT COUNTS. Prove the row's statement (the work); the ties are given (YtghbmgionmlejacDoorTie.lean); close each card by the builder's one call (the guide's Derived/Test/ToyasCard.lean, 'card_holds'). Laid BY PROGRAM, IN A SANDBOX (cutbox-door.mjs). By AI agents, Wed Nov 11 2026. No macro, syntax, notation, axiom, sorry.
-/
import Derived.Test.YtghbmgionmlejacDoorRows
import GoSem.ClaimSeven
namespace Go.Proofs.YtghbmgionmlejacDoor
namespace Rows

/-- THE TIED CARD OF 'embrasurelaw02.NameCodes'. -/
def nameCodesCard : Claim7 := { stood := { row := nameCodesRow, standIns := [], harness := (true, "9371aa81da3020f84103f0eda301994c7f230d71b54d477ed491b709e2ff4679"), looks := false }, kinds := [], alts := [], laidByText := true, laidKinds := [.data, .pinned], laidTests := true, laidLooks := .later }
def NameCodesCardSaid : Prop := Claim7.holds Tryd.pinned (.plain (OpenSpec.ofChange nameCodesSpec)) nameCodesCard

/-- THE TIED CARD OF 'embrasuretop.TopTimes'. -/
def topTimesCard : Claim7 := { stood := { row := topTimesRow, standIns := [], harness := (true, "9371aa81da3020f84103f0eda301994c7f230d71b54d477ed491b709e2ff4679"), looks := false }, kinds := [], alts := [], laidByText := true, laidKinds := [.data, .pinned], laidTests := true, laidLooks := .later }
def TopTimesCardSaid : Prop := Claim7.holds Tryd.pinned (.plain (OpenSpec.ofChange topTimesSpec)) topTimesCard

/-- THE SECOND FORM's CARD OF 'embrasurelaw02.NameCodes'. -/
def nameCodesUptoCard : Claim7 := { stood := { row := nameCodesUptoRow, standIns := [], harness := (true, "9371aa81da3020f84103f0eda301994c7f230d71b54d477ed491b709e2ff4679"), looks := false }, kinds := [], alts := [], laidByText := true, laidKinds := [.data, .pinned], laidTests := true, laidLooks := .later }
def NameCodesUptoCardSaid : Prop := Claim7.holds Tryd.pinned (.plain (OpenSpec.upto nameCodesSpec)) nameCodesUptoCard

/-- THE SECOND FORM's CARD OF 'embrasuretop.TopTimes'. -/
def topTimesUptoCard : Claim7 := { stood := { row := topTimesUptoRow, standIns := [], harness := (true, "9371aa81da3020f84103f0eda301994c7f230d71b54d477ed491b709e2ff4679"), looks := false }, kinds := [], alts := [], laidByText := true, laidKinds := [.data, .pinned], laidTests := true, laidLooks := .later }
def TopTimesUptoCardSaid : Prop := Claim7.holds Tryd.pinned (.plain (OpenSpec.upto topTimesSpec)) topTimesUptoCard
end Rows
end Go.Proofs.YtghbmgionmlejacDoor
