/-
  DERIVED. GIVEN WITH THE SEED: THE CARDS: each row of YtmndilhpmbpghabDoorRows.lean that lists a variable, with what it lists TIED to the program's text (the seventh form; the later family's looks); each row that meets fmt, with fmt's text TOLD by the authors' own Lean function (tested against real Go, not proved from fmt's source: count such statements apart). THE CARD IS WHAT COUNTS. Prove the row's statement (the work); the ties are given (YtmndilhpmbpghabDoorTie.lean); close each card by the builder's one call (the guide's Derived/Test/ToyasCard.lean, 'card_holds'). Laid BY PROGRAM, IN A SANDBOX (cutbox-door.mjs). By AI agents, Wed Nov 11 2026. No macro, syntax, notation, axiom, sorry.
-/
import Derived.Test.YtmndilhpmbpghabDoorRows
import GoSem.ClaimSeven
namespace Go.Proofs.YtmndilhpmbpghabDoor
namespace Rows

/-- THE TIED CARD OF 'embrasurelaw05.CpuJoins'. -/
def cpuJoinsCard : Claim7 := { stood := { row := cpuJoinsRow, standIns := [], harness := (true, "0780c6f4373463310c9ff16d186cafa167f41812e32557117fd358f1e49187de"), looks := true }, kinds := [], alts := [], laidByText := true, laidKinds := [.data, .data, .data], laidTests := true, laidLooks := .later }
def CpuJoinsCardSaid : Prop := Claim7.holds Tryd.pinned (.plain (OpenSpec.ofChange cpuJoinsSpec)) cpuJoinsCard

/-- THE TIED CARD OF 'embrasurelaw05.CpuRight'. -/
def cpuRightCard : Claim7 := { stood := { row := cpuRightRow, standIns := [], harness := (true, "0780c6f4373463310c9ff16d186cafa167f41812e32557117fd358f1e49187de"), looks := true }, kinds := [], alts := [], laidByText := true, laidKinds := [.data, .data, .data], laidTests := true, laidLooks := .later }
def CpuRightCardSaid : Prop := Claim7.holds Tryd.pinned (.plain (OpenSpec.ofChange cpuRightSpec)) cpuRightCard

/-- THE SECOND FORM's CARD OF 'embrasurelaw05.CpuJoins'. -/
def cpuJoinsUptoCard : Claim7 := { stood := { row := cpuJoinsUptoRow, standIns := [], harness := (true, "0780c6f4373463310c9ff16d186cafa167f41812e32557117fd358f1e49187de"), looks := true }, kinds := [], alts := [], laidByText := true, laidKinds := [.data, .data, .data], laidTests := true, laidLooks := .later }
def CpuJoinsUptoCardSaid : Prop := Claim7.holds Tryd.pinned (.plain (OpenSpec.upto cpuJoinsSpec)) cpuJoinsUptoCard

/-- THE SECOND FORM's CARD OF 'embrasurelaw05.CpuRight'. -/
def cpuRightUptoCard : Claim7 := { stood := { row := cpuRightUptoRow, standIns := [], harness := (true, "0780c6f4373463310c9ff16d186cafa167f41812e32557117fd358f1e49187de"), looks := true }, kinds := [], alts := [], laidByText := true, laidKinds := [.data, .data, .data], laidTests := true, laidLooks := .later }
def CpuRightUptoCardSaid : Prop := Claim7.holds Tryd.pinned (.plain (OpenSpec.upto cpuRightSpec)) cpuRightUptoCard
end Rows
end Go.Proofs.YtmndilhpmbpghabDoor
