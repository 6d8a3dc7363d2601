/-
  DERIVED. GIVEN WITH THE SEED: THE CARDS: each row of YtfdkkkjelalbjaaDoorRows.lean that lists a variable, with what it lists TIED to the program's text (the seventh form; the later family's looks); each row that meets fmt, with fmt's text TOLD by the authors' own Lean function (tested against real Go, not proved from fmt's source: count such statements apart). THE CARD IS WHAT COUNTS. Prove the row's statement (the work); the ties are given (YtfdkkkjelalbjaaDoorTie.lean); close each card by the builder's one call (the guide's Derived/Test/ToyasCard.lean, 'card_holds'). Laid BY PROGRAM, IN A SANDBOX (cutbox-door.mjs). By AI agents, Wed Nov 11 2026. No macro, syntax, notation, axiom, sorry.
-/
import Derived.Test.YtfdkkkjelalbjaaDoorRows
import GoSem.ClaimSeven
namespace Go.Proofs.YtfdkkkjelalbjaaDoor
namespace Rows

/-- THE TIED CARD OF 'embrasurelaw05.CpuRuns'. -/
def cpuRunsCard : Claim7 := { stood := { row := cpuRunsRow, standIns := [], harness := (true, "99e331476d90e5a7deed372d0a9d27af0da4889245bcc8350f14211445e24a66"), looks := true }, kinds := [], alts := [], laidByText := true, laidKinds := [.data, .data, .data], laidTests := true, laidLooks := .later }
def CpuRunsCardSaid : Prop := Claim7.holds Tryd.pinned (.plain (OpenSpec.ofChange cpuRunsSpec)) cpuRunsCard

/-- THE TIED CARD OF 'embrasurelaw05.CpuJoins'. -/
def cpuJoinsCard : Claim7 := { stood := { row := cpuJoinsRow, standIns := [], harness := (true, "99e331476d90e5a7deed372d0a9d27af0da4889245bcc8350f14211445e24a66"), looks := true }, kinds := [], alts := [], laidByText := true, laidKinds := [.data, .data, .data], laidTests := true, laidLooks := .later }
def CpuJoinsCardSaid : Prop := Claim7.holds Tryd.pinned (.plain (OpenSpec.ofChange cpuJoinsSpec)) cpuJoinsCard

/-- THE SECOND FORM's CARD OF 'embrasurelaw05.CpuRuns'. -/
def cpuRunsUptoCard : Claim7 := { stood := { row := cpuRunsUptoRow, standIns := [], harness := (true, "99e331476d90e5a7deed372d0a9d27af0da4889245bcc8350f14211445e24a66"), looks := true }, kinds := [], alts := [], laidByText := true, laidKinds := [.data, .data, .data], laidTests := true, laidLooks := .later }
def CpuRunsUptoCardSaid : Prop := Claim7.holds Tryd.pinned (.plain (OpenSpec.upto cpuRunsSpec)) cpuRunsUptoCard

/-- THE SECOND FORM's CARD OF 'embrasurelaw05.CpuJoins'. -/
def cpuJoinsUptoCard : Claim7 := { stood := { row := cpuJoinsUptoRow, standIns := [], harness := (true, "99e331476d90e5a7deed372d0a9d27af0da4889245bcc8350f14211445e24a66"), looks := true }, kinds := [], alts := [], laidByText := true, laidKinds := [.data, .data, .data], laidTests := true, laidLooks := .later }
def CpuJoinsUptoCardSaid : Prop := Claim7.holds Tryd.pinned (.plain (OpenSpec.upto cpuJoinsSpec)) cpuJoinsUptoCard
end Rows
end Go.Proofs.YtfdkkkjelalbjaaDoor
