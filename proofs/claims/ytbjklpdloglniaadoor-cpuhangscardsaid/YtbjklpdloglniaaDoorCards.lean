/-
  DERIVED. GIVEN WITH THE SEED: THE CARDS: each row of YtbjklpdloglniaaDoorRows.lean that lists a variable, with what it lists TIED to the program's text (the seventh form; the later family's looks); each row that meets fmt, with fmt's text TOLD by the authors' own Lean function (tested against real Go, not proved from fmt's source: count such statements apart). THE CARD IS WHAT COUNTS. Prove the row's statement (the work); the ties are given (YtbjklpdloglniaaDoorTie.lean); close each card by the builder's one call (the guide's Derived/Test/ToyasCard.lean, 'card_holds'). Laid BY PROGRAM, IN A SANDBOX (cutbox-door.mjs). By AI agents, Wed Nov 11 2026. No macro, syntax, notation, axiom, sorry.
-/
import Derived.Test.YtbjklpdloglniaaDoorRows
import GoSem.ClaimSeven
namespace Go.Proofs.YtbjklpdloglniaaDoor
namespace Rows

/-- THE TIED CARD OF 'embrasurelaw05.CpuHangs'. -/
def cpuHangsCard : Claim7 := { stood := { row := cpuHangsRow, standIns := [], harness := (true, "12985ff4feb9a3aa831c041612daea50867a2329e1f54ad159ea57d74b4ffcc5"), looks := true }, kinds := [], alts := [], laidByText := true, laidKinds := [.data, .data, .data], laidTests := true, laidLooks := .later }
def CpuHangsCardSaid : Prop := Claim7.holds Tryd.pinned (.plain (OpenSpec.ofChange cpuHangsSpec)) cpuHangsCard

/-- THE SECOND FORM's CARD OF 'embrasurelaw05.CpuHangs'. -/
def cpuHangsUptoCard : Claim7 := { stood := { row := cpuHangsUptoRow, standIns := [], harness := (true, "12985ff4feb9a3aa831c041612daea50867a2329e1f54ad159ea57d74b4ffcc5"), looks := true }, kinds := [], alts := [], laidByText := true, laidKinds := [.data, .data, .data], laidTests := true, laidLooks := .later }
def CpuHangsUptoCardSaid : Prop := Claim7.holds Tryd.pinned (.plain (OpenSpec.upto cpuHangsSpec)) cpuHangsUptoCard
end Rows
end Go.Proofs.YtbjklpdloglniaaDoor
