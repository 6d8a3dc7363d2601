/-
  DERIVED. GIVEN WITH THE SEED: THE CARDS: each row of YtmndilhpmbpghaaDoorRows.lean that lists a variable, with what it lists TIED to the program's text (the seventh form; the later family's looks); each row that meets fmt, with fmt's text TOLD by the authors' own Lean function (tested against real Go, not proved from fmt's source: count such statements apart). THE CARD IS WHAT COUNTS. Prove the row's statement (the work); the ties are given (YtmndilhpmbpghaaDoorTie.lean); close each card by the builder's one call (the guide's Derived/Test/ToyasCard.lean, 'card_holds'). Laid BY PROGRAM, IN A SANDBOX (cutbox-door.mjs). By AI agents, Wed Nov 11 2026. No macro, syntax, notation, axiom, sorry.
-/
import Derived.Test.YtmndilhpmbpghaaDoorRows
import GoSem.ClaimSeven
namespace Go.Proofs.YtmndilhpmbpghaaDoor
namespace Rows

/-- THE TIED CARD OF 'embrasurelaw05.CpuExecs'. -/
def cpuExecsCard : Claim7 := { stood := { row := cpuExecsRow, standIns := [], harness := (true, "9be23acf5bb1033cf1121c6c9bb3f33f8a8e72fb77688b34a46b8588d97dd28a"), looks := true }, kinds := [], alts := [], laidByText := true, laidKinds := [.data, .data, .data], laidTests := true, laidLooks := .later }
def CpuExecsCardSaid : Prop := Claim7.holds Tryd.pinned (.plain (OpenSpec.ofChange cpuExecsSpec)) cpuExecsCard

/-- THE TIED CARD OF 'embrasurelaw05.CpuLoads'. -/
def cpuLoadsCard : Claim7 := { stood := { row := cpuLoadsRow, standIns := [], harness := (true, "9be23acf5bb1033cf1121c6c9bb3f33f8a8e72fb77688b34a46b8588d97dd28a"), looks := true }, kinds := [], alts := [], laidByText := true, laidKinds := [.data, .data, .data], laidTests := true, laidLooks := .later }
def CpuLoadsCardSaid : Prop := Claim7.holds Tryd.pinned (.plain (OpenSpec.ofChange cpuLoadsSpec)) cpuLoadsCard

/-- THE TIED CARD OF 'embrasurelaw05.CpuRuns'. -/
def cpuRunsCard : Claim7 := { stood := { row := cpuRunsRow, standIns := [], harness := (true, "9be23acf5bb1033cf1121c6c9bb3f33f8a8e72fb77688b34a46b8588d97dd28a"), looks := true }, kinds := [], alts := [], laidByText := true, laidKinds := [.data, .data, .data], laidTests := true, laidLooks := .later }
def CpuRunsCardSaid : Prop := Claim7.holds Tryd.pinned (.plain (OpenSpec.ofChange cpuRunsSpec)) cpuRunsCard

/-- THE TIED CARD OF 'embrasurelaw05.CpuStays'. -/
def cpuStaysCard : Claim7 := { stood := { row := cpuStaysRow, standIns := [], harness := (true, "9be23acf5bb1033cf1121c6c9bb3f33f8a8e72fb77688b34a46b8588d97dd28a"), looks := true }, kinds := [], alts := [], laidByText := true, laidKinds := [.data, .data, .data], laidTests := true, laidLooks := .later }
def CpuStaysCardSaid : Prop := Claim7.holds Tryd.pinned (.plain (OpenSpec.ofChange cpuStaysSpec)) cpuStaysCard

/-- THE TIED CARD OF 'embrasurelaw05.CpuHangs'. -/
def cpuHangsCard : Claim7 := { stood := { row := cpuHangsRow, standIns := [], harness := (true, "9be23acf5bb1033cf1121c6c9bb3f33f8a8e72fb77688b34a46b8588d97dd28a"), looks := true }, kinds := [], alts := [], laidByText := true, laidKinds := [.data, .data, .data], laidTests := true, laidLooks := .later }
def CpuHangsCardSaid : Prop := Claim7.holds Tryd.pinned (.plain (OpenSpec.ofChange cpuHangsSpec)) cpuHangsCard

/-- THE SECOND FORM's CARD OF 'embrasurelaw05.CpuExecs'. -/
def cpuExecsUptoCard : Claim7 := { stood := { row := cpuExecsUptoRow, standIns := [], harness := (true, "9be23acf5bb1033cf1121c6c9bb3f33f8a8e72fb77688b34a46b8588d97dd28a"), looks := true }, kinds := [], alts := [], laidByText := true, laidKinds := [.data, .data, .data], laidTests := true, laidLooks := .later }
def CpuExecsUptoCardSaid : Prop := Claim7.holds Tryd.pinned (.plain (OpenSpec.upto cpuExecsSpec)) cpuExecsUptoCard

/-- THE SECOND FORM's CARD OF 'embrasurelaw05.CpuLoads'. -/
def cpuLoadsUptoCard : Claim7 := { stood := { row := cpuLoadsUptoRow, standIns := [], harness := (true, "9be23acf5bb1033cf1121c6c9bb3f33f8a8e72fb77688b34a46b8588d97dd28a"), looks := true }, kinds := [], alts := [], laidByText := true, laidKinds := [.data, .data, .data], laidTests := true, laidLooks := .later }
def CpuLoadsUptoCardSaid : Prop := Claim7.holds Tryd.pinned (.plain (OpenSpec.upto cpuLoadsSpec)) cpuLoadsUptoCard

/-- THE SECOND FORM's CARD OF 'embrasurelaw05.CpuRuns'. -/
def cpuRunsUptoCard : Claim7 := { stood := { row := cpuRunsUptoRow, standIns := [], harness := (true, "9be23acf5bb1033cf1121c6c9bb3f33f8a8e72fb77688b34a46b8588d97dd28a"), looks := true }, kinds := [], alts := [], laidByText := true, laidKinds := [.data, .data, .data], laidTests := true, laidLooks := .later }
def CpuRunsUptoCardSaid : Prop := Claim7.holds Tryd.pinned (.plain (OpenSpec.upto cpuRunsSpec)) cpuRunsUptoCard

/-- THE SECOND FORM's CARD OF 'embrasurelaw05.CpuStays'. -/
def cpuStaysUptoCard : Claim7 := { stood := { row := cpuStaysUptoRow, standIns := [], harness := (true, "9be23acf5bb1033cf1121c6c9bb3f33f8a8e72fb77688b34a46b8588d97dd28a"), looks := true }, kinds := [], alts := [], laidByText := true, laidKinds := [.data, .data, .data], laidTests := true, laidLooks := .later }
def CpuStaysUptoCardSaid : Prop := Claim7.holds Tryd.pinned (.plain (OpenSpec.upto cpuStaysSpec)) cpuStaysUptoCard

/-- THE SECOND FORM's CARD OF 'embrasurelaw05.CpuHangs'. -/
def cpuHangsUptoCard : Claim7 := { stood := { row := cpuHangsUptoRow, standIns := [], harness := (true, "9be23acf5bb1033cf1121c6c9bb3f33f8a8e72fb77688b34a46b8588d97dd28a"), looks := true }, kinds := [], alts := [], laidByText := true, laidKinds := [.data, .data, .data], laidTests := true, laidLooks := .later }
def CpuHangsUptoCardSaid : Prop := Claim7.holds Tryd.pinned (.plain (OpenSpec.upto cpuHangsSpec)) cpuHangsUptoCard
end Rows
end Go.Proofs.YtmndilhpmbpghaaDoor
