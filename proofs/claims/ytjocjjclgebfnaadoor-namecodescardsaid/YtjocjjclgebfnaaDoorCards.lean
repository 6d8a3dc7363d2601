/-
  DERIVED. GIVEN WITH THE SEED: THE CARDS: each row of YtjocjjclgebfnaaDoorRows.lean that lists a variable, with what it lists TIED to the program's text (the seventh form; the later family's looks); each row that meets fmt, with fmt's text TOLD by the authors' own Lean function (tested against real Go, not proved from fmt's source: count such statements apart). THE CARD IS WHAT COUNTS. Prove the row's statement (the work); the ties are given (YtjocjjclgebfnaaDoorTie.lean); close each card by the builder's one call (the guide's Derived/Test/ToyasCard.lean, 'card_holds'). Laid BY PROGRAM, IN A SANDBOX (cutbox-door.mjs). By AI agents, Wed Nov 11 2026. No macro, syntax, notation, axiom, sorry.
-/
import Derived.Test.YtjocjjclgebfnaaDoorRows
import GoSem.ClaimSeven
namespace Go.Proofs.YtjocjjclgebfnaaDoor
namespace Rows

/-- THE TIED CARD OF 'embrasurelaw02.NameJoins'. -/
def nameJoinsCard : Claim7 := { stood := { row := nameJoinsRow, standIns := [], harness := (true, "1d5bbb7288330097f2b1ee60eb7d9b1a1cb00634c78efb97e31db4dddaf3692c"), looks := false }, kinds := [], alts := [], laidByText := true, laidKinds := [.data, .pinned], laidTests := true, laidLooks := .later }
def NameJoinsCardSaid : Prop := Claim7.holds Tryd.pinned (.plain (OpenSpec.ofChange nameJoinsSpec)) nameJoinsCard

/-- THE TIED CARD OF 'embrasurelaw02.NameCodes'. -/
def nameCodesCard : Claim7 := { stood := { row := nameCodesRow, standIns := [], harness := (true, "1d5bbb7288330097f2b1ee60eb7d9b1a1cb00634c78efb97e31db4dddaf3692c"), looks := false }, kinds := [], alts := [], laidByText := true, laidKinds := [.data, .pinned], laidTests := true, laidLooks := .later }
def NameCodesCardSaid : Prop := Claim7.holds Tryd.pinned (.plain (OpenSpec.ofChange nameCodesSpec)) nameCodesCard

/-- THE SECOND FORM's CARD OF 'embrasurelaw02.NameJoins'. -/
def nameJoinsUptoCard : Claim7 := { stood := { row := nameJoinsUptoRow, standIns := [], harness := (true, "1d5bbb7288330097f2b1ee60eb7d9b1a1cb00634c78efb97e31db4dddaf3692c"), looks := false }, kinds := [], alts := [], laidByText := true, laidKinds := [.data, .pinned], laidTests := true, laidLooks := .later }
def NameJoinsUptoCardSaid : Prop := Claim7.holds Tryd.pinned (.plain (OpenSpec.upto nameJoinsSpec)) nameJoinsUptoCard

/-- THE SECOND FORM's CARD OF 'embrasurelaw02.NameCodes'. -/
def nameCodesUptoCard : Claim7 := { stood := { row := nameCodesUptoRow, standIns := [], harness := (true, "1d5bbb7288330097f2b1ee60eb7d9b1a1cb00634c78efb97e31db4dddaf3692c"), looks := false }, kinds := [], alts := [], laidByText := true, laidKinds := [.data, .pinned], laidTests := true, laidLooks := .later }
def NameCodesUptoCardSaid : Prop := Claim7.holds Tryd.pinned (.plain (OpenSpec.upto nameCodesSpec)) nameCodesUptoCard
end Rows
end Go.Proofs.YtjocjjclgebfnaaDoor
