/-
  DERIVED. GIVEN WITH THE SEED: THE CARDS: each row of YtjfphdhapopkaaaDoorRows.lean that lists a variable, with what it lists TIED to the program's text (the seventh form; the later family's looks); each row that meets fmt, with fmt's text TOLD by the authors' own Lean function (tested against real Go, not proved from fmt's source: count such statements apart). THE CARD IS WHAT COUNTS. Prove the row's statement (the work); the ties are given (YtjfphdhapopkaaaDoorTie.lean); close each card by the builder's one call (the guide's Derived/Test/ToyasCard.lean, 'card_holds'). Laid BY PROGRAM, IN A SANDBOX (cutbox-door.mjs). By AI agents, Wed Nov 11 2026. No macro, syntax, notation, axiom, sorry.
-/
import Derived.Test.YtjfphdhapopkaaaDoorRows
import GoSem.ClaimSeven
namespace Go.Proofs.YtjfphdhapopkaaaDoor
namespace Rows

/-- THE TIED CARD OF 'embrasuretop.TopHanded'. -/
def topHandedCard : Claim7 := { stood := { row := topHandedRow, standIns := [], harness := (true, "152a710d59c4f3e1e7d6d66bf688636a5ce7a59e0496f72f68076798ffb6df2c"), looks := false }, kinds := [], alts := [], laidByText := true, laidKinds := [.data], laidTests := true, laidLooks := .later }
def TopHandedCardSaid : Prop := Claim7.holds Tryd.pinned (.plain (OpenSpec.ofChange topHandedSpec)) topHandedCard

/-- THE SECOND FORM's CARD OF 'embrasuretop.TopHanded'. -/
def topHandedUptoCard : Claim7 := { stood := { row := topHandedUptoRow, standIns := [], harness := (true, "152a710d59c4f3e1e7d6d66bf688636a5ce7a59e0496f72f68076798ffb6df2c"), looks := false }, kinds := [], alts := [], laidByText := true, laidKinds := [.data], laidTests := true, laidLooks := .later }
def TopHandedUptoCardSaid : Prop := Claim7.holds Tryd.pinned (.plain (OpenSpec.upto topHandedSpec)) topHandedUptoCard
end Rows
end Go.Proofs.YtjfphdhapopkaaaDoor
