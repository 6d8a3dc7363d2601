/-
  DERIVED. GIVEN WITH THE SEED: THE CARDS: each row of YtbhfdnhdnnbicaaDoorRows.lean that lists a variable, with what it lists TIED to the program's text (the seventh form; the later family's looks); each row that meets fmt, with fmt's text TOLD by the authors' own Lean function (tested against real Go, not proved from fmt's source: count such statements apart). THE CARD IS WHAT COUNTS. Prove the row's statement (the work); the ties are given (YtbhfdnhdnnbicaaDoorTie.lean); close each card by the builder's one call (the guide's Derived/Test/ToyasCard.lean, 'card_holds'). Laid BY PROGRAM, IN A SANDBOX (cutbox-door.mjs). By AI agents, Wed Nov 11 2026. No macro, syntax, notation, axiom, sorry.
-/
import Derived.Test.YtbhfdnhdnnbicaaDoorRows
import GoSem.ClaimSeven
namespace Go.Proofs.YtbhfdnhdnnbicaaDoor
namespace Rows

/-- THE TIED CARD OF 'embrasurelaw10.PoolNone'. -/
def poolNoneCard : Claim7 := { stood := { row := poolNoneRow, standIns := [], harness := (true, "7021828e2413debe72932709eba945e27baddc7c9fd288967e9bec9b0568c2aa"), looks := false }, kinds := [], alts := [], laidByText := true, laidKinds := [.data], laidTests := true, laidLooks := .later }
def PoolNoneCardSaid : Prop := Claim7.holds Tryd.pinned (.plain (OpenSpec.ofChange poolNoneSpec)) poolNoneCard

/-- THE TIED CARD OF 'embrasuretop.TopHanded'. -/
def topHandedCard : Claim7 := { stood := { row := topHandedRow, standIns := [], harness := (true, "7021828e2413debe72932709eba945e27baddc7c9fd288967e9bec9b0568c2aa"), looks := false }, kinds := [], alts := [], laidByText := true, laidKinds := [.data], laidTests := true, laidLooks := .later }
def TopHandedCardSaid : Prop := Claim7.holds Tryd.pinned (.plain (OpenSpec.ofChange topHandedSpec)) topHandedCard

/-- THE SECOND FORM's CARD OF 'embrasurelaw10.PoolNone'. -/
def poolNoneUptoCard : Claim7 := { stood := { row := poolNoneUptoRow, standIns := [], harness := (true, "7021828e2413debe72932709eba945e27baddc7c9fd288967e9bec9b0568c2aa"), looks := false }, kinds := [], alts := [], laidByText := true, laidKinds := [.data], laidTests := true, laidLooks := .later }
def PoolNoneUptoCardSaid : Prop := Claim7.holds Tryd.pinned (.plain (OpenSpec.upto poolNoneSpec)) poolNoneUptoCard

/-- THE SECOND FORM's CARD OF 'embrasuretop.TopHanded'. -/
def topHandedUptoCard : Claim7 := { stood := { row := topHandedUptoRow, standIns := [], harness := (true, "7021828e2413debe72932709eba945e27baddc7c9fd288967e9bec9b0568c2aa"), looks := false }, kinds := [], alts := [], laidByText := true, laidKinds := [.data], laidTests := true, laidLooks := .later }
def TopHandedUptoCardSaid : Prop := Claim7.holds Tryd.pinned (.plain (OpenSpec.upto topHandedSpec)) topHandedUptoCard
end Rows
end Go.Proofs.YtbhfdnhdnnbicaaDoor
