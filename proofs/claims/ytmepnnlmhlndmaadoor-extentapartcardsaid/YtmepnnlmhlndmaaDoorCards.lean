/-
  DERIVED. GIVEN WITH THE SEED: THE CARDS: each row of YtmepnnlmhlndmaaDoorRows.lean that lists a variable, with what it lists TIED to the program's text (the seventh form; the later family's looks); each row that meets fmt, with fmt's text TOLD by the authors' own Lean function (tested against real Go, not proved from fmt's source: count such statements apart). THE CARD IS WHAT COUNTS. Prove the row's statement (the work); the ties are given (YtmepnnlmhlndmaaDoorTie.lean); close each card by the builder's one call (the guide's Derived/Test/ToyasCard.lean, 'card_holds'). Laid BY PROGRAM, IN A SANDBOX (cutbox-door.mjs). By AI agents, Wed Nov 11 2026. No macro, syntax, notation, axiom, sorry.
-/
import Derived.Test.YtmepnnlmhlndmaaDoorRows
import GoSem.ClaimSeven
namespace Go.Proofs.YtmepnnlmhlndmaaDoor
namespace Rows

/-- THE TIED CARD OF 'embrasurelaw12.ExtentPlays'. -/
def extentPlaysCard : Claim7 := { stood := { row := extentPlaysRow, standIns := [], harness := (true, "3bedf77f14a9f6d78298c5721e53c6d9fe604e2cdf0278b9cb44d1fb5af5453b"), looks := false }, kinds := [], alts := [], laidByText := true, laidKinds := [.data, .pinned], laidTests := true, laidLooks := .later }
def ExtentPlaysCardSaid : Prop := Claim7.holds Tryd.pinned (.plain (OpenSpec.ofChange extentPlaysSpec)) extentPlaysCard

/-- THE TIED CARD OF 'embrasurelaw12.ExtentApart'. -/
def extentApartCard : Claim7 := { stood := { row := extentApartRow, standIns := [], harness := (true, "3bedf77f14a9f6d78298c5721e53c6d9fe604e2cdf0278b9cb44d1fb5af5453b"), looks := false }, kinds := [], alts := [], laidByText := true, laidKinds := [.data, .pinned], laidTests := true, laidLooks := .later }
def ExtentApartCardSaid : Prop := Claim7.holds Tryd.pinned (.plain (OpenSpec.ofChange extentApartSpec)) extentApartCard

/-- THE TIED CARD OF 'embrasurelaw12.ExtentSplits'. -/
def extentSplitsCard : Claim7 := { stood := { row := extentSplitsRow, standIns := [], harness := (true, "3bedf77f14a9f6d78298c5721e53c6d9fe604e2cdf0278b9cb44d1fb5af5453b"), looks := false }, kinds := [], alts := [], laidByText := true, laidKinds := [.data, .pinned], laidTests := true, laidLooks := .later }
def ExtentSplitsCardSaid : Prop := Claim7.holds Tryd.pinned (.plain (OpenSpec.ofChange extentSplitsSpec)) extentSplitsCard

/-- THE TIED CARD OF 'embrasurelaw12.ExtentOwns'. -/
def extentOwnsCard : Claim7 := { stood := { row := extentOwnsRow, standIns := [], harness := (true, "3bedf77f14a9f6d78298c5721e53c6d9fe604e2cdf0278b9cb44d1fb5af5453b"), looks := false }, kinds := [], alts := [], laidByText := true, laidKinds := [.data, .pinned], laidTests := true, laidLooks := .later }
def ExtentOwnsCardSaid : Prop := Claim7.holds Tryd.pinned (.plain (OpenSpec.ofChange extentOwnsSpec)) extentOwnsCard

/-- THE TIED CARD OF 'embrasurelaw12.ExtentRoom'. -/
def extentRoomCard : Claim7 := { stood := { row := extentRoomRow, standIns := [], harness := (true, "3bedf77f14a9f6d78298c5721e53c6d9fe604e2cdf0278b9cb44d1fb5af5453b"), looks := false }, kinds := [], alts := [], laidByText := true, laidKinds := [.data, .pinned], laidTests := true, laidLooks := .later }
def ExtentRoomCardSaid : Prop := Claim7.holds Tryd.pinned (.plain (OpenSpec.ofChange extentRoomSpec)) extentRoomCard

/-- THE TIED CARD OF 'embrasurelaw12.ExtentForks'. -/
def extentForksCard : Claim7 := { stood := { row := extentForksRow, standIns := [], harness := (true, "3bedf77f14a9f6d78298c5721e53c6d9fe604e2cdf0278b9cb44d1fb5af5453b"), looks := false }, kinds := [], alts := [], laidByText := true, laidKinds := [.data, .pinned], laidTests := true, laidLooks := .later }
def ExtentForksCardSaid : Prop := Claim7.holds Tryd.pinned (.plain (OpenSpec.ofChange extentForksSpec)) extentForksCard

/-- THE SECOND FORM's CARD OF 'embrasurelaw12.ExtentPlays'. -/
def extentPlaysUptoCard : Claim7 := { stood := { row := extentPlaysUptoRow, standIns := [], harness := (true, "3bedf77f14a9f6d78298c5721e53c6d9fe604e2cdf0278b9cb44d1fb5af5453b"), looks := false }, kinds := [], alts := [], laidByText := true, laidKinds := [.data, .pinned], laidTests := true, laidLooks := .later }
def ExtentPlaysUptoCardSaid : Prop := Claim7.holds Tryd.pinned (.plain (OpenSpec.upto extentPlaysSpec)) extentPlaysUptoCard

/-- THE SECOND FORM's CARD OF 'embrasurelaw12.ExtentApart'. -/
def extentApartUptoCard : Claim7 := { stood := { row := extentApartUptoRow, standIns := [], harness := (true, "3bedf77f14a9f6d78298c5721e53c6d9fe604e2cdf0278b9cb44d1fb5af5453b"), looks := false }, kinds := [], alts := [], laidByText := true, laidKinds := [.data, .pinned], laidTests := true, laidLooks := .later }
def ExtentApartUptoCardSaid : Prop := Claim7.holds Tryd.pinned (.plain (OpenSpec.upto extentApartSpec)) extentApartUptoCard

/-- THE SECOND FORM's CARD OF 'embrasurelaw12.ExtentSplits'. -/
def extentSplitsUptoCard : Claim7 := { stood := { row := extentSplitsUptoRow, standIns := [], harness := (true, "3bedf77f14a9f6d78298c5721e53c6d9fe604e2cdf0278b9cb44d1fb5af5453b"), looks := false }, kinds := [], alts := [], laidByText := true, laidKinds := [.data, .pinned], laidTests := true, laidLooks := .later }
def ExtentSplitsUptoCardSaid : Prop := Claim7.holds Tryd.pinned (.plain (OpenSpec.upto extentSplitsSpec)) extentSplitsUptoCard

/-- THE SECOND FORM's CARD OF 'embrasurelaw12.ExtentOwns'. -/
def extentOwnsUptoCard : Claim7 := { stood := { row := extentOwnsUptoRow, standIns := [], harness := (true, "3bedf77f14a9f6d78298c5721e53c6d9fe604e2cdf0278b9cb44d1fb5af5453b"), looks := false }, kinds := [], alts := [], laidByText := true, laidKinds := [.data, .pinned], laidTests := true, laidLooks := .later }
def ExtentOwnsUptoCardSaid : Prop := Claim7.holds Tryd.pinned (.plain (OpenSpec.upto extentOwnsSpec)) extentOwnsUptoCard

/-- THE SECOND FORM's CARD OF 'embrasurelaw12.ExtentRoom'. -/
def extentRoomUptoCard : Claim7 := { stood := { row := extentRoomUptoRow, standIns := [], harness := (true, "3bedf77f14a9f6d78298c5721e53c6d9fe604e2cdf0278b9cb44d1fb5af5453b"), looks := false }, kinds := [], alts := [], laidByText := true, laidKinds := [.data, .pinned], laidTests := true, laidLooks := .later }
def ExtentRoomUptoCardSaid : Prop := Claim7.holds Tryd.pinned (.plain (OpenSpec.upto extentRoomSpec)) extentRoomUptoCard

/-- THE SECOND FORM's CARD OF 'embrasurelaw12.ExtentForks'. -/
def extentForksUptoCard : Claim7 := { stood := { row := extentForksUptoRow, standIns := [], harness := (true, "3bedf77f14a9f6d78298c5721e53c6d9fe604e2cdf0278b9cb44d1fb5af5453b"), looks := false }, kinds := [], alts := [], laidByText := true, laidKinds := [.data, .pinned], laidTests := true, laidLooks := .later }
def ExtentForksUptoCardSaid : Prop := Claim7.holds Tryd.pinned (.plain (OpenSpec.upto extentForksSpec)) extentForksUptoCard
end Rows
end Go.Proofs.YtmepnnlmhlndmaaDoor
