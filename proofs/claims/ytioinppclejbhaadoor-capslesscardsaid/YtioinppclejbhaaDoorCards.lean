/-
  DERIVED. GIVEN WITH THE SEED: THE CARDS: each row of YtioinppclejbhaaDoorRows.lean that lists a variable, with what it lists TIED to the program's text (the seventh form; the later family's looks); each row that meets fmt, with fmt's text TOLD by the authors' own Lean function (tested against real Go, not proved from fmt's source: count such statements apart). THE CARD IS WHAT COUNTS. Prove the row's statement (the work); the ties are given (YtioinppclejbhaaDoorTie.lean); close each card by the builder's one call (the guide's Derived/Test/ToyasCard.lean, 'card_holds'). Laid BY PROGRAM, IN A SANDBOX (cutbox-door.mjs). By AI agents, Wed Nov 11 2026. No macro, syntax, notation, axiom, sorry.
-/
import Derived.Test.YtioinppclejbhaaDoorRows
import GoSem.ClaimSeven
namespace Go.Proofs.YtioinppclejbhaaDoor
namespace Rows

/-- THE TIED CARD OF 'embrasurelaw09.CapsPlays'. -/
def capsPlaysCard : Claim7 := { stood := { row := capsPlaysRow, standIns := [], harness := (true, "56296045d7111ca241e4e2aec31d4713382382e59e6d3b93d1b1738bcd668fce"), looks := false }, kinds := [], alts := [], laidByText := true, laidKinds := [.data, .pinned], laidTests := true, laidLooks := .later }
def CapsPlaysCardSaid : Prop := Claim7.holds Tryd.pinned (.plain (OpenSpec.ofChange capsPlaysSpec)) capsPlaysCard

/-- THE TIED CARD OF 'embrasurelaw09.CapsFinds'. -/
def capsFindsCard : Claim7 := { stood := { row := capsFindsRow, standIns := [], harness := (true, "56296045d7111ca241e4e2aec31d4713382382e59e6d3b93d1b1738bcd668fce"), looks := false }, kinds := [], alts := [], laidByText := true, laidKinds := [.data, .pinned], laidTests := true, laidLooks := .later }
def CapsFindsCardSaid : Prop := Claim7.holds Tryd.pinned (.plain (OpenSpec.ofChange capsFindsSpec)) capsFindsCard

/-- THE TIED CARD OF 'embrasurelaw09.CapsLess'. -/
def capsLessCard : Claim7 := { stood := { row := capsLessRow, standIns := [], harness := (true, "56296045d7111ca241e4e2aec31d4713382382e59e6d3b93d1b1738bcd668fce"), looks := false }, kinds := [], alts := [], laidByText := true, laidKinds := [.data, .pinned], laidTests := true, laidLooks := .later }
def CapsLessCardSaid : Prop := Claim7.holds Tryd.pinned (.plain (OpenSpec.ofChange capsLessSpec)) capsLessCard

/-- THE TIED CARD OF 'embrasurelaw09.CapsRevokes'. -/
def capsRevokesCard : Claim7 := { stood := { row := capsRevokesRow, standIns := [], harness := (true, "56296045d7111ca241e4e2aec31d4713382382e59e6d3b93d1b1738bcd668fce"), looks := false }, kinds := [], alts := [], laidByText := true, laidKinds := [.data, .pinned], laidTests := true, laidLooks := .later }
def CapsRevokesCardSaid : Prop := Claim7.holds Tryd.pinned (.plain (OpenSpec.ofChange capsRevokesSpec)) capsRevokesCard

/-- THE TIED CARD OF 'embrasurelaw09.CapsRight'. -/
def capsRightCard : Claim7 := { stood := { row := capsRightRow, standIns := [], harness := (true, "56296045d7111ca241e4e2aec31d4713382382e59e6d3b93d1b1738bcd668fce"), looks := false }, kinds := [], alts := [], laidByText := true, laidKinds := [.data, .pinned], laidTests := true, laidLooks := .later }
def CapsRightCardSaid : Prop := Claim7.holds Tryd.pinned (.plain (OpenSpec.ofChange capsRightSpec)) capsRightCard

/-- THE TIED CARD OF 'embrasurelaw09.CapsForks'. -/
def capsForksCard : Claim7 := { stood := { row := capsForksRow, standIns := [], harness := (true, "56296045d7111ca241e4e2aec31d4713382382e59e6d3b93d1b1738bcd668fce"), looks := false }, kinds := [], alts := [], laidByText := true, laidKinds := [.data, .pinned], laidTests := true, laidLooks := .later }
def CapsForksCardSaid : Prop := Claim7.holds Tryd.pinned (.plain (OpenSpec.ofChange capsForksSpec)) capsForksCard

/-- THE SECOND FORM's CARD OF 'embrasurelaw09.CapsPlays'. -/
def capsPlaysUptoCard : Claim7 := { stood := { row := capsPlaysUptoRow, standIns := [], harness := (true, "56296045d7111ca241e4e2aec31d4713382382e59e6d3b93d1b1738bcd668fce"), looks := false }, kinds := [], alts := [], laidByText := true, laidKinds := [.data, .pinned], laidTests := true, laidLooks := .later }
def CapsPlaysUptoCardSaid : Prop := Claim7.holds Tryd.pinned (.plain (OpenSpec.upto capsPlaysSpec)) capsPlaysUptoCard

/-- THE SECOND FORM's CARD OF 'embrasurelaw09.CapsFinds'. -/
def capsFindsUptoCard : Claim7 := { stood := { row := capsFindsUptoRow, standIns := [], harness := (true, "56296045d7111ca241e4e2aec31d4713382382e59e6d3b93d1b1738bcd668fce"), looks := false }, kinds := [], alts := [], laidByText := true, laidKinds := [.data, .pinned], laidTests := true, laidLooks := .later }
def CapsFindsUptoCardSaid : Prop := Claim7.holds Tryd.pinned (.plain (OpenSpec.upto capsFindsSpec)) capsFindsUptoCard

/-- THE SECOND FORM's CARD OF 'embrasurelaw09.CapsLess'. -/
def capsLessUptoCard : Claim7 := { stood := { row := capsLessUptoRow, standIns := [], harness := (true, "56296045d7111ca241e4e2aec31d4713382382e59e6d3b93d1b1738bcd668fce"), looks := false }, kinds := [], alts := [], laidByText := true, laidKinds := [.data, .pinned], laidTests := true, laidLooks := .later }
def CapsLessUptoCardSaid : Prop := Claim7.holds Tryd.pinned (.plain (OpenSpec.upto capsLessSpec)) capsLessUptoCard

/-- THE SECOND FORM's CARD OF 'embrasurelaw09.CapsRevokes'. -/
def capsRevokesUptoCard : Claim7 := { stood := { row := capsRevokesUptoRow, standIns := [], harness := (true, "56296045d7111ca241e4e2aec31d4713382382e59e6d3b93d1b1738bcd668fce"), looks := false }, kinds := [], alts := [], laidByText := true, laidKinds := [.data, .pinned], laidTests := true, laidLooks := .later }
def CapsRevokesUptoCardSaid : Prop := Claim7.holds Tryd.pinned (.plain (OpenSpec.upto capsRevokesSpec)) capsRevokesUptoCard

/-- THE SECOND FORM's CARD OF 'embrasurelaw09.CapsRight'. -/
def capsRightUptoCard : Claim7 := { stood := { row := capsRightUptoRow, standIns := [], harness := (true, "56296045d7111ca241e4e2aec31d4713382382e59e6d3b93d1b1738bcd668fce"), looks := false }, kinds := [], alts := [], laidByText := true, laidKinds := [.data, .pinned], laidTests := true, laidLooks := .later }
def CapsRightUptoCardSaid : Prop := Claim7.holds Tryd.pinned (.plain (OpenSpec.upto capsRightSpec)) capsRightUptoCard

/-- THE SECOND FORM's CARD OF 'embrasurelaw09.CapsForks'. -/
def capsForksUptoCard : Claim7 := { stood := { row := capsForksUptoRow, standIns := [], harness := (true, "56296045d7111ca241e4e2aec31d4713382382e59e6d3b93d1b1738bcd668fce"), looks := false }, kinds := [], alts := [], laidByText := true, laidKinds := [.data, .pinned], laidTests := true, laidLooks := .later }
def CapsForksUptoCardSaid : Prop := Claim7.holds Tryd.pinned (.plain (OpenSpec.upto capsForksSpec)) capsForksUptoCard
end Rows
end Go.Proofs.YtioinppclejbhaaDoor
