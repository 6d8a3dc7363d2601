/-
  NARROWER THAN 'FOR EVERY INPUT', by the rows' own cells (each row's printed sentence says how): CapsPlays: laid · CapsFinds: laid · CapsLess: laid · CapsRevokes: laid · CapsRight: laid · CapsForks: laid.
  DERIVED. THE GIVEN ROWS OF THIS SEAT. 6 by the template 'for every input the law returns true; each argument reads behind the call as it read before'; 0 by the template 'total and deterministic' (their statements: YtioinppclejbhaaDoorTotals.lean).
  GIVEN WITH THE SEED: the statements are not yours to turn. If you find one false, say at which input.
  Laid BY PROGRAM, IN A SANDBOX (cutbox-rows.mjs): the forced cells as the released guide's own fill.sh prints them over the translation 834e8cd4ef86ec7c… (all of the seat's roots in one cut). By AI agents, Wed Nov 11 2026. No macro, syntax, notation, axiom, sorry.
-/
import Derived.Test.YtioinppclejbhaaDoorChecked
import GoSem.PinnedTables
import GoSem.Claim
import GoSem.ClaimJoined
import GoSem.ClaimMapViews
import Derived.JoinedTies
import Derived.KernelRfl
namespace Go.Proofs.YtioinppclejbhaaDoor
/- THE CELL 'sum', in the pinned program and in every row, IS THE sha256 OF THE DUMP (.gsa) THAT YtioinppclejbhaaDoorProg.lean LOADS. Nothing in Lean hashes anything: it is a label: what it is worth is what the hold of that sum in a sandbox is worth. -/
noncomputable def Tryd.pinned : Pinned := { name := "ytioinppclejbhaadoor", sum := "834e8cd4ef86ec7cd3c6b0ea6e9cfbddea7b85aed5b3fbe26a189f5e2045eed8", checked := Tryd.checked }
namespace Rows
def none {H : Type} : Left H := { results := [], args := [] }

/- WHAT THE LISTED PACKAGE-LEVEL VARIABLES READ AS WHEN THE CALL BEGINS. Each datum BY PROGRAM (the guide's laid-datum.mjs) off the statement by which the dump's own 'gosem.cut.vars' lays the variable. In a bare row this is a premise. The card (YtioinppclejbhaaDoorCards.lean) ties it to the program's text. -/
def laid_unicode_utf8_acceptRanges {H : Type} : DataW H := .agg [.agg [.lit (.int .u8 128), .lit (.int .u8 191)], .agg [.lit (.int .u8 160), .lit (.int .u8 191)], .agg [.lit (.int .u8 128), .lit (.int .u8 159)], .agg [.lit (.int .u8 144), .lit (.int .u8 191)], .agg [.lit (.int .u8 128), .lit (.int .u8 143)], .agg [.lit (.int .u8 0), .lit (.int .u8 0)], .agg [.lit (.int .u8 0), .lit (.int .u8 0)], .agg [.lit (.int .u8 0), .lit (.int .u8 0)], .agg [.lit (.int .u8 0), .lit (.int .u8 0)], .agg [.lit (.int .u8 0), .lit (.int .u8 0)], .agg [.lit (.int .u8 0), .lit (.int .u8 0)], .agg [.lit (.int .u8 0), .lit (.int .u8 0)], .agg [.lit (.int .u8 0), .lit (.int .u8 0)], .agg [.lit (.int .u8 0), .lit (.int .u8 0)], .agg [.lit (.int .u8 0), .lit (.int .u8 0)], .agg [.lit (.int .u8 0), .lit (.int .u8 0)]]
/-- One of Go's own tables, pinned by name: the form's constant. -/
def laid_unicode_utf8_first : DataW Unit := Go.Pinned.utf8First

/-- 'embrasurelaw09.CapsPlays': WHATEVER THE INPUT: true; the input reads as it did. -/
def capsPlaysSpec : ChangeSpec := { name := "capsPlays", fn := fun _ => fun
  | [d] => { results := [.lit (.bool true)], args := [d] }
  | _ => none }
def capsPlaysRow : OpenClaim := { program := "ytioinppclejbhaadoor", sum := "834e8cd4ef86ec7cd3c6b0ea6e9cfbddea7b85aed5b3fbe26a189f5e2045eed8", func := "embrasure/embrasurelaw09.CapsPlays", spec := "capsPlays", inPlace := ["internal/abi.NoEscape"], unfollowed := true, recurses := true, named := ["unicode/utf8.first", "unicode/utf8.acceptRanges"], apart := false, laid := [("unicode/utf8.acceptRanges", laid_unicode_utf8_acceptRanges), ("unicode/utf8.first", laid_unicode_utf8_first)] }
def CapsPlaysSaid : Prop := capsPlaysRow.holds Tryd.pinned (OpenSpec.ofChange capsPlaysSpec)

/-- ITS FALSE NEIGHBOUR: 'it returns false'. Refute it at one input. -/
def capsPlaysWrong : ChangeSpec := { name := "capsPlays", fn := fun _ => fun
  | [d] => { results := [.lit (.bool false)], args := [d] }
  | _ => none }
def CapsPlaysWrongFalsely : Prop := capsPlaysRow.holds Tryd.pinned (OpenSpec.ofChange capsPlaysWrong)

/-- 'embrasurelaw09.CapsFinds': WHATEVER THE INPUT: true; the input reads as it did. -/
def capsFindsSpec : ChangeSpec := { name := "capsFinds", fn := fun _ => fun
  | [d1, d2] => { results := [.lit (.bool true)], args := [d1, d2] }
  | _ => none }
def capsFindsRow : OpenClaim := { program := "ytioinppclejbhaadoor", sum := "834e8cd4ef86ec7cd3c6b0ea6e9cfbddea7b85aed5b3fbe26a189f5e2045eed8", func := "embrasure/embrasurelaw09.CapsFinds", spec := "capsFinds", inPlace := ["internal/abi.NoEscape"], unfollowed := true, recurses := true, named := ["unicode/utf8.first", "unicode/utf8.acceptRanges"], apart := false, laid := [("unicode/utf8.acceptRanges", laid_unicode_utf8_acceptRanges), ("unicode/utf8.first", laid_unicode_utf8_first)] }
def CapsFindsSaid : Prop := capsFindsRow.holds Tryd.pinned (OpenSpec.ofChange capsFindsSpec)

/-- ITS FALSE NEIGHBOUR: 'it returns false'. Refute it at one input. -/
def capsFindsWrong : ChangeSpec := { name := "capsFinds", fn := fun _ => fun
  | [d1, d2] => { results := [.lit (.bool false)], args := [d1, d2] }
  | _ => none }
def CapsFindsWrongFalsely : Prop := capsFindsRow.holds Tryd.pinned (OpenSpec.ofChange capsFindsWrong)

/-- 'embrasurelaw09.CapsLess': WHATEVER THE INPUT: true; the input reads as it did. -/
def capsLessSpec : ChangeSpec := { name := "capsLess", fn := fun _ => fun
  | [d1, d2, d3] => { results := [.lit (.bool true)], args := [d1, d2, d3] }
  | _ => none }
def capsLessRow : OpenClaim := { program := "ytioinppclejbhaadoor", sum := "834e8cd4ef86ec7cd3c6b0ea6e9cfbddea7b85aed5b3fbe26a189f5e2045eed8", func := "embrasure/embrasurelaw09.CapsLess", spec := "capsLess", inPlace := ["internal/abi.NoEscape"], unfollowed := true, recurses := true, named := ["unicode/utf8.first", "unicode/utf8.acceptRanges"], apart := false, laid := [("unicode/utf8.acceptRanges", laid_unicode_utf8_acceptRanges), ("unicode/utf8.first", laid_unicode_utf8_first)] }
def CapsLessSaid : Prop := capsLessRow.holds Tryd.pinned (OpenSpec.ofChange capsLessSpec)

/-- ITS FALSE NEIGHBOUR: 'it returns false'. Refute it at one input. -/
def capsLessWrong : ChangeSpec := { name := "capsLess", fn := fun _ => fun
  | [d1, d2, d3] => { results := [.lit (.bool false)], args := [d1, d2, d3] }
  | _ => none }
def CapsLessWrongFalsely : Prop := capsLessRow.holds Tryd.pinned (OpenSpec.ofChange capsLessWrong)

/-- 'embrasurelaw09.CapsRevokes': WHATEVER THE INPUT: true; the input reads as it did. -/
def capsRevokesSpec : ChangeSpec := { name := "capsRevokes", fn := fun _ => fun
  | [d1, d2] => { results := [.lit (.bool true)], args := [d1, d2] }
  | _ => none }
def capsRevokesRow : OpenClaim := { program := "ytioinppclejbhaadoor", sum := "834e8cd4ef86ec7cd3c6b0ea6e9cfbddea7b85aed5b3fbe26a189f5e2045eed8", func := "embrasure/embrasurelaw09.CapsRevokes", spec := "capsRevokes", inPlace := ["internal/abi.NoEscape"], unfollowed := true, recurses := true, named := ["unicode/utf8.first", "unicode/utf8.acceptRanges"], apart := false, laid := [("unicode/utf8.acceptRanges", laid_unicode_utf8_acceptRanges), ("unicode/utf8.first", laid_unicode_utf8_first)] }
def CapsRevokesSaid : Prop := capsRevokesRow.holds Tryd.pinned (OpenSpec.ofChange capsRevokesSpec)

/-- ITS FALSE NEIGHBOUR: 'it returns false'. Refute it at one input. -/
def capsRevokesWrong : ChangeSpec := { name := "capsRevokes", fn := fun _ => fun
  | [d1, d2] => { results := [.lit (.bool false)], args := [d1, d2] }
  | _ => none }
def CapsRevokesWrongFalsely : Prop := capsRevokesRow.holds Tryd.pinned (OpenSpec.ofChange capsRevokesWrong)

/-- 'embrasurelaw09.CapsRight': WHATEVER THE INPUT: true; the input reads as it did. -/
def capsRightSpec : ChangeSpec := { name := "capsRight", fn := fun _ => fun
  | [d] => { results := [.lit (.bool true)], args := [d] }
  | _ => none }
def capsRightRow : OpenClaim := { program := "ytioinppclejbhaadoor", sum := "834e8cd4ef86ec7cd3c6b0ea6e9cfbddea7b85aed5b3fbe26a189f5e2045eed8", func := "embrasure/embrasurelaw09.CapsRight", spec := "capsRight", inPlace := ["internal/abi.NoEscape"], unfollowed := true, recurses := true, named := ["unicode/utf8.first", "unicode/utf8.acceptRanges"], apart := false, laid := [("unicode/utf8.acceptRanges", laid_unicode_utf8_acceptRanges), ("unicode/utf8.first", laid_unicode_utf8_first)] }
def CapsRightSaid : Prop := capsRightRow.holds Tryd.pinned (OpenSpec.ofChange capsRightSpec)

/-- ITS FALSE NEIGHBOUR: 'it returns false'. Refute it at one input. -/
def capsRightWrong : ChangeSpec := { name := "capsRight", fn := fun _ => fun
  | [d] => { results := [.lit (.bool false)], args := [d] }
  | _ => none }
def CapsRightWrongFalsely : Prop := capsRightRow.holds Tryd.pinned (OpenSpec.ofChange capsRightWrong)

/-- 'embrasurelaw09.CapsForks': WHATEVER THE INPUT: true; the input reads as it did. -/
def capsForksSpec : ChangeSpec := { name := "capsForks", fn := fun _ => fun
  | [d1, d2] => { results := [.lit (.bool true)], args := [d1, d2] }
  | _ => none }
def capsForksRow : OpenClaim := { program := "ytioinppclejbhaadoor", sum := "834e8cd4ef86ec7cd3c6b0ea6e9cfbddea7b85aed5b3fbe26a189f5e2045eed8", func := "embrasure/embrasurelaw09.CapsForks", spec := "capsForks", inPlace := ["internal/abi.NoEscape"], unfollowed := true, recurses := true, named := ["unicode/utf8.first", "unicode/utf8.acceptRanges"], apart := false, laid := [("unicode/utf8.acceptRanges", laid_unicode_utf8_acceptRanges), ("unicode/utf8.first", laid_unicode_utf8_first)] }
def CapsForksSaid : Prop := capsForksRow.holds Tryd.pinned (OpenSpec.ofChange capsForksSpec)

/-- ITS FALSE NEIGHBOUR: 'it returns false'. Refute it at one input. -/
def capsForksWrong : ChangeSpec := { name := "capsForks", fn := fun _ => fun
  | [d1, d2] => { results := [.lit (.bool false)], args := [d1, d2] }
  | _ => none }
def CapsForksWrongFalsely : Prop := capsForksRow.holds Tryd.pinned (OpenSpec.ofChange capsForksWrong)

/- THE SECOND FORM. 'bulk': how many values and letters a reading holds, each counted each time it is reached (what is shared counts as often as it is met; a slice's spare places count too). A statement '..UptoSaid' is the law's where the arguments, and the package variables that the reading takes, are together of bulk at most 1048576: NARROWER than '..Said'. Prove '..Said' where nothing that the law and all that it calls make is longer than what came in: it says more and counts as full. Else prove '..UptoSaid'. A law counts once. -/
mutual
def uptoBulk {H : Type} : DataW H → Nat
  | .lit (.string bytes) => bytes.length + 1
  | .lit _ => 1
  | .nil => 1
  | .ptr d => uptoBulk d + 1
  | .slice elems spare => uptoBulkAll elems + uptoBulkAll spare + 1
  | .agg parts => uptoBulkAll parts + 1
  | .iface _ d => uptoBulk d + 1
  | .map entries => uptoBulkEntries entries + 1
  | .held _ => 1
def uptoBulkAll {H : Type} : List (DataW H) → Nat
  | [] => 0
  | d :: r => uptoBulk d + uptoBulkAll r
def uptoBulkEntries {H : Type} : List (Lit × DataW H) → Nat
  | [] => 0
  | x :: r => uptoBulkEntry x + uptoBulkEntries r
def uptoBulkEntry {H : Type} : Lit × DataW H → Nat
  | (.string bytes, d) => bytes.length + uptoBulk d + 1
  | (_, d) => uptoBulk d + 1
 end
def uptoSmall : (H : Type) → List (DataW H) → Bool := fun _ ds => decide (uptoBulkAll ds ≤ 1048576)
def OpenSpec.upto (s : _root_.Go.ChangeSpec) : _root_.Go.OpenSpec := { _root_.Go.OpenSpec.ofChange s with cond := some uptoSmall }

/-- 'embrasurelaw09.CapsPlays', WHERE WHAT IT READS IS OF BULK AT MOST 1048576: true; the input reads as it did. -/
def capsPlaysUptoRow : OpenClaim := { program := "ytioinppclejbhaadoor", sum := "834e8cd4ef86ec7cd3c6b0ea6e9cfbddea7b85aed5b3fbe26a189f5e2045eed8", func := "embrasure/embrasurelaw09.CapsPlays", spec := "capsPlays", inPlace := ["internal/abi.NoEscape"], unfollowed := true, recurses := true, named := ["unicode/utf8.first", "unicode/utf8.acceptRanges"], apart := false, laid := [("unicode/utf8.acceptRanges", laid_unicode_utf8_acceptRanges), ("unicode/utf8.first", laid_unicode_utf8_first)], narrowed := true }
def CapsPlaysUptoSaid : Prop := capsPlaysUptoRow.holds Tryd.pinned (OpenSpec.upto capsPlaysSpec)

/-- 'embrasurelaw09.CapsFinds', WHERE WHAT IT READS IS OF BULK AT MOST 1048576: true; the input reads as it did. -/
def capsFindsUptoRow : OpenClaim := { program := "ytioinppclejbhaadoor", sum := "834e8cd4ef86ec7cd3c6b0ea6e9cfbddea7b85aed5b3fbe26a189f5e2045eed8", func := "embrasure/embrasurelaw09.CapsFinds", spec := "capsFinds", inPlace := ["internal/abi.NoEscape"], unfollowed := true, recurses := true, named := ["unicode/utf8.first", "unicode/utf8.acceptRanges"], apart := false, laid := [("unicode/utf8.acceptRanges", laid_unicode_utf8_acceptRanges), ("unicode/utf8.first", laid_unicode_utf8_first)], narrowed := true }
def CapsFindsUptoSaid : Prop := capsFindsUptoRow.holds Tryd.pinned (OpenSpec.upto capsFindsSpec)

/-- 'embrasurelaw09.CapsLess', WHERE WHAT IT READS IS OF BULK AT MOST 1048576: true; the input reads as it did. -/
def capsLessUptoRow : OpenClaim := { program := "ytioinppclejbhaadoor", sum := "834e8cd4ef86ec7cd3c6b0ea6e9cfbddea7b85aed5b3fbe26a189f5e2045eed8", func := "embrasure/embrasurelaw09.CapsLess", spec := "capsLess", inPlace := ["internal/abi.NoEscape"], unfollowed := true, recurses := true, named := ["unicode/utf8.first", "unicode/utf8.acceptRanges"], apart := false, laid := [("unicode/utf8.acceptRanges", laid_unicode_utf8_acceptRanges), ("unicode/utf8.first", laid_unicode_utf8_first)], narrowed := true }
def CapsLessUptoSaid : Prop := capsLessUptoRow.holds Tryd.pinned (OpenSpec.upto capsLessSpec)

/-- 'embrasurelaw09.CapsRevokes', WHERE WHAT IT READS IS OF BULK AT MOST 1048576: true; the input reads as it did. -/
def capsRevokesUptoRow : OpenClaim := { program := "ytioinppclejbhaadoor", sum := "834e8cd4ef86ec7cd3c6b0ea6e9cfbddea7b85aed5b3fbe26a189f5e2045eed8", func := "embrasure/embrasurelaw09.CapsRevokes", spec := "capsRevokes", inPlace := ["internal/abi.NoEscape"], unfollowed := true, recurses := true, named := ["unicode/utf8.first", "unicode/utf8.acceptRanges"], apart := false, laid := [("unicode/utf8.acceptRanges", laid_unicode_utf8_acceptRanges), ("unicode/utf8.first", laid_unicode_utf8_first)], narrowed := true }
def CapsRevokesUptoSaid : Prop := capsRevokesUptoRow.holds Tryd.pinned (OpenSpec.upto capsRevokesSpec)

/-- 'embrasurelaw09.CapsRight', WHERE WHAT IT READS IS OF BULK AT MOST 1048576: true; the input reads as it did. -/
def capsRightUptoRow : OpenClaim := { program := "ytioinppclejbhaadoor", sum := "834e8cd4ef86ec7cd3c6b0ea6e9cfbddea7b85aed5b3fbe26a189f5e2045eed8", func := "embrasure/embrasurelaw09.CapsRight", spec := "capsRight", inPlace := ["internal/abi.NoEscape"], unfollowed := true, recurses := true, named := ["unicode/utf8.first", "unicode/utf8.acceptRanges"], apart := false, laid := [("unicode/utf8.acceptRanges", laid_unicode_utf8_acceptRanges), ("unicode/utf8.first", laid_unicode_utf8_first)], narrowed := true }
def CapsRightUptoSaid : Prop := capsRightUptoRow.holds Tryd.pinned (OpenSpec.upto capsRightSpec)

/-- 'embrasurelaw09.CapsForks', WHERE WHAT IT READS IS OF BULK AT MOST 1048576: true; the input reads as it did. -/
def capsForksUptoRow : OpenClaim := { program := "ytioinppclejbhaadoor", sum := "834e8cd4ef86ec7cd3c6b0ea6e9cfbddea7b85aed5b3fbe26a189f5e2045eed8", func := "embrasure/embrasurelaw09.CapsForks", spec := "capsForks", inPlace := ["internal/abi.NoEscape"], unfollowed := true, recurses := true, named := ["unicode/utf8.first", "unicode/utf8.acceptRanges"], apart := false, laid := [("unicode/utf8.acceptRanges", laid_unicode_utf8_acceptRanges), ("unicode/utf8.first", laid_unicode_utf8_first)], narrowed := true }
def CapsForksUptoSaid : Prop := capsForksUptoRow.holds Tryd.pinned (OpenSpec.upto capsForksSpec)

end Rows
end Go.Proofs.YtioinppclejbhaaDoor
