/-
  NARROWER THAN 'FOR EVERY INPUT', by the rows' own cells (each row's printed sentence says how): ExtentPlays: laid · ExtentApart: laid · ExtentSplits: laid · ExtentOwns: laid · ExtentRoom: laid · ExtentForks: laid.
  DERIVED. THE GIVEN ROWS OF THIS SEAT. 6 by the template 'for every input the law returns true; each argument reads behind the call as it read before'; 0 by the template 'total and deterministic' (their statements: YtmepnnlmhlndmaaDoorTotals.lean).
  GIVEN WITH THE SEED: the statements are not yours to turn. If you find one false, say at which input.
  Laid BY PROGRAM, IN A SANDBOX (cutbox-rows.mjs): the forced cells as the released guide's own fill.sh prints them over the translation 8155c23fc4114aa3… (all of the seat's roots in one cut). By AI agents, Wed Nov 11 2026. No macro, syntax, notation, axiom, sorry.
-/
import Derived.Test.YtmepnnlmhlndmaaDoorChecked
import GoSem.PinnedTables
import GoSem.Claim
import GoSem.ClaimJoined
import GoSem.ClaimMapViews
import Derived.JoinedTies
import Derived.KernelRfl
namespace Go.Proofs.YtmepnnlmhlndmaaDoor
/- THE CELL 'sum', in the pinned program and in every row, IS THE sha256 OF THE DUMP (.gsa) THAT YtmepnnlmhlndmaaDoorProg.lean LOADS. Nothing in Lean hashes anything: it is a label: what it is worth is what the hold of that sum in a sandbox is worth. -/
noncomputable def Tryd.pinned : Pinned := { name := "ytmepnnlmhlndmaadoor", sum := "8155c23fc4114aa375a475796ae4034935def3be5bc255e0b570927c0f4ed2a2", checked := Tryd.checked }
namespace Rows
def none {H : Type} : Left H := { results := [], args := [] }

/- WHAT THE LISTED PACKAGE-LEVEL VARIABLES READ AS WHEN THE CALL BEGINS. Each datum BY PROGRAM (the guide's laid-datum.mjs) off the statement by which the dump's own 'gosem.cut.vars' lays the variable. In a bare row this is a premise. The card (YtmepnnlmhlndmaaDoorCards.lean) ties it to the program's text. -/
def laid_unicode_utf8_acceptRanges {H : Type} : DataW H := .agg [.agg [.lit (.int .u8 128), .lit (.int .u8 191)], .agg [.lit (.int .u8 160), .lit (.int .u8 191)], .agg [.lit (.int .u8 128), .lit (.int .u8 159)], .agg [.lit (.int .u8 144), .lit (.int .u8 191)], .agg [.lit (.int .u8 128), .lit (.int .u8 143)], .agg [.lit (.int .u8 0), .lit (.int .u8 0)], .agg [.lit (.int .u8 0), .lit (.int .u8 0)], .agg [.lit (.int .u8 0), .lit (.int .u8 0)], .agg [.lit (.int .u8 0), .lit (.int .u8 0)], .agg [.lit (.int .u8 0), .lit (.int .u8 0)], .agg [.lit (.int .u8 0), .lit (.int .u8 0)], .agg [.lit (.int .u8 0), .lit (.int .u8 0)], .agg [.lit (.int .u8 0), .lit (.int .u8 0)], .agg [.lit (.int .u8 0), .lit (.int .u8 0)], .agg [.lit (.int .u8 0), .lit (.int .u8 0)], .agg [.lit (.int .u8 0), .lit (.int .u8 0)]]
/-- One of Go's own tables, pinned by name: the form's constant. -/
def laid_unicode_utf8_first : DataW Unit := Go.Pinned.utf8First

/-- 'embrasurelaw12.ExtentPlays': WHATEVER THE INPUT: true; the input reads as it did. -/
def extentPlaysSpec : ChangeSpec := { name := "extentPlays", fn := fun _ => fun
  | [d] => { results := [.lit (.bool true)], args := [d] }
  | _ => none }
def extentPlaysRow : OpenClaim := { program := "ytmepnnlmhlndmaadoor", sum := "8155c23fc4114aa375a475796ae4034935def3be5bc255e0b570927c0f4ed2a2", func := "embrasure/embrasurelaw12.ExtentPlays", spec := "extentPlays", unfollowed := true, recurses := true, named := ["unicode/utf8.first", "unicode/utf8.acceptRanges"], apart := false, laid := [("unicode/utf8.acceptRanges", laid_unicode_utf8_acceptRanges), ("unicode/utf8.first", laid_unicode_utf8_first)] }
def ExtentPlaysSaid : Prop := extentPlaysRow.holds Tryd.pinned (OpenSpec.ofChange extentPlaysSpec)

/-- ITS FALSE NEIGHBOUR: 'it returns false'. Refute it at one input. -/
def extentPlaysWrong : ChangeSpec := { name := "extentPlays", fn := fun _ => fun
  | [d] => { results := [.lit (.bool false)], args := [d] }
  | _ => none }
def ExtentPlaysWrongFalsely : Prop := extentPlaysRow.holds Tryd.pinned (OpenSpec.ofChange extentPlaysWrong)

/-- 'embrasurelaw12.ExtentApart': WHATEVER THE INPUT: true; the input reads as it did. -/
def extentApartSpec : ChangeSpec := { name := "extentApart", fn := fun _ => fun
  | [d] => { results := [.lit (.bool true)], args := [d] }
  | _ => none }
def extentApartRow : OpenClaim := { program := "ytmepnnlmhlndmaadoor", sum := "8155c23fc4114aa375a475796ae4034935def3be5bc255e0b570927c0f4ed2a2", func := "embrasure/embrasurelaw12.ExtentApart", spec := "extentApart", unfollowed := true, recurses := true, named := ["unicode/utf8.first", "unicode/utf8.acceptRanges"], apart := false, laid := [("unicode/utf8.acceptRanges", laid_unicode_utf8_acceptRanges), ("unicode/utf8.first", laid_unicode_utf8_first)] }
def ExtentApartSaid : Prop := extentApartRow.holds Tryd.pinned (OpenSpec.ofChange extentApartSpec)

/-- ITS FALSE NEIGHBOUR: 'it returns false'. Refute it at one input. -/
def extentApartWrong : ChangeSpec := { name := "extentApart", fn := fun _ => fun
  | [d] => { results := [.lit (.bool false)], args := [d] }
  | _ => none }
def ExtentApartWrongFalsely : Prop := extentApartRow.holds Tryd.pinned (OpenSpec.ofChange extentApartWrong)

/-- 'embrasurelaw12.ExtentSplits': WHATEVER THE INPUT: true; the input reads as it did. -/
def extentSplitsSpec : ChangeSpec := { name := "extentSplits", fn := fun _ => fun
  | [d1, d2, d3] => { results := [.lit (.bool true)], args := [d1, d2, d3] }
  | _ => none }
def extentSplitsRow : OpenClaim := { program := "ytmepnnlmhlndmaadoor", sum := "8155c23fc4114aa375a475796ae4034935def3be5bc255e0b570927c0f4ed2a2", func := "embrasure/embrasurelaw12.ExtentSplits", spec := "extentSplits", unfollowed := true, recurses := true, named := ["unicode/utf8.first", "unicode/utf8.acceptRanges"], apart := false, laid := [("unicode/utf8.acceptRanges", laid_unicode_utf8_acceptRanges), ("unicode/utf8.first", laid_unicode_utf8_first)] }
def ExtentSplitsSaid : Prop := extentSplitsRow.holds Tryd.pinned (OpenSpec.ofChange extentSplitsSpec)

/-- ITS FALSE NEIGHBOUR: 'it returns false'. Refute it at one input. -/
def extentSplitsWrong : ChangeSpec := { name := "extentSplits", fn := fun _ => fun
  | [d1, d2, d3] => { results := [.lit (.bool false)], args := [d1, d2, d3] }
  | _ => none }
def ExtentSplitsWrongFalsely : Prop := extentSplitsRow.holds Tryd.pinned (OpenSpec.ofChange extentSplitsWrong)

/-- 'embrasurelaw12.ExtentOwns': WHATEVER THE INPUT: true; the input reads as it did. -/
def extentOwnsSpec : ChangeSpec := { name := "extentOwns", fn := fun _ => fun
  | [d1, d2, d3] => { results := [.lit (.bool true)], args := [d1, d2, d3] }
  | _ => none }
def extentOwnsRow : OpenClaim := { program := "ytmepnnlmhlndmaadoor", sum := "8155c23fc4114aa375a475796ae4034935def3be5bc255e0b570927c0f4ed2a2", func := "embrasure/embrasurelaw12.ExtentOwns", spec := "extentOwns", unfollowed := true, recurses := true, named := ["unicode/utf8.first", "unicode/utf8.acceptRanges"], apart := false, laid := [("unicode/utf8.acceptRanges", laid_unicode_utf8_acceptRanges), ("unicode/utf8.first", laid_unicode_utf8_first)] }
def ExtentOwnsSaid : Prop := extentOwnsRow.holds Tryd.pinned (OpenSpec.ofChange extentOwnsSpec)

/-- ITS FALSE NEIGHBOUR: 'it returns false'. Refute it at one input. -/
def extentOwnsWrong : ChangeSpec := { name := "extentOwns", fn := fun _ => fun
  | [d1, d2, d3] => { results := [.lit (.bool false)], args := [d1, d2, d3] }
  | _ => none }
def ExtentOwnsWrongFalsely : Prop := extentOwnsRow.holds Tryd.pinned (OpenSpec.ofChange extentOwnsWrong)

/-- 'embrasurelaw12.ExtentRoom': WHATEVER THE INPUT: true; the input reads as it did. -/
def extentRoomSpec : ChangeSpec := { name := "extentRoom", fn := fun _ => fun
  | [d1, d2] => { results := [.lit (.bool true)], args := [d1, d2] }
  | _ => none }
def extentRoomRow : OpenClaim := { program := "ytmepnnlmhlndmaadoor", sum := "8155c23fc4114aa375a475796ae4034935def3be5bc255e0b570927c0f4ed2a2", func := "embrasure/embrasurelaw12.ExtentRoom", spec := "extentRoom", unfollowed := true, recurses := true, named := ["unicode/utf8.first", "unicode/utf8.acceptRanges"], apart := false, laid := [("unicode/utf8.acceptRanges", laid_unicode_utf8_acceptRanges), ("unicode/utf8.first", laid_unicode_utf8_first)] }
def ExtentRoomSaid : Prop := extentRoomRow.holds Tryd.pinned (OpenSpec.ofChange extentRoomSpec)

/-- ITS FALSE NEIGHBOUR: 'it returns false'. Refute it at one input. -/
def extentRoomWrong : ChangeSpec := { name := "extentRoom", fn := fun _ => fun
  | [d1, d2] => { results := [.lit (.bool false)], args := [d1, d2] }
  | _ => none }
def ExtentRoomWrongFalsely : Prop := extentRoomRow.holds Tryd.pinned (OpenSpec.ofChange extentRoomWrong)

/-- 'embrasurelaw12.ExtentForks': WHATEVER THE INPUT: true; the input reads as it did. -/
def extentForksSpec : ChangeSpec := { name := "extentForks", fn := fun _ => fun
  | [d1, d2] => { results := [.lit (.bool true)], args := [d1, d2] }
  | _ => none }
def extentForksRow : OpenClaim := { program := "ytmepnnlmhlndmaadoor", sum := "8155c23fc4114aa375a475796ae4034935def3be5bc255e0b570927c0f4ed2a2", func := "embrasure/embrasurelaw12.ExtentForks", spec := "extentForks", unfollowed := true, recurses := true, named := ["unicode/utf8.first", "unicode/utf8.acceptRanges"], apart := false, laid := [("unicode/utf8.acceptRanges", laid_unicode_utf8_acceptRanges), ("unicode/utf8.first", laid_unicode_utf8_first)] }
def ExtentForksSaid : Prop := extentForksRow.holds Tryd.pinned (OpenSpec.ofChange extentForksSpec)

/-- ITS FALSE NEIGHBOUR: 'it returns false'. Refute it at one input. -/
def extentForksWrong : ChangeSpec := { name := "extentForks", fn := fun _ => fun
  | [d1, d2] => { results := [.lit (.bool false)], args := [d1, d2] }
  | _ => none }
def ExtentForksWrongFalsely : Prop := extentForksRow.holds Tryd.pinned (OpenSpec.ofChange extentForksWrong)

/- THE SECOND FORM. 'bulk': how many values and letters a reading holds, each counted each time it is reached (what is shared counts as often as it is met; a slice's spare places count too). A statement '..UptoSaid' is the law's where the arguments, and the package variables that the reading takes, are together of bulk at most 1048576: NARROWER than '..Said'. Prove '..Said' where nothing that the law and all that it calls make is longer than what came in: it says more and counts as full. Else prove '..UptoSaid'. A law counts once. -/
mutual
def uptoBulk {H : Type} : DataW H → Nat
  | .lit (.string bytes) => bytes.length + 1
  | .lit _ => 1
  | .nil => 1
  | .ptr d => uptoBulk d + 1
  | .slice elems spare => uptoBulkAll elems + uptoBulkAll spare + 1
  | .agg parts => uptoBulkAll parts + 1
  | .iface _ d => uptoBulk d + 1
  | .map entries => uptoBulkEntries entries + 1
  | .held _ => 1
def uptoBulkAll {H : Type} : List (DataW H) → Nat
  | [] => 0
  | d :: r => uptoBulk d + uptoBulkAll r
def uptoBulkEntries {H : Type} : List (Lit × DataW H) → Nat
  | [] => 0
  | x :: r => uptoBulkEntry x + uptoBulkEntries r
def uptoBulkEntry {H : Type} : Lit × DataW H → Nat
  | (.string bytes, d) => bytes.length + uptoBulk d + 1
  | (_, d) => uptoBulk d + 1
 end
def uptoSmall : (H : Type) → List (DataW H) → Bool := fun _ ds => decide (uptoBulkAll ds ≤ 1048576)
def OpenSpec.upto (s : _root_.Go.ChangeSpec) : _root_.Go.OpenSpec := { _root_.Go.OpenSpec.ofChange s with cond := some uptoSmall }

/-- 'embrasurelaw12.ExtentPlays', WHERE WHAT IT READS IS OF BULK AT MOST 1048576: true; the input reads as it did. -/
def extentPlaysUptoRow : OpenClaim := { program := "ytmepnnlmhlndmaadoor", sum := "8155c23fc4114aa375a475796ae4034935def3be5bc255e0b570927c0f4ed2a2", func := "embrasure/embrasurelaw12.ExtentPlays", spec := "extentPlays", unfollowed := true, recurses := true, named := ["unicode/utf8.first", "unicode/utf8.acceptRanges"], apart := false, laid := [("unicode/utf8.acceptRanges", laid_unicode_utf8_acceptRanges), ("unicode/utf8.first", laid_unicode_utf8_first)], narrowed := true }
def ExtentPlaysUptoSaid : Prop := extentPlaysUptoRow.holds Tryd.pinned (OpenSpec.upto extentPlaysSpec)

/-- 'embrasurelaw12.ExtentApart', WHERE WHAT IT READS IS OF BULK AT MOST 1048576: true; the input reads as it did. -/
def extentApartUptoRow : OpenClaim := { program := "ytmepnnlmhlndmaadoor", sum := "8155c23fc4114aa375a475796ae4034935def3be5bc255e0b570927c0f4ed2a2", func := "embrasure/embrasurelaw12.ExtentApart", spec := "extentApart", unfollowed := true, recurses := true, named := ["unicode/utf8.first", "unicode/utf8.acceptRanges"], apart := false, laid := [("unicode/utf8.acceptRanges", laid_unicode_utf8_acceptRanges), ("unicode/utf8.first", laid_unicode_utf8_first)], narrowed := true }
def ExtentApartUptoSaid : Prop := extentApartUptoRow.holds Tryd.pinned (OpenSpec.upto extentApartSpec)

/-- 'embrasurelaw12.ExtentSplits', WHERE WHAT IT READS IS OF BULK AT MOST 1048576: true; the input reads as it did. -/
def extentSplitsUptoRow : OpenClaim := { program := "ytmepnnlmhlndmaadoor", sum := "8155c23fc4114aa375a475796ae4034935def3be5bc255e0b570927c0f4ed2a2", func := "embrasure/embrasurelaw12.ExtentSplits", spec := "extentSplits", unfollowed := true, recurses := true, named := ["unicode/utf8.first", "unicode/utf8.acceptRanges"], apart := false, laid := [("unicode/utf8.acceptRanges", laid_unicode_utf8_acceptRanges), ("unicode/utf8.first", laid_unicode_utf8_first)], narrowed := true }
def ExtentSplitsUptoSaid : Prop := extentSplitsUptoRow.holds Tryd.pinned (OpenSpec.upto extentSplitsSpec)

/-- 'embrasurelaw12.ExtentOwns', WHERE WHAT IT READS IS OF BULK AT MOST 1048576: true; the input reads as it did. -/
def extentOwnsUptoRow : OpenClaim := { program := "ytmepnnlmhlndmaadoor", sum := "8155c23fc4114aa375a475796ae4034935def3be5bc255e0b570927c0f4ed2a2", func := "embrasure/embrasurelaw12.ExtentOwns", spec := "extentOwns", unfollowed := true, recurses := true, named := ["unicode/utf8.first", "unicode/utf8.acceptRanges"], apart := false, laid := [("unicode/utf8.acceptRanges", laid_unicode_utf8_acceptRanges), ("unicode/utf8.first", laid_unicode_utf8_first)], narrowed := true }
def ExtentOwnsUptoSaid : Prop := extentOwnsUptoRow.holds Tryd.pinned (OpenSpec.upto extentOwnsSpec)

/-- 'embrasurelaw12.ExtentRoom', WHERE WHAT IT READS IS OF BULK AT MOST 1048576: true; the input reads as it did. -/
def extentRoomUptoRow : OpenClaim := { program := "ytmepnnlmhlndmaadoor", sum := "8155c23fc4114aa375a475796ae4034935def3be5bc255e0b570927c0f4ed2a2", func := "embrasure/embrasurelaw12.ExtentRoom", spec := "extentRoom", unfollowed := true, recurses := true, named := ["unicode/utf8.first", "unicode/utf8.acceptRanges"], apart := false, laid := [("unicode/utf8.acceptRanges", laid_unicode_utf8_acceptRanges), ("unicode/utf8.first", laid_unicode_utf8_first)], narrowed := true }
def ExtentRoomUptoSaid : Prop := extentRoomUptoRow.holds Tryd.pinned (OpenSpec.upto extentRoomSpec)

/-- 'embrasurelaw12.ExtentForks', WHERE WHAT IT READS IS OF BULK AT MOST 1048576: true; the input reads as it did. -/
def extentForksUptoRow : OpenClaim := { program := "ytmepnnlmhlndmaadoor", sum := "8155c23fc4114aa375a475796ae4034935def3be5bc255e0b570927c0f4ed2a2", func := "embrasure/embrasurelaw12.ExtentForks", spec := "extentForks", unfollowed := true, recurses := true, named := ["unicode/utf8.first", "unicode/utf8.acceptRanges"], apart := false, laid := [("unicode/utf8.acceptRanges", laid_unicode_utf8_acceptRanges), ("unicode/utf8.first", laid_unicode_utf8_first)], narrowed := true }
def ExtentForksUptoSaid : Prop := extentForksUptoRow.holds Tryd.pinned (OpenSpec.upto extentForksSpec)

end Rows
end Go.Proofs.YtmepnnlmhlndmaaDoor
