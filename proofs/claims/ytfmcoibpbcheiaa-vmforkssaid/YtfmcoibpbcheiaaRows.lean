/-
  No cell of these rows narrows 'for every input' (looked for: loops, veiled, ifaces, maps, wideKeys, modest, calm, conditions, laid).
  DERIVED. THE GIVEN ROWS OF THIS SEAT. 4 by the template 'for every input the law returns true; each argument reads behind the call as it read before'; 0 by the template 'total and deterministic' (their statements: YtfmcoibpbcheiaaTotals.lean).
  GIVEN WITH THE SEED: the statements are not yours to turn. If you find one false, say at which input.
  Laid BY PROGRAM, IN A SANDBOX (cutbox-rows.mjs): the forced cells as the released guide's own fill.sh prints them over the translation c67d2d1607ae74e5… (all of the seat's roots in one cut). By AI agents, Wed Nov 11 2026. No macro, syntax, notation, axiom, sorry.
-/
import Derived.Test.YtfmcoibpbcheiaaChecked
import GoSem.Claim
import GoSem.ClaimJoined
import GoSem.ClaimMapViews
import Derived.JoinedTies
import Derived.KernelRfl
namespace Go.Proofs.Ytfmcoibpbcheiaa
/- THE CELL 'sum', in the pinned program and in every row, IS THE sha256 OF THE DUMP (.gsa) THAT YtfmcoibpbcheiaaProg.lean LOADS. Nothing in Lean hashes anything: it is a label: what it is worth is what the hold of that sum in a sandbox is worth. -/
noncomputable def Try.pinned : Pinned := { name := "ytfmcoibpbcheiaa", sum := "c67d2d1607ae74e5cf3714430504d0d33b6b1219fe318082304065dc7537e06e", checked := Try.checked }
namespace Rows
def none {H : Type} : Left H := { results := [], args := [] }

/-- 'embrasurelaw19.VmPlays': WHATEVER THE INPUT: true; the input reads as it did. -/
def vmPlaysSpec : ChangeSpec := { name := "vmPlays", fn := fun _ => fun
  | [d1, d2] => { results := [.lit (.bool true)], args := [d1, d2] }
  | _ => none }
def vmPlaysRow : OpenClaim := { program := "ytfmcoibpbcheiaa", sum := "c67d2d1607ae74e5cf3714430504d0d33b6b1219fe318082304065dc7537e06e", func := "embrasure/embrasurelaw19.VmPlays", spec := "vmPlays", unfollowed := true, recurses := true, apart := false }
def VmPlaysSaid : Prop := vmPlaysRow.holds Try.pinned (OpenSpec.ofChange vmPlaysSpec)

/-- ITS FALSE NEIGHBOUR: 'it returns false'. Refute it at one input. -/
def vmPlaysWrong : ChangeSpec := { name := "vmPlays", fn := fun _ => fun
  | [d1, d2] => { results := [.lit (.bool false)], args := [d1, d2] }
  | _ => none }
def VmPlaysWrongFalsely : Prop := vmPlaysRow.holds Try.pinned (OpenSpec.ofChange vmPlaysWrong)

/-- 'embrasurelaw19.VmEnds': WHATEVER THE INPUT: true; the input reads as it did. -/
def vmEndsSpec : ChangeSpec := { name := "vmEnds", fn := fun _ => fun
  | [d1, d2] => { results := [.lit (.bool true)], args := [d1, d2] }
  | _ => none }
def vmEndsRow : OpenClaim := { program := "ytfmcoibpbcheiaa", sum := "c67d2d1607ae74e5cf3714430504d0d33b6b1219fe318082304065dc7537e06e", func := "embrasure/embrasurelaw19.VmEnds", spec := "vmEnds", apart := false }
def VmEndsSaid : Prop := vmEndsRow.holds Try.pinned (OpenSpec.ofChange vmEndsSpec)

/-- ITS FALSE NEIGHBOUR: 'it returns false'. Refute it at one input. -/
def vmEndsWrong : ChangeSpec := { name := "vmEnds", fn := fun _ => fun
  | [d1, d2] => { results := [.lit (.bool false)], args := [d1, d2] }
  | _ => none }
def VmEndsWrongFalsely : Prop := vmEndsRow.holds Try.pinned (OpenSpec.ofChange vmEndsWrong)

/-- 'embrasurelaw19.VmFills': WHATEVER THE INPUT: true; the input reads as it did. -/
def vmFillsSpec : ChangeSpec := { name := "vmFills", fn := fun _ => fun
  | [d1, d2, d3] => { results := [.lit (.bool true)], args := [d1, d2, d3] }
  | _ => none }
def vmFillsRow : OpenClaim := { program := "ytfmcoibpbcheiaa", sum := "c67d2d1607ae74e5cf3714430504d0d33b6b1219fe318082304065dc7537e06e", func := "embrasure/embrasurelaw19.VmFills", spec := "vmFills", inPlace := ["maps.clone"], apart := false }
def VmFillsSaid : Prop := vmFillsRow.holds Try.pinned (OpenSpec.ofChange vmFillsSpec)

/-- ITS FALSE NEIGHBOUR: 'it returns false'. Refute it at one input. -/
def vmFillsWrong : ChangeSpec := { name := "vmFills", fn := fun _ => fun
  | [d1, d2, d3] => { results := [.lit (.bool false)], args := [d1, d2, d3] }
  | _ => none }
def VmFillsWrongFalsely : Prop := vmFillsRow.holds Try.pinned (OpenSpec.ofChange vmFillsWrong)

/-- 'embrasurelaw19.VmForks': WHATEVER THE INPUT: true; the input reads as it did. -/
def vmForksSpec : ChangeSpec := { name := "vmForks", fn := fun _ => fun
  | [d1, d2, d3] => { results := [.lit (.bool true)], args := [d1, d2, d3] }
  | _ => none }
def vmForksRow : OpenClaim := { program := "ytfmcoibpbcheiaa", sum := "c67d2d1607ae74e5cf3714430504d0d33b6b1219fe318082304065dc7537e06e", func := "embrasure/embrasurelaw19.VmForks", spec := "vmForks", inPlace := ["maps.clone"], unfollowed := true, recurses := true, apart := false }
def VmForksSaid : Prop := vmForksRow.holds Try.pinned (OpenSpec.ofChange vmForksSpec)

/-- ITS FALSE NEIGHBOUR: 'it returns false'. Refute it at one input. -/
def vmForksWrong : ChangeSpec := { name := "vmForks", fn := fun _ => fun
  | [d1, d2, d3] => { results := [.lit (.bool false)], args := [d1, d2, d3] }
  | _ => none }
def VmForksWrongFalsely : Prop := vmForksRow.holds Try.pinned (OpenSpec.ofChange vmForksWrong)

/- THE SECOND FORM. 'bulk': how many values and letters a reading holds, each counted each time it is reached (what is shared counts as often as it is met; a slice's spare places count too). A statement '..UptoSaid' is the law's where the arguments, and the package variables that the reading takes, are together of bulk at most 1048576: NARROWER than '..Said'. Prove '..Said' where nothing that the law and all that it calls make is longer than what came in: it says more and counts as full. Else prove '..UptoSaid'. A law counts once. -/
mutual
def uptoBulk {H : Type} : DataW H → Nat
  | .lit (.string bytes) => bytes.length + 1
  | .lit _ => 1
  | .nil => 1
  | .ptr d => uptoBulk d + 1
  | .slice elems spare => uptoBulkAll elems + uptoBulkAll spare + 1
  | .agg parts => uptoBulkAll parts + 1
  | .iface _ d => uptoBulk d + 1
  | .map entries => uptoBulkEntries entries + 1
  | .held _ => 1
def uptoBulkAll {H : Type} : List (DataW H) → Nat
  | [] => 0
  | d :: r => uptoBulk d + uptoBulkAll r
def uptoBulkEntries {H : Type} : List (Lit × DataW H) → Nat
  | [] => 0
  | x :: r => uptoBulkEntry x + uptoBulkEntries r
def uptoBulkEntry {H : Type} : Lit × DataW H → Nat
  | (.string bytes, d) => bytes.length + uptoBulk d + 1
  | (_, d) => uptoBulk d + 1
 end
def uptoSmall : (H : Type) → List (DataW H) → Bool := fun _ ds => decide (uptoBulkAll ds ≤ 1048576)
def OpenSpec.upto (s : _root_.Go.ChangeSpec) : _root_.Go.OpenSpec := { _root_.Go.OpenSpec.ofChange s with cond := some uptoSmall }

/-- 'embrasurelaw19.VmPlays', WHERE WHAT IT READS IS OF BULK AT MOST 1048576: true; the input reads as it did. -/
def vmPlaysUptoRow : OpenClaim := { program := "ytfmcoibpbcheiaa", sum := "c67d2d1607ae74e5cf3714430504d0d33b6b1219fe318082304065dc7537e06e", func := "embrasure/embrasurelaw19.VmPlays", spec := "vmPlays", unfollowed := true, recurses := true, apart := false, narrowed := true }
def VmPlaysUptoSaid : Prop := vmPlaysUptoRow.holds Try.pinned (OpenSpec.upto vmPlaysSpec)

/-- 'embrasurelaw19.VmEnds', WHERE WHAT IT READS IS OF BULK AT MOST 1048576: true; the input reads as it did. -/
def vmEndsUptoRow : OpenClaim := { program := "ytfmcoibpbcheiaa", sum := "c67d2d1607ae74e5cf3714430504d0d33b6b1219fe318082304065dc7537e06e", func := "embrasure/embrasurelaw19.VmEnds", spec := "vmEnds", apart := false, narrowed := true }
def VmEndsUptoSaid : Prop := vmEndsUptoRow.holds Try.pinned (OpenSpec.upto vmEndsSpec)

/-- 'embrasurelaw19.VmFills', WHERE WHAT IT READS IS OF BULK AT MOST 1048576: true; the input reads as it did. -/
def vmFillsUptoRow : OpenClaim := { program := "ytfmcoibpbcheiaa", sum := "c67d2d1607ae74e5cf3714430504d0d33b6b1219fe318082304065dc7537e06e", func := "embrasure/embrasurelaw19.VmFills", spec := "vmFills", inPlace := ["maps.clone"], apart := false, narrowed := true }
def VmFillsUptoSaid : Prop := vmFillsUptoRow.holds Try.pinned (OpenSpec.upto vmFillsSpec)

/-- 'embrasurelaw19.VmForks', WHERE WHAT IT READS IS OF BULK AT MOST 1048576: true; the input reads as it did. -/
def vmForksUptoRow : OpenClaim := { program := "ytfmcoibpbcheiaa", sum := "c67d2d1607ae74e5cf3714430504d0d33b6b1219fe318082304065dc7537e06e", func := "embrasure/embrasurelaw19.VmForks", spec := "vmForks", inPlace := ["maps.clone"], unfollowed := true, recurses := true, apart := false, narrowed := true }
def VmForksUptoSaid : Prop := vmForksUptoRow.holds Try.pinned (OpenSpec.upto vmForksSpec)

end Rows
end Go.Proofs.Ytfmcoibpbcheiaa
