/- A capability as it comes in and goes out. -/
import Derived.Test.YtbkllkkgnhdibaaRows
import Derived.Test.YtbkllkkgnhdibaaNameP
import Derived.ProofKit
import Derived.OpenShut
import Derived.Lib.SmallJoins
namespace Go.Proofs.Ytbkllkkgnhdibaa
open Go.ChangeShapes Go.WideShapes Go.ChangeAt Go.RowKit Go.ChangeMaps Go.Joins
theorem own : ownKnob Try.prog.godebug = none := by kernel_rfl
theorem u8_bits {x : Int} (h : (Lit.int .u8 x).wf = true) : ∃ r : BitVec 8, x = (r.toNat : Int) := by
  have b : 0 ≤ x ∧ x ≤ 255 := by simpa [Lit.wf, IntKind.min, IntKind.max, IntKind.signed, IntKind.bits] using h
  refine ⟨BitVec.ofNat 8 x.toNat, ?_⟩
  rw [BitVec.toNat_ofNat]
  omega
theorem bits_u8 (r : BitVec 8) : (Lit.int .u8 (r.toNat : Int)).wf = true := by
  have := r.isLt
  have b : 0 ≤ (r.toNat : Int) ∧ (r.toNat : Int) ≤ 255 := by omega
  simpa [Lit.wf, IntKind.min, IntKind.max, IntKind.signed, IntKind.bits] using b
section
variable {H : Type} {enc : TypeId × Value → H} {W : World} {base : Nat} {spare : Nat → Bool} {held : Bool}
def capD (n : ByteArray) (r : BitVec 8) : DataW H := .agg [.lit (.string n.data.toList), .lit (.int .u8 (r.toNat : Int))]
theorem cap_open {r : Reach} {b0 : Nat} {v : Value} {d : DataW H} {p : List MemPlace} (hv : Value.okWide Try.prog W r b0 24 v) (h : DataW.Trod enc Try.prog W base spare held 24 v d p) :
    ∃ n x, v = capV n ((x : BitVec 8).toNat : Int) ∧ d = capD n x ∧ p = [] ∧ n.size ≤ maxLen := by
  obtain ⟨v0, v1, y0, y1, m, rfl, rfl, rfl, h0, h1⟩ := open_agg2 Try.underlying24 (by kernel_rfl) (by kernel_rfl) hv h
  obtain ⟨s, e0, rfl, hs⟩ := DataW.trod_string Try.underlying9 h0
  obtain ⟨x, e1, rfl, hx⟩ := DataW.trod_int Try.underlying5 h1
  obtain ⟨r, rfl⟩ := u8_bits hx
  cases e0
  cases e1
  exact ⟨s, r, rfl, rfl, rfl, hs⟩
theorem cap_shut (n : ByteArray) (x : BitVec 8) (hn : n.size ≤ maxLen) : DataW.Trod enc Try.prog W base spare held 24 (capV n (x.toNat : Int)) (capD n x) [] := by
  obtain ⟨m0, t0⟩ := shut_string (enc := enc) (w := W) (base := base) (sp := spare) (held := held) Try.underlying9 hn
  obtain ⟨m1, t1⟩ := shut_int (enc := enc) (w := W) (base := base) (spare := spare) (held := held) Try.underlying5 (bits_u8 x)
  exact shut_agg2 (y0 := (_, [])) (y1 := (_, [])) Try.underlying24 (by kernel_rfl) (by kernel_rfl) ⟨m0, t0⟩ ⟨m1, t1⟩
end
end Go.Proofs.Ytbkllkkgnhdibaa
