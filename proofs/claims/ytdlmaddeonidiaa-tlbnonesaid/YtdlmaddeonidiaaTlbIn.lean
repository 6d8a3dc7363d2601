/- Deeds and mappings as they come in. -/
import Derived.Test.YtdlmaddeonidiaaTlbA
import Derived.Test.YtdlmaddeonidiaaTlbB
import Derived.ProofKit
import Derived.OpenShut
import Derived.Lib.SmallJoins
import Derived.ChangeSlices
import Derived.Carry
import Derived.Deep.Slices
import Derived.Deep.SlicePairs
namespace Go.Proofs.Ytdlmaddeonidiaa
open Go.ChangeShapes Go.WideShapes Go.ChangeAt Go.RowKit Go.ChangeMaps Go.Joins
set_option linter.unusedVariables false
theorem laidOut : laidOutB Try.prog = true := by kernel_rfl
theorem own : ownKnob Try.prog.godebug = none := by kernel_rfl
theorem wf8 {x : Int} (h : (Lit.int .u8 x).wf = true) : 0 ≤ x ∧ x ≤ 255 := by simpa [Lit.wf, IntKind.min, IntKind.max, IntKind.signed, IntKind.bits] using h
theorem wf16 {x : Int} (h : (Lit.int .u16 x).wf = true) : 0 ≤ x ∧ x ≤ 65535 := by simpa [Lit.wf, IntKind.min, IntKind.max, IntKind.signed, IntKind.bits] using h
theorem wf64 {x : Int} (h : (Lit.int .i64 x).wf = true) : -9223372036854775808 ≤ x ∧ x ≤ 9223372036854775807 := by simpa [Lit.wf, IntKind.min, IntKind.max, IntKind.signed, IntKind.bits] using h
theorem plain_add (g off j : Nat) : (⟨g, off, none⟩ : Addr).add j = ⟨g, off + j, none⟩ := by unfold Addr.add; split <;> simp_all
set_option maxRecDepth 100000 in
theorem mp_cells {H : Type} {enc : TypeId × Value → H} {W : World} {base n : Nat} {spare : Nat → Bool} {held : Bool} {cs : List Value} {x : DataW H × List MemPlace} (h : DataW.trod enc Try.prog W base spare held n 23 cs = some x) :
    ∃ m : Mp, cs = [.int .u8 m.1, .int .u8 m.2.1, .int .u8 m.2.2.1, .bool m.2.2.2] ∧ MpOk m := by
  obtain ⟨xs, k, _, _, hl, hxl, hf⟩ := DataW.trod_struct Try.underlying23 h
  have hc : Try.prog.cellsOf 23 = 4 := by kernel_rfl
  have c1 : Try.prog.cellsOf 5 = 1 := by kernel_rfl
  have c3 : Try.prog.cellsOf 4 = 1 := by kernel_rfl
  rw [hc] at hl
  match xs, hxl, cs, hl with
  | [y0, y1, y2, y3], _, [v0, v1, v2, v3], _ =>
    have g0 := hf 0 _ rfl
    have g1 := hf 1 _ rfl
    have g2 := hf 2 _ rfl
    have g3 := hf 3 _ rfl
    simp [c1, c3] at g0 g1 g2 g3
    obtain ⟨o, e0, _, w0⟩ := DataW.trod_int Try.underlying5 g0
    obtain ⟨a, e1, _, w1⟩ := DataW.trod_int Try.underlying5 g1
    obtain ⟨b, e2, _, w2⟩ := DataW.trod_int Try.underlying5 g2
    obtain ⟨m, e3, _⟩ := DataW.trod_bool Try.underlying4 g3
    cases e0
    cases e1
    cases e2
    cases e3
    exact ⟨(o, a, b, m), rfl, (wf8 w0).1, (wf8 w0).2, (wf8 w1).1, (wf8 w1).2, (wf8 w2).1, (wf8 w2).2⟩
set_option maxRecDepth 100000 in
theorem mp_open {H : Type} {enc : TypeId × Value → H} {W : World} {base b0 : Nat} {r : Reach} {v : Value} {d : DataW H} {p : List MemPlace} (hv : Value.okWide Try.prog W r b0 23 v) (h : DataW.Trod enc Try.prog W base (fun _ => true) true 23 v d p) :
    ∃ m : Mp, v = mpV m ∧ MpOk m := by
  obtain ⟨v0, v1, v2, v3, y0, y1, y2, y3, n, rfl, rfl, rfl, h0, h1, h2, h3⟩ := open_agg4 Try.underlying23 (by kernel_rfl) (by kernel_rfl) hv h
  obtain ⟨o, e0, _, w0⟩ := DataW.trod_int Try.underlying5 h0
  obtain ⟨a, e1, _, w1⟩ := DataW.trod_int Try.underlying5 h1
  obtain ⟨b, e2, _, w2⟩ := DataW.trod_int Try.underlying5 h2
  obtain ⟨m, e3, _⟩ := DataW.trod_bool Try.underlying4 h3
  cases e0
  cases e1
  cases e2
  cases e3
  exact ⟨(o, a, b, m), rfl, (wf8 w0).1, (wf8 w0).2, (wf8 w1).1, (wf8 w1).2, (wf8 w2).1, (wf8 w2).2⟩
/-- Deeds that can be read. -/
def DdsIn (w : World) (v : Value) (l : List Dd) : Prop := ∃ a cap, v = .slice a l.length cap ∧ ∀ j d, l[j]? = some d → ∃ g off, a = some ⟨g, off, none⟩ ∧ w.cell? ⟨g, off + j * 5, none⟩ = some (.int .i64 d.1) ∧ w.cell? ⟨g, off + j * 5 + 1, none⟩ = some (.int .u8 d.2.1) ∧ w.cell? ⟨g, off + j * 5 + 2, none⟩ = some (.int .u8 d.2.2.1) ∧ w.cell? ⟨g, off + j * 5 + 3, none⟩ = some (.int .u8 d.2.2.2.1) ∧ w.cell? ⟨g, off + j * 5 + 4, none⟩ = some (.bool d.2.2.2.2)
end Go.Proofs.Ytdlmaddeonidiaa
