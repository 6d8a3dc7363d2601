/- A deed as it comes in, with all its bounds. -/
import Derived.Test.YtpmndhbcohjboaaRvIn2
namespace Go.Proofs.Ytpmndhbcohjboaa
open Go.ChangeShapes Go.WideShapes Go.ChangeAt Go.RowKit Go.ChangeMaps Go.Joins
set_option linter.unusedVariables false
section
variable {H : Type} {enc : TypeId × Value → H} {W : World} {base : Nat} {spare : Nat → Bool} {held : Bool}
set_option maxRecDepth 100000 in
theorem dd_cells2 {n : Nat} {cs : List Value} {x : DataW H × List MemPlace} (h : DataW.trod enc Try.prog W base spare held n 31 cs = some x) : ∃ d : Dd, cs = d.vs ∧ d.Ok ∧ (d.e ≤ 255 ∧ d.f ≤ 255) := by
  obtain ⟨xs, k, _, _, hl, hxl, hf⟩ := DataW.trod_struct Try.underlying31 h
  have hc : Try.prog.cellsOf 31 = 5 := by kernel_rfl
  have c1 : Try.prog.cellsOf 3 = 1 := by kernel_rfl
  have c3 : Try.prog.cellsOf 5 = 1 := by kernel_rfl
  rw [hc] at hl
  match xs, hxl, cs, hl with
  | [y0, y1, y2, y3, y4], _, [v0, v1, v2, v3, v4], _ =>
    have g0 := hf 0 _ rfl
    have g1 := hf 1 _ rfl
    have g2 := hf 2 _ rfl
    have g3 := hf 3 _ rfl
    have g4 := hf 4 _ rfl
    simp [c1, c3] at g0 g1 g2 g3 g4
    obtain ⟨o, e0, _, w0⟩ := DataW.trod_int Try.underlying3 g0
    obtain ⟨a, e1, _, w1⟩ := DataW.trod_int Try.underlying3 g1
    obtain ⟨b, e2, _, w2⟩ := DataW.trod_int Try.underlying3 g2
    obtain ⟨m, e3, _, w3⟩ := DataW.trod_int Try.underlying5 g3
    obtain ⟨q, e4, _, w4⟩ := DataW.trod_int Try.underlying5 g4
    cases e0
    cases e1
    cases e2
    cases e3
    cases e4
    exact ⟨⟨o, a, b, m, q⟩, rfl, ⟨(wf8 w3).1, (wf8 w4).1⟩, (wf8 w3).2, (wf8 w4).2⟩
theorem dd_open2 {r : Reach} {b0 : Nat} {v : Value} {d : DataW H} {p : List MemPlace} (hv : Value.okWide Try.prog W r b0 31 v) (h : DataW.Trod enc Try.prog W base spare held 31 v d p) : ∃ m : Dd, v = m.V ∧ m.Ok ∧ (m.e ≤ 255 ∧ m.f ≤ 255) := by
  obtain ⟨cs, rfl, hsz⟩ := okWide_struct Try.underlying31 hv
  obtain ⟨fuel, hf⟩ := h
  obtain ⟨s, hs, hk⟩ := dd_cells2 hf
  refine ⟨s, ?_, hk⟩
  have hs : cs.toList = s.vs := hs
  unfold Dd.V
  rw [← hs]
end
end Go.Proofs.Ytpmndhbcohjboaa
