/- A deed on a memory, as it comes in. -/
import Derived.Test.YthkoppfponedhabMemA
import Derived.ProofKit
import Derived.OpenShut
import Derived.Lib.SmallJoins
import Derived.ChangeSlices
import Derived.Carry
import Derived.Deep.Slices
namespace Go.Proofs.Ythkoppfponedhab
open Go.ChangeShapes Go.WideShapes Go.ChangeAt Go.RowKit Go.ChangeMaps Go.Joins
set_option linter.unusedVariables false
theorem laidOut : laidOutB Try.prog = true := by kernel_rfl
theorem own : ownKnob Try.prog.godebug = none := by kernel_rfl
set_option maxRecDepth 100000 in
theorem md_cells {H : Type} {enc : TypeId × Value → H} {W : World} {base n : Nat} {spare : Nat → Bool} {held : Bool} {cs : List Value} {x : DataW H × List MemPlace} (h : DataW.trod enc Try.prog W base spare held n 26 cs = some x) :
    ∃ k f o y v, cs = [.int .i64 k, .int .i64 f, .int .i64 o, .int .u16 y, v] := by
  obtain ⟨xs, m, _, _, hl, hxl, hf⟩ := DataW.trod_struct Try.underlying26 h
  have hc : Try.prog.cellsOf 26 = 5 := by kernel_rfl
  have c1 : Try.prog.cellsOf 3 = 1 := by kernel_rfl
  have c2 : Try.prog.cellsOf 23 = 1 := by kernel_rfl
  rw [hc] at hl
  match xs, hxl, cs, hl with
  | [y0, y1, y2, y3, y4], _, [v0, v1, v2, v3, v4], _ =>
    have g0 := hf 0 _ rfl
    have g1 := hf 1 _ rfl
    have g2 := hf 2 _ rfl
    have g3 := hf 3 _ rfl
    simp [c1, c2] at g0 g1 g2 g3
    obtain ⟨k, e0, _, w0⟩ := DataW.trod_int Try.underlying3 g0
    obtain ⟨f, e1, _, w1⟩ := DataW.trod_int Try.underlying3 g1
    obtain ⟨o, e2, _, w2⟩ := DataW.trod_int Try.underlying3 g2
    obtain ⟨y, e3, _, w3⟩ := DataW.trod_int Try.underlying23 g3
    cases e0
    cases e1
    cases e2
    cases e3
    exact ⟨k, f, o, y, v4, rfl⟩
set_option maxRecDepth 100000 in
theorem md_open {H : Type} {enc : TypeId × Value → H} {W : World} {base b0 : Nat} {r : Reach} {v : Value} {d : DataW H} {p : List MemPlace} (hv : Value.okWide Try.prog W r b0 26 v) (h : DataW.Trod enc Try.prog W base (fun _ => true) true 26 v d p) :
    ∃ k f o y u, v = .agg #[.int .i64 k, .int .i64 f, .int .i64 o, .int .u16 y, u] := by
  obtain ⟨cs, rfl, hsz⟩ := okWide_struct Try.underlying26 hv
  obtain ⟨fuel, hf⟩ := h
  obtain ⟨k, f, o, y, u, e⟩ := md_cells hf
  obtain ⟨cl⟩ := cs
  simp [Value.cells] at e
  subst e
  exact ⟨k, f, o, y, u, rfl⟩
end Go.Proofs.Ythkoppfponedhab
