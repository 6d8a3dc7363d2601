/- A deed on a disk, as it comes in. -/
import Derived.Test.YtcffjlokmdddcaaMemA
import Derived.ProofKit
import Derived.OpenShut
import Derived.Lib.SmallJoins
import Derived.ChangeSlices
import Derived.Carry
import Derived.Deep.Slices
namespace Go.Proofs.Ytcffjlokmdddcaa
open Go.ChangeShapes Go.WideShapes Go.ChangeAt Go.RowKit Go.ChangeMaps Go.Joins
set_option linter.unusedVariables false
theorem laidOut : laidOutB Try.prog = true := by kernel_rfl
theorem own : ownKnob Try.prog.godebug = none := by kernel_rfl
set_option maxRecDepth 100000 in
theorem rq_cells {H : Type} {enc : TypeId × Value → H} {W : World} {base n : Nat} {spare : Nat → Bool} {held : Bool} {cs : List Value} {x : DataW H × List MemPlace} (h : DataW.trod enc Try.prog W base spare held n 45 cs = some x) :
    ∃ r0 r1 r2 r3 r4, cs = [.int .u32 r0, .bool r1, .int .i64 r2, .int .i64 r3, .int .u8 r4] := by
  obtain ⟨xs, m, _, _, hl, hxl, hf⟩ := DataW.trod_struct Try.underlying45 h
  have hc : Try.prog.cellsOf 45 = 5 := by kernel_rfl
  have c1 : Try.prog.cellsOf 3 = 1 := by kernel_rfl
  have c2 : Try.prog.cellsOf 43 = 1 := by kernel_rfl
  have c3 : Try.prog.cellsOf 4 = 1 := by kernel_rfl
  have c4 : Try.prog.cellsOf 5 = 1 := by kernel_rfl
  rw [hc] at hl
  match xs, hxl, cs, hl with
  | [y0, y1, y2, y3, y4], _, [v0, v1, v2, v3, v4], _ =>
    have g0 := hf 0 _ rfl
    have g1 := hf 1 _ rfl
    have g2 := hf 2 _ rfl
    have g3 := hf 3 _ rfl
    have g4 := hf 4 _ rfl
    simp [c1, c2, c3, c4] at g0 g1 g2 g3 g4
    obtain ⟨r0, e0, _, w0⟩ := DataW.trod_int Try.underlying43 g0
    obtain ⟨r1, e1, _⟩ := DataW.trod_bool Try.underlying4 g1
    obtain ⟨r2, e2, _, w2⟩ := DataW.trod_int Try.underlying3 g2
    obtain ⟨r3, e3, _, w3⟩ := DataW.trod_int Try.underlying3 g3
    obtain ⟨r4, e4, _, w4⟩ := DataW.trod_int Try.underlying5 g4
    cases e0
    cases e1
    cases e2
    cases e3
    cases e4
    exact ⟨r0, r1, r2, r3, r4, rfl⟩
set_option maxRecDepth 100000 in
theorem ded_cells {H : Type} {enc : TypeId × Value → H} {W : World} {base n : Nat} {spare : Nat → Bool} {held : Bool} {cs : List Value} {x : DataW H × List MemPlace} (h : DataW.trod enc Try.prog W base spare held n 60 cs = some x) :
    ∃ k i r0 r1 r2 r3 r4 v, cs = [.int .i64 k, .int .i64 i, .int .u32 r0, .bool r1, .int .i64 r2, .int .i64 r3, .int .u8 r4, v] := by
  obtain ⟨xs, m, _, _, hl, hxl, hf⟩ := DataW.trod_struct Try.underlying60 h
  have hc : Try.prog.cellsOf 60 = 8 := by kernel_rfl
  have c1 : Try.prog.cellsOf 3 = 1 := by kernel_rfl
  have c2 : Try.prog.cellsOf 45 = 5 := by kernel_rfl
  rw [hc] at hl
  match xs, hxl, cs, hl with
  | [y0, y1, y2, y3], _, [v0, v1, v2, v3, v4, v5, v6, v7], _ =>
    have g0 := hf 0 _ rfl
    have g1 := hf 1 _ rfl
    have g2 := hf 2 _ rfl
    simp [c1, c2] at g0 g1 g2
    obtain ⟨k, e0, _, w0⟩ := DataW.trod_int Try.underlying3 g0
    obtain ⟨i, e1, _, w1⟩ := DataW.trod_int Try.underlying3 g1
    obtain ⟨r0, r1, r2, r3, r4, e2⟩ := rq_cells g2
    cases e0
    cases e1
    cases e2
    exact ⟨k, i, r0, r1, r2, r3, r4, v7, rfl⟩
set_option maxRecDepth 100000 in
theorem ded_open {H : Type} {enc : TypeId × Value → H} {W : World} {base b0 : Nat} {r : Reach} {v : Value} {d : DataW H} {p : List MemPlace} (hv : Value.okWide Try.prog W r b0 60 v) (h : DataW.Trod enc Try.prog W base (fun _ => true) true 60 v d p) :
    ∃ k i r0 r1 r2 r3 r4 u, v = .agg #[.int .i64 k, .int .i64 i, .int .u32 r0, .bool r1, .int .i64 r2, .int .i64 r3, .int .u8 r4, u] := by
  obtain ⟨cs, rfl, hsz⟩ := okWide_struct Try.underlying60 hv
  obtain ⟨fuel, hf⟩ := h
  obtain ⟨k, i, r0, r1, r2, r3, r4, u, e⟩ := ded_cells hf
  obtain ⟨cl⟩ := cs
  simp [Value.cells] at e
  subst e
  exact ⟨k, i, r0, r1, r2, r3, r4, u, rfl⟩
end Go.Proofs.Ytcffjlokmdddcaa
