/- Deeds and mappings as they come in. -/
import Derived.Test.YtojglefbmfpphaaTlbA
import Derived.Test.YtojglefbmfpphaaTlbB
import Derived.ProofKit
import Derived.OpenShut
import Derived.Lib.SmallJoins
import Derived.ChangeSlices
import Derived.Carry
import Derived.Deep.Slices
import Derived.Deep.SlicePairs
namespace Go.Proofs.Ytojglefbmfpphaa
open Go.ChangeShapes Go.WideShapes Go.ChangeAt Go.RowKit Go.ChangeMaps Go.Joins
set_option linter.unusedVariables false
theorem laidOut : laidOutB Try.prog = true := by kernel_rfl
theorem own : ownKnob Try.prog.godebug = none := by kernel_rfl
theorem wf8 {x : Int} (h : (Lit.int .u8 x).wf = true) : 0 ≤ x ∧ x ≤ 255 := by simpa [Lit.wf, IntKind.min, IntKind.max, IntKind.signed, IntKind.bits] using h
theorem wf16 {x : Int} (h : (Lit.int .u16 x).wf = true) : 0 ≤ x ∧ x ≤ 65535 := by simpa [Lit.wf, IntKind.min, IntKind.max, IntKind.signed, IntKind.bits] using h
theorem wf64 {x : Int} (h : (Lit.int .i64 x).wf = true) : -9223372036854775808 ≤ x ∧ x ≤ 9223372036854775807 := by simpa [Lit.wf, IntKind.min, IntKind.max, IntKind.signed, IntKind.bits] using h
theorem plain_add (g off j : Nat) : (⟨g, off, none⟩ : Addr).add j = ⟨g, off + j, none⟩ := by unfold Addr.add; split <;> simp_all
set_option maxRecDepth 100000 in
theorem mp_cells {H : Type} {enc : TypeId × Value → H} {W : World} {base n : Nat} {spare : Nat → Bool} {held : Bool} {cs : List Value} {x : DataW H × List MemPlace} (h : DataW.trod enc Try.prog W base spare held n 33 cs = some x) :
    ∃ m : Mp, cs = [.int .u8 m.1, .int .u8 m.2.1, .int .u8 m.2.2.1, .bool m.2.2.2] ∧ MpOk m := by
  obtain ⟨xs, k, _, _, hl, hxl, hf⟩ := DataW.trod_struct Try.underlying33 h
  have hc : Try.prog.cellsOf 33 = 4 := by kernel_rfl
  have c1 : Try.prog.cellsOf 5 = 1 := by kernel_rfl
  have c3 : Try.prog.cellsOf 4 = 1 := by kernel_rfl
  rw [hc] at hl
  match xs, hxl, cs, hl with
  | [y0, y1, y2, y3], _, [v0, v1, v2, v3], _ =>
    have g0 := hf 0 _ rfl
    have g1 := hf 1 _ rfl
    have g2 := hf 2 _ rfl
    have g3 := hf 3 _ rfl
    simp [c1, c3] at g0 g1 g2 g3
    obtain ⟨o, e0, _, w0⟩ := DataW.trod_int Try.underlying5 g0
    obtain ⟨a, e1, _, w1⟩ := DataW.trod_int Try.underlying5 g1
    obtain ⟨b, e2, _, w2⟩ := DataW.trod_int Try.underlying5 g2
    obtain ⟨m, e3, _⟩ := DataW.trod_bool Try.underlying4 g3
    cases e0
    cases e1
    cases e2
    cases e3
    exact ⟨(o, a, b, m), rfl, (wf8 w0).1, (wf8 w0).2, (wf8 w1).1, (wf8 w1).2, (wf8 w2).1, (wf8 w2).2⟩
set_option maxRecDepth 100000 in
theorem dd_cells {H : Type} {enc : TypeId × Value → H} {W : World} {base n : Nat} {spare : Nat → Bool} {held : Bool} {cs : List Value} {x : DataW H × List MemPlace} (h : DataW.trod enc Try.prog W base spare held n 51 cs = some x) :
    ∃ d : Dd, cs = [.int .i64 d.1, .int .u8 d.2.1, .int .u8 d.2.2.1, .int .u8 d.2.2.2.1, .bool d.2.2.2.2] ∧ DdOk d := by
  obtain ⟨xs, k, _, _, hl, hxl, hf⟩ := DataW.trod_struct Try.underlying51 h
  have hc : Try.prog.cellsOf 51 = 5 := by kernel_rfl
  have c1 : Try.prog.cellsOf 3 = 1 := by kernel_rfl
  have c4 : Try.prog.cellsOf 33 = 4 := by kernel_rfl
  rw [hc] at hl
  match xs, hxl, cs, hl with
  | [y0, y1], _, [v0, v1, v2, v3, v4], _ =>
    have g0 := hf 0 _ rfl
    have g1 := hf 1 _ rfl
    simp [c1, c4] at g0 g1
    obtain ⟨o, e0, _, w0⟩ := DataW.trod_int Try.underlying3 g0
    obtain ⟨m, e1, hm⟩ := mp_cells g1
    cases e0
    injection e1 with e1 e2
    injection e2 with e2 e3
    injection e3 with e3 e4
    injection e4 with e4 e5
    subst e1 e2 e3 e4
    exact ⟨(o, m), rfl, (wf64 w0).1, (wf64 w0).2, hm⟩
set_option maxRecDepth 100000 in
theorem mp_open {H : Type} {enc : TypeId × Value → H} {W : World} {base b0 : Nat} {r : Reach} {v : Value} {d : DataW H} {p : List MemPlace} (hv : Value.okWide Try.prog W r b0 33 v) (h : DataW.Trod enc Try.prog W base (fun _ => true) true 33 v d p) :
    ∃ m : Mp, v = mpV m ∧ MpOk m := by
  obtain ⟨v0, v1, v2, v3, y0, y1, y2, y3, n, rfl, rfl, rfl, h0, h1, h2, h3⟩ := open_agg4 Try.underlying33 (by kernel_rfl) (by kernel_rfl) hv h
  obtain ⟨o, e0, _, w0⟩ := DataW.trod_int Try.underlying5 h0
  obtain ⟨a, e1, _, w1⟩ := DataW.trod_int Try.underlying5 h1
  obtain ⟨b, e2, _, w2⟩ := DataW.trod_int Try.underlying5 h2
  obtain ⟨m, e3, _⟩ := DataW.trod_bool Try.underlying4 h3
  cases e0
  cases e1
  cases e2
  cases e3
  exact ⟨(o, a, b, m), rfl, (wf8 w0).1, (wf8 w0).2, (wf8 w1).1, (wf8 w1).2, (wf8 w2).1, (wf8 w2).2⟩
/-- Deeds that can be read. -/
def DdsIn (w : World) (v : Value) (l : List Dd) : Prop := ∃ a cap, v = .slice a l.length cap ∧ ∀ j d, l[j]? = some d → ∃ g off, a = some ⟨g, off, none⟩ ∧ w.cell? ⟨g, off + j * 5, none⟩ = some (.int .i64 d.1) ∧ w.cell? ⟨g, off + j * 5 + 1, none⟩ = some (.int .u8 d.2.1) ∧ w.cell? ⟨g, off + j * 5 + 2, none⟩ = some (.int .u8 d.2.2.1) ∧ w.cell? ⟨g, off + j * 5 + 3, none⟩ = some (.int .u8 d.2.2.2.1) ∧ w.cell? ⟨g, off + j * 5 + 4, none⟩ = some (.bool d.2.2.2.2)
set_option maxRecDepth 100000 in
theorem dds_open {H : Type} {enc : TypeId × Value → H} {W : World} {base b0 : Nat} {r : Reach} {v : Value} {d : DataW H} {p : List MemPlace} (hv : Value.okWide Try.prog W r b0 22 v) (h : DataW.Trod enc Try.prog W base (fun _ => true) true 22 v d p) :
    ∃ l, DdsIn W v l ∧ ∀ i ∈ l, DdOk i := by
  obtain ⟨a0, len, cap, rfl⟩ := okWide_slice Try.underlying22 hv
  obtain ⟨fuel, hf⟩ := h
  have hc : Try.prog.cellsOf 51 = 5 := by kernel_rfl
  rcases Deep.open_slice Try.underlying22 hf with ⟨hcs, _⟩ | ⟨a, len', cap', m, n, D, Pl, hcs, _, hl, hm, hmm, _, hx⟩
  · simp [Value.cells] at hcs
    obtain ⟨rfl, rfl, rfl⟩ := hcs
    exact ⟨[], ⟨none, 0, rfl, fun j i h => by cases h⟩, fun i h => by cases h⟩
  · simp [Value.cells] at hcs
    obtain ⟨rfl, rfl, rfl⟩ := hcs
    simp only [if_true] at hmm
    rw [hc] at hx
    have each : ∀ i, i < len → ∃ q : Dd, DdOk q ∧ W.cell? (a.add (i * 5)) = some (.int .i64 q.1) ∧ W.cell? ((a.add (i * 5)).add 1) = some (.int .u8 q.2.1) ∧ W.cell? ((a.add (i * 5)).add 2) = some (.int .u8 q.2.2.1) ∧ W.cell? ((a.add (i * 5)).add 3) = some (.int .u8 q.2.2.2.1) ∧ W.cell? ((a.add (i * 5)).add 4) = some (.bool q.2.2.2.2) := by
      intro i hi
      obtain ⟨cs', h1, h2⟩ := hx i (by omega)
      obtain ⟨q, rfl, hok⟩ := dd_cells h2
      obtain ⟨_, _, hcell⟩ := World.cells?_some h1
      have k0 := hcell 0 (by omega)
      have k1 := hcell 1 (by omega)
      have k2 := hcell 2 (by omega)
      have k3 := hcell 3 (by omega)
      have k4 := hcell 4 (by omega)
      refine ⟨q, hok, ?_, by simpa using k1, by simpa using k2, by simpa using k3, by simpa using k4⟩
      have e0 : (a.add (i * 5)).add 0 = a.add (i * 5) := by unfold Addr.add; split <;> simp_all
      rw [← e0]
      simpa using k0
    obtain ⟨q, hq⟩ := Deep.choose_lt each
    refine ⟨(List.range len).map q, ⟨some a, cap, by simp, fun j i hi => ?_⟩, fun i hi => ?_⟩
    · rw [List.getElem?_map] at hi
      by_cases hj : j < len
      · rw [List.getElem?_range hj] at hi
        simp only [Option.map_some, Option.some.injEq] at hi
        subst hi
        obtain ⟨_, k0, k1, k2, k3, k4⟩ := hq j hj
        obtain ⟨ab, ao, spot⟩ := a
        have hspot : spot = none := by
          have h0 := World.cell?_spot (hq 0 (by omega)).2.1
          simpa [Addr.add] using h0
        subst hspot
        rw [plain_add] at k0 k1 k2 k3 k4
        rw [plain_add] at k1 k2 k3 k4
        exact ⟨ab, ao, rfl, k0, k1, k2, k3, k4⟩
      · rw [List.getElem?_eq_none (by simp; omega)] at hi
        cases hi
    · obtain ⟨j, hj, rfl⟩ := List.mem_map.1 hi
      exact (hq j (List.mem_range.1 hj)).1
end Go.Proofs.Ytojglefbmfpphaa
