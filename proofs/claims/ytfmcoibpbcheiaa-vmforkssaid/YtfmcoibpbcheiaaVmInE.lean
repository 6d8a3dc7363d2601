/- Deeds of a vm as they come in. -/
import Derived.Test.YtfmcoibpbcheiaaVmYa
import Derived.ProofKit
import Derived.OpenShut
import Derived.Lib.SmallJoins
import Derived.ChangeSlices
import Derived.Carry
import Derived.Deep.Slices
import Derived.Deep.SlicePairs
namespace Go.Proofs.Ytfmcoibpbcheiaa
open Go.ChangeShapes Go.WideShapes Go.ChangeAt Go.RowKit Go.ChangeMaps Go.Joins
set_option linter.unusedVariables false
theorem laidOut : laidOutB Try.prog = true := by kernel_rfl
theorem own : ownKnob Try.prog.godebug = none := by kernel_rfl
theorem u8_nat {x : Int} (h : (Lit.int .u8 x).wf = true) : ∃ r : Nat, x = (r : Int) ∧ r ≤ 255 := by
  have b : 0 ≤ x ∧ x ≤ 255 := by simpa [Lit.wf, IntKind.min, IntKind.max, IntKind.signed, IntKind.bits] using h
  exact ⟨x.toNat, by omega, by omega⟩
theorem wf8 {x : Int} (h : (Lit.int .u8 x).wf = true) : 0 ≤ x ∧ x ≤ 255 := by simpa [Lit.wf, IntKind.min, IntKind.max, IntKind.signed, IntKind.bits] using h
theorem wf16 {x : Int} (h : (Lit.int .u16 x).wf = true) : 0 ≤ x ∧ x ≤ 65535 := by simpa [Lit.wf, IntKind.min, IntKind.max, IntKind.signed, IntKind.bits] using h
theorem wf64 {x : Int} (h : (Lit.int .i64 x).wf = true) : -9223372036854775808 ≤ x ∧ x ≤ 9223372036854775807 := by simpa [Lit.wf, IntKind.min, IntKind.max, IntKind.signed, IntKind.bits] using h
theorem plain_add (g off j : Nat) : (⟨g, off, none⟩ : Addr).add j = ⟨g, off + j, none⟩ := by unfold Addr.add; split <;> simp_all
set_option maxRecDepth 100000 in
theorem byts_cells {H : Type} {enc : TypeId × Value → H} {W : World} {base n : Nat} {cs : List Value} {x : DataW H × List MemPlace} (h : DataW.trod enc Try.prog W base (fun _ => true) true n 34 cs = some x) :
    ∃ v bs, cs = [v] ∧ Byts W.heap.size W v bs ∧ bs.length ≤ 9223372036854775807 := by
  have hc : Try.prog.cellsOf 5 = 1 := by kernel_rfl
  rcases Deep.open_slice1 Try.underlying34 hc h with ⟨hcs, _⟩ | ⟨a, len, cap, m, n', V, D, Pl, hcs, _, hl, hm, hmm, _, hx⟩
  · exact ⟨_, [], hcs, ⟨none, 0, rfl, Nat.le_refl _, fun x h => (by cases h), fun j i h => by cases h⟩, by simp⟩
  · simp only [if_true] at hmm
    have each : ∀ i, i < len → ∃ y : Int, (0 ≤ y ∧ y ≤ 255) ∧ W.cell? (a.add i) = some (.int .u8 y) := by
      intro i hi
      obtain ⟨h1, h2⟩ := hx i (by omega)
      obtain ⟨y, e, _, w0⟩ := DataW.trod_int Try.underlying5 h2
      injection e with e
      rw [e] at h1
      exact ⟨y, wf8 w0, h1⟩
    obtain ⟨q, hq⟩ := Deep.choose_lt each
    have hmax : len ≤ 9223372036854775807 := by unfold maxLen at hm; omega
    refine ⟨_, (List.range len).map q, hcs, ⟨some a, cap, by simp, by simpa using hl, fun x hx => ?_, fun j i hi => ?_⟩, by simpa using hmax⟩
    · obtain ⟨j, hj, rfl⟩ := List.mem_map.1 hx
      exact (hq j (List.mem_range.1 hj)).1
    · rw [List.getElem?_map] at hi
      by_cases hj : j < len
      · rw [List.getElem?_range hj] at hi
        simp only [Option.map_some, Option.some.injEq] at hi
        subst hi
        obtain ⟨_, k0⟩ := hq j hj
        obtain ⟨ab, ao, spot⟩ := a
        have hspot : spot = none := by
          have h0 := World.cell?_spot (hq 0 (by omega)).2
          simpa [Addr.add] using h0
        subst hspot
        rw [plain_add] at k0
        exact ⟨ab, ao, rfl, World.block_lt_of_cell? W _ k0, k0⟩
      · rw [List.getElem?_eq_none (by simp; omega)] at hi
        cases hi
set_option maxRecDepth 100000 in
theorem dv_cells {H : Type} {enc : TypeId × Value → H} {W : World} {base n : Nat} {cs : List Value} {x : DataW H × List MemPlace} (h : DataW.trod enc Try.prog W base (fun _ => true) true n 36 cs = some x) :
    ∃ d : Dv, cs = [.int .i64 d.k, .int .i64 d.p, .int .i64 d.q, .int .i64 d.m, .int .u8 d.c, d.v] ∧ d.Ok W.heap.size W := by
  obtain ⟨xs, m, _, _, hl, hxl, hf⟩ := DataW.trod_struct Try.underlying36 h
  have hc : Try.prog.cellsOf 36 = 6 := by kernel_rfl
  have c1 : Try.prog.cellsOf 3 = 1 := by kernel_rfl
  have c2 : Try.prog.cellsOf 5 = 1 := by kernel_rfl
  have c3 : Try.prog.cellsOf 34 = 1 := by kernel_rfl
  rw [hc] at hl
  match xs, hxl, cs, hl with
  | [y0, y1, y2, y3, y4, y5], _, [v0, v1, v2, v3, v4, v5], _ =>
    have g0 := hf 0 _ rfl
    have g1 := hf 1 _ rfl
    have g2 := hf 2 _ rfl
    have g3 := hf 3 _ rfl
    have g4 := hf 4 _ rfl
    have g5 := hf 5 _ rfl
    simp [c1, c2, c3] at g0 g1 g2 g3 g4 g5
    obtain ⟨k, e0, _, w0⟩ := DataW.trod_int Try.underlying3 g0
    obtain ⟨f, e1, _, w1⟩ := DataW.trod_int Try.underlying3 g1
    obtain ⟨o, e2, _, w2⟩ := DataW.trod_int Try.underlying3 g2
    obtain ⟨m3, e3, _, w3⟩ := DataW.trod_int Try.underlying3 g3
    obtain ⟨y, e4, _, w4⟩ := DataW.trod_int Try.underlying5 g4
    obtain ⟨v, bs, e5, hb, hs⟩ := byts_cells g5
    cases e0
    cases e1
    cases e2
    cases e3
    cases e4
    cases e5
    exact ⟨⟨k, f, o, m3, y, v5, bs⟩, rfl, hb, hs, wf8 w4, wf64 w1, wf64 w2, wf64 w3⟩
set_option maxRecDepth 100000 in
theorem dv_open {H : Type} {enc : TypeId × Value → H} {W : World} {base b0 : Nat} {r : Reach} {v : Value} {d : DataW H} {p : List MemPlace} (hv : Value.okWide Try.prog W r b0 36 v) (h : DataW.Trod enc Try.prog W base (fun _ => true) true 36 v d p) :
    ∃ d : Dv, v = .agg #[.int .i64 d.k, .int .i64 d.p, .int .i64 d.q, .int .i64 d.m, .int .u8 d.c, d.v] ∧ d.Ok W.heap.size W := by
  obtain ⟨cs, rfl, hsz⟩ := okWide_struct Try.underlying36 hv
  obtain ⟨fuel, hf⟩ := h
  obtain ⟨d, e, hd⟩ := dv_cells hf
  obtain ⟨cl⟩ := cs
  simp [Value.cells] at e
  subst e
  exact ⟨d, rfl, hd⟩
set_option maxRecDepth 100000 in
theorem byts_open {H : Type} {enc : TypeId × Value → H} {W : World} {base b0 : Nat} {r : Reach} {v : Value} {d : DataW H} {p : List MemPlace} (hv : Value.okWide Try.prog W r b0 34 v) (h : DataW.Trod enc Try.prog W base (fun _ => true) true 34 v d p) :
    ∃ bs, Byts W.heap.size W v bs ∧ bs.length ≤ 9223372036854775807 := by
  obtain ⟨a0, len, cap, rfl⟩ := okWide_slice Try.underlying34 hv
  obtain ⟨fuel, hf⟩ := h
  obtain ⟨v, bs, e, hb, hs⟩ := byts_cells hf
  simp [Value.cells] at e
  subst e
  exact ⟨bs, hb, hs⟩
set_option maxRecDepth 100000 in
theorem dvs_open {H : Type} {enc : TypeId × Value → H} {W : World} {base b0 : Nat} {r : Reach} {v : Value} {d : DataW H} {p : List MemPlace} (hv : Value.okWide Try.prog W r b0 22 v) (h : DataW.Trod enc Try.prog W base (fun _ => true) true 22 v d p) :
    ∃ l, Dvs W.heap.size W v l := by
  obtain ⟨a0, len, cap, rfl⟩ := okWide_slice Try.underlying22 hv
  obtain ⟨fuel, hf⟩ := h
  have hc : Try.prog.cellsOf 36 = 6 := by kernel_rfl
  rcases Deep.open_slice Try.underlying22 hf with ⟨hcs, _⟩ | ⟨a, len', cap', m, n, D, Pl, hcs, _, hl, hm, hmm, _, hx⟩
  · simp [Value.cells] at hcs
    obtain ⟨rfl, rfl, rfl⟩ := hcs
    exact ⟨[], ⟨none, 0, rfl, by simp, fun j i h => by cases h⟩⟩
  · simp [Value.cells] at hcs
    obtain ⟨rfl, rfl, rfl⟩ := hcs
    simp only [if_true] at hmm
    rw [hc] at hx
    have hmax : len ≤ 9223372036854775807 := by unfold maxLen at hm; omega
    have each : ∀ i, i < len → ∃ q : Dv, q.Ok W.heap.size W ∧ W.cell? (a.add (i * 6)) = some (.int .i64 q.k) ∧ W.cell? ((a.add (i * 6)).add 1) = some (.int .i64 q.p) ∧ W.cell? ((a.add (i * 6)).add 2) = some (.int .i64 q.q) ∧ W.cell? ((a.add (i * 6)).add 3) = some (.int .i64 q.m) ∧ W.cell? ((a.add (i * 6)).add 4) = some (.int .u8 q.c) ∧ W.cell? ((a.add (i * 6)).add 5) = some q.v := by
      intro i hi
      obtain ⟨cs', h1, h2⟩ := hx i (by omega)
      obtain ⟨q, rfl, hok⟩ := dv_cells h2
      obtain ⟨_, _, hcell⟩ := World.cells?_some h1
      have k0 := hcell 0 (by omega)
      have k1 := hcell 1 (by omega)
      have k2 := hcell 2 (by omega)
      have k3 := hcell 3 (by omega)
      have k4 := hcell 4 (by omega)
      have k5 := hcell 5 (by omega)
      refine ⟨q, hok, ?_, by simpa using k1, by simpa using k2, by simpa using k3, by simpa using k4, by simpa using k5⟩
      have e0 : (a.add (i * 6)).add 0 = a.add (i * 6) := by unfold Addr.add; split <;> simp_all
      rw [← e0]
      simpa using k0
    haveI : Inhabited Dv := ⟨⟨0, 0, 0, 0, 0, .bool false, []⟩⟩
    obtain ⟨q, hq⟩ := Deep.choose_lt each
    refine ⟨(List.range len).map q, ⟨some a, cap, by simp, by simpa using hmax, fun j i hi => ?_⟩⟩
    rw [List.getElem?_map] at hi
    by_cases hj : j < len
    · rw [List.getElem?_range hj] at hi
      simp only [Option.map_some, Option.some.injEq] at hi
      subst hi
      obtain ⟨hok, k0, k1, k2, k3, k4, k5⟩ := hq j hj
      obtain ⟨ab, ao, spot⟩ := a
      have hspot : spot = none := by
        have h0 := World.cell?_spot (hq 0 (by omega)).2.1
        simpa [Addr.add] using h0
      subst hspot
      rw [plain_add] at k0 k1 k2 k3 k4 k5
      rw [plain_add] at k1 k2 k3 k4 k5
      exact ⟨hok, ab, ao, rfl, World.block_lt_of_cell? W _ k0, k0, k1, k2, k3, k4, k5⟩
    · rw [List.getElem?_eq_none (by simp; omega)] at hi
      cases hi
end Go.Proofs.Ytfmcoibpbcheiaa
