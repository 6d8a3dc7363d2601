/- Deeds of descriptors as they come in. -/
import Derived.Test.YtbkpkcndmlapfaaFdLv
import Derived.ProofKit
import Derived.OpenShut
import Derived.Lib.SmallJoins
import Derived.ChangeSlices
import Derived.Carry
import Derived.Deep.Slices
import Derived.Deep.SlicePairs
namespace Go.Proofs.Ytbkpkcndmlapfaa
open Go.ChangeShapes Go.WideShapes Go.ChangeAt Go.RowKit Go.ChangeMaps Go.Joins
set_option linter.unusedVariables false
theorem laidOut : laidOutB Try.prog = true := by kernel_rfl
theorem own : ownKnob Try.prog.godebug = none := by kernel_rfl
theorem wf8 {x : Int} (h : (Lit.int .u8 x).wf = true) : 0 ≤ x ∧ x ≤ 255 := by simpa [Lit.wf, IntKind.min, IntKind.max, IntKind.signed, IntKind.bits] using h
theorem plain_add (g off j : Nat) : (⟨g, off, none⟩ : Addr).add j = ⟨g, off + j, none⟩ := by unfold Addr.add; split <;> simp_all
theorem by_list (s : ByteArray) : s = ⟨s.data.toList.toArray⟩ := by
  obtain ⟨⟨l⟩⟩ := s
  rfl
set_option maxRecDepth 100000 in
theorem op_cells_in {H : Type} {enc : TypeId × Value → H} {W : World} {base n : Nat} {spare : Nat → Bool} {held : Bool} {cs : List Value} {x : DataW H × List MemPlace} (h : DataW.trod enc Try.prog W base spare held n 32 cs = some x) :
    ∃ o : Opn, cs = [.int .u8 o.k, .int .i64 o.r, .int .i64 o.p] ∧ 0 ≤ o.k := by
  obtain ⟨xs, k, _, _, hl, hxl, hf⟩ := DataW.trod_struct Try.underlying32 h
  have hc : Try.prog.cellsOf 32 = 3 := by kernel_rfl
  have c1 : Try.prog.cellsOf 3 = 1 := by kernel_rfl
  have c2 : Try.prog.cellsOf 30 = 1 := by kernel_rfl
  rw [hc] at hl
  match xs, hxl, cs, hl with
  | [y0, y1, y2], _, [v0, v1, v2], _ =>
    have g0 := hf 0 _ rfl
    have g1 := hf 1 _ rfl
    have g2 := hf 2 _ rfl
    simp [c1, c2] at g0 g1 g2
    obtain ⟨a0, e0, _, w0⟩ := DataW.trod_int Try.underlying30 g0
    obtain ⟨a1, e1, _, w1⟩ := DataW.trod_int Try.underlying3 g1
    obtain ⟨a2, e2, _, w2⟩ := DataW.trod_int Try.underlying3 g2
    cases e0
    cases e1
    cases e2
    exact ⟨⟨a0, a1, a2⟩, rfl, (wf8 w0).1⟩
set_option maxRecDepth 100000 in
theorem dd_cells {H : Type} {enc : TypeId × Value → H} {W : World} {base n : Nat} {spare : Nat → Bool} {held : Bool} {cs : List Value} {x : DataW H × List MemPlace} (h : DataW.trod enc Try.prog W base spare held n 49 cs = some x) :
    ∃ d : Dd, cs = [.int .i64 d.k, .int .i64 d.p, .int .i64 d.q, .int .i64 d.n, .int .u8 d.o.k, .int .i64 d.o.r, .int .i64 d.o.p] ∧ 0 ≤ d.o.k := by
  obtain ⟨xs, k, _, _, hl, hxl, hf⟩ := DataW.trod_struct Try.underlying49 h
  have hc : Try.prog.cellsOf 49 = 7 := by kernel_rfl
  have c1 : Try.prog.cellsOf 3 = 1 := by kernel_rfl
  have c2 : Try.prog.cellsOf 32 = 3 := by kernel_rfl
  rw [hc] at hl
  match xs, hxl, cs, hl with
  | [y0, y1, y2, y3, y4], _, [v0, v1, v2, v3, v4, v5, v6], _ =>
    have g0 := hf 0 _ rfl
    have g1 := hf 1 _ rfl
    have g2 := hf 2 _ rfl
    have g3 := hf 3 _ rfl
    have g4 := hf 4 _ rfl
    simp [c1, c2] at g0 g1 g2 g3 g4
    obtain ⟨a0, e0, _, w0⟩ := DataW.trod_int Try.underlying3 g0
    obtain ⟨a1, e1, _, w1⟩ := DataW.trod_int Try.underlying3 g1
    obtain ⟨a2, e2, _, w2⟩ := DataW.trod_int Try.underlying3 g2
    obtain ⟨a3, e3, _, w3⟩ := DataW.trod_int Try.underlying3 g3
    obtain ⟨o, e4, w4⟩ := op_cells_in g4
    cases e0
    cases e1
    cases e2
    cases e3
    cases e4
    exact ⟨⟨a0, a1, a2, a3, o⟩, rfl, w4⟩
theorem dd_open {H : Type} {enc : TypeId × Value → H} {W : World} {base b0 : Nat} {r : Reach} {v : Value} {d : DataW H} {p : List MemPlace} (hv : Value.okWide Try.prog W r b0 49 v) (h : DataW.Trod enc Try.prog W base (fun _ => true) true 49 v d p) : ∃ m : Dd, v = ddV m := by
  obtain ⟨cs, rfl, hsz⟩ := okWide_struct Try.underlying49 hv
  obtain ⟨fuel, hf⟩ := h
  obtain ⟨d, hs, _⟩ := dd_cells (cs := cs.toList) hf
  exact ⟨d, by unfold ddV; rw [← hs]⟩
theorem op_open {H : Type} {enc : TypeId × Value → H} {W : World} {base b0 : Nat} {r : Reach} {v : Value} {d : DataW H} {p : List MemPlace} (hv : Value.okWide Try.prog W r b0 32 v) (h : DataW.Trod enc Try.prog W base (fun _ => true) true 32 v d p) : ∃ m : Opn, v = .agg (opC m).toArray := by
  obtain ⟨cs, rfl, hsz⟩ := okWide_struct Try.underlying32 hv
  obtain ⟨fuel, hf⟩ := h
  obtain ⟨d, hs, _⟩ := op_cells_in (cs := cs.toList) hf
  exact ⟨d, by unfold opC; rw [← hs]⟩
theorem u8_nat {x : Int} (h : (Lit.int .u8 x).wf = true) : ∃ r : Nat, x = (r : Int) ∧ r ≤ 255 := by
  have b : 0 ≤ x ∧ x ≤ 255 := by simpa [Lit.wf, IntKind.min, IntKind.max, IntKind.signed, IntKind.bits] using h
  exact ⟨x.toNat, by omega, by omega⟩
theorem list4 {α : Type} {l : List α} (h : l.length = 4) : ∃ a b c d, l = [a, b, c, d] := by
  match l, h with
  | [a, b, c, d], _ => exact ⟨a, b, c, d, rfl⟩
set_option maxRecDepth 100000 in
theorem arr4_open {H : Type} {enc : TypeId × Value → H} {W : World} {base b0 : Nat} {spare : Nat → Bool} {held : Bool} {r : Reach} {v : Value} {d : DataW H} {p : List MemPlace} (hv : Value.okWide Try.prog W r b0 42 v) (h : DataW.Trod enc Try.prog W base spare held 42 v d p) :
    ∃ y0 y1 y2 y3 : Nat, v = .agg #[.int .u8 y0, .int .u8 y1, .int .u8 y2, .int .u8 y3] ∧ y0 ≤ 255 ∧ y1 ≤ 255 ∧ y2 ≤ 255 ∧ y3 ≤ 255 := by
  have hC : Try.prog.cellsOf 42 = 4 := by kernel_rfl
  have hE : Try.prog.cellsOf 5 = 1 := by kernel_rfl
  simp only [Value.okWide, Try.underlying42] at hv
  obtain ⟨cs, rfl, hsz, _⟩ := hv
  obtain ⟨c0, c1, c2, c3, hcs⟩ := list4 (l := cs.toList) (by rw [Array.length_toList]; exact hsz.trans hC)
  obtain rfl : cs = #[c0, c1, c2, c3] := by
    apply Array.ext'
    exact hcs
  obtain ⟨fuel, hf⟩ := h
  obtain ⟨xs, m, _, _, _, hxl, hx⟩ := DataW.trod_array Try.underlying42 hf
  rw [hE] at hx
  obtain ⟨y0, y1, y2, y3, rfl⟩ := list4 hxl
  have g0 := hx 0 (by omega)
  have g1 := hx 1 (by omega)
  have g2 := hx 2 (by omega)
  have g3 := hx 3 (by omega)
  obtain ⟨x0, e0, _, w0⟩ := DataW.trod_int Try.underlying5 g0
  obtain ⟨x1, e1, _, w1⟩ := DataW.trod_int Try.underlying5 g1
  obtain ⟨x2, e2, _, w2⟩ := DataW.trod_int Try.underlying5 g2
  obtain ⟨x3, e3, _, w3⟩ := DataW.trod_int Try.underlying5 g3
  cases e0
  cases e1
  cases e2
  cases e3
  obtain ⟨z0, rfl, l0⟩ := u8_nat w0
  obtain ⟨z1, rfl, l1⟩ := u8_nat w1
  obtain ⟨z2, rfl, l2⟩ := u8_nat w2
  obtain ⟨z3, rfl, l3⟩ := u8_nat w3
  exact ⟨z0, z1, z2, z3, rfl, l0, l1, l2, l3⟩
set_option maxRecDepth 100000 in
theorem dds_open {H : Type} {enc : TypeId × Value → H} {W : World} {base b0 : Nat} {r : Reach} {v : Value} {d : DataW H} {p : List MemPlace} (hv : Value.okWide Try.prog W r b0 22 v) (h : DataW.Trod enc Try.prog W base (fun _ => true) true 22 v d p) :
    ∃ l, Dds W v l := by
  obtain ⟨a0, len, cap, rfl⟩ := okWide_slice Try.underlying22 hv
  obtain ⟨fuel, hf⟩ := h
  have hc : Try.prog.cellsOf 49 = 7 := by kernel_rfl
  rcases Deep.open_slice Try.underlying22 hf with ⟨hcs, _⟩ | ⟨a, len', cap', m, n, D, Pl, hcs, _, hl, hm, hmm, _, hx⟩
  · simp [Value.cells] at hcs
    obtain ⟨rfl, rfl, rfl⟩ := hcs
    exact ⟨[], none, 0, rfl, fun d hd => (by cases hd), fun j i h => by cases h⟩
  · simp [Value.cells] at hcs
    obtain ⟨rfl, rfl, rfl⟩ := hcs
    simp only [if_true] at hmm
    rw [hc] at hx
    have each : ∀ i, i < len → ∃ q : Dd, 0 ≤ q.o.k ∧ W.cell? (a.add (i * 7)) = some (.int .i64 q.k) ∧ W.cell? ((a.add (i * 7)).add 1) = some (.int .i64 q.p) ∧ W.cell? ((a.add (i * 7)).add 2) = some (.int .i64 q.q) ∧ W.cell? ((a.add (i * 7)).add 3) = some (.int .i64 q.n) ∧ W.cell? ((a.add (i * 7)).add 4) = some (.int .u8 q.o.k) ∧ W.cell? ((a.add (i * 7)).add 5) = some (.int .i64 q.o.r) ∧ W.cell? ((a.add (i * 7)).add 6) = some (.int .i64 q.o.p) := by
      intro i hi
      obtain ⟨cs', h1, h2⟩ := hx i (by omega)
      obtain ⟨q, rfl, hq0⟩ := dd_cells h2
      obtain ⟨_, _, hcell⟩ := World.cells?_some h1
      have k0 := hcell 0 (by omega)
      have k1 := hcell 1 (by omega)
      have k2 := hcell 2 (by omega)
      have k3 := hcell 3 (by omega)
      have k4 := hcell 4 (by omega)
      have k5 := hcell 5 (by omega)
      have k6 := hcell 6 (by omega)
      refine ⟨q, hq0, ?_, by simpa using k1, by simpa using k2, by simpa using k3, by simpa using k4, by simpa using k5, by simpa using k6⟩
      have e0 : (a.add (i * 7)).add 0 = a.add (i * 7) := by unfold Addr.add; split <;> simp_all
      rw [← e0]
      simpa using k0
    haveI : Inhabited Dd := ⟨⟨0, 0, 0, 0, op0⟩⟩
    obtain ⟨q, hq⟩ := Deep.choose_lt each
    refine ⟨(List.range len).map q, some a, cap, by simp, fun d hd => ?_, fun j i hi => ?_⟩
    · obtain ⟨j, hj, rfl⟩ := List.mem_map.1 hd
      exact (hq j (List.mem_range.1 hj)).1
    · rw [List.getElem?_map] at hi
      by_cases hj : j < len
      · rw [List.getElem?_range hj] at hi
        simp only [Option.map_some, Option.some.injEq] at hi
        subst hi
        obtain ⟨_, k0, k1, k2, k3, k4, k5, k6⟩ := hq j hj
        obtain ⟨ab, ao, spot⟩ := a
        have hspot : spot = none := by
          have h0 := World.cell?_spot (hq 0 (by omega)).2.1
          simpa [Addr.add] using h0
        subst hspot
        rw [plain_add] at k0 k1 k2 k3 k4 k5 k6
        rw [plain_add] at k1 k2 k3 k4 k5 k6
        exact ⟨ab, ao, rfl, k0, k1, k2, k3, k4, k5, k6⟩
      · rw [List.getElem?_eq_none (by simp; omega)] at hi
        cases hi
end Go.Proofs.Ytbkpkcndmlapfaa
