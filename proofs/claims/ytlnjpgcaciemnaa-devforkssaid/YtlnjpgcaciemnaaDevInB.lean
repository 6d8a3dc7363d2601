/- Deeds and requests as they come in. -/
import Derived.Test.YtlnjpgcaciemnaaDevQ
import Derived.ProofKit
import Derived.OpenShut
import Derived.Lib.SmallJoins
import Derived.ChangeSlices
import Derived.Carry
import Derived.Deep.Slices
import Derived.Deep.SlicePairs
namespace Go.Proofs.Ytlnjpgcaciemnaa
open Go.ChangeShapes Go.WideShapes Go.ChangeAt Go.RowKit Go.ChangeMaps Go.Joins
set_option linter.unusedVariables false
theorem laidOut : laidOutB Try.prog = true := by kernel_rfl
theorem own : ownKnob Try.prog.godebug = none := by kernel_rfl
theorem wf8 {x : Int} (h : (Lit.int .u8 x).wf = true) : 0 ≤ x ∧ x ≤ 255 := by simpa [Lit.wf, IntKind.min, IntKind.max, IntKind.signed, IntKind.bits] using h
theorem wf16 {x : Int} (h : (Lit.int .u16 x).wf = true) : 0 ≤ x ∧ x ≤ 65535 := by simpa [Lit.wf, IntKind.min, IntKind.max, IntKind.signed, IntKind.bits] using h
theorem wf64 {x : Int} (h : (Lit.int .i64 x).wf = true) : -9223372036854775808 ≤ x ∧ x ≤ 9223372036854775807 := by simpa [Lit.wf, IntKind.min, IntKind.max, IntKind.signed, IntKind.bits] using h
theorem plain_add (g off j : Nat) : (⟨g, off, none⟩ : Addr).add j = ⟨g, off + j, none⟩ := by unfold Addr.add; split <;> simp_all
set_option maxRecDepth 100000 in
theorem byts_cells {H : Type} {enc : TypeId × Value → H} {W : World} {base n : Nat} {cs : List Value} {x : DataW H × List MemPlace} (h : DataW.trod enc Try.prog W base (fun _ => true) true n 36 cs = some x) :
    ∃ v bs, cs = [v] ∧ Byts W.heap.size W v bs ∧ bs.length ≤ 9223372036854775807 := by
  have hc : Try.prog.cellsOf 5 = 1 := by kernel_rfl
  rcases Deep.open_slice1 Try.underlying36 hc h with ⟨hcs, _⟩ | ⟨a, len, cap, m, n', V, D, Pl, hcs, _, hl, hm, hmm, _, hx⟩
  · exact ⟨_, [], hcs, ⟨none, 0, rfl, Nat.le_refl _, fun x h => (by cases h), fun j i h => by cases h⟩, by simp⟩
  · simp only [if_true] at hmm
    have each : ∀ i, i < len → ∃ y : Int, (0 ≤ y ∧ y ≤ 255) ∧ W.cell? (a.add i) = some (.int .u8 y) := by
      intro i hi
      obtain ⟨h1, h2⟩ := hx i (by omega)
      obtain ⟨y, e, _, w0⟩ := DataW.trod_int Try.underlying5 h2
      injection e with e
      rw [e] at h1
      exact ⟨y, wf8 w0, h1⟩
    obtain ⟨q, hq⟩ := Deep.choose_lt each
    have hmax : len ≤ 9223372036854775807 := by unfold maxLen at hm; omega
    refine ⟨_, (List.range len).map q, hcs, ⟨some a, cap, by simp, by simpa using hl, fun x hx => ?_, fun j i hi => ?_⟩, by simpa using hmax⟩
    · obtain ⟨j, hj, rfl⟩ := List.mem_map.1 hx
      exact (hq j (List.mem_range.1 hj)).1
    · rw [List.getElem?_map] at hi
      by_cases hj : j < len
      · rw [List.getElem?_range hj] at hi
        simp only [Option.map_some, Option.some.injEq] at hi
        subst hi
        obtain ⟨_, k0⟩ := hq j hj
        obtain ⟨ab, ao, spot⟩ := a
        have hspot : spot = none := by
          have h0 := World.cell?_spot (hq 0 (by omega)).2
          simpa [Addr.add] using h0
        subst hspot
        rw [plain_add] at k0
        exact ⟨ab, ao, rfl, World.block_lt_of_cell? W _ k0, k0⟩
      · rw [List.getElem?_eq_none (by simp; omega)] at hi
        cases hi
set_option maxRecDepth 100000 in
theorem rq_cells {H : Type} {enc : TypeId × Value → H} {W : World} {base n : Nat} {spare : Nat → Bool} {held : Bool} {cs : List Value} {x : DataW H × List MemPlace} (h : DataW.trod enc Try.prog W base spare held n 45 cs = some x) :
    ∃ r0 r1 r2 r3 r4, cs = [.int .u32 r0, .bool r1, .int .i64 r2, .int .i64 r3, .int .u8 r4] ∧ 0 ≤ r4 ∧ r4 ≤ 255 := by
  obtain ⟨xs, m, _, _, hl, hxl, hf⟩ := DataW.trod_struct Try.underlying45 h
  have hc : Try.prog.cellsOf 45 = 5 := by kernel_rfl
  have c1 : Try.prog.cellsOf 3 = 1 := by kernel_rfl
  have c2 : Try.prog.cellsOf 43 = 1 := by kernel_rfl
  have c3 : Try.prog.cellsOf 4 = 1 := by kernel_rfl
  have c4 : Try.prog.cellsOf 5 = 1 := by kernel_rfl
  rw [hc] at hl
  match xs, hxl, cs, hl with
  | [y0, y1, y2, y3, y4], _, [v0, v1, v2, v3, v4], _ =>
    have g0 := hf 0 _ rfl
    have g1 := hf 1 _ rfl
    have g2 := hf 2 _ rfl
    have g3 := hf 3 _ rfl
    have g4 := hf 4 _ rfl
    simp [c1, c2, c3, c4] at g0 g1 g2 g3 g4
    obtain ⟨r0, e0, _, w0⟩ := DataW.trod_int Try.underlying43 g0
    obtain ⟨r1, e1, _⟩ := DataW.trod_bool Try.underlying4 g1
    obtain ⟨r2, e2, _, w2⟩ := DataW.trod_int Try.underlying3 g2
    obtain ⟨r3, e3, _, w3⟩ := DataW.trod_int Try.underlying3 g3
    obtain ⟨r4, e4, _, w4⟩ := DataW.trod_int Try.underlying5 g4
    cases e0
    cases e1
    cases e2
    cases e3
    cases e4
    exact ⟨r0, r1, r2, r3, r4, rfl, (wf8 w4).1, (wf8 w4).2⟩
set_option maxRecDepth 100000 in
theorem rq_open {H : Type} {enc : TypeId × Value → H} {W : World} {base b0 : Nat} {r : Reach} {v : Value} {d : DataW H} {p : List MemPlace} (hv : Value.okWide Try.prog W r b0 45 v) (h : DataW.Trod enc Try.prog W base (fun _ => true) true 45 v d p) :
    ∃ r0 r1 r2 r3 r4, v = .agg #[.int .u32 r0, .bool r1, .int .i64 r2, .int .i64 r3, .int .u8 r4] := by
  obtain ⟨cs, rfl, hsz⟩ := okWide_struct Try.underlying45 hv
  obtain ⟨fuel, hf⟩ := h
  obtain ⟨r0, r1, r2, r3, r4, e, _⟩ := rq_cells hf
  obtain ⟨cl⟩ := cs
  simp [Value.cells] at e
  subst e
  exact ⟨r0, r1, r2, r3, r4, rfl⟩
set_option maxRecDepth 100000 in
theorem dd_cells {H : Type} {enc : TypeId × Value → H} {W : World} {base n : Nat} {cs : List Value} {x : DataW H × List MemPlace} (h : DataW.trod enc Try.prog W base (fun _ => true) true n 60 cs = some x) :
    ∃ d : Dd, cs = [.int .i64 d.k, .int .i64 d.i, .int .u32 d.r0, .bool d.r1, .int .i64 d.r2, .int .i64 d.r3, .int .u8 d.r4, d.v] ∧ Byts W.heap.size W d.v d.bs := by
  obtain ⟨xs, m, _, _, hl, hxl, hf⟩ := DataW.trod_struct Try.underlying60 h
  have hc : Try.prog.cellsOf 60 = 8 := by kernel_rfl
  have c1 : Try.prog.cellsOf 3 = 1 := by kernel_rfl
  have c2 : Try.prog.cellsOf 45 = 5 := by kernel_rfl
  have c3 : Try.prog.cellsOf 36 = 1 := by kernel_rfl
  rw [hc] at hl
  match xs, hxl, cs, hl with
  | [y0, y1, y2, y3], _, [v0, v1, v2, v3, v4, v5, v6, v7], _ =>
    have g0 := hf 0 _ rfl
    have g1 := hf 1 _ rfl
    have g2 := hf 2 _ rfl
    have g3 := hf 3 _ rfl
    simp [c1, c2, c3] at g0 g1 g2 g3
    obtain ⟨k, e0, _, w0⟩ := DataW.trod_int Try.underlying3 g0
    obtain ⟨i, e1, _, w1⟩ := DataW.trod_int Try.underlying3 g1
    obtain ⟨r0, r1, r2, r3, r4, e2, _⟩ := rq_cells g2
    obtain ⟨v, bs, e3, hb, hs⟩ := byts_cells g3
    cases e0
    cases e1
    cases e2
    cases e3
    exact ⟨⟨k, i, r0, r1, r2, r3, r4, v7, bs⟩, rfl, hb⟩
set_option maxRecDepth 100000 in
theorem dds_open {H : Type} {enc : TypeId × Value → H} {W : World} {base b0 : Nat} {r : Reach} {v : Value} {d : DataW H} {p : List MemPlace} (hv : Value.okWide Try.prog W r b0 22 v) (h : DataW.Trod enc Try.prog W base (fun _ => true) true 22 v d p) :
    ∃ l, DdsR W.heap.size W v l := by
  obtain ⟨a0, len, cap, rfl⟩ := okWide_slice Try.underlying22 hv
  obtain ⟨fuel, hf⟩ := h
  have hc : Try.prog.cellsOf 60 = 8 := by kernel_rfl
  rcases Deep.open_slice Try.underlying22 hf with ⟨hcs, _⟩ | ⟨a, len', cap', m, n, D, Pl, hcs, _, hl, hm, hmm, _, hx⟩
  · simp [Value.cells] at hcs
    obtain ⟨rfl, rfl, rfl⟩ := hcs
    exact ⟨[], ⟨none, 0, rfl, by simp, fun j i h => by cases h⟩⟩
  · simp [Value.cells] at hcs
    obtain ⟨rfl, rfl, rfl⟩ := hcs
    simp only [if_true] at hmm
    rw [hc] at hx
    have hmax : len ≤ 9223372036854775807 := by unfold maxLen at hm; omega
    have each : ∀ i, i < len → ∃ q : Dd, Byts W.heap.size W q.v q.bs ∧ W.cell? (a.add (i * 8)) = some (.int .i64 q.k) ∧ W.cell? ((a.add (i * 8)).add 1) = some (.int .i64 q.i) ∧ W.cell? ((a.add (i * 8)).add 2) = some (.int .u32 q.r0) ∧ W.cell? ((a.add (i * 8)).add 3) = some (.bool q.r1) ∧ W.cell? ((a.add (i * 8)).add 4) = some (.int .i64 q.r2) ∧ W.cell? ((a.add (i * 8)).add 5) = some (.int .i64 q.r3) ∧ W.cell? ((a.add (i * 8)).add 6) = some (.int .u8 q.r4) ∧ W.cell? ((a.add (i * 8)).add 7) = some q.v := by
      intro i hi
      obtain ⟨cs', h1, h2⟩ := hx i (by omega)
      obtain ⟨q, rfl, hok⟩ := dd_cells h2
      obtain ⟨_, _, hcell⟩ := World.cells?_some h1
      have k0 := hcell 0 (by omega)
      have k1 := hcell 1 (by omega)
      have k2 := hcell 2 (by omega)
      have k3 := hcell 3 (by omega)
      have k4 := hcell 4 (by omega)
      have k5 := hcell 5 (by omega)
      have k6 := hcell 6 (by omega)
      have k7 := hcell 7 (by omega)
      refine ⟨q, hok, ?_, by simpa using k1, by simpa using k2, by simpa using k3, by simpa using k4, by simpa using k5, by simpa using k6, by simpa using k7⟩
      have e0 : (a.add (i * 8)).add 0 = a.add (i * 8) := by unfold Addr.add; split <;> simp_all
      rw [← e0]
      simpa using k0
    haveI : Inhabited Dd := ⟨⟨0, 0, 0, false, 0, 0, 0, .bool false, []⟩⟩
    obtain ⟨q, hq⟩ := Deep.choose_lt each
    refine ⟨(List.range len).map q, ⟨some a, cap, by simp, by simpa using hmax, fun j i hi => ?_⟩⟩
    rw [List.getElem?_map] at hi
    by_cases hj : j < len
    · rw [List.getElem?_range hj] at hi
      simp only [Option.map_some, Option.some.injEq] at hi
      subst hi
      obtain ⟨hok, k0, k1, k2, k3, k4, k5, k6, k7⟩ := hq j hj
      obtain ⟨ab, ao, spot⟩ := a
      have hspot : spot = none := by
        have h0 := World.cell?_spot (hq 0 (by omega)).2.1
        simpa [Addr.add] using h0
      subst hspot
      rw [plain_add] at k0 k1 k2 k3 k4 k5 k6 k7
      rw [plain_add] at k1 k2 k3 k4 k5 k6 k7
      exact ⟨hok, ab, ao, rfl, World.block_lt_of_cell? W _ k0, k0, k1, k2, k3, k4, k5, k6, k7⟩
    · rw [List.getElem?_eq_none (by simp; omega)] at hi
      cases hi
set_option maxRecDepth 100000 in
theorem arr3_open {H : Type} {enc : TypeId × Value → H} {W : World} {base b0 : Nat} {spare : Nat → Bool} {held : Bool} {r : Reach} {v : Value} {d : DataW H} {p : List MemPlace} (hv : Value.okWide Try.prog W r b0 33 v) (h : DataW.Trod enc Try.prog W base spare held 33 v d p) :
    ∃ x y z, v = .agg #[.int .u8 x, .int .u8 y, .int .u8 z] ∧ (0 ≤ x ∧ x ≤ 255) ∧ (0 ≤ y ∧ y ≤ 255) ∧ (0 ≤ z ∧ z ≤ 255) := by
  have hC : Try.prog.cellsOf 33 = 3 := by kernel_rfl
  have hE : Try.prog.cellsOf 5 = 1 := by kernel_rfl
  simp only [Value.okWide, Try.underlying33] at hv
  obtain ⟨cs, rfl, hsz, _⟩ := hv
  obtain ⟨c0, c1, c2, rfl⟩ : ∃ c0 c1 c2, cs = #[c0, c1, c2] := by
    have h3 := hsz.trans hC
    obtain ⟨cl⟩ := cs
    match cl, h3 with
    | [a, b, c], _ => exact ⟨a, b, c, rfl⟩
  obtain ⟨fuel, hf⟩ := h
  cases fuel with
  | zero => simp [DataW.trod] at hf
  | succ n =>
    simp only [DataW.trod, Try.underlying33, hE, Nat.mul_one] at hf
    split at hf
    · obtain ⟨xs, hm, hx⟩ := Option.map_eq_some_iff.1 hf
      obtain ⟨y0, _, h0⟩ := Lib.mapM_at hm 0 0 (by simp)
      obtain ⟨y1, _, h1⟩ := Lib.mapM_at hm 1 1 (by simp)
      obtain ⟨y2, _, h2⟩ := Lib.mapM_at hm 2 2 (by simp)
      obtain ⟨x, e0, _, w0⟩ := DataW.trod_int Try.underlying5 h0
      obtain ⟨y, e1, _, w1⟩ := DataW.trod_int Try.underlying5 h1
      obtain ⟨z, e2, _, w2⟩ := DataW.trod_int Try.underlying5 h2
      cases e0
      cases e1
      cases e2
      exact ⟨x, y, z, rfl, wf8 w0, wf8 w1, wf8 w2⟩
    · cases hf
end Go.Proofs.Ytlnjpgcaciemnaa
