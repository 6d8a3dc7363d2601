/- Deeds on a pool as they come in, with the sizes of their names. -/
import Derived.Test.YtalhlbhhgddddaaDoorPlIn2
namespace Go.Proofs.YtalhlbhhgddddaaDoor
open Go.ChangeShapes Go.WideShapes Go.ChangeAt Go.RowKit Go.ChangeMaps Go.Joins
set_option linter.unusedVariables false
set_option maxRecDepth 100000
theorem pd_cellsS {H : Type} {enc : TypeId × Value → H} {W : World} {base n : Nat} {spare : Nat → Bool} {held : Bool} {cs : List Value} {x : DataW H × List MemPlace} (h : DataW.trod enc Tryd.prog W base spare held n 45 cs = some x) :
    ∃ (k m : Int) (e t f : Nat) (s : ByteArray) (r : Nat), cs = [.int .i64 k, .int .i64 m, .int .u8 e, .int .u8 t, .int .u8 f, .string s, .int .u8 r] ∧ e ≤ 255 ∧ t ≤ 255 ∧ f ≤ 255 ∧ r ≤ 255 ∧ s.size ≤ 9223372036854775807 := by
  obtain ⟨xs, m, _, _, hl, hxl, hf⟩ := DataW.trod_struct Tryd.underlying45 h
  have hc : Tryd.prog.cellsOf 45 = 7 := by kernel_rfl
  have c1 : Tryd.prog.cellsOf 3 = 1 := by kernel_rfl
  have c2 : Tryd.prog.cellsOf 5 = 1 := by kernel_rfl
  have c3 : Tryd.prog.cellsOf 43 = 2 := by kernel_rfl
  have c4 : Tryd.prog.cellsOf 9 = 1 := by kernel_rfl
  rw [hc] at hl
  match xs, hxl, cs, hl with
  | [y0, y1, y2, y3, y4, y5], _, [v0, v1, v2, v3, v4, v5, v6], _ =>
    have g0 := hf 0 _ rfl
    have g1 := hf 1 _ rfl
    have g2 := hf 2 _ rfl
    have g3 := hf 3 _ rfl
    have g4 := hf 4 _ rfl
    have g5 := hf 5 _ rfl
    simp [c1, c2, c3] at g0 g1 g2 g3 g4 g5
    obtain ⟨z0, z1, n', hz, _, q0, q1⟩ := trod_struct2 Tryd.underlying43 g5
    simp only [c4, c2, List.drop_succ_cons, List.drop_zero, List.take_succ_cons, List.take_zero] at q0 q1
    obtain ⟨r0, e0, _, w0⟩ := DataW.trod_int Tryd.underlying3 g0
    obtain ⟨r1, e1, _, w1⟩ := DataW.trod_int Tryd.underlying3 g1
    obtain ⟨r2, e2, _, w2⟩ := DataW.trod_int Tryd.underlying5 g2
    obtain ⟨r3, e3, _, w3⟩ := DataW.trod_int Tryd.underlying5 g3
    obtain ⟨r4, e4, _, w4⟩ := DataW.trod_int Tryd.underlying5 g4
    obtain ⟨s, e5, _, hs⟩ := DataW.trod_string Tryd.underlying9 q0
    obtain ⟨r6, e6, _, w6⟩ := DataW.trod_int Tryd.underlying5 q1
    obtain ⟨a2, rfl, b2⟩ := u8_nat w2
    obtain ⟨a3, rfl, b3⟩ := u8_nat w3
    obtain ⟨a4, rfl, b4⟩ := u8_nat w4
    obtain ⟨a6, rfl, b6⟩ := u8_nat w6
    cases e0
    cases e1
    cases e2
    cases e3
    cases e4
    cases e5
    cases e6
    exact ⟨r0, r1, a2, a3, a4, s, a6, rfl, b2, b3, b4, b6, hs⟩
theorem dds_openS {H : Type} {enc : TypeId × Value → H} {W : World} {base b0 : Nat} {r : Reach} {v : Value} {d : DataW H} {p : List MemPlace} (hv : Value.okWide Tryd.prog W r b0 22 v) (h : DataW.Trod enc Tryd.prog W base (fun _ => true) true 22 v d p) :
    ∃ l, Dds W v l ∧ ∀ d ∈ l, d.s.size ≤ 9223372036854775807 := by
  obtain ⟨a0, len, cap, rfl⟩ := okWide_slice Tryd.underlying22 hv
  obtain ⟨fuel, hf⟩ := h
  have hc : Tryd.prog.cellsOf 45 = 7 := by kernel_rfl
  rcases Deep.open_slice Tryd.underlying22 hf with ⟨hcs, _⟩ | ⟨a, len', cap', m, n, D, Pl, hcs, _, hl, hm, hmm, _, hx⟩
  · simp [Value.cells] at hcs
    obtain ⟨rfl, rfl, rfl⟩ := hcs
    exact ⟨[], ⟨none, 0, rfl, fun i h => (by cases h), fun j i h => by cases h⟩, fun d h => by cases h⟩
  · simp [Value.cells] at hcs
    obtain ⟨rfl, rfl, rfl⟩ := hcs
    simp only [if_true] at hmm
    rw [hc] at hx
    have each : ∀ i, i < len → ∃ q : Dd, (q.f ≤ 255 ∧ q.s.size ≤ 9223372036854775807) ∧ W.cell? (a.add (i * 7)) = some (.int .i64 q.k) ∧ W.cell? ((a.add (i * 7)).add 1) = some (.int .i64 q.n) ∧ W.cell? ((a.add (i * 7)).add 2) = some (.int .u8 q.e) ∧ W.cell? ((a.add (i * 7)).add 3) = some (.int .u8 q.t) ∧ W.cell? ((a.add (i * 7)).add 4) = some (.int .u8 q.f) ∧ W.cell? ((a.add (i * 7)).add 5) = some (.string q.s) ∧ W.cell? ((a.add (i * 7)).add 6) = some (.int .u8 q.r) := by
      intro i hi
      obtain ⟨cs', h1, h2⟩ := hx i (by omega)
      obtain ⟨k, m, e, t, f, s, r, rfl, b1, b2, b3, b4, b5⟩ := pd_cellsS h2
      obtain ⟨_, _, hcell⟩ := World.cells?_some h1
      have k0 := hcell 0 (by omega)
      have k1 := hcell 1 (by omega)
      have k2 := hcell 2 (by omega)
      have k3 := hcell 3 (by omega)
      have k4 := hcell 4 (by omega)
      have k5 := hcell 5 (by omega)
      have k6 := hcell 6 (by omega)
      refine ⟨⟨k, m, e, t, f, s, r⟩, ⟨b3, b5⟩, ?_, by simpa using k1, by simpa using k2, by simpa using k3, by simpa using k4, by simpa using k5, by simpa using k6⟩
      have e0 : (a.add (i * 7)).add 0 = a.add (i * 7) := by unfold Addr.add; split <;> simp_all
      rw [← e0]
      simpa using k0
    haveI : Inhabited Dd := ⟨⟨0, 0, 0, 0, 0, ⟨#[]⟩, 0⟩⟩
    obtain ⟨q, hq⟩ := Deep.choose_lt each
    refine ⟨(List.range len).map q, ⟨some a, cap, by simp, fun i hi => ?_, fun j i hi => ?_⟩, fun d hd => ?_⟩
    · obtain ⟨j, hj, rfl⟩ := List.mem_map.1 hi
      exact (hq j (List.mem_range.1 hj)).1.1
    · rw [List.getElem?_map] at hi
      by_cases hj : j < len
      · rw [List.getElem?_range hj] at hi
        simp only [Option.map_some, Option.some.injEq] at hi
        subst hi
        obtain ⟨_, k0, k1, k2, k3, k4, k5, k6⟩ := hq j hj
        obtain ⟨ab, ao, spot⟩ := a
        have hspot : spot = none := by
          have h0 := World.cell?_spot (hq 0 (by omega)).2.1
          simpa [Addr.add] using h0
        subst hspot
        rw [plain_add] at k0 k1 k2 k3 k4 k5 k6
        rw [plain_add] at k1 k2 k3 k4 k5 k6
        exact ⟨ab, ao, rfl, k0, k1, k2, k3, k4, k5, k6⟩
      · rw [List.getElem?_eq_none (by simp; omega)] at hi
        cases hi
    · obtain ⟨j, hj, rfl⟩ := List.mem_map.1 hd
      exact (hq j (List.mem_range.1 hj)).1.2
end Go.Proofs.YtalhlbhhgddddaaDoor
