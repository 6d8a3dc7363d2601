/- Deeds as they come in. -/
import Derived.Test.YtgoofonogdhhoaaArY
import Derived.Test.YtgoofonogdhhoaaArInR
namespace Go.Proofs.Ytgoofonogdhhoaa
open Go.ChangeShapes Go.WideShapes Go.ChangeAt Go.RowKit Go.ChangeMaps Go.Joins
set_option linter.unusedVariables false
section
variable {H : Type} {enc : TypeId × Value → H} {W : World} {base : Nat} {spare : Nat → Bool} {held : Bool}
theorem list12 {α : Type} {cs : List α} (h : cs.length = 12) : ∃ a b c r, cs = a :: b :: c :: r ∧ r.length = 9 := by
  match cs, h with
  | a :: b :: c :: r, h => exact ⟨a, b, c, r, rfl, by simpa using h⟩
set_option maxRecDepth 100000 in
set_option maxHeartbeats 1000000 in
theorem dd_cells {n : Nat} {cs : List Value} {x : DataW H × List MemPlace} (hf : DataW.trod enc Try.prog W base spare held n 37 cs = some x) : ∃ d : Dd, cs = d.vs ∧ d.Ok := by
  have hC : Try.prog.cellsOf 37 = 12 := by kernel_rfl
  have k3 : Try.prog.cellsOf 3 = 1 := by kernel_rfl
  have k5 : Try.prog.cellsOf 35 = 1 := by kernel_rfl
  have kW : Try.prog.cellsOf 23 = 1 := by kernel_rfl
  have kR : Try.prog.cellsOf 26 = 9 := by kernel_rfl
  obtain ⟨y0, y1, y2, y3, n, hx, hl, h0, h1, h2, h3⟩ := trod_struct4 Try.underlying37 hf
  obtain ⟨a, b, c, r, rfl, hr⟩ := list12 (hl.trans hC)
  simp only [k3, k5, kW, kR, List.drop_succ_cons, List.drop_zero, List.take_succ_cons, List.take_zero] at h0 h1 h2 h3
  rw [List.take_of_length_le (by omega)] at h3
  obtain ⟨o, e0, _, w0⟩ := DataW.trod_int Try.underlying3 h0
  obtain ⟨u, e1, _, w1⟩ := DataW.trod_int Try.underlying35 h1
  obtain ⟨m, e2, _, w2⟩ := DataW.trod_int Try.underlying23 h2
  obtain ⟨s, rfl⟩ := rg_cells h3
  cases e0
  cases e1
  cases e2
  exact ⟨⟨o, u, m, s⟩, rfl, (wf8 w1).1⟩
theorem dd_open {r : Reach} {b0 : Nat} {v : Value} {d : DataW H} {p : List MemPlace} (hv : Value.okWide Try.prog W r b0 37 v) (h : DataW.Trod enc Try.prog W base spare held 37 v d p) : ∃ m : Dd, v = m.V ∧ m.Ok := by
  obtain ⟨cs, rfl, hsz⟩ := okWide_struct Try.underlying37 hv
  obtain ⟨fuel, hf⟩ := h
  obtain ⟨s, hs, hk⟩ := dd_cells hf
  refine ⟨s, ?_, hk⟩
  have hs : cs.toList = s.vs := hs
  unfold Dd.V
  rw [← hs]
end
set_option maxRecDepth 100000 in
theorem dds_open {H : Type} {enc : TypeId × Value → H} {W : World} {base b0 : Nat} {r : Reach} {v : Value} {d : DataW H} {p : List MemPlace} (hv : Value.okWide Try.prog W r b0 27 v) (h : DataW.Trod enc Try.prog W base (fun _ => true) true 27 v d p) :
    ∃ l, Dds W v l ∧ ∀ i ∈ l, i.Ok := by
  obtain ⟨a0, len, cap, rfl⟩ := okWide_slice Try.underlying27 hv
  obtain ⟨fuel, hf⟩ := h
  have hc : Try.prog.cellsOf 37 = 12 := by kernel_rfl
  rcases Deep.open_slice Try.underlying27 hf with ⟨hcs, _⟩ | ⟨a, len', cap', m, n, D, Pl, hcs, _, hl, hm, hmm, _, hx⟩
  · simp [Value.cells] at hcs
    obtain ⟨rfl, rfl, rfl⟩ := hcs
    exact ⟨[], ⟨none, 0, rfl, fun j i h => by cases h⟩, fun i h => by cases h⟩
  · simp [Value.cells] at hcs
    obtain ⟨rfl, rfl, rfl⟩ := hcs
    simp only [if_true] at hmm
    rw [hc] at hx
    have each : ∀ i, i < len → ∃ q : Dd, q.Ok ∧ ∀ j x, q.vs[j]? = some x → W.cell? ((a.add (i * 12)).add j) = some x := by
      intro i hi
      obtain ⟨cs', h1, h2⟩ := hx i (by omega)
      obtain ⟨q, rfl, hok⟩ := dd_cells h2
      obtain ⟨_, _, hcell⟩ := World.cells?_some h1
      exact ⟨q, hok, fun j x hj => (hcell j (by have := (List.getElem?_eq_some_iff.1 hj).1; exact this)).trans hj⟩
    have hinh : Inhabited Dd := ⟨⟨0, 0, 0, rg0⟩⟩
    obtain ⟨q, hq⟩ := Deep.choose_lt each
    refine ⟨(List.range len).map q, ⟨some a, cap, by simp, fun j i hi => ?_⟩, fun i hi => ?_⟩
    · rw [List.getElem?_map] at hi
      by_cases hj : j < len
      · rw [List.getElem?_range hj] at hi
        simp only [Option.map_some, Option.some.injEq] at hi
        subst hi
        obtain ⟨_, k0⟩ := hq j hj
        obtain ⟨ab, ao, spot⟩ := a
        have hspot : spot = none := by
          have h0 := World.cell?_spot ((hq 0 (by omega)).2 0 _ rfl)
          simpa [Addr.add] using h0
        subst hspot
        refine ⟨ab, ao, rfl, fun i x hi => ?_⟩
        have := k0 i x hi
        rw [plain_add, plain_add] at this
        exact this
      · rw [List.getElem?_eq_none (by simp; omega)] at hi
        cases hi
    · obtain ⟨j, hj, rfl⟩ := List.mem_map.1 hi
      exact (hq j (List.mem_range.1 hj)).1
end Go.Proofs.Ytgoofonogdhhoaa
