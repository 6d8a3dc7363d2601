/- Slices of deeds as they come in. -/
import Derived.Test.YtboelnkeejmjnaaRgY
import Derived.Test.YtboelnkeejmjnaaRgIn
namespace Go.Proofs.Ytboelnkeejmjnaa
open Go.ChangeShapes Go.WideShapes Go.ChangeAt Go.RowKit Go.ChangeMaps Go.Joins
set_option linter.unusedVariables false
set_option maxRecDepth 100000 in
theorem dds_open {H : Type} {enc : TypeId × Value → H} {W : World} {base b0 : Nat} {r : Reach} {v : Value} {d : DataW H} {p : List MemPlace} (hv : Value.okWide Try.prog W r b0 22 v) (h : DataW.Trod enc Try.prog W base (fun _ => true) true 22 v d p) :
    ∃ l, Dds W v l ∧ ∀ i ∈ l, i.Ok := by
  obtain ⟨a0, len, cap, rfl⟩ := okWide_slice Try.underlying22 hv
  obtain ⟨fuel, hf⟩ := h
  have hc : Try.prog.cellsOf 44 = 5 := by kernel_rfl
  rcases Deep.open_slice Try.underlying22 hf with ⟨hcs, _⟩ | ⟨a, len', cap', m, n, D, Pl, hcs, _, hl, hm, hmm, _, hx⟩
  · simp [Value.cells] at hcs
    obtain ⟨rfl, rfl, rfl⟩ := hcs
    exact ⟨[], ⟨none, 0, rfl, fun j i h => by cases h⟩, fun i h => by cases h⟩
  · simp [Value.cells] at hcs
    obtain ⟨rfl, rfl, rfl⟩ := hcs
    simp only [if_true] at hmm
    rw [hc] at hx
    have each : ∀ i, i < len → ∃ q : Dd, q.Ok ∧ ∀ j x, q.vs[j]? = some x → W.cell? ((a.add (i * 5)).add j) = some x := by
      intro i hi
      obtain ⟨cs', h1, h2⟩ := hx i (by omega)
      obtain ⟨q, rfl, hok⟩ := dd_cells h2
      obtain ⟨_, _, hcell⟩ := World.cells?_some h1
      exact ⟨q, hok, fun j x hj => (hcell j (by have := (List.getElem?_eq_some_iff.1 hj).1; exact this)).trans hj⟩
    have hinh : Inhabited Dd := ⟨⟨0, 0, 0, 0, false⟩⟩
    obtain ⟨q, hq⟩ := Deep.choose_lt each
    refine ⟨(List.range len).map q, ⟨some a, cap, by simp, fun j i hi => ?_⟩, fun i hi => ?_⟩
    · rw [List.getElem?_map] at hi
      by_cases hj : j < len
      · rw [List.getElem?_range hj] at hi
        simp only [Option.map_some, Option.some.injEq] at hi
        subst hi
        obtain ⟨_, k0⟩ := hq j hj
        obtain ⟨ab, ao, spot⟩ := a
        have hspot : spot = none := by
          have h0 := World.cell?_spot ((hq 0 (by omega)).2 0 _ rfl)
          simpa [Addr.add] using h0
        subst hspot
        refine ⟨ab, ao, rfl, fun i x hi => ?_⟩
        have := k0 i x hi
        rw [plain_add, plain_add] at this
        exact this
      · rw [List.getElem?_eq_none (by simp; omega)] at hi
        cases hi
    · obtain ⟨j, hj, rfl⟩ := List.mem_map.1 hi
      exact (hq j (List.mem_range.1 hj)).1
end Go.Proofs.Ytboelnkeejmjnaa
