/- Deeds on a pool as they come in; the tables out of what a row lists. -/
import Derived.Test.YtalhlbhhgddddaaDoorPlIn
import Derived.Test.YtalhlbhhgddddaaDoorPlZa
import Derived.Test.YtalhlbhhgddddaaDoorTie
import Derived.Lib.LaidU8T
import Derived.Deep.Slices
import Derived.Deep.SlicePairs
namespace Go.Proofs.YtalhlbhhgddddaaDoor
open Go.ChangeShapes Go.WideShapes Go.ChangeAt Go.RowKit Go.ChangeMaps Go.Joins
set_option linter.unusedVariables false
set_option maxRecDepth 100000
theorem plain_add (g off j : Nat) : (⟨g, off, none⟩ : Addr).add j = ⟨g, off + j, none⟩ := by unfold Addr.add; split <;> simp_all
theorem tz_data : (Rows.laid_math_bits_deBruijn64tab : DataW Unit) = Lib.tabData .u8 (Lib.deBruijn64tab.map fun n : Nat => (n : Int)) := by kernel_rfl
theorem tz_of {l : List (String × DataW Unit)} {W : World} (h : laidMet Tryd.prog l W) (hm : ("math/bits.deBruijn64tab", Rows.laid_math_bits_deBruijn64tab) ∈ l) : TzTab W := by
  have hr : Lib.VarReads Tryd.prog W "math/bits.deBruijn64tab" (Lib.tabData .u8 (Lib.deBruijn64tab.map fun n : Nat => (n : Int))) := tz_data ▸ Lib.laidMet.reads h hm
  obtain ⟨g, t, cs, fuel, p, hg, hty, hvar, hd⟩ := hr
  obtain rfl := Option.some.inj ((show Tryd.prog.globalNamed "math/bits.deBruijn64tab" = some 0 by kernel_rfl).symm.trans hg)
  obtain rfl := Option.some.inj ((show (Tryd.prog.globals[0]?).map (·.type) = some 102 by kernel_rfl).symm.trans hty)
  have hcs := Lib.cells_of_tab Tryd.underlying102 Tryd.underlying5 (by kernel_rfl) (by kernel_rfl) hd
  intro j hj
  rw [World.var?_cell hg hvar j, ← Array.getElem?_toList, hcs, List.getElem?_map, List.getElem?_map, List.getElem?_eq_getElem hj]
  simp [List.getD, List.getElem?_eq_getElem hj]
theorem acc_eq : (Rows.laid_unicode_utf8_acceptRanges : DataW Unit) = Lib.acceptData := by kernel_rfl
theorem nt_of {l : List (String × DataW Unit)} {W : World} (h : laidMet Tryd.prog l W) (h1 : ("unicode/utf8.first", Rows.laid_unicode_utf8_first) ∈ l) (h2 : ("unicode/utf8.acceptRanges", Rows.laid_unicode_utf8_acceptRanges) ∈ l) : NTabs W :=
  utf8Tabs_of_readsT (U8Types.of260 Tryd.lays260) ⟨by kernel_rfl, by kernel_rfl, by kernel_rfl, by kernel_rfl, by kernel_rfl, by kernel_rfl, by kernel_rfl⟩ (Pinned.utf8First_eq ▸ Lib.laidMet.reads h h1) (acc_eq ▸ Lib.laidMet.reads h h2)
theorem dds_open {H : Type} {enc : TypeId × Value → H} {W : World} {base b0 : Nat} {r : Reach} {v : Value} {d : DataW H} {p : List MemPlace} (hv : Value.okWide Tryd.prog W r b0 22 v) (h : DataW.Trod enc Tryd.prog W base (fun _ => true) true 22 v d p) :
    ∃ l, Dds W v l := by
  obtain ⟨a0, len, cap, rfl⟩ := okWide_slice Tryd.underlying22 hv
  obtain ⟨fuel, hf⟩ := h
  have hc : Tryd.prog.cellsOf 45 = 7 := by kernel_rfl
  rcases Deep.open_slice Tryd.underlying22 hf with ⟨hcs, _⟩ | ⟨a, len', cap', m, n, D, Pl, hcs, _, hl, hm, hmm, _, hx⟩
  · simp [Value.cells] at hcs
    obtain ⟨rfl, rfl, rfl⟩ := hcs
    exact ⟨[], none, 0, rfl, fun i h => (by cases h), fun j i h => by cases h⟩
  · simp [Value.cells] at hcs
    obtain ⟨rfl, rfl, rfl⟩ := hcs
    simp only [if_true] at hmm
    rw [hc] at hx
    have each : ∀ i, i < len → ∃ q : Dd, q.f ≤ 255 ∧ W.cell? (a.add (i * 7)) = some (.int .i64 q.k) ∧ W.cell? ((a.add (i * 7)).add 1) = some (.int .i64 q.n) ∧ W.cell? ((a.add (i * 7)).add 2) = some (.int .u8 q.e) ∧ W.cell? ((a.add (i * 7)).add 3) = some (.int .u8 q.t) ∧ W.cell? ((a.add (i * 7)).add 4) = some (.int .u8 q.f) ∧ W.cell? ((a.add (i * 7)).add 5) = some (.string q.s) ∧ W.cell? ((a.add (i * 7)).add 6) = some (.int .u8 q.r) := by
      intro i hi
      obtain ⟨cs', h1, h2⟩ := hx i (by omega)
      obtain ⟨k, m, e, t, f, s, r, rfl, b1, b2, b3, b4⟩ := pd_cells h2
      obtain ⟨_, _, hcell⟩ := World.cells?_some h1
      have k0 := hcell 0 (by omega)
      have k1 := hcell 1 (by omega)
      have k2 := hcell 2 (by omega)
      have k3 := hcell 3 (by omega)
      have k4 := hcell 4 (by omega)
      have k5 := hcell 5 (by omega)
      have k6 := hcell 6 (by omega)
      refine ⟨⟨k, m, e, t, f, s, r⟩, b3, ?_, by simpa using k1, by simpa using k2, by simpa using k3, by simpa using k4, by simpa using k5, by simpa using k6⟩
      have e0 : (a.add (i * 7)).add 0 = a.add (i * 7) := by unfold Addr.add; split <;> simp_all
      rw [← e0]
      simpa using k0
    haveI : Inhabited Dd := ⟨⟨0, 0, 0, 0, 0, ⟨#[]⟩, 0⟩⟩
    obtain ⟨q, hq⟩ := Deep.choose_lt each
    refine ⟨(List.range len).map q, some a, cap, by simp, fun i hi => ?_, fun j i hi => ?_⟩
    · obtain ⟨j, hj, rfl⟩ := List.mem_map.1 hi
      exact (hq j (List.mem_range.1 hj)).1
    · rw [List.getElem?_map] at hi
      by_cases hj : j < len
      · rw [List.getElem?_range hj] at hi
        simp only [Option.map_some, Option.some.injEq] at hi
        subst hi
        obtain ⟨_, k0, k1, k2, k3, k4, k5, k6⟩ := hq j hj
        obtain ⟨ab, ao, spot⟩ := a
        have hspot : spot = none := by
          have h0 := World.cell?_spot (hq 0 (by omega)).2.1
          simpa [Addr.add] using h0
        subst hspot
        rw [plain_add] at k0 k1 k2 k3 k4 k5 k6
        rw [plain_add] at k1 k2 k3 k4 k5 k6
        exact ⟨ab, ao, rfl, k0, k1, k2, k3, k4, k5, k6⟩
      · rw [List.getElem?_eq_none (by simp; omega)] at hi
        cases hi
end Go.Proofs.YtalhlbhhgddddaaDoor
