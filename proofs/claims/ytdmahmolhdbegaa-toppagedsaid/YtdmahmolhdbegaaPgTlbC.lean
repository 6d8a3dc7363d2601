/- What is taken out of a row of mappings; the program's at, out, Find. -/
import Derived.Test.YtdmahmolhdbegaaPgTlbB
namespace Go.Proofs.Ytdmahmolhdbegaa.Tb
open Go.RowKit Go.Maps
set_option linter.unusedVariables false
set_option maxRecDepth 100000

theorem mpsCs_set : ∀ (D : List Mp) (i : Nat) (m : Mp), i < D.length → mpsCs (D.set i m) = ((((mpsCs D).set (i * 4) (.int .u8 m.1)).set (i * 4 + 1) (.int .u8 m.2.1)).set (i * 4 + 2) (.int .u8 m.2.2.1)).set (i * 4 + 3) (.bool m.2.2.2)
  | [], i, m, h => by cases h
  | x :: D, 0, m, h => by simp [mpsCs]
  | x :: D, i + 1, m, h => by
    have := mpsCs_set D i m (by simpa using h)
    simp only [List.set_cons_succ, mpsCs, this, show (i + 1) * 4 = i * 4 + 1 + 1 + 1 + 1 by omega]
/-- A block that holds a row of mappings, and room behind it. -/
def RowC (w : World) (g cap : Nat) (D : List Mp) : Prop := ∃ cur : Array Value, w.heap[g]? = some (.cells cur 39 (0, 0)) ∧ cur.size = cap * 4 ∧ D.length ≤ cap ∧ cap ≤ maxLen ∧ cur.toList.take (D.length * 4) = mpsCs D
theorem RowC.lt {w : World} {g cap : Nat} {D : List Mp} (h : RowC w g cap D) : g < w.heap.size := by
  obtain ⟨cur, h, _⟩ := h
  exact (Array.getElem?_eq_some_iff.1 h).1
theorem RowC.at {w : World} {g cap : Nat} {D : List Mp} (h : RowC w g cap D) (j : Nat) (m : Mp) (hj : D[j]? = some m) : w.cell? ⟨g, j * 4, none⟩ = some (.int .u8 m.1) ∧ w.cell? ⟨g, j * 4 + 1, none⟩ = some (.int .u8 m.2.1) ∧ w.cell? ⟨g, j * 4 + 2, none⟩ = some (.int .u8 m.2.2.1) ∧ w.cell? ⟨g, j * 4 + 3, none⟩ = some (.bool m.2.2.2) := by
  obtain ⟨cur, hb, _, _, _, htk⟩ := h
  obtain ⟨c0, c1, c2, c3⟩ := mpsCs_at D j m hj
  have hl : j < D.length := (List.getElem?_eq_some_iff.1 hj).1
  rw [← htk] at c0 c1 c2 c3
  rw [List.getElem?_take, if_pos (by omega)] at c0 c1 c2 c3
  simp only [World.cell?, hb]
  exact ⟨by simpa using c0, by simpa using c1, by simpa using c2, by simpa using c3⟩
theorem RowC.thaw {w : World} {g cap : Nat} {D : List Mp} (h : RowC w g cap D) (j : Nat) : w.frozen? ⟨g, j, none⟩ = false := by
  obtain ⟨cur, hb, _⟩ := h
  exact Lib.frozen_of_heap hb j
theorem RowC.some {w : World} {g cap : Nat} {D : List Mp} (h : RowC w g cap D) (j : Nat) (hj : j < cap * 4) : (w.cell? ⟨g, j, none⟩).isSome = true := by
  obtain ⟨cur, hb, hs, _⟩ := h
  rw [Lib.cell_of_heap hb, Array.getElem?_eq_getElem (by omega)]
  rfl
theorem RowC.stay {w w' : World} {g cap : Nat} {D : List Mp} (h : RowC w g cap D) (k : w'.heap[g]? = w.heap[g]?) : RowC w' g cap D := by
  obtain ⟨cur, hb, r⟩ := h
  exact ⟨cur, k.trans hb, r⟩
theorem heap_set_here {w : World} {g o : Nat} {cur : Array Value} {t : TypeId} (h : w.heap[g]? = some (.cells cur t (0, 0))) (v : Value) : (w.setCell ⟨g, o, none⟩ v).heap[g]? = some (.cells (cur.setIfInBounds o v) t (0, 0)) := by
  simp [World.setCell, Array.getElem?_modify, h]
def set4 (w : World) (g o : Nat) (m : Mp) : World := (((w.setCell ⟨g, o, none⟩ (.int .u8 m.1)).setCell ⟨g, o + 1, none⟩ (.int .u8 m.2.1)).setCell ⟨g, o + 2, none⟩ (.int .u8 m.2.2.1)).setCell ⟨g, o + 3, none⟩ (.bool m.2.2.2)
theorem RowC.set {w : World} {g cap : Nat} {D : List Mp} (h : RowC w g cap D) (i : Nat) (m : Mp) (hi : i < D.length) : RowC (set4 w g (i * 4) m) g cap (D.set i m) := by
  obtain ⟨cur, hb, h1, h2, h3, h4⟩ := h
  refine ⟨_, heap_set_here (heap_set_here (heap_set_here (heap_set_here hb _) _) _) _, by simpa using h1, by simpa using h2, h3, ?_⟩
  rw [List.length_set, mpsCs_set D i m hi, ← h4]
  simp [List.take_set]
theorem Apart.set4 (w : World) (g o : Nat) (m : Mp) : Apart (fun k => k = g) w (set4 w g o m) :=
  (((Apart.set w ⟨g, o, none⟩ _).trans (Apart.set _ ⟨g, o + 1, none⟩ _)).trans (Apart.set _ ⟨g, o + 2, none⟩ _)).trans (Apart.set _ ⟨g, o + 3, none⟩ _)
theorem Apart.setCells (g : Nat) : ∀ (vs : List Value) (o : Nat) (w : World), Apart (fun k => k = g) w (w.setCells g o vs)
  | [], o, w => Apart.refl _ w
  | v :: vs, o, w => (Apart.set w ⟨g, o, none⟩ v).trans (Apart.setCells g vs (o + 1) _)
theorem setCells_row (g : Nat) (t : TypeId) : ∀ (vs : List Value) (o : Nat) (w : World) (cur : Array Value), w.heap[g]? = some (.cells cur t (0, 0)) → ∃ cur', (w.setCells g o vs).heap[g]? = some (.cells cur' t (0, 0)) ∧ cur'.size = cur.size ∧ ∀ n, n ≤ o → cur'.toList.take n = cur.toList.take n
  | [], o, w, cur, h => ⟨cur, h, rfl, fun _ _ => rfl⟩
  | v :: vs, o, w, cur, h => by
    obtain ⟨cur', h1, h2, h3⟩ := setCells_row g t vs (o + 1) _ _ (heap_set_here (o := o) h v)
    refine ⟨cur', h1, by rw [h2]; simp, fun n hn => ?_⟩
    rw [h3 n (by omega)]
    simp only [Array.toList_setIfInBounds, List.take_set]
    rw [List.set_eq_of_length_le (by rw [List.length_take]; omega)]
theorem RowC.cut {w : World} {g cap : Nat} {D : List Mp} (h : RowC w g cap D) (i : Nat) (hi : i ≤ D.length) (vs : List Value) : RowC (w.setCells g (i * 4) vs) g cap (D.take i) := by
  obtain ⟨cur, hb, h1, h2, h3, h4⟩ := h
  obtain ⟨cur', k1, k2, k3⟩ := setCells_row g _ vs (i * 4) w cur hb
  refine ⟨cur', k1, k2.trans h1, by simp; omega, h3, ?_⟩
  rw [List.length_take, Nat.min_eq_left hi, k3 _ (Nat.le_refl _), mpsCs_take, ← h4, List.take_take, Nat.min_eq_left (by omega)]
def zcs : Array Value := #[.int .u8 0, .int .u8 0, .int .u8 0, .bool false]
theorem zcs_one (n : Nat) : ∀ v ∈ (Builtin.zeroCells zcs n).toList, v.oneCell' = true := by
  intro v hv
  have h : v ∈ zcs := by
    simp only [Builtin.zeroCells] at hv
    simp at hv
    obtain ⟨i, _, rfl⟩ := hv
    have h4 : i % zcs.size < 4 := Nat.mod_lt _ (by decide)
    generalize i % zcs.size = q at h4
    have : q = 0 ∨ q = 1 ∨ q = 2 ∨ q = 3 := by omega
    rcases this with rfl | rfl | rfl | rfl <;> simp [zcs]
  simp [zcs] at h
  rcases h with rfl | rfl | rfl <;> rfl
theorem run_clear4 (w : World) (ty : TypeId) (b o n c : Nat) (hn : 0 < n) (hc : ∀ j, j < n * 4 → (w.cell? ⟨b, o + j, none⟩).isSome = true) (hf : ∀ j, j < n * 4 → w.frozen? ⟨b, o + j, none⟩ = false) :
    (Builtin.clear_ #[66] ty #[.slice (some ⟨b, o, none⟩) n c]).run Try.prog w = .ok (.tuple #[]) (w.setCells b o (Builtin.zeroCells zcs n).toList) := by
  have hl : (Builtin.zeroCells zcs n).toList.length = n * 4 := by
    have := size_zeroCells zcs n
    simpa [zcs] using this
  have hst := run_storeCells_cells (P := Try.prog) b o (Builtin.zeroCells zcs n).toList 0 w (by rw [hl]; simpa using hc) (by rw [hl]; simpa using hf) (zcs_one n)
  simp only [Nat.add_zero] at hst
  have hv : ∀ w, (zeroValue 39).run Try.prog w = .ok (.agg zcs) w := fun w => by kernel_rfl
  obtain ⟨m, rfl⟩ : ∃ m, n = m + 1 := ⟨n - 1, by omega⟩
  simp [Builtin.clear_, run_underlying Try.underlying66, hv, Value.cells, hst]
end Go.Proofs.Ytdmahmolhdbegaa.Tb
