/- VmNone: the walk. -/
import Derived.Test.YtbognbeplmdkdabLawVmNp
namespace Go.Proofs.Ytbognbeplmdkdab
open Go.RowKit Go.Maps
set_option linter.unusedVariables false
set_option maxRecDepth 100000
set_option maxHeartbeats 8000000 in
theorem none_good (k p q m c n : Int) (u : Value) (h1 : 1 ≤ n) (h2 : n ≤ 64) (w : World) : Calls Try.prog 3 #[.agg #[.int .i64 k, .int .i64 p, .int .i64 q, .int .i64 m, .int .u8 c, u], .int .i64 n] w fun r w' => r = .returned (.bool true) ∧ Below w.heap.size w w' := by
  have HX := Hid3.mk (below_new w (.cells #[.int .i64 k, .int .i64 p, .int .i64 q, .int .i64 m, .int .u8 c, u] 24))
  have hb0 := heap_alloc_new w (.cells #[.int .i64 k, .int .i64 p, .int .i64 q, .int .i64 m, .int .u8 c, u] 24)
  have HC : Hid3 (∀ W : World, W.heap[w.heap.size]? = some (.cells #[.int .i64 k, .int .i64 p, .int .i64 q, .int .i64 m, .int .u8 c, u] 24 (0, 0)) → W.cell? ⟨w.heap.size, 1, none⟩ = some (.int .i64 p) ∧ W.cell? ⟨w.heap.size, 2, none⟩ = some (.int .i64 q) ∧ W.cell? ⟨w.heap.size, 3, none⟩ = some (.int .i64 m) ∧ w.heap.size < W.heap.size) := ⟨fun W hb => ⟨(Lib.cell_of_heap hb 1).trans rfl, (Lib.cell_of_heap hb 2).trans rfl, (Lib.cell_of_heap hb 3).trans rfl, (Array.getElem?_eq_some_iff.1 hb).1⟩⟩
  have hlt0 : w.heap.size < (w.alloc (.cells #[.int .i64 k, .int .i64 p, .int .i64 q, .int .i64 m, .int .u8 c, u] 24)).heap.size := by simp
  obtain ⟨a1, a2, a3, _⟩ := HC.out _ hb0
  generalize hV0 : w.alloc (.cells #[.int .i64 k, .int .i64 p, .int .i64 q, .int .i64 m, .int .u8 c, u] 24) = V0 at *
  go_enter Try.func3, Try.ntmps3
  go_wp2_with fail
  try rw [hV0]
  clear hV0
  go_wp2_with fail
  refine (peek_nil p m V0).mono ?_
  rintro r V ⟨rfl, hV⟩
  rw [hV]
  clear hV
  go_wp2_with fail
  refine (vframe_nil p m V0).mono ?_
  rintro r V ⟨rfl, hV⟩
  rw [hV]
  clear hV
  go_wp2_with fail
  refine (live_ok V0).mono ?_
  rintro r W1 ⟨rfl, hB1⟩
  have hb1 := (hB1.block w.heap.size hlt0).trans hb0
  have HB1 := Hid3.mk (HX.out.trans (hB1.mono (by omega)))
  clear a1 a2 a3 hB1
  obtain ⟨a1, a2, a3, hlt1⟩ := HC.out _ hb1
  go_wp2_with fail
  refine (begin_nil p W1).mono ?_
  rintro r V ⟨rfl, hV⟩
  rw [hV]
  clear hV
  go_wp2_with fail
  refine (end_nil p W1).mono ?_
  rintro r V ⟨rfl, hV⟩
  rw [hV]
  clear hV
  go_wp2_with fail
  refine (vfork_nil p q W1).mono ?_
  rintro r V ⟨rfl, hV⟩
  rw [hV]
  clear hV
  go_wp2_with fail
  refine (map_nil p m W1).mono ?_
  rintro r V ⟨rfl, hV⟩
  rw [hV]
  clear hV
  go_wp2_with fail
  refine (unmap_nil p m W1).mono ?_
  rintro r V ⟨rfl, hV⟩
  rw [hV]
  clear hV
  go_wp2_with fail
  refine (poke_nil p m 1 W1).mono ?_
  rintro r W2 ⟨rfl, hB2⟩
  have hb2 := (hB2.block w.heap.size hlt1).trans hb1
  have HB2 := Hid3.mk (HB1.out.trans (hB2.mono (by omega)))
  clear a1 a2 a3 hB2
  obtain ⟨a1, a2, a3, hlt2⟩ := HC.out _ hb2
  go_wp2_with fail
  refine (vfill_nil p m (.slice none 0 0) W2).mono ?_
  rintro r V ⟨rfl, hV⟩
  rw [hV]
  clear hV
  go_wp2_with fail
  refine (pages_nil p W2).mono ?_
  rintro r V ⟨rfl, hV⟩
  rw [hV]
  clear hV
  go_wp2_with fail
  refine (refs_nil m W2).mono ?_
  rintro r V ⟨rfl, hV⟩
  rw [hV]
  clear hV
  go_wp2_with fail
  refine (left_nil W2).mono ?_
  rintro r V ⟨rfl, hV⟩
  rw [hV]
  clear hV
  go_wp2_with fail
  refine (copies_nil W2).mono ?_
  rintro r V ⟨rfl, hV⟩
  rw [hV]
  clear hV
  go_wp2_with fail
  refine (vcopy_nil W2).mono ?_
  rintro r V ⟨rfl, hV⟩
  rw [hV]
  clear hV
  go_wp2_with fail
  refine (vnew_good n W2 h1 h2).mono ?_
  rintro r W3 ⟨l, rfl, _, hB3⟩
  have HB3 := Hid3.mk (HB2.out.trans (hB3.mono (by omega)))
  clear hB3
  go_wp2
  go_ret
  have e : (!decide (n < 1) && !decide (64 < n)) = true := by rw [decide_eq_false (by omega : ¬ n < 1), decide_eq_false (by omega : ¬ 64 < n)]; rfl
  refine ⟨?_, HB3.out⟩
  show Ending.returned (Value.bool (!decide (n < 1) && !decide (64 < n))) = _
  rw [e]
end Go.Proofs.Ytbognbeplmdkdab
