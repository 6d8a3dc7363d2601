/- MemNone: the walk. -/
import Derived.Test.YthkoppfponedhabMemF
namespace Go.Proofs.Ythkoppfponedhab
open Go.RowKit Go.Maps
set_option linter.unusedVariables false
set_option maxRecDepth 100000
theorem dbox {w : World} {b : Nat} {k f o x : Int} {v : Value} (h : w.heap[b]? = some (.cells #[.int .i64 k, .int .i64 f, .int .i64 o, .int .u16 x, v] 26)) :
    w.cell? ⟨b, 1, none⟩ = some (.int .i64 f) ∧ w.cell? ⟨b, 2, none⟩ = some (.int .i64 o) ∧ w.cell? ⟨b, 3, none⟩ = some (.int .u16 x) := by
  refine ⟨?_, ?_, ?_⟩ <;> (rw [cell_of_row _ _ _ _ _ _ h]; rfl)
set_option maxHeartbeats 8000000 in
theorem mnone_law (k f o x : Int) (v : Value) (n : Int) (w : World) : Calls Try.prog 3 #[.agg #[.int .i64 k, .int .i64 f, .int .i64 o, .int .u16 x, v], .int .i64 n] w fun e w' => e = .returned (.bool true) ∧ Below w.heap.size w w' := by
  have hB0 : Below w.heap.size w (w.alloc (.cells #[.int .i64 k, .int .i64 f, .int .i64 o, .int .u16 x, v] 26)) := (Below.refl _ w).alloc (Nat.le_refl _) _
  have hb0 := heap_alloc_last w (.cells #[.int .i64 k, .int .i64 f, .int .i64 o, .int .u16 x, v] 26)
  have c1 := word_nil f o (w.alloc (.cells #[.int .i64 k, .int .i64 f, .int .i64 o, .int .u16 x, v] 26))
  have c2 := byte_nil f o (w.alloc (.cells #[.int .i64 k, .int .i64 f, .int .i64 o, .int .u16 x, v] 26))
  have c3 := frame_nil f (w.alloc (.cells #[.int .i64 k, .int .i64 f, .int .i64 o, .int .u16 x, v] 26))
  have c4 := mlive_any (w.alloc (.cells #[.int .i64 k, .int .i64 f, .int .i64 o, .int .u16 x, v] 26))
  go_enter Try.func3, Try.ntmps3
  go_wp2_with fail
  refine c1.mono ?_
  rintro e W1 ⟨rfl, rfl⟩
  clear c1
  go_wp2_with fail
  refine c2.mono ?_
  rintro e W1 ⟨rfl, rfl⟩
  clear c2
  go_wp2_with fail
  refine c3.mono ?_
  rintro e W1 ⟨rfl, rfl⟩
  clear c3
  go_wp2_with fail
  refine c4.mono ?_
  rintro e W1 ⟨rfl, hB4⟩
  clear c4
  have hB := hB0.trans (hB4.mono hB0.size)
  have hb1 := (hB4.block w.heap.size (by simp)).trans hb0
  obtain ⟨y1, y2, y3⟩ := dbox hb1
  clear hB0 hB4 hb0 hb1
  have c := setword_nil f o x W1
  go_wp2_with fail
  refine c.mono ?_
  rintro e W1 ⟨rfl, rfl⟩
  clear c
  have c := setbyte_nil f o 1 W1
  go_wp2_with fail
  refine c.mono ?_
  rintro e W1 ⟨rfl, rfl⟩
  clear c
  have c := zero_nil f W1
  go_wp2_with fail
  refine c.mono ?_
  rintro e W1 ⟨rfl, rfl⟩
  clear c
  have c := copy_nil f o W1
  go_wp2_with fail
  refine c.mono ?_
  rintro e W1 ⟨rfl, rfl⟩
  clear c
  have c := fill_nil f o (.slice none 0 0) W1
  go_wp2_with fail
  refine c.mono ?_
  rintro e W1 ⟨rfl, rfl⟩
  clear c
  have c := size_nil W1
  go_wp2_with fail
  refine c.mono ?_
  rintro e W1 ⟨rfl, rfl⟩
  clear c
  have c := clean_nil f W1
  go_wp2_with fail
  refine c.mono ?_
  rintro e W1 ⟨rfl, rfl⟩
  clear c
  have c := same_nil f W1
  go_wp2_with fail
  refine c.mono ?_
  rintro e W1 ⟨rfl, rfl⟩
  clear c
  have c := fork_nil W1
  go_wp2_with fail
  refine c.mono ?_
  rintro e W1 ⟨rfl, rfl⟩
  clear c
  by_cases hn : n < 1 ∨ 64 < n
  · have c := new_bad n W1 hn
    go_wp2_with fail
    refine c.mono ?_
    rintro e W1 ⟨rfl, rfl⟩
    clear c
    by_cases h1 : n < 1
    · go_wp2
      go_ret
      exact ⟨rfl, hB⟩
    · have h2 : 64 < n := by omega
      go_wp2
      go_ret
      exact ⟨rfl, hB⟩
  · have h1 : ¬ n < 1 := by omega
    have h2 : ¬ 64 < n := by omega
    have c := new_good n W1 (by omega) (by omega)
    go_wp2_with fail
    refine c.mono ?_
    rintro e W2 ⟨rfl, hM, hB2⟩
    clear c hn
    have hB3 := hB.trans (hB2.mono hB.size)
    clear hB2 hM
    go_wp2
    go_ret
    refine ⟨?_, hB3⟩
    show Ending.returned (.bool (!decide (n < 1) && !decide (64 < n))) = _
    rw [decide_eq_false (by omega : ¬ n < 1), decide_eq_false (by omega : ¬ 64 < n)]
    rfl
end Go.Proofs.Ythkoppfponedhab
