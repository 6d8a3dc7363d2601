/- QuantaNone: the walk. -/
import Derived.Test.YtgfiliodbggahabQuNil
import Derived.Test.YtgfiliodbggahabQuLv
namespace Go.Proofs.Ytgfiliodbggahab
open Go.RowKit Go.Maps
set_option linter.unusedVariables false
set_option maxRecDepth 100000
abbrev Dd := Int × Int × Int × Int
def ddV (d : Dd) : Value := .agg #[.int .i64 d.1, .int .i64 d.2.1, .int .u8 d.2.2.1, .int .u8 d.2.2.2]
def DdOk (d : Dd) : Prop := 0 ≤ d.2.2.1 ∧ 0 ≤ d.2.2.2
theorem b4d {W : World} {b : Nat} {x0 x1 x2 x3 : Value} {t : TypeId} (h : W.heap[b]? = some (.cells #[x0, x1, x2, x3] t)) : W.cell? ⟨b, 0, none⟩ = some x0 ∧ W.cell? ⟨b, 1, none⟩ = some x1 ∧ W.cell? ⟨b, 2, none⟩ = some x2 ∧ W.cell? ⟨b, 3, none⟩ = some x3 :=
  ⟨by rw [Lib.cell_of_heap h]; rfl, by rw [Lib.cell_of_heap h]; rfl, by rw [Lib.cell_of_heap h]; rfl, by rw [Lib.cell_of_heap h]; rfl⟩
set_option maxHeartbeats 4000000 in
theorem none_law (d : Dd) (w : World) : Calls Try.prog 3 #[ddV d] w fun e w' => e = .returned (.bool true) ∧ Below w.heap.size w w' := by
  obtain ⟨kk, p, e, t⟩ := d
  unfold ddV
  have hX := below_new w (.cells #[.int .i64 kk, .int .i64 p, .int .u8 e, .int .u8 t] 23)
  have hbx := heap_alloc_new w (.cells #[.int .i64 kk, .int .i64 p, .int .u8 e, .int .u8 t] 23)
  have hsz : w.heap.size < (w.alloc (.cells #[.int .i64 kk, .int .i64 p, .int .u8 e, .int .u8 t] 23)).heap.size := by simp
  have c1 := turn_nil (w.alloc (.cells #[.int .i64 kk, .int .i64 p, .int .u8 e, .int .u8 t] 23))
  go_enter Try.func3, Try.ntmps3
  go_wp2_with fail
  generalize (w.alloc (.cells #[.int .i64 kk, .int .i64 p, .int .u8 e, .int .u8 t] 23)) = W0 at *
  refine c1.mono ?_
  rintro r W1 ⟨rfl, hB1⟩
  have HX1 : Hid (Below w.heap.size w W1) := hX.trans (hB1.mono hX.size)
  have hb1 := (hB1.block w.heap.size hsz).trans hbx
  have hsz1 : w.heap.size < W1.heap.size := Nat.lt_of_lt_of_le hsz hB1.size
  obtain ⟨x0, x1, x2, x3⟩ := b4d hb1
  have c2 := at_nil p W1
  have c3 := live_any W1
  clear c1 hX hbx hsz hB1
  go_wp2_with fail
  refine c2.mono ?_
  rintro r W2 ⟨rfl, hW⟩
  rw [hW]
  clear c2 hW
  go_wp2_with fail
  refine c3.mono ?_
  rintro r W3 ⟨rfl, hB3⟩
  have HX3 : Hid (Below w.heap.size w W3) := HX1.out.trans (hB3.mono HX1.out.size)
  have hb3 := (hB3.block w.heap.size hsz1).trans hb1
  have hsz3 : w.heap.size < W3.heap.size := Nat.lt_of_lt_of_le hsz1 hB3.size
  clear x0 x1 x2 x3 c3 hb1 hsz1 hB3
  obtain ⟨x0, x1, x2, x3⟩ := b4d hb3
  have c4 := take_nil e p W3
  have c5 := give_nil e p t W3
  have c6 := drop_nil e p W3
  have c7 := out_nil e W3
  have c8 := over_nil e p W3
  have c9 := places_nil e W3
  go_wp2_with fail
  refine c4.mono ?_
  rintro r W4 ⟨rfl, hW⟩
  rw [hW]
  clear c4 hW
  go_wp2_with fail
  refine c5.mono ?_
  rintro r W4 ⟨rfl, hW⟩
  rw [hW]
  clear c5 hW
  go_wp2_with fail
  refine c6.mono ?_
  rintro r W4 ⟨rfl, hW⟩
  rw [hW]
  clear c6 hW
  go_wp2_with fail
  refine c7.mono ?_
  rintro r W4 ⟨rfl, hW⟩
  rw [hW]
  clear c7 hW
  go_wp2_with fail
  refine c8.mono ?_
  rintro r W4 ⟨rfl, hW⟩
  rw [hW]
  clear c8 hW
  go_wp2_with fail
  refine c9.mono ?_
  rintro r W5 ⟨rfl, hB5⟩
  have HX5 : Hid (Below w.heap.size w W5) := HX3.out.trans (hB5.mono HX3.out.size)
  have hb5 := (hB5.block w.heap.size hsz3).trans hb3
  clear x0 x1 x2 x3 c9 hb3 hsz3 hB5
  obtain ⟨x0, x1, x2, x3⟩ := b4d hb5
  have c10 := pen_nil e W5
  have c11 := now_nil W5
  have c12 := fork_nil W5
  go_wp2_with fail
  refine c10.mono ?_
  rintro r W6 ⟨rfl, hW⟩
  rw [hW]
  clear c10 hW
  go_wp2_with fail
  refine c11.mono ?_
  rintro r W6 ⟨rfl, hW⟩
  rw [hW]
  clear c11 hW
  go_wp2_with fail
  refine c12.mono ?_
  rintro r W6 ⟨rfl, hW⟩
  rw [hW]
  clear c12 hW
  go_wp2
  go_ret
  exact ⟨rfl, HX5.out⟩
end Go.Proofs.Ytgfiliodbggahab
