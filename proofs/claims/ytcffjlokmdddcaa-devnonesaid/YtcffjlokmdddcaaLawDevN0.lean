/- DevNone: the walk. -/
import Derived.Test.YtcffjlokmdddcaaDevF
namespace Go.Proofs.Ytcffjlokmdddcaa
open Go.RowKit Go.Maps
set_option linter.unusedVariables false
set_option maxRecDepth 100000
theorem b8m {W : World} {b : Nat} {x0 x1 x2 x3 x4 x5 x6 x7 : Value} {t : TypeId} (h : W.heap[b]? = some (.cells #[x0, x1, x2, x3, x4, x5, x6, x7] t)) : W.cell? ⟨b, 1, none⟩ = some x1 ∧ W.cell? ⟨b, 2, none⟩ = some x2 ∧ W.cell? ⟨b, 3, none⟩ = some x3 ∧ W.cell? ⟨b, 4, none⟩ = some x4 ∧ W.cell? ⟨b, 5, none⟩ = some x5 ∧ W.cell? ⟨b, 6, none⟩ = some x6 ∧ W.cell? ⟨b, 7, none⟩ = some x7 :=
  ⟨by rw [Lib.cell_of_heap h]; rfl, by rw [Lib.cell_of_heap h]; rfl, by rw [Lib.cell_of_heap h]; rfl, by rw [Lib.cell_of_heap h]; rfl, by rw [Lib.cell_of_heap h]; rfl, by rw [Lib.cell_of_heap h]; rfl, by rw [Lib.cell_of_heap h]; rfl⟩
theorem bel_a {W1 W2 : World} (h : Below W1.drew.heap.size W1.drew W2) : Below W1.heap.size W1 W2 := (Below.refl _ W1).drew.trans h
theorem bel_b {W1 W2 : World} {o : Obj} (h : Below (W1.alloc o).drew.heap.size (W1.alloc o).drew W2) : Below W1.heap.size W1 W2 := by
  have k : Below W1.heap.size W1 (W1.alloc o).drew := ((Below.refl _ W1).alloc (Nat.le_refl _) o).drew
  exact k.trans (h.mono k.size)
theorem cel_b {W1 W2 : World} {o : Obj} (h : Below (W1.alloc o).drew.heap.size (W1.alloc o).drew W2) : W2.heap[W1.heap.size]? = some o := (h.block W1.heap.size (show W1.heap.size < (W1.alloc o).heap.size by simp)).trans (heap_alloc_last W1 o)
theorem bel_c {W1 W2 W3 : World} (k : Below W1.heap.size W1 W2) (h : Below W2.heap.size W2 W3) : Below W1.heap.size W1 W3 := k.trans (h.mono k.size)
theorem bel_d {W1 W2 W3 : World} {o : Obj} (k : Below W1.heap.size W1 W2) (h : Below (W2.alloc o).heap.size (W2.alloc o) W3) : Below W1.heap.size W1 W3 := by
  have k2 : Below W1.heap.size W1 (W2.alloc o) := k.alloc k.size o
  exact k2.trans (h.mono k2.size)
theorem cel_d {W2 W3 : World} {o : Obj} (h : Below (W2.alloc o).heap.size (W2.alloc o) W3) : W3.heap[W2.heap.size]? = some o := (h.block W2.heap.size (by simp)).trans (heap_alloc_last W2 o)
theorem bel_s5 {W1 W3 : World} (k : Below W1.heap.size W1 W3) (b : Nat) (hb : W1.heap.size ≤ b) (x0 x1 x2 x3 x4 : Value) : Below W1.heap.size W1 (((((W3.setCell ⟨b, 0, none⟩ x0).setCell ⟨b, 1, none⟩ x1).setCell ⟨b, 2, none⟩ x2).setCell ⟨b, 3, none⟩ x3).setCell ⟨b, 4, none⟩ x4) :=
  k.trans ((apart_set5 W3 b x0 x1 x2 x3 x4).below W1.heap.size (fun j e => by omega) k.size)
theorem cell_s1 {W : World} {b : Nat} {cs : Array Value} {t : TypeId} (h : W.heap[b]? = some (.cells cs t)) (j : Nat) (u : Value) : (W.setCell ⟨b, j, none⟩ u).heap[b]? = some (.cells (cs.setIfInBounds j u) t) := by
  rw [setCell_eq_setRow W b j cs t (0, 0) u h]
  exact setRow_heap W b _ _ _ _ h
theorem heap_s5 {W3 : World} {b : Nat} {y0 y1 y2 y3 y4 : Value} {t : TypeId} (h : W3.heap[b]? = some (.cells #[y0, y1, y2, y3, y4] t)) (x0 x1 x2 x3 x4 : Value) : (((((W3.setCell ⟨b, 0, none⟩ x0).setCell ⟨b, 1, none⟩ x1).setCell ⟨b, 2, none⟩ x2).setCell ⟨b, 3, none⟩ x3).setCell ⟨b, 4, none⟩ x4).heap[b]? = some (.cells #[x0, x1, x2, x3, x4] t) := by
  have h0 := cell_s1 h 0 x0
  have h1 := cell_s1 h0 1 x1
  have h2 := cell_s1 h1 2 x2
  have h3 := cell_s1 h2 3 x3
  exact cell_s1 h3 4 x4
theorem eqGuardR : Try.prog.eqGuardType Try.prog.depth 45 = false := by kernel_rfl
set_option maxHeartbeats 2000000 in
theorem eqR0 (w : World) : (Op.equalIn 10000 45 (.agg #[.int .u32 0, .bool false, .int .i64 0, .int .i64 0, .int .u8 0]) (.agg #[.int .u32 0, .bool false, .int .i64 0, .int .i64 0, .int .u8 0])).run Try.prog w = .ok true w := by
  show (Op.equalIn (9998 + 1 + 1) 45 _ _).run Try.prog w = _
  rw [Op.equalIn]
  simp only [Sem.run_bind, run_underlying Try.underlying45, Result.andThen_ok]
  simp [go_sem]
end Go.Proofs.Ytcffjlokmdddcaa
