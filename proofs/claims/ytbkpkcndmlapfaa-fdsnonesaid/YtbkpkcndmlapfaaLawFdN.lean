/- FdsNone: the walk. -/
import Derived.Test.YtbkpkcndmlapfaaFdLv
namespace Go.Proofs.Ytbkpkcndmlapfaa
open Go.RowKit Go.Maps
set_option linter.unusedVariables false
set_option maxRecDepth 100000
set_option maxHeartbeats 1000000 in
theorem of_nil (p : Int) (w : World) : Calls Try.prog 33 #[.pointer none, .int .i64 p] w fun r w' => r = .returned (.tuple #[.pointer none, .int .i64 1]) ∧ w' = w := by
  go_enter Try.func33, Try.ntmps33
  go_wp2
  go_ret2
  exact ⟨rfl, rfl⟩
set_option maxHeartbeats 1000000 in
theorem at_nil (p n : Int) (w : World) : Calls Try.prog 36 #[.pointer none, .int .i64 p, .int .i64 n] w fun r w' => r = .returned (.tuple #[.pointer none, .int .i64 1]) ∧ w' = w := by
  have cO := of_nil p w
  go_enter Try.func36, Try.ntmps36
  go_wp2_with fail
  refine cO.mono ?_
  rintro r W ⟨rfl, hW⟩
  rw [hW]
  clear cO hW
  go_wp2
  go_ret2
  exact ⟨rfl, rfl⟩
set_option maxHeartbeats 1000000 in
theorem end_nil (p : Int) (w : World) : Calls Try.prog 20 #[.pointer none, .int .i64 p] w fun r w' => r = .returned (.tuple #[.slice none 0 0, .int .i64 1]) ∧ w' = w := by
  have cO := of_nil p w
  go_enter Try.func20, Try.ntmps20
  go_wp2_with fail
  refine cO.mono ?_
  rintro r W ⟨rfl, hW⟩
  rw [hW]
  clear cO hW
  go_wp2
  go_ret2
  exact ⟨rfl, rfl⟩
set_option maxHeartbeats 1000000 in
theorem open_nil (p : Int) (o : Opn) (w : World) : Calls Try.prog 14 #[.pointer none, .int .i64 p, .agg (opC o).toArray] w fun r w' => r = .returned (.tuple #[.int .i64 0, .int .i64 1]) ∧ Below w.heap.size w w' := by
  have cO := of_nil p (w.alloc (.cells #[.int .u8 o.k, .int .i64 o.r, .int .i64 o.p] 32))
  have HX := Hid3.mk (below_new w (.cells #[.int .u8 o.k, .int .i64 o.r, .int .i64 o.p] 32))
  unfold opC
  go_enter Try.func14, Try.ntmps14
  go_wp2_with fail
  refine cO.mono ?_
  rintro r W ⟨rfl, hW⟩
  rw [hW]
  clear cO hW
  go_wp2
  go_ret2
  exact ⟨rfl, HX.out⟩
set_option maxHeartbeats 1000000 in
theorem dup_nil (p n : Int) (w : World) : Calls Try.prog 22 #[.pointer none, .int .i64 p, .int .i64 n] w fun r w' => r = .returned (.tuple #[.int .i64 0, .int .i64 1]) ∧ w' = w := by
  have cO := at_nil p n w
  go_enter Try.func22, Try.ntmps22
  go_wp2_with fail
  refine cO.mono ?_
  rintro r W ⟨rfl, hW⟩
  rw [hW]
  clear cO hW
  go_wp2
  go_ret2
  exact ⟨rfl, rfl⟩
set_option maxHeartbeats 1000000 in
theorem close_nil (p n : Int) (w : World) : Calls Try.prog 23 #[.pointer none, .int .i64 p, .int .i64 n] w fun r w' => r = .returned (.tuple #[.agg #[.int .u8 0, .int .i64 0, .int .i64 0], .bool false, .int .i64 1]) ∧ Below w.heap.size w w' := by
  have cO := at_nil p n (w.alloc zO)
  have HX := Hid3.mk (below_new w zO)
  simp only [zO] at *
  go_enter Try.func23, Try.ntmps23
  go_wp2_with fail
  refine cO.mono ?_
  rintro r W ⟨rfl, hW⟩
  rw [hW]
  clear cO hW
  go_wp2
  refine bodyPost_ret (v := .tuple #[.agg #[.int .u8 0, .int .i64 0, .int .i64 0], .bool false, .int .i64 1]) (by simp [results, Try.results23, go_sem]) rfl ⟨rfl, ?_⟩
  exact below_new w _
set_option maxHeartbeats 1000000 in
theorem get_nil (p n : Int) (w : World) : Calls Try.prog 15 #[.pointer none, .int .i64 p, .int .i64 n] w fun r w' => r = .returned (.tuple #[.agg #[.int .u8 0, .int .i64 0, .int .i64 0], .int .i64 1]) ∧ Below w.heap.size w w' := by
  have cO := at_nil p n (w.alloc zO)
  have HX := Hid3.mk (below_new w zO)
  simp only [zO] at *
  go_enter Try.func15, Try.ntmps15
  go_wp2_with fail
  refine cO.mono ?_
  rintro r W ⟨rfl, hW⟩
  rw [hW]
  clear cO hW
  go_wp2
  refine bodyPost_ret (v := .tuple #[.agg #[.int .u8 0, .int .i64 0, .int .i64 0], .int .i64 1]) (by simp [results, Try.results15, go_sem]) rfl ⟨rfl, ?_⟩
  exact below_new w _
set_option maxHeartbeats 1000000 in
theorem begin_nil (p : Int) (w : World) : Calls Try.prog 19 #[.pointer none, .int .i64 p] w fun r w' => r = .returned (.int .i64 1) ∧ w' = w := by
  go_enter Try.func19, Try.ntmps19
  go_wp2
  go_ret
  exact ⟨rfl, rfl⟩
set_option maxHeartbeats 1000000 in
theorem fork_nil (p q : Int) (w : World) : Calls Try.prog 21 #[.pointer none, .int .i64 p, .int .i64 q] w fun r w' => r = .returned (.int .i64 1) ∧ w' = w := by
  have cO := of_nil p w
  go_enter Try.func21, Try.ntmps21
  go_wp2_with fail
  refine cO.mono ?_
  rintro r W ⟨rfl, hW⟩
  rw [hW]
  clear cO hW
  go_wp2
  go_ret
  exact ⟨rfl, rfl⟩
set_option maxHeartbeats 1000000 in
theorem move_nil (p n q : Int) (w : World) : Calls Try.prog 17 #[.pointer none, .int .i64 p, .int .i64 n, .int .i64 q] w fun r w' => r = .returned (.int .i64 1) ∧ w' = w := by
  have cO := at_nil p n w
  go_enter Try.func17, Try.ntmps17
  go_wp2_with fail
  refine cO.mono ?_
  rintro r W ⟨rfl, hW⟩
  rw [hW]
  clear cO hW
  go_wp2
  go_ret
  exact ⟨rfl, rfl⟩
set_option maxHeartbeats 1000000 in
theorem list_nil (p : Int) (w : World) : Calls Try.prog 12 #[.pointer none, .int .i64 p] w fun r w' => r = .returned (.slice none 0 0) ∧ w' = w := by
  have cO := of_nil p w
  go_enter Try.func12, Try.ntmps12
  go_wp2_with fail
  refine cO.mono ?_
  rintro r W ⟨rfl, hW⟩
  rw [hW]
  clear cO hW
  go_wp2
  go_ret
  exact ⟨rfl, rfl⟩
set_option maxHeartbeats 1000000 in
theorem room_nil (p : Int) (w : World) : Calls Try.prog 13 #[.pointer none, .int .i64 p] w fun r w' => r = .returned (.int .i64 0) ∧ w' = w := by
  have cO := of_nil p w
  go_enter Try.func13, Try.ntmps13
  go_wp2_with fail
  refine cO.mono ?_
  rintro r W ⟨rfl, hW⟩
  rw [hW]
  clear cO hW
  go_wp2
  go_ret
  exact ⟨rfl, rfl⟩
set_option maxHeartbeats 1000000 in
theorem same_nil (p a q b : Int) (w : World) : Calls Try.prog 16 #[.pointer none, .int .i64 p, .int .i64 a, .int .i64 q, .int .i64 b] w fun r w' => r = .returned (.bool false) ∧ w' = w := by
  have cO := at_nil p a w
  go_enter Try.func16, Try.ntmps16
  go_wp2_with fail
  refine cO.mono ?_
  rintro r W ⟨rfl, hW⟩
  rw [hW]
  clear cO hW
  go_wp2
  go_ret
  exact ⟨rfl, rfl⟩
set_option maxHeartbeats 1000000 in
theorem copy_nil (w : World) : Calls Try.prog 24 #[.pointer none] w fun r w' => r = .returned (.pointer none) ∧ w' = w := by
  go_enter Try.func24, Try.ntmps24
  go_wp2
  go_ret
  exact ⟨rfl, rfl⟩
set_option maxHeartbeats 2000000 in
theorem none_law (d : Dd) (w : World) : Calls Try.prog 8 #[ddV d] w fun r w' => r = .returned (.bool true) ∧ Below w.heap.size w w' := by
  obtain ⟨k, p, q, n, o⟩ := d
  unfold ddV
  simp only
  have HX := Hid3.mk (below_new w (.cells #[.int .i64 k, .int .i64 p, .int .i64 q, .int .i64 n, .int .u8 o.k, .int .i64 o.r, .int .i64 o.p] 49))
  have hbx := heap_alloc_new w (.cells #[.int .i64 k, .int .i64 p, .int .i64 q, .int .i64 n, .int .u8 o.k, .int .i64 o.r, .int .i64 o.p] 49)
  have HC : Hid3 (∀ W : World, W.heap[w.heap.size]? = some (.cells #[.int .i64 k, .int .i64 p, .int .i64 q, .int .i64 n, .int .u8 o.k, .int .i64 o.r, .int .i64 o.p] 49) → W.cell? ⟨w.heap.size, 1, none⟩ = some (.int .i64 p) ∧ W.cell? ⟨w.heap.size, 2, none⟩ = some (.int .i64 q) ∧ W.cell? ⟨w.heap.size, 3, none⟩ = some (.int .i64 n) ∧ W.cell? ⟨w.heap.size, 4, none⟩ = some (.int .u8 o.k) ∧ W.cell? ⟨w.heap.size, 5, none⟩ = some (.int .i64 o.r) ∧ W.cell? ⟨w.heap.size, 6, none⟩ = some (.int .i64 o.p) ∧ w.heap.size < W.heap.size) := ⟨fun W hW => ⟨by rw [Lib.cell_of_heap hW]; rfl, by rw [Lib.cell_of_heap hW]; rfl, by rw [Lib.cell_of_heap hW]; rfl, by rw [Lib.cell_of_heap hW]; rfl, by rw [Lib.cell_of_heap hW]; rfl, by rw [Lib.cell_of_heap hW]; rfl, (Array.getElem?_eq_some_iff.1 hW).1⟩⟩
  have eG := eqGuardO
  have eM := fun W => eqO W op0 op0
  rw [decide_eq_true rfl] at eM
  simp only [op0] at eM
  have e1 := end_nil p (w.alloc (.cells #[.int .i64 k, .int .i64 p, .int .i64 q, .int .i64 n, .int .u8 o.k, .int .i64 o.r, .int .i64 o.p] 49))
  have e2 := open_nil p o (w.alloc (.cells #[.int .i64 k, .int .i64 p, .int .i64 q, .int .i64 n, .int .u8 o.k, .int .i64 o.r, .int .i64 o.p] 49))
  unfold opC at e2
  go_enter Try.func8, Try.ntmps8
  go_wp2_with fail
  refine e1.mono ?_
  rintro r V ⟨rfl, hV⟩
  rw [hV]
  clear e1 hV
  go_wp2_with fail
  refine e2.mono ?_
  rintro r W2 ⟨rfl, hB2⟩
  have hb2 := (hB2.block w.heap.size (by simp)).trans hbx
  have HB2 := Hid3.mk (HX.out.trans (hB2.mono HX.out.size))
  obtain ⟨a1, a2, a3, a4, a5, a6, hl2⟩ := HC.out W2 hb2
  clear e2 hB2
  go_wp2_with fail
  refine (dup_nil p n W2).mono ?_
  rintro r V ⟨rfl, hV⟩
  rw [hV]
  clear hV
  go_wp2_with fail
  refine (close_nil p n W2).mono ?_
  rintro r W3 ⟨rfl, hB3⟩
  have hb3 := (hB3.block w.heap.size hl2).trans hb2
  have HB3 := Hid3.mk (HB2.out.trans (hB3.mono HB2.out.size))
  clear a1 a2 a3 a4 a5 a6
  obtain ⟨b1, b2, b3, b4, b5, b6, hl3⟩ := HC.out W3 hb3
  have hbz := heap_alloc_new W3 zO
  have HX3 := Hid3.mk (below_new W3 zO)
  clear hB3 hb2
  have e4 := get_nil p n (W3.alloc zO)
  simp only [zO] at e4 hbz HX3
  go_wp2_with fail
  refine e4.mono ?_
  rintro r W4 ⟨rfl, hB4⟩
  have hb4 := (hB4.block w.heap.size (by simp; omega)).trans ((HX3.out.block w.heap.size hl3).trans hb3)
  have hz4 := (hB4.block W3.heap.size (by simp)).trans hbz
  have HB4 := Hid3.mk ((HB3.out.trans (HX3.out.mono HB3.out.size)).trans (hB4.mono (Nat.le_trans HB3.out.size HX3.out.size)))
  clear b1 b2 b3 b4 b5 b6 e4 hbz hB4 hb3
  have hX4 := below_new W4 (.cells #[.int .u8 0, .int .i64 0, .int .i64 0] 32)
  have cL := live_any (W4.alloc (.cells #[.int .u8 0, .int .i64 0, .int .i64 0] 32))
  have hn4 := heap_alloc_new W4 (.cells #[.int .u8 0, .int .i64 0, .int .i64 0] 32)
  have hl4 : w.heap.size < W4.heap.size := (Array.getElem?_eq_some_iff.1 hb4).1
  have hlz : W3.heap.size < W4.heap.size := (Array.getElem?_eq_some_iff.1 hz4).1
  go_wp2_with fail
  refine cL.mono ?_
  rintro r W5 ⟨rfl, hB5⟩
  have hb5 := (hB5.block w.heap.size (by simp; omega)).trans ((hX4.block w.heap.size hl4).trans hb4)
  have hz5 := (hB5.block W3.heap.size (by simp; omega)).trans ((hX4.block W3.heap.size hlz).trans hz4)
  have hn5 := (hB5.block W4.heap.size (by simp)).trans hn4
  have HB5 := Hid3.mk ((HB4.out.trans (hX4.mono HB4.out.size)).trans (hB5.mono (Nat.le_trans HB4.out.size hX4.size)))
  obtain ⟨c1, c2, c3, c4, c5, c6, hl5⟩ := HC.out W5 hb5
  have q0 : W5.cell? ⟨W3.heap.size, 0, none⟩ = some (.int .u8 0) := by rw [Lib.cell_of_heap hz5]; rfl
  have q1 : W5.cell? ⟨W3.heap.size, 1, none⟩ = some (.int .i64 0) := by rw [Lib.cell_of_heap hz5]; rfl
  have q2 : W5.cell? ⟨W3.heap.size, 2, none⟩ = some (.int .i64 0) := by rw [Lib.cell_of_heap hz5]; rfl
  have u0 : W5.cell? ⟨W4.heap.size, 0, none⟩ = some (.int .u8 0) := by rw [Lib.cell_of_heap hn5]; rfl
  have u1 : W5.cell? ⟨W4.heap.size, 1, none⟩ = some (.int .i64 0) := by rw [Lib.cell_of_heap hn5]; rfl
  have u2 : W5.cell? ⟨W4.heap.size, 2, none⟩ = some (.int .i64 0) := by rw [Lib.cell_of_heap hn5]; rfl
  clear cL hB5 hX4 hn4 hb4 hz4 hb5 hz5 hn5 HC
  go_wp2_with fail
  refine (begin_nil p W5).mono ?_
  rintro r V ⟨rfl, hV⟩
  rw [hV]
  clear hV
  go_wp2_with fail
  refine (fork_nil p q W5).mono ?_
  rintro r V ⟨rfl, hV⟩
  rw [hV]
  clear hV
  go_wp2_with fail
  refine (move_nil p n 0 W5).mono ?_
  rintro r V ⟨rfl, hV⟩
  rw [hV]
  clear hV
  go_wp2_with fail
  refine (list_nil p W5).mono ?_
  rintro r V ⟨rfl, hV⟩
  rw [hV]
  clear hV
  go_wp2_with fail
  refine (room_nil p W5).mono ?_
  rintro r V ⟨rfl, hV⟩
  rw [hV]
  clear hV
  go_wp2_with fail
  refine (same_nil p n q n W5).mono ?_
  rintro r V ⟨rfl, hV⟩
  rw [hV]
  clear hV
  go_wp2_with fail
  refine (copy_nil  W5).mono ?_
  rintro r V ⟨rfl, hV⟩
  rw [hV]
  clear hV
  go_wp2
  go_ret
  exact ⟨rfl, HB5.out⟩
end Go.Proofs.Ytbkpkcndmlapfaa
