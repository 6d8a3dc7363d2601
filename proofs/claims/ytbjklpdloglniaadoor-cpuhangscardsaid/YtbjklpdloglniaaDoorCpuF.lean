/- What an instruction does: the program. -/
import Derived.Test.YtbjklpdloglniaaDoorCpuE
namespace Go.Proofs.YtbjklpdloglniaaDoor
open Go.RowKit
set_option linter.unusedVariables false
set_option maxRecDepth 100000

/-- A block with these cells, nothing of it frozen. -/
def Cel (W : World) (b : Nat) (xs : Array Value) (t : TypeId) : Prop := W.heap[b]? = some (.cells xs t (0, 0))
theorem Cel.new (w : World) (xs : Array Value) (t : TypeId) : Cel (w.alloc (.cells xs t)) w.heap.size xs t := World.alloc_heap_new w _
theorem Cel.below {W W' : World} {b B : Nat} {xs : Array Value} {t : TypeId} (h : Cel W b xs t) (hB : Below B W W') (hs : b < B) : Cel W' b xs t := (hB.block b hs).trans h
theorem Cel.alloc {W : World} {b : Nat} {xs : Array Value} {t : TypeId} (h : Cel W b xs t) (o : Obj) : Cel (W.alloc o) b xs t := (Lib.alloc_old W o b (Array.getElem?_eq_some_iff.1 h).1).trans h
theorem Cel.c {W : World} {b : Nat} {xs : Array Value} {t : TypeId} (h : Cel W b xs t) (k : Nat) : W.cell? ⟨b, k, none⟩ = xs[k]? := by rw [Lib.cell_of_heap h]
theorem Cel.f {W : World} {b : Nat} {xs : Array Value} {t : TypeId} (h : Cel W b xs t) (j : Nat) : W.frozen? ⟨b, j, none⟩ = false := Lib.frozen_of_heap h j
theorem bsx {w W : World} {b : Nat} (h : Below w.heap.size w W) (hb : w.heap.size ≤ b) (k : Nat) (v : Value) : Below w.heap.size w (W.setCell ⟨b, k, none⟩ v) := h.setCell (p := ⟨b, k, none⟩) hb v
theorem w0_cells (pc : Int) (r : Nat → Int) (o a b m : Int) (w : World) : ∃ W, W = ((((w.alloc (.cells #[.int .u16 pc, .int .u16 (r 0), .int .u16 (r 1), .int .u16 (r 2), .int .u16 (r 3), .int .u16 (r 4), .int .u16 (r 5), .int .u16 (r 6), .int .u16 (r 7)] 26)).alloc (.cells #[.int .u8 o, .int .u8 a, .int .u8 b, .int .u16 m] 29)).alloc (.cells #[.int .u16 0, .int .u16 0, .int .u16 0, .int .u16 0, .int .u16 0, .int .u16 0, .int .u16 0, .int .u16 0, .int .u16 0] 26)).alloc (.cells #[.int .u8 0, .int .u16 0, .int .u16 0, .int .u8 0, .int .i64 0] 35)) ∧ Cel W w.heap.size #[.int .u16 pc, .int .u16 (r 0), .int .u16 (r 1), .int .u16 (r 2), .int .u16 (r 3), .int .u16 (r 4), .int .u16 (r 5), .int .u16 (r 6), .int .u16 (r 7)] 26 ∧ Cel W (w.heap.size + 1 + 1) #[.int .u16 0, .int .u16 0, .int .u16 0, .int .u16 0, .int .u16 0, .int .u16 0, .int .u16 0, .int .u16 0, .int .u16 0] 26 ∧ Cel W (w.heap.size + 1 + 1 + 1) #[.int .u8 0, .int .u16 0, .int .u16 0, .int .u8 0, .int .i64 0] 35 ∧ Below w.heap.size w W ∧ W.heap.size = w.heap.size + 4 := by
  refine ⟨_, rfl, ?_, ?_, ?_, ?_, ?_⟩
  · exact (((Cel.new w _ _).alloc _).alloc _).alloc _
  · have h := (Cel.new ((w.alloc (.cells #[.int .u16 pc, .int .u16 (r 0), .int .u16 (r 1), .int .u16 (r 2), .int .u16 (r 3), .int .u16 (r 4), .int .u16 (r 5), .int .u16 (r 6), .int .u16 (r 7)] 26)).alloc (.cells #[.int .u8 o, .int .u8 a, .int .u8 b, .int .u16 m] 29)) #[.int .u16 0, .int .u16 0, .int .u16 0, .int .u16 0, .int .u16 0, .int .u16 0, .int .u16 0, .int .u16 0, .int .u16 0] 26).alloc (.cells #[.int .u8 0, .int .u16 0, .int .u16 0, .int .u8 0, .int .i64 0] 35)
    rw [World.size_alloc, World.size_alloc] at h
    exact h
  · have h := Cel.new (((w.alloc (.cells #[.int .u16 pc, .int .u16 (r 0), .int .u16 (r 1), .int .u16 (r 2), .int .u16 (r 3), .int .u16 (r 4), .int .u16 (r 5), .int .u16 (r 6), .int .u16 (r 7)] 26)).alloc (.cells #[.int .u8 o, .int .u8 a, .int .u8 b, .int .u16 m] 29)).alloc (.cells #[.int .u16 0, .int .u16 0, .int .u16 0, .int .u16 0, .int .u16 0, .int .u16 0, .int .u16 0, .int .u16 0, .int .u16 0] 26)) #[.int .u8 0, .int .u16 0, .int .u16 0, .int .u8 0, .int .i64 0] 35
    rw [World.size_alloc, World.size_alloc, World.size_alloc] at h
    exact h
  · exact nx (nx (nx (nx (Below.refl _ w) _) _) _) _
  · simp
set_option maxHeartbeats 4000000 in
theorem exec_stop (pc : Int) (r : Nat → Int) (o a b m : Int) (kv : Value) (x : Acc) (w : World)
    (cK : ∀ w, Calls Tryd.prog 10 #[insV o a b m] w fun e w' => e = .returned kv ∧ Below w.heap.size w w')
    (cS : ∀ w, Calls Tryd.prog 11 #[rgV pc r, kv] w fun e w' => e = .returned (.tuple #[accV x, .bool true]) ∧ Below w.heap.size w w') :
    Calls Tryd.prog 5 #[rgV pc r, insV o a b m] w fun e w' => e = .returned (.tuple #[rgV pc r, accV x]) ∧ Below w.heap.size w w' := by
  obtain ⟨x0, x1, x2, x3, x4⟩ := x
  unfold rgV insV accV at *
  simp only at *
  obtain ⟨W1, hW1, k0, k2, k3, hB1, hs1⟩ := w0_cells pc r o a b m w
  go_enter Tryd.func5, Tryd.ntmps5
  go_wp2_with fail
  rw [← hW1]
  clear hW1
  refine (cK _).mono ?_
  rintro e W2 ⟨rfl, hB2⟩
  have j0 := k0.below hB2 (by omega)
  have j2 := k2.below hB2 (by omega)
  have j3 := k3.below hB2 (by omega)
  have hb2 := hB1.trans (hB2.mono (by omega))
  have hs2 := hB2.size
  clear k0 k2 k3 hB2 hB1
  have p0 : W2.cell? ⟨w.heap.size, 0, none⟩ = some (.int .u16 pc) := j0.c 0
  have p1 : W2.cell? ⟨w.heap.size, 1, none⟩ = some (.int .u16 (r 0)) := j0.c 1
  have p2 : W2.cell? ⟨w.heap.size, 2, none⟩ = some (.int .u16 (r 1)) := j0.c 2
  have p3 : W2.cell? ⟨w.heap.size, 3, none⟩ = some (.int .u16 (r 2)) := j0.c 3
  have p4 : W2.cell? ⟨w.heap.size, 4, none⟩ = some (.int .u16 (r 3)) := j0.c 4
  have p5 : W2.cell? ⟨w.heap.size, 5, none⟩ = some (.int .u16 (r 4)) := j0.c 5
  have p6 : W2.cell? ⟨w.heap.size, 6, none⟩ = some (.int .u16 (r 5)) := j0.c 6
  have p7 : W2.cell? ⟨w.heap.size, 7, none⟩ = some (.int .u16 (r 6)) := j0.c 7
  have p8 : W2.cell? ⟨w.heap.size, 8, none⟩ = some (.int .u16 (r 7)) := j0.c 8
  go_wp2_with fail
  refine (cS _).mono ?_
  rintro e W3 ⟨rfl, hB3⟩
  have i0 := j0.below hB3 (by omega)
  have i2 := j2.below hB3 (by omega)
  have i3 := j3.below hB3 (by omega)
  have hb3 := hb2.trans (hB3.mono (by omega))
  have hs3 := hB3.size
  clear j0 j2 j3 hb2 hB3 p0 p1 p2 p3 p4 p5 p6 p7 p8 cK cS
  go_wp2_with fail
  have hb4 := nx hb3 (.cells #[.int .u8 x0, .int .u16 x1, .int .u16 x2, .int .u8 x3, .int .i64 x4] 35)
  have n0 := i0.alloc (.cells #[.int .u8 x0, .int .u16 x1, .int .u16 x2, .int .u8 x3, .int .i64 x4] 35)
  have n2 := i2.alloc (.cells #[.int .u8 x0, .int .u16 x1, .int .u16 x2, .int .u8 x3, .int .i64 x4] 35)
  have n3 := i3.alloc (.cells #[.int .u8 x0, .int .u16 x1, .int .u16 x2, .int .u8 x3, .int .i64 x4] 35)
  have n4 := Cel.new W3 #[.int .u8 x0, .int .u16 x1, .int .u16 x2, .int .u8 x3, .int .i64 x4] 35
  have hs4 : w.heap.size + 4 ≤ W3.heap.size := by omega
  generalize W3.heap.size = B4 at *
  generalize (W3.alloc (.cells #[.int .u8 x0, .int .u16 x1, .int .u16 x2, .int .u8 x3, .int .i64 x4] 35)) = W4 at *
  clear i0 i2 i3 hb3
  have p0 : W4.cell? ⟨w.heap.size, 0, none⟩ = some (.int .u16 pc) := n0.c 0
  have p1 : W4.cell? ⟨w.heap.size, 1, none⟩ = some (.int .u16 (r 0)) := n0.c 1
  have p2 : W4.cell? ⟨w.heap.size, 2, none⟩ = some (.int .u16 (r 1)) := n0.c 2
  have p3 : W4.cell? ⟨w.heap.size, 3, none⟩ = some (.int .u16 (r 2)) := n0.c 3
  have p4 : W4.cell? ⟨w.heap.size, 4, none⟩ = some (.int .u16 (r 3)) := n0.c 4
  have p5 : W4.cell? ⟨w.heap.size, 5, none⟩ = some (.int .u16 (r 4)) := n0.c 5
  have p6 : W4.cell? ⟨w.heap.size, 6, none⟩ = some (.int .u16 (r 5)) := n0.c 6
  have p7 : W4.cell? ⟨w.heap.size, 7, none⟩ = some (.int .u16 (r 6)) := n0.c 7
  have p8 : W4.cell? ⟨w.heap.size, 8, none⟩ = some (.int .u16 (r 7)) := n0.c 8
  have q0 : W4.cell? ⟨w.heap.size + 1 + 1, 0, none⟩ = some (.int .u16 0) := n2.c 0
  have q1 : W4.cell? ⟨w.heap.size + 1 + 1, 1, none⟩ = some (.int .u16 0) := n2.c 1
  have q2 : W4.cell? ⟨w.heap.size + 1 + 1, 2, none⟩ = some (.int .u16 0) := n2.c 2
  have q3 : W4.cell? ⟨w.heap.size + 1 + 1, 3, none⟩ = some (.int .u16 0) := n2.c 3
  have q4 : W4.cell? ⟨w.heap.size + 1 + 1, 4, none⟩ = some (.int .u16 0) := n2.c 4
  have q5 : W4.cell? ⟨w.heap.size + 1 + 1, 5, none⟩ = some (.int .u16 0) := n2.c 5
  have q6 : W4.cell? ⟨w.heap.size + 1 + 1, 6, none⟩ = some (.int .u16 0) := n2.c 6
  have q7 : W4.cell? ⟨w.heap.size + 1 + 1, 7, none⟩ = some (.int .u16 0) := n2.c 7
  have q8 : W4.cell? ⟨w.heap.size + 1 + 1, 8, none⟩ = some (.int .u16 0) := n2.c 8
  have u0 : W4.cell? ⟨w.heap.size + 1 + 1 + 1, 0, none⟩ = some (.int .u8 0) := n3.c 0
  have u1 : W4.cell? ⟨w.heap.size + 1 + 1 + 1, 1, none⟩ = some (.int .u16 0) := n3.c 1
  have u2 : W4.cell? ⟨w.heap.size + 1 + 1 + 1, 2, none⟩ = some (.int .u16 0) := n3.c 2
  have u3 : W4.cell? ⟨w.heap.size + 1 + 1 + 1, 3, none⟩ = some (.int .u8 0) := n3.c 3
  have u4 : W4.cell? ⟨w.heap.size + 1 + 1 + 1, 4, none⟩ = some (.int .i64 0) := n3.c 4
  have v0 : W4.cell? ⟨B4, 0, none⟩ = some (.int .u8 x0) := n4.c 0
  have v1 : W4.cell? ⟨B4, 1, none⟩ = some (.int .u16 x1) := n4.c 1
  have v2 : W4.cell? ⟨B4, 2, none⟩ = some (.int .u16 x2) := n4.c 2
  have v3 : W4.cell? ⟨B4, 3, none⟩ = some (.int .u8 x3) := n4.c 3
  have v4 : W4.cell? ⟨B4, 4, none⟩ = some (.int .i64 x4) := n4.c 4
  have f2 := n2.f
  have f3 := n3.f
  clear n0 n2 n3 n4
  have e1 : ¬ B4 = w.heap.size + 1 + 1 := by omega
  have e2 : ¬ B4 = w.heap.size + 1 + 1 + 1 := by omega
  go_region
  go_wp2_with fail
  exact bodyPost_ret (v := .tuple #[rgV pc r, accV (x0, x1, x2, x3, x4)]) (by simp [results, Tryd.results5, go_sem, accV, rgV, q0, q1, q2, q3, q4, q5, q6, q7, q8, u0, u1, u2, u3, u4]) rfl ⟨rfl, Below.drew (bsx (bsx (bsx (bsx (bsx (bsx (bsx (bsx (bsx (bsx (bsx (bsx (bsx (bsx (hb4) (by omega) _ _) (by omega) _ _) (by omega) _ _) (by omega) _ _) (by omega) _ _) (by omega) _ _) (by omega) _ _) (by omega) _ _) (by omega) _ _) (by omega) _ _) (by omega) _ _) (by omega) _ _) (by omega) _ _) (by omega) _ _)⟩
set_option maxHeartbeats 4000000 in
theorem exec_go (pc : Int) (r : Nat → Int) (o a b m : Int) (kv : Value) (pc' : Int) (r' : Nat → Int) (x : Acc) (w : World)
    (cK : ∀ w, Calls Tryd.prog 10 #[insV o a b m] w fun e w' => e = .returned kv ∧ Below w.heap.size w w')
    (cS : ∀ w, Calls Tryd.prog 11 #[rgV pc r, kv] w fun e w' => e = .returned (.tuple #[accV (0, 0, 0, 0, 0), .bool false]) ∧ Below w.heap.size w w')
    (cD : ∀ w, Calls Tryd.prog 12 #[rgV pc r, kv] w fun e w' => e = .returned (.tuple #[rgV pc' r', accV x]) ∧ Below w.heap.size w w') :
    Calls Tryd.prog 5 #[rgV pc r, insV o a b m] w fun e w' => e = .returned (.tuple #[rgV pc' r', accV x]) ∧ Below w.heap.size w w' := by
  obtain ⟨x0, x1, x2, x3, x4⟩ := x
  unfold rgV insV accV at *
  simp only at *
  obtain ⟨W1, hW1, k0, k2, k3, hB1, hs1⟩ := w0_cells pc r o a b m w
  go_enter Tryd.func5, Tryd.ntmps5
  go_wp2_with fail
  rw [← hW1]
  clear hW1
  refine (cK _).mono ?_
  rintro e W2 ⟨rfl, hB2⟩
  have j0 := k0.below hB2 (by omega)
  have j2 := k2.below hB2 (by omega)
  have j3 := k3.below hB2 (by omega)
  have hb2 := hB1.trans (hB2.mono (by omega))
  have hs2 := hB2.size
  clear k0 k2 k3 hB2 hB1
  have p0 : W2.cell? ⟨w.heap.size, 0, none⟩ = some (.int .u16 pc) := j0.c 0
  have p1 : W2.cell? ⟨w.heap.size, 1, none⟩ = some (.int .u16 (r 0)) := j0.c 1
  have p2 : W2.cell? ⟨w.heap.size, 2, none⟩ = some (.int .u16 (r 1)) := j0.c 2
  have p3 : W2.cell? ⟨w.heap.size, 3, none⟩ = some (.int .u16 (r 2)) := j0.c 3
  have p4 : W2.cell? ⟨w.heap.size, 4, none⟩ = some (.int .u16 (r 3)) := j0.c 4
  have p5 : W2.cell? ⟨w.heap.size, 5, none⟩ = some (.int .u16 (r 4)) := j0.c 5
  have p6 : W2.cell? ⟨w.heap.size, 6, none⟩ = some (.int .u16 (r 5)) := j0.c 6
  have p7 : W2.cell? ⟨w.heap.size, 7, none⟩ = some (.int .u16 (r 6)) := j0.c 7
  have p8 : W2.cell? ⟨w.heap.size, 8, none⟩ = some (.int .u16 (r 7)) := j0.c 8
  go_wp2_with fail
  refine (cS _).mono ?_
  rintro e W3 ⟨rfl, hB3⟩
  have i0 := j0.below hB3 (by omega)
  have i2 := j2.below hB3 (by omega)
  have i3 := j3.below hB3 (by omega)
  have hb3 := hb2.trans (hB3.mono (by omega))
  have hs3 := hB3.size
  clear j0 j2 j3 hb2 hB3 p0 p1 p2 p3 p4 p5 p6 p7 p8 cK cS
  have hlt : w.heap.size < W3.heap.size := by omega
  have p0 : W3.cell? ⟨w.heap.size, 0, none⟩ = some (.int .u16 pc) := i0.c 0
  have p1 : W3.cell? ⟨w.heap.size, 1, none⟩ = some (.int .u16 (r 0)) := i0.c 1
  have p2 : W3.cell? ⟨w.heap.size, 2, none⟩ = some (.int .u16 (r 1)) := i0.c 2
  have p3 : W3.cell? ⟨w.heap.size, 3, none⟩ = some (.int .u16 (r 2)) := i0.c 3
  have p4 : W3.cell? ⟨w.heap.size, 4, none⟩ = some (.int .u16 (r 3)) := i0.c 4
  have p5 : W3.cell? ⟨w.heap.size, 5, none⟩ = some (.int .u16 (r 4)) := i0.c 5
  have p6 : W3.cell? ⟨w.heap.size, 6, none⟩ = some (.int .u16 (r 5)) := i0.c 6
  have p7 : W3.cell? ⟨w.heap.size, 7, none⟩ = some (.int .u16 (r 6)) := i0.c 7
  have p8 : W3.cell? ⟨w.heap.size, 8, none⟩ = some (.int .u16 (r 7)) := i0.c 8
  have n2 := i2.alloc (.cells #[.int .u8 0, .int .u16 0, .int .u16 0, .int .u8 0, .int .i64 0] 35)
  have n3 := i3.alloc (.cells #[.int .u8 0, .int .u16 0, .int .u16 0, .int .u8 0, .int .i64 0] 35)
  have hb4 := nx hb3 (.cells #[.int .u8 0, .int .u16 0, .int .u16 0, .int .u8 0, .int .i64 0] 35)
  have hs4 : (W3.alloc (.cells #[.int .u8 0, .int .u16 0, .int .u16 0, .int .u8 0, .int .i64 0] 35)).heap.size = W3.heap.size + 1 := by simp
  go_wp2_with fail
  refine (cD _).mono ?_
  rintro e W5 ⟨rfl, hB5⟩
  replace n2 := n2.below hB5 (by omega)
  replace n3 := n3.below hB5 (by omega)
  replace hb4 := hb4.trans (hB5.mono (by omega))
  clear p0 p1 p2 p3 p4 p5 p6 p7 p8 i0 i2 i3 hb3 hB5 cD
  have q0 : W5.cell? ⟨w.heap.size + 1 + 1, 0, none⟩ = some (.int .u16 0) := n2.c 0
  have q1 : W5.cell? ⟨w.heap.size + 1 + 1, 1, none⟩ = some (.int .u16 0) := n2.c 1
  have q2 : W5.cell? ⟨w.heap.size + 1 + 1, 2, none⟩ = some (.int .u16 0) := n2.c 2
  have q3 : W5.cell? ⟨w.heap.size + 1 + 1, 3, none⟩ = some (.int .u16 0) := n2.c 3
  have q4 : W5.cell? ⟨w.heap.size + 1 + 1, 4, none⟩ = some (.int .u16 0) := n2.c 4
  have q5 : W5.cell? ⟨w.heap.size + 1 + 1, 5, none⟩ = some (.int .u16 0) := n2.c 5
  have q6 : W5.cell? ⟨w.heap.size + 1 + 1, 6, none⟩ = some (.int .u16 0) := n2.c 6
  have q7 : W5.cell? ⟨w.heap.size + 1 + 1, 7, none⟩ = some (.int .u16 0) := n2.c 7
  have q8 : W5.cell? ⟨w.heap.size + 1 + 1, 8, none⟩ = some (.int .u16 0) := n2.c 8
  have u0 : W5.cell? ⟨w.heap.size + 1 + 1 + 1, 0, none⟩ = some (.int .u8 0) := n3.c 0
  have u1 : W5.cell? ⟨w.heap.size + 1 + 1 + 1, 1, none⟩ = some (.int .u16 0) := n3.c 1
  have u2 : W5.cell? ⟨w.heap.size + 1 + 1 + 1, 2, none⟩ = some (.int .u16 0) := n3.c 2
  have u3 : W5.cell? ⟨w.heap.size + 1 + 1 + 1, 3, none⟩ = some (.int .u8 0) := n3.c 3
  have u4 : W5.cell? ⟨w.heap.size + 1 + 1 + 1, 4, none⟩ = some (.int .i64 0) := n3.c 4
  have f2 := n2.f
  have f3 := n3.f
  clear n2 n3
  go_wp2_with fail
  exact bodyPost_ret (v := .tuple #[rgV pc' r', accV (x0, x1, x2, x3, x4)]) (by simp [results, Tryd.results5, go_sem, accV, rgV, q0, q1, q2, q3, q4, q5, q6, q7, q8, u0, u1, u2, u3, u4]) rfl ⟨rfl, bsx (bsx (bsx (bsx (bsx (bsx (bsx (bsx (bsx (bsx (bsx (bsx (bsx (bsx (hb4) (by omega) _ _) (by omega) _ _) (by omega) _ _) (by omega) _ _) (by omega) _ _) (by omega) _ _) (by omega) _ _) (by omega) _ _) (by omega) _ _) (by omega) _ _) (by omega) _ _) (by omega) _ _) (by omega) _ _) (by omega) _ _⟩
end Go.Proofs.YtbjklpdloglniaaDoor
