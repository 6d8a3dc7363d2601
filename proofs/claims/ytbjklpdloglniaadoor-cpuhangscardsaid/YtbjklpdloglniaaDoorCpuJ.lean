/- Run: the program. -/
import Derived.Test.YtbjklpdloglniaaDoorCpuI
namespace Go.Proofs.YtbjklpdloglniaaDoor
open Go.RowKit
set_option linter.unusedVariables false
set_option maxRecDepth 100000

set_option maxHeartbeats 16000000 in
theorem run_le (pc : Int) (r : Nat → Int) (v : Value) (bs : List UInt8) (most : Int) (w : World) (hp : Wd pc) (hr : ∀ k, Wd (r k)) (hb : Bts w v bs) (hm : most ≤ 1000) :
    Calls Tryd.prog 14 #[rgV pc r, v, .int .i64 most] w fun e w' => e = .returned (runV (runF bs (most).toNat pc r 0)) ∧ Below w.heap.size w w' := by
  obtain ⟨N, hN⟩ : ∃ N, N = (most).toNat := ⟨_, rfl⟩
  rw [← hN]
  generalize hX : runF bs N pc r 0 = X
  have hl : ∀ k : Nat, (k : Int) < most ↔ k < N := fun k => by omega
  have hN1 : N ≤ 1000 := by omega
  have HX : Hid (runF bs N pc r 0 = X) := hX
  have HB : Hid (Bts w v bs) := hb
  clear hX hb hN
  have cA : Cel (((w.alloc (.cells #[.int .u16 pc, .int .u16 (r 0), .int .u16 (r 1), .int .u16 (r 2), .int .u16 (r 3), .int .u16 (r 4), .int .u16 (r 5), .int .u16 (r 6), .int .u16 (r 7)] 26)).alloc (.cells #[.int .u16 0, .int .u16 0, .int .u16 0, .int .u16 0, .int .u16 0, .int .u16 0, .int .u16 0, .int .u16 0, .int .u16 0] 26)).alloc (.cells #[.int .u8 0, .int .u16 0, .int .u16 0, .int .u8 0, .int .i64 0] 35)) (w.heap.size) #[.int .u16 pc, .int .u16 (r 0), .int .u16 (r 1), .int .u16 (r 2), .int .u16 (r 3), .int .u16 (r 4), .int .u16 (r 5), .int .u16 (r 6), .int .u16 (r 7)] 26 := ((Cel.new w _ _).alloc _).alloc _
  have cB : Cel (((w.alloc (.cells #[.int .u16 pc, .int .u16 (r 0), .int .u16 (r 1), .int .u16 (r 2), .int .u16 (r 3), .int .u16 (r 4), .int .u16 (r 5), .int .u16 (r 6), .int .u16 (r 7)] 26)).alloc (.cells #[.int .u16 0, .int .u16 0, .int .u16 0, .int .u16 0, .int .u16 0, .int .u16 0, .int .u16 0, .int .u16 0, .int .u16 0] 26)).alloc (.cells #[.int .u8 0, .int .u16 0, .int .u16 0, .int .u8 0, .int .i64 0] 35)) (w.heap.size + 1) #[.int .u16 0, .int .u16 0, .int .u16 0, .int .u16 0, .int .u16 0, .int .u16 0, .int .u16 0, .int .u16 0, .int .u16 0] 26 := by
    have h := (Cel.new (w.alloc (.cells #[.int .u16 pc, .int .u16 (r 0), .int .u16 (r 1), .int .u16 (r 2), .int .u16 (r 3), .int .u16 (r 4), .int .u16 (r 5), .int .u16 (r 6), .int .u16 (r 7)] 26)) #[.int .u16 0, .int .u16 0, .int .u16 0, .int .u16 0, .int .u16 0, .int .u16 0, .int .u16 0, .int .u16 0, .int .u16 0] 26).alloc (.cells #[.int .u8 0, .int .u16 0, .int .u16 0, .int .u8 0, .int .i64 0] 35)
    rw [World.size_alloc] at h
    exact h
  have cC : Cel (((w.alloc (.cells #[.int .u16 pc, .int .u16 (r 0), .int .u16 (r 1), .int .u16 (r 2), .int .u16 (r 3), .int .u16 (r 4), .int .u16 (r 5), .int .u16 (r 6), .int .u16 (r 7)] 26)).alloc (.cells #[.int .u16 0, .int .u16 0, .int .u16 0, .int .u16 0, .int .u16 0, .int .u16 0, .int .u16 0, .int .u16 0, .int .u16 0] 26)).alloc (.cells #[.int .u8 0, .int .u16 0, .int .u16 0, .int .u8 0, .int .i64 0] 35)) (w.heap.size + 1 + 1) #[.int .u8 0, .int .u16 0, .int .u16 0, .int .u8 0, .int .i64 0] 35 := by
    have h := Cel.new ((w.alloc (.cells #[.int .u16 pc, .int .u16 (r 0), .int .u16 (r 1), .int .u16 (r 2), .int .u16 (r 3), .int .u16 (r 4), .int .u16 (r 5), .int .u16 (r 6), .int .u16 (r 7)] 26)).alloc (.cells #[.int .u16 0, .int .u16 0, .int .u16 0, .int .u16 0, .int .u16 0, .int .u16 0, .int .u16 0, .int .u16 0, .int .u16 0] 26)) #[.int .u8 0, .int .u16 0, .int .u16 0, .int .u8 0, .int .i64 0] 35
    rw [World.size_alloc, World.size_alloc] at h
    exact h
  have hB0 := nx (nx (nx (Below.refl _ w) (.cells #[.int .u16 pc, .int .u16 (r 0), .int .u16 (r 1), .int .u16 (r 2), .int .u16 (r 3), .int .u16 (r 4), .int .u16 (r 5), .int .u16 (r 6), .int .u16 (r 7)] 26)) (.cells #[.int .u16 0, .int .u16 0, .int .u16 0, .int .u16 0, .int .u16 0, .int .u16 0, .int .u16 0, .int .u16 0, .int .u16 0] 26)) (.cells #[.int .u8 0, .int .u16 0, .int .u16 0, .int .u8 0, .int .i64 0] 35)
  unfold rgV
  go_enter Tryd.func14, Tryd.ntmps14
  go_wp2_with fail
  go_loopw [9] (fun i wr => ∃ (k : Nat) (pc' : Int) (r' : Nat → Int), k ≤ N ∧ i = .int .i64 k ∧ Wd pc' ∧ (∀ j, Wd (r' j)) ∧ Hid (runF bs (N - k) pc' r' k = X) ∧ Cel wr (w.heap.size) #[.int .u16 pc', .int .u16 (r' 0), .int .u16 (r' 1), .int .u16 (r' 2), .int .u16 (r' 3), .int .u16 (r' 4), .int .u16 (r' 5), .int .u16 (r' 6), .int .u16 (r' 7)] 26 ∧ Cel wr (w.heap.size + 1) #[.int .u16 0, .int .u16 0, .int .u16 0, .int .u16 0, .int .u16 0, .int .u16 0, .int .u16 0, .int .u16 0, .int .u16 0] 26 ∧ Cel wr (w.heap.size + 1 + 1) #[.int .u8 0, .int .u16 0, .int .u16 0, .int .u8 0, .int .i64 0] 35 ∧ Below w.heap.size w wr) (fun i _ => N - (intOf i).toNat)
  case atStart => exact ⟨0, pc, r, by omega, rfl, hp, hr, HX, cA, cB, cC, hB0⟩
  case round =>
    obtain ⟨k, pc', r', hk, rfl, hp', hr', HR, k0, k1, k2, hb0⟩ := hrel
    clear cA cB cC hB0 HX hp hr
    have hs0 : w.heap.size + 1 + 1 < wr.heap.size := (Array.getElem?_eq_some_iff.1 k2).1
    by_cases hlt : k < N
    · have hlt' := (hl k).2 hlt
      have cN := next_any pc' r' v bs wr hp' (HB.out.below hb0 (Nat.le_refl _))
      have HR2 : Hid (runF bs (N - (k + 1) + 1) pc' r' k = X) := by
        show _ = _
        rw [show N - (k + 1) + 1 = N - k by omega]
        exact HR.out
      cases hY : nextP bs pc' with
      | error e =>
        have he : (e != 0) = true := by
          rw [bne_iff_ne]
          rcases next_err bs pc' e hY with rfl | rfl <;> decide
        have HR3 : Hid (X = ((pc', r'), (7, 0, 0, 0, e), (k : Int))) := by
          show _ = _
          rw [← HR2.out, runF, hY]
        rw [hY] at cN
        clear hY HR HR2
        unfold rgV nextV insV at cN
        have p0 : wr.cell? ⟨w.heap.size, 0, none⟩ = some (.int .u16 pc') := k0.c 0
        have p1 : wr.cell? ⟨w.heap.size, 1, none⟩ = some (.int .u16 (r' 0)) := k0.c 1
        have p2 : wr.cell? ⟨w.heap.size, 2, none⟩ = some (.int .u16 (r' 1)) := k0.c 2
        have p3 : wr.cell? ⟨w.heap.size, 3, none⟩ = some (.int .u16 (r' 2)) := k0.c 3
        have p4 : wr.cell? ⟨w.heap.size, 4, none⟩ = some (.int .u16 (r' 3)) := k0.c 4
        have p5 : wr.cell? ⟨w.heap.size, 5, none⟩ = some (.int .u16 (r' 4)) := k0.c 5
        have p6 : wr.cell? ⟨w.heap.size, 6, none⟩ = some (.int .u16 (r' 5)) := k0.c 6
        have p7 : wr.cell? ⟨w.heap.size, 7, none⟩ = some (.int .u16 (r' 6)) := k0.c 7
        have p8 : wr.cell? ⟨w.heap.size, 8, none⟩ = some (.int .u16 (r' 7)) := k0.c 8
        go_wp2_with fail
        refine cN.mono ?_
        rintro e' W1 ⟨rfl, hB1⟩
        have hs1 := hB1.size
        have j0 := k0.below hB1 (by omega)
        have j1 := k1.below hB1 (by omega)
        have j2 := k2.below hB1 (by omega)
        have hb1 := hb0.trans (hB1.mono (by omega))
        clear p0 p1 p2 p3 p4 p5 p6 p7 p8 k0 k1 k2 hB1 cN hb0
        have l0 : w.heap.size < W1.heap.size := by omega
        have l1 : w.heap.size + 1 < W1.heap.size := by omega
        have l2 : w.heap.size + 1 + 1 < W1.heap.size := by omega
        have p0 : W1.cell? ⟨w.heap.size, 0, none⟩ = some (.int .u16 pc') := j0.c 0
        have p1 : W1.cell? ⟨w.heap.size, 1, none⟩ = some (.int .u16 (r' 0)) := j0.c 1
        have p2 : W1.cell? ⟨w.heap.size, 2, none⟩ = some (.int .u16 (r' 1)) := j0.c 2
        have p3 : W1.cell? ⟨w.heap.size, 3, none⟩ = some (.int .u16 (r' 2)) := j0.c 3
        have p4 : W1.cell? ⟨w.heap.size, 4, none⟩ = some (.int .u16 (r' 3)) := j0.c 4
        have p5 : W1.cell? ⟨w.heap.size, 5, none⟩ = some (.int .u16 (r' 4)) := j0.c 5
        have p6 : W1.cell? ⟨w.heap.size, 6, none⟩ = some (.int .u16 (r' 5)) := j0.c 6
        have p7 : W1.cell? ⟨w.heap.size, 7, none⟩ = some (.int .u16 (r' 6)) := j0.c 7
        have p8 : W1.cell? ⟨w.heap.size, 8, none⟩ = some (.int .u16 (r' 7)) := j0.c 8
        have q0 : W1.cell? ⟨w.heap.size + 1, 0, none⟩ = some (.int .u16 0) := j1.c 0
        have q1 : W1.cell? ⟨w.heap.size + 1, 1, none⟩ = some (.int .u16 0) := j1.c 1
        have q2 : W1.cell? ⟨w.heap.size + 1, 2, none⟩ = some (.int .u16 0) := j1.c 2
        have q3 : W1.cell? ⟨w.heap.size + 1, 3, none⟩ = some (.int .u16 0) := j1.c 3
        have q4 : W1.cell? ⟨w.heap.size + 1, 4, none⟩ = some (.int .u16 0) := j1.c 4
        have q5 : W1.cell? ⟨w.heap.size + 1, 5, none⟩ = some (.int .u16 0) := j1.c 5
        have q6 : W1.cell? ⟨w.heap.size + 1, 6, none⟩ = some (.int .u16 0) := j1.c 6
        have q7 : W1.cell? ⟨w.heap.size + 1, 7, none⟩ = some (.int .u16 0) := j1.c 7
        have q8 : W1.cell? ⟨w.heap.size + 1, 8, none⟩ = some (.int .u16 0) := j1.c 8
        have u0 : W1.cell? ⟨w.heap.size + 1 + 1, 0, none⟩ = some (.int .u8 0) := j2.c 0
        have u1 : W1.cell? ⟨w.heap.size + 1 + 1, 1, none⟩ = some (.int .u16 0) := j2.c 1
        have u2 : W1.cell? ⟨w.heap.size + 1 + 1, 2, none⟩ = some (.int .u16 0) := j2.c 2
        have u3 : W1.cell? ⟨w.heap.size + 1 + 1, 3, none⟩ = some (.int .u8 0) := j2.c 3
        have u4 : W1.cell? ⟨w.heap.size + 1 + 1, 4, none⟩ = some (.int .i64 0) := j2.c 4
        have f1 := j1.f
        have f2 := j2.f
        clear j0
        go_wp2_with fail
        have cT := fun w => trap_any e w
        unfold accV at cT
        simp only at cT
        go_region_held3 (fun w' => w'.cell? ⟨w.heap.size, 0, none⟩ = some (.int .u16 pc') ∧ w'.cell? ⟨w.heap.size, 1, none⟩ = some (.int .u16 (r' 0)) ∧ w'.cell? ⟨w.heap.size, 2, none⟩ = some (.int .u16 (r' 1)) ∧ w'.cell? ⟨w.heap.size, 3, none⟩ = some (.int .u16 (r' 2)) ∧ w'.cell? ⟨w.heap.size, 4, none⟩ = some (.int .u16 (r' 3)) ∧ w'.cell? ⟨w.heap.size, 5, none⟩ = some (.int .u16 (r' 4)) ∧ w'.cell? ⟨w.heap.size, 6, none⟩ = some (.int .u16 (r' 5)) ∧ w'.cell? ⟨w.heap.size, 7, none⟩ = some (.int .u16 (r' 6)) ∧ w'.cell? ⟨w.heap.size, 8, none⟩ = some (.int .u16 (r' 7))) (simp [go_sem, l0, p0, p1, p2, p3, p4, p5, p6, p7, p8]) ((go_at_call 17; refine (cT _).mono ?_; rintro e'' w' ⟨rfl, rfl⟩))
        have n1 : Cel ((((((((((((((((((W1).setCell ⟨w.heap.size + 1, 0, none⟩ (.int .u16 pc')).setCell ⟨w.heap.size + 1, 1, none⟩ (.int .u16 (r' 0))).setCell ⟨w.heap.size + 1, 2, none⟩ (.int .u16 (r' 1))).setCell ⟨w.heap.size + 1, 3, none⟩ (.int .u16 (r' 2))).setCell ⟨w.heap.size + 1, 4, none⟩ (.int .u16 (r' 3))).setCell ⟨w.heap.size + 1, 5, none⟩ (.int .u16 (r' 4))).setCell ⟨w.heap.size + 1, 6, none⟩ (.int .u16 (r' 5))).setCell ⟨w.heap.size + 1, 7, none⟩ (.int .u16 (r' 6))).setCell ⟨w.heap.size + 1, 8, none⟩ (.int .u16 (r' 7))).setCell ⟨w.heap.size + 1 + 1, 0, none⟩ (.int .u8 7)).setCell ⟨w.heap.size + 1 + 1, 1, none⟩ (.int .u16 0)).setCell ⟨w.heap.size + 1 + 1, 2, none⟩ (.int .u16 0)).setCell ⟨w.heap.size + 1 + 1, 3, none⟩ (.int .u8 0)).setCell ⟨w.heap.size + 1 + 1, 4, none⟩ (.int .i64 e)).alloc (.cells #[.int .u8 0, .int .u8 0, .int .u8 0, .int .u16 0] 29)).alloc (.cells #[.int .u8 7, .int .u16 0, .int .u16 0, .int .u8 0, .int .i64 e] 35)).drew) (w.heap.size + 1) #[.int .u16 pc', .int .u16 (r' 0), .int .u16 (r' 1), .int .u16 (r' 2), .int .u16 (r' 3), .int .u16 (r' 4), .int .u16 (r' 5), .int .u16 (r' 6), .int .u16 (r' 7)] 26 := Cel.drew ((((j1.set9 (.int .u16 pc') (.int .u16 (r' 0)) (.int .u16 (r' 1)) (.int .u16 (r' 2)) (.int .u16 (r' 3)) (.int .u16 (r' 4)) (.int .u16 (r' 5)) (.int .u16 (r' 6)) (.int .u16 (r' 7))).set5o (c := w.heap.size + 1 + 1) (by omega) (.int .u8 7) (.int .u16 0) (.int .u16 0) (.int .u8 0) (.int .i64 e)).alloc (.cells #[.int .u8 0, .int .u8 0, .int .u8 0, .int .u16 0] 29)).alloc (.cells #[.int .u8 7, .int .u16 0, .int .u16 0, .int .u8 0, .int .i64 e] 35))
        have n2 : Cel ((((((((((((((((((W1).setCell ⟨w.heap.size + 1, 0, none⟩ (.int .u16 pc')).setCell ⟨w.heap.size + 1, 1, none⟩ (.int .u16 (r' 0))).setCell ⟨w.heap.size + 1, 2, none⟩ (.int .u16 (r' 1))).setCell ⟨w.heap.size + 1, 3, none⟩ (.int .u16 (r' 2))).setCell ⟨w.heap.size + 1, 4, none⟩ (.int .u16 (r' 3))).setCell ⟨w.heap.size + 1, 5, none⟩ (.int .u16 (r' 4))).setCell ⟨w.heap.size + 1, 6, none⟩ (.int .u16 (r' 5))).setCell ⟨w.heap.size + 1, 7, none⟩ (.int .u16 (r' 6))).setCell ⟨w.heap.size + 1, 8, none⟩ (.int .u16 (r' 7))).setCell ⟨w.heap.size + 1 + 1, 0, none⟩ (.int .u8 7)).setCell ⟨w.heap.size + 1 + 1, 1, none⟩ (.int .u16 0)).setCell ⟨w.heap.size + 1 + 1, 2, none⟩ (.int .u16 0)).setCell ⟨w.heap.size + 1 + 1, 3, none⟩ (.int .u8 0)).setCell ⟨w.heap.size + 1 + 1, 4, none⟩ (.int .i64 e)).alloc (.cells #[.int .u8 0, .int .u8 0, .int .u8 0, .int .u16 0] 29)).alloc (.cells #[.int .u8 7, .int .u16 0, .int .u16 0, .int .u8 0, .int .i64 e] 35)).drew) (w.heap.size + 1 + 1) #[.int .u8 7, .int .u16 0, .int .u16 0, .int .u8 0, .int .i64 e] 35 := Cel.drew ((((j2.set9o (c := w.heap.size + 1) (by omega) (.int .u16 pc') (.int .u16 (r' 0)) (.int .u16 (r' 1)) (.int .u16 (r' 2)) (.int .u16 (r' 3)) (.int .u16 (r' 4)) (.int .u16 (r' 5)) (.int .u16 (r' 6)) (.int .u16 (r' 7))).set5 (.int .u8 7) (.int .u16 0) (.int .u16 0) (.int .u8 0) (.int .i64 e)).alloc (.cells #[.int .u8 0, .int .u8 0, .int .u8 0, .int .u16 0] 29)).alloc (.cells #[.int .u8 7, .int .u16 0, .int .u16 0, .int .u8 0, .int .i64 e] 35))
        have hbF : Below w.heap.size w ((((((((((((((((((W1).setCell ⟨w.heap.size + 1, 0, none⟩ (.int .u16 pc')).setCell ⟨w.heap.size + 1, 1, none⟩ (.int .u16 (r' 0))).setCell ⟨w.heap.size + 1, 2, none⟩ (.int .u16 (r' 1))).setCell ⟨w.heap.size + 1, 3, none⟩ (.int .u16 (r' 2))).setCell ⟨w.heap.size + 1, 4, none⟩ (.int .u16 (r' 3))).setCell ⟨w.heap.size + 1, 5, none⟩ (.int .u16 (r' 4))).setCell ⟨w.heap.size + 1, 6, none⟩ (.int .u16 (r' 5))).setCell ⟨w.heap.size + 1, 7, none⟩ (.int .u16 (r' 6))).setCell ⟨w.heap.size + 1, 8, none⟩ (.int .u16 (r' 7))).setCell ⟨w.heap.size + 1 + 1, 0, none⟩ (.int .u8 7)).setCell ⟨w.heap.size + 1 + 1, 1, none⟩ (.int .u16 0)).setCell ⟨w.heap.size + 1 + 1, 2, none⟩ (.int .u16 0)).setCell ⟨w.heap.size + 1 + 1, 3, none⟩ (.int .u8 0)).setCell ⟨w.heap.size + 1 + 1, 4, none⟩ (.int .i64 e)).alloc (.cells #[.int .u8 0, .int .u8 0, .int .u8 0, .int .u16 0] 29)).alloc (.cells #[.int .u8 7, .int .u16 0, .int .u16 0, .int .u8 0, .int .i64 e] 35)).drew) := Below.drew (nx (nx (bsx (bsx (bsx (bsx (bsx (bsx (bsx (bsx (bsx (bsx (bsx (bsx (bsx (bsx (hb1) (by omega) _ _) (by omega) _ _) (by omega) _ _) (by omega) _ _) (by omega) _ _) (by omega) _ _) (by omega) _ _) (by omega) _ _) (by omega) _ _) (by omega) _ _) (by omega) _ _) (by omega) _ _) (by omega) _ _) (by omega) _ _) (.cells #[.int .u8 0, .int .u8 0, .int .u8 0, .int .u16 0] 29)) (.cells #[.int .u8 7, .int .u16 0, .int .u16 0, .int .u8 0, .int .i64 e] 35))
        generalize (((((((((((((((((W1).setCell ⟨w.heap.size + 1, 0, none⟩ (.int .u16 pc')).setCell ⟨w.heap.size + 1, 1, none⟩ (.int .u16 (r' 0))).setCell ⟨w.heap.size + 1, 2, none⟩ (.int .u16 (r' 1))).setCell ⟨w.heap.size + 1, 3, none⟩ (.int .u16 (r' 2))).setCell ⟨w.heap.size + 1, 4, none⟩ (.int .u16 (r' 3))).setCell ⟨w.heap.size + 1, 5, none⟩ (.int .u16 (r' 4))).setCell ⟨w.heap.size + 1, 6, none⟩ (.int .u16 (r' 5))).setCell ⟨w.heap.size + 1, 7, none⟩ (.int .u16 (r' 6))).setCell ⟨w.heap.size + 1, 8, none⟩ (.int .u16 (r' 7))).setCell ⟨w.heap.size + 1 + 1, 0, none⟩ (.int .u8 7)).setCell ⟨w.heap.size + 1 + 1, 1, none⟩ (.int .u16 0)).setCell ⟨w.heap.size + 1 + 1, 2, none⟩ (.int .u16 0)).setCell ⟨w.heap.size + 1 + 1, 3, none⟩ (.int .u8 0)).setCell ⟨w.heap.size + 1 + 1, 4, none⟩ (.int .i64 e)).alloc (.cells #[.int .u8 0, .int .u8 0, .int .u8 0, .int .u16 0] 29)).alloc (.cells #[.int .u8 7, .int .u16 0, .int .u16 0, .int .u8 0, .int .i64 e] 35)).drew = WF at *
        clear p0 p1 p2 p3 p4 p5 p6 p7 p8 q0 q1 q2 q3 q4 q5 q6 q7 q8 u0 u1 u2 u3 u4 f1 f2 j1 j2 hb1 cT l0 l1 l2
        have q0 : WF.cell? ⟨w.heap.size + 1, 0, none⟩ = some (.int .u16 pc') := n1.c 0
        have q1 : WF.cell? ⟨w.heap.size + 1, 1, none⟩ = some (.int .u16 (r' 0)) := n1.c 1
        have q2 : WF.cell? ⟨w.heap.size + 1, 2, none⟩ = some (.int .u16 (r' 1)) := n1.c 2
        have q3 : WF.cell? ⟨w.heap.size + 1, 3, none⟩ = some (.int .u16 (r' 2)) := n1.c 3
        have q4 : WF.cell? ⟨w.heap.size + 1, 4, none⟩ = some (.int .u16 (r' 3)) := n1.c 4
        have q5 : WF.cell? ⟨w.heap.size + 1, 5, none⟩ = some (.int .u16 (r' 4)) := n1.c 5
        have q6 : WF.cell? ⟨w.heap.size + 1, 6, none⟩ = some (.int .u16 (r' 5)) := n1.c 6
        have q7 : WF.cell? ⟨w.heap.size + 1, 7, none⟩ = some (.int .u16 (r' 6)) := n1.c 7
        have q8 : WF.cell? ⟨w.heap.size + 1, 8, none⟩ = some (.int .u16 (r' 7)) := n1.c 8
        have u0 : WF.cell? ⟨w.heap.size + 1 + 1, 0, none⟩ = some (.int .u8 7) := n2.c 0
        have u1 : WF.cell? ⟨w.heap.size + 1 + 1, 1, none⟩ = some (.int .u16 0) := n2.c 1
        have u2 : WF.cell? ⟨w.heap.size + 1 + 1, 2, none⟩ = some (.int .u16 0) := n2.c 2
        have u3 : WF.cell? ⟨w.heap.size + 1 + 1, 3, none⟩ = some (.int .u8 0) := n2.c 3
        have u4 : WF.cell? ⟨w.heap.size + 1 + 1, 4, none⟩ = some (.int .i64 e) := n2.c 4
        go_wp2_with fail
        refine bodyPost_ret (v := .tuple #[rgV pc' r', accV (7, 0, 0, 0, e), .int .i64 ((k : Int))]) (by simp [results, Tryd.results14, go_sem, accV, rgV, q0, q1, q2, q3, q4, q5, q6, q7, q8, u0, u1, u2, u3, u4]) rfl ⟨?_, hbF⟩
        rw [HR3.out]
        rfl
      | ok i =>
        obtain ⟨d0, d1, d2, d3⟩ := i
        obtain ⟨hO, _⟩ := next_ok bs pc' _ hY
        simp only at hO
        have cE := fun w => exec_any pc' r' d0 d1 d2 d3 w hp' hr' hO
        have hwd := exec_wd pc' r' d0 d1 d2 d3 hp' hr' ⟨hO.2.2.2.2.2.2.1, hO.2.2.2.2.2.2.2⟩
        have HR3 : Hid (X = (if (execP pc' r' d0 d1 d2 d3).2.1 = 0 then runF bs (N - (k + 1)) (execP pc' r' d0 d1 d2 d3).1.1 (execP pc' r' d0 d1 d2 d3).1.2 ((k : Int) + 1)
            else ((execP pc' r' d0 d1 d2 d3).1, (execP pc' r' d0 d1 d2 d3).2, if (execP pc' r' d0 d1 d2 d3).2.1 = 7 then (k : Int) else (k : Int) + 1))) := by
          show _ = _
          rw [← HR2.out, runF, hY]
        rw [hY] at cN
        clear hY HR HR2
        generalize execP pc' r' d0 d1 d2 d3 = E at *
        obtain ⟨⟨pc2, r2⟩, x0, x1, x2, x3, x4⟩ := E
        unfold execV rgV insV accV at cE
        unfold rgV nextV insV4 insV at cN
        simp only at cE cN hwd HR3
        have p0 : wr.cell? ⟨w.heap.size, 0, none⟩ = some (.int .u16 pc') := k0.c 0
        have p1 : wr.cell? ⟨w.heap.size, 1, none⟩ = some (.int .u16 (r' 0)) := k0.c 1
        have p2 : wr.cell? ⟨w.heap.size, 2, none⟩ = some (.int .u16 (r' 1)) := k0.c 2
        have p3 : wr.cell? ⟨w.heap.size, 3, none⟩ = some (.int .u16 (r' 2)) := k0.c 3
        have p4 : wr.cell? ⟨w.heap.size, 4, none⟩ = some (.int .u16 (r' 3)) := k0.c 4
        have p5 : wr.cell? ⟨w.heap.size, 5, none⟩ = some (.int .u16 (r' 4)) := k0.c 5
        have p6 : wr.cell? ⟨w.heap.size, 6, none⟩ = some (.int .u16 (r' 5)) := k0.c 6
        have p7 : wr.cell? ⟨w.heap.size, 7, none⟩ = some (.int .u16 (r' 6)) := k0.c 7
        have p8 : wr.cell? ⟨w.heap.size, 8, none⟩ = some (.int .u16 (r' 7)) := k0.c 8
        go_wp2_with fail
        refine cN.mono ?_
        rintro e' W1 ⟨rfl, hB1⟩
        have hs1 := hB1.size
        have j0 := k0.below hB1 (by omega)
        have j1 := k1.below hB1 (by omega)
        have j2 := k2.below hB1 (by omega)
        have hb1 := hb0.trans (hB1.mono (by omega))
        clear p0 p1 p2 p3 p4 p5 p6 p7 p8 k0 k1 k2 hB1 cN hb0
        have l0 : w.heap.size < W1.heap.size := by omega
        have p0 : W1.cell? ⟨w.heap.size, 0, none⟩ = some (.int .u16 pc') := j0.c 0
        have p1 : W1.cell? ⟨w.heap.size, 1, none⟩ = some (.int .u16 (r' 0)) := j0.c 1
        have p2 : W1.cell? ⟨w.heap.size, 2, none⟩ = some (.int .u16 (r' 1)) := j0.c 2
        have p3 : W1.cell? ⟨w.heap.size, 3, none⟩ = some (.int .u16 (r' 2)) := j0.c 3
        have p4 : W1.cell? ⟨w.heap.size, 4, none⟩ = some (.int .u16 (r' 3)) := j0.c 4
        have p5 : W1.cell? ⟨w.heap.size, 5, none⟩ = some (.int .u16 (r' 4)) := j0.c 5
        have p6 : W1.cell? ⟨w.heap.size, 6, none⟩ = some (.int .u16 (r' 5)) := j0.c 6
        have p7 : W1.cell? ⟨w.heap.size, 7, none⟩ = some (.int .u16 (r' 6)) := j0.c 7
        have p8 : W1.cell? ⟨w.heap.size, 8, none⟩ = some (.int .u16 (r' 7)) := j0.c 8
        go_wp2_with fail
        have i0 := (j0.alloc (.cells #[.int .u8 d0, .int .u8 d1, .int .u8 d2, .int .u16 d3] 29)).alloc (.cells #[.int .u8 0, .int .u16 0, .int .u16 0, .int .u8 0, .int .i64 0] 35)
        have i1 := (j1.alloc (.cells #[.int .u8 d0, .int .u8 d1, .int .u8 d2, .int .u16 d3] 29)).alloc (.cells #[.int .u8 0, .int .u16 0, .int .u16 0, .int .u8 0, .int .i64 0] 35)
        have i2 := (j2.alloc (.cells #[.int .u8 d0, .int .u8 d1, .int .u8 d2, .int .u16 d3] 29)).alloc (.cells #[.int .u8 0, .int .u16 0, .int .u16 0, .int .u8 0, .int .i64 0] 35)
        have i3 := Cel.new (W1.alloc (.cells #[.int .u8 d0, .int .u8 d1, .int .u8 d2, .int .u16 d3] 29)) #[.int .u8 0, .int .u16 0, .int .u16 0, .int .u8 0, .int .i64 0] 35
        rw [World.size_alloc] at i3
        have hb2 := nx (nx hb1 (.cells #[.int .u8 d0, .int .u8 d1, .int .u8 d2, .int .u16 d3] 29)) (.cells #[.int .u8 0, .int .u16 0, .int .u16 0, .int .u8 0, .int .i64 0] 35)
        have hs2 : ((W1.alloc (.cells #[.int .u8 d0, .int .u8 d1, .int .u8 d2, .int .u16 d3] 29)).alloc (.cells #[.int .u8 0, .int .u16 0, .int .u16 0, .int .u8 0, .int .i64 0] 35)).heap.size = W1.heap.size + 1 + 1 := by simp
        clear j0 j1 j2 hb1 p0 p1 p2 p3 p4 p5 p6 p7 p8
        refine (cE _).mono ?_
        rintro e' W2 ⟨rfl, hB2⟩
        generalize ((W1.alloc (.cells #[.int .u8 d0, .int .u8 d1, .int .u8 d2, .int .u16 d3] 29)).alloc (.cells #[.int .u8 0, .int .u16 0, .int .u16 0, .int .u8 0, .int .i64 0] 35)) = W1' at *
        have o0 := i0.below hB2 (by omega)
        have o1 := i1.below hB2 (by omega)
        have o2 := i2.below hB2 (by omega)
        have o3 := i3.below hB2 (by omega)
        have hb3 := hb2.trans (hB2.mono (by omega))
        have hB4 : w.heap.size + 1 + 1 < W1.heap.size + 1 := by omega
        generalize W1.heap.size + 1 = B4 at *
        clear i0 i1 i2 i3 hb2 hB2 cE hs2 hs1 l0
        have p0 : W2.cell? ⟨w.heap.size, 0, none⟩ = some (.int .u16 pc') := o0.c 0
        have p1 : W2.cell? ⟨w.heap.size, 1, none⟩ = some (.int .u16 (r' 0)) := o0.c 1
        have p2 : W2.cell? ⟨w.heap.size, 2, none⟩ = some (.int .u16 (r' 1)) := o0.c 2
        have p3 : W2.cell? ⟨w.heap.size, 3, none⟩ = some (.int .u16 (r' 2)) := o0.c 3
        have p4 : W2.cell? ⟨w.heap.size, 4, none⟩ = some (.int .u16 (r' 3)) := o0.c 4
        have p5 : W2.cell? ⟨w.heap.size, 5, none⟩ = some (.int .u16 (r' 4)) := o0.c 5
        have p6 : W2.cell? ⟨w.heap.size, 6, none⟩ = some (.int .u16 (r' 5)) := o0.c 6
        have p7 : W2.cell? ⟨w.heap.size, 7, none⟩ = some (.int .u16 (r' 6)) := o0.c 7
        have p8 : W2.cell? ⟨w.heap.size, 8, none⟩ = some (.int .u16 (r' 7)) := o0.c 8
        have v0 : W2.cell? ⟨B4, 0, none⟩ = some (.int .u8 0) := o3.c 0
        have v1 : W2.cell? ⟨B4, 1, none⟩ = some (.int .u16 0) := o3.c 1
        have v2 : W2.cell? ⟨B4, 2, none⟩ = some (.int .u16 0) := o3.c 2
        have v3 : W2.cell? ⟨B4, 3, none⟩ = some (.int .u8 0) := o3.c 3
        have v4 : W2.cell? ⟨B4, 4, none⟩ = some (.int .i64 0) := o3.c 4
        have f0 := o0.f
        have f3 := o3.f
        have m0 : Cel (((((((((((((((W2).setCell ⟨w.heap.size, 0, none⟩ (.int .u16 pc2)).setCell ⟨w.heap.size, 1, none⟩ (.int .u16 (r2 0))).setCell ⟨w.heap.size, 2, none⟩ (.int .u16 (r2 1))).setCell ⟨w.heap.size, 3, none⟩ (.int .u16 (r2 2))).setCell ⟨w.heap.size, 4, none⟩ (.int .u16 (r2 3))).setCell ⟨w.heap.size, 5, none⟩ (.int .u16 (r2 4))).setCell ⟨w.heap.size, 6, none⟩ (.int .u16 (r2 5))).setCell ⟨w.heap.size, 7, none⟩ (.int .u16 (r2 6))).setCell ⟨w.heap.size, 8, none⟩ (.int .u16 (r2 7))).setCell ⟨B4, 0, none⟩ (.int .u8 x0)).setCell ⟨B4, 1, none⟩ (.int .u16 x1)).setCell ⟨B4, 2, none⟩ (.int .u16 x2)).setCell ⟨B4, 3, none⟩ (.int .u8 x3)).setCell ⟨B4, 4, none⟩ (.int .i64 x4)) (w.heap.size) #[.int .u16 pc2, .int .u16 (r2 0), .int .u16 (r2 1), .int .u16 (r2 2), .int .u16 (r2 3), .int .u16 (r2 4), .int .u16 (r2 5), .int .u16 (r2 6), .int .u16 (r2 7)] 26 := (o0.set9 (.int .u16 pc2) (.int .u16 (r2 0)) (.int .u16 (r2 1)) (.int .u16 (r2 2)) (.int .u16 (r2 3)) (.int .u16 (r2 4)) (.int .u16 (r2 5)) (.int .u16 (r2 6)) (.int .u16 (r2 7))).set5o (c := B4) (by omega) (.int .u8 x0) (.int .u16 x1) (.int .u16 x2) (.int .u8 x3) (.int .i64 x4)
        have m1 : Cel (((((((((((((((W2).setCell ⟨w.heap.size, 0, none⟩ (.int .u16 pc2)).setCell ⟨w.heap.size, 1, none⟩ (.int .u16 (r2 0))).setCell ⟨w.heap.size, 2, none⟩ (.int .u16 (r2 1))).setCell ⟨w.heap.size, 3, none⟩ (.int .u16 (r2 2))).setCell ⟨w.heap.size, 4, none⟩ (.int .u16 (r2 3))).setCell ⟨w.heap.size, 5, none⟩ (.int .u16 (r2 4))).setCell ⟨w.heap.size, 6, none⟩ (.int .u16 (r2 5))).setCell ⟨w.heap.size, 7, none⟩ (.int .u16 (r2 6))).setCell ⟨w.heap.size, 8, none⟩ (.int .u16 (r2 7))).setCell ⟨B4, 0, none⟩ (.int .u8 x0)).setCell ⟨B4, 1, none⟩ (.int .u16 x1)).setCell ⟨B4, 2, none⟩ (.int .u16 x2)).setCell ⟨B4, 3, none⟩ (.int .u8 x3)).setCell ⟨B4, 4, none⟩ (.int .i64 x4)) (w.heap.size + 1) #[.int .u16 0, .int .u16 0, .int .u16 0, .int .u16 0, .int .u16 0, .int .u16 0, .int .u16 0, .int .u16 0, .int .u16 0] 26 := (o1.set9o (c := w.heap.size) (by omega) (.int .u16 pc2) (.int .u16 (r2 0)) (.int .u16 (r2 1)) (.int .u16 (r2 2)) (.int .u16 (r2 3)) (.int .u16 (r2 4)) (.int .u16 (r2 5)) (.int .u16 (r2 6)) (.int .u16 (r2 7))).set5o (c := B4) (by omega) (.int .u8 x0) (.int .u16 x1) (.int .u16 x2) (.int .u8 x3) (.int .i64 x4)
        have m2 : Cel (((((((((((((((W2).setCell ⟨w.heap.size, 0, none⟩ (.int .u16 pc2)).setCell ⟨w.heap.size, 1, none⟩ (.int .u16 (r2 0))).setCell ⟨w.heap.size, 2, none⟩ (.int .u16 (r2 1))).setCell ⟨w.heap.size, 3, none⟩ (.int .u16 (r2 2))).setCell ⟨w.heap.size, 4, none⟩ (.int .u16 (r2 3))).setCell ⟨w.heap.size, 5, none⟩ (.int .u16 (r2 4))).setCell ⟨w.heap.size, 6, none⟩ (.int .u16 (r2 5))).setCell ⟨w.heap.size, 7, none⟩ (.int .u16 (r2 6))).setCell ⟨w.heap.size, 8, none⟩ (.int .u16 (r2 7))).setCell ⟨B4, 0, none⟩ (.int .u8 x0)).setCell ⟨B4, 1, none⟩ (.int .u16 x1)).setCell ⟨B4, 2, none⟩ (.int .u16 x2)).setCell ⟨B4, 3, none⟩ (.int .u8 x3)).setCell ⟨B4, 4, none⟩ (.int .i64 x4)) (w.heap.size + 1 + 1) #[.int .u8 0, .int .u16 0, .int .u16 0, .int .u8 0, .int .i64 0] 35 := (o2.set9o (c := w.heap.size) (by omega) (.int .u16 pc2) (.int .u16 (r2 0)) (.int .u16 (r2 1)) (.int .u16 (r2 2)) (.int .u16 (r2 3)) (.int .u16 (r2 4)) (.int .u16 (r2 5)) (.int .u16 (r2 6)) (.int .u16 (r2 7))).set5o (c := B4) (by omega) (.int .u8 x0) (.int .u16 x1) (.int .u16 x2) (.int .u8 x3) (.int .i64 x4)
        have m3 : Cel (((((((((((((((W2).setCell ⟨w.heap.size, 0, none⟩ (.int .u16 pc2)).setCell ⟨w.heap.size, 1, none⟩ (.int .u16 (r2 0))).setCell ⟨w.heap.size, 2, none⟩ (.int .u16 (r2 1))).setCell ⟨w.heap.size, 3, none⟩ (.int .u16 (r2 2))).setCell ⟨w.heap.size, 4, none⟩ (.int .u16 (r2 3))).setCell ⟨w.heap.size, 5, none⟩ (.int .u16 (r2 4))).setCell ⟨w.heap.size, 6, none⟩ (.int .u16 (r2 5))).setCell ⟨w.heap.size, 7, none⟩ (.int .u16 (r2 6))).setCell ⟨w.heap.size, 8, none⟩ (.int .u16 (r2 7))).setCell ⟨B4, 0, none⟩ (.int .u8 x0)).setCell ⟨B4, 1, none⟩ (.int .u16 x1)).setCell ⟨B4, 2, none⟩ (.int .u16 x2)).setCell ⟨B4, 3, none⟩ (.int .u8 x3)).setCell ⟨B4, 4, none⟩ (.int .i64 x4)) B4 #[.int .u8 x0, .int .u16 x1, .int .u16 x2, .int .u8 x3, .int .i64 x4] 35 := (o3.set9o (c := w.heap.size) (by omega) (.int .u16 pc2) (.int .u16 (r2 0)) (.int .u16 (r2 1)) (.int .u16 (r2 2)) (.int .u16 (r2 3)) (.int .u16 (r2 4)) (.int .u16 (r2 5)) (.int .u16 (r2 6)) (.int .u16 (r2 7))).set5 (.int .u8 x0) (.int .u16 x1) (.int .u16 x2) (.int .u8 x3) (.int .i64 x4)
        have hb4 : Below w.heap.size w (((((((((((((((W2).setCell ⟨w.heap.size, 0, none⟩ (.int .u16 pc2)).setCell ⟨w.heap.size, 1, none⟩ (.int .u16 (r2 0))).setCell ⟨w.heap.size, 2, none⟩ (.int .u16 (r2 1))).setCell ⟨w.heap.size, 3, none⟩ (.int .u16 (r2 2))).setCell ⟨w.heap.size, 4, none⟩ (.int .u16 (r2 3))).setCell ⟨w.heap.size, 5, none⟩ (.int .u16 (r2 4))).setCell ⟨w.heap.size, 6, none⟩ (.int .u16 (r2 5))).setCell ⟨w.heap.size, 7, none⟩ (.int .u16 (r2 6))).setCell ⟨w.heap.size, 8, none⟩ (.int .u16 (r2 7))).setCell ⟨B4, 0, none⟩ (.int .u8 x0)).setCell ⟨B4, 1, none⟩ (.int .u16 x1)).setCell ⟨B4, 2, none⟩ (.int .u16 x2)).setCell ⟨B4, 3, none⟩ (.int .u8 x3)).setCell ⟨B4, 4, none⟩ (.int .i64 x4)) := bsx (bsx (bsx (bsx (bsx (bsx (bsx (bsx (bsx (bsx (bsx (bsx (bsx (bsx (hb3) (by omega) _ _) (by omega) _ _) (by omega) _ _) (by omega) _ _) (by omega) _ _) (by omega) _ _) (by omega) _ _) (by omega) _ _) (by omega) _ _) (by omega) _ _) (by omega) _ _) (by omega) _ _) (by omega) _ _) (by omega) _ _
        clear o0 o1 o2 o3
        by_cases hx : x0 = 0
        · subst hx
          have HR4 : Hid (runF bs (N - (k + 1)) pc2 r2 ((k : Int) + 1) = X) := by
            show _ = _
            rw [HR3.out, if_pos rfl]
          clear HR3
          go_wp2_with fail
          clear hb3 p0 p1 p2 p3 p4 p5 p6 p7 p8 v0 v1 v2 v3 v4 f0 f3
          generalize ((((((((((((((W2).setCell ⟨w.heap.size, 0, none⟩ (.int .u16 pc2)).setCell ⟨w.heap.size, 1, none⟩ (.int .u16 (r2 0))).setCell ⟨w.heap.size, 2, none⟩ (.int .u16 (r2 1))).setCell ⟨w.heap.size, 3, none⟩ (.int .u16 (r2 2))).setCell ⟨w.heap.size, 4, none⟩ (.int .u16 (r2 3))).setCell ⟨w.heap.size, 5, none⟩ (.int .u16 (r2 4))).setCell ⟨w.heap.size, 6, none⟩ (.int .u16 (r2 5))).setCell ⟨w.heap.size, 7, none⟩ (.int .u16 (r2 6))).setCell ⟨w.heap.size, 8, none⟩ (.int .u16 (r2 7))).setCell ⟨B4, 0, none⟩ (.int .u8 0)).setCell ⟨B4, 1, none⟩ (.int .u16 x1)).setCell ⟨B4, 2, none⟩ (.int .u16 x2)).setCell ⟨B4, 3, none⟩ (.int .u8 x3)).setCell ⟨B4, 4, none⟩ (.int .i64 x4) = W3 at *
          go_roundw
          case rel => exact ⟨k + 1, pc2, r2, by omega, by go_num, hwd.1, hwd.2, HR4, m0, m1, m2, hb4⟩
          case measure => simp [intOf]; omega
        · have hx0 : (x0 == 0) = false := by rw [beq_eq_false_iff_ne]; exact hx
          by_cases hx7 : x0 = 7
          · subst hx7
            have HR4 : Hid (X = ((pc2, r2), (7, x1, x2, x3, x4), (k : Int))) := by
              show _ = _
              rw [HR3.out, if_neg (by decide), if_pos rfl]
            clear HR3
            have HR3 := HR4
            clear HR4
            go_wp2_with fail
            clear hb3 p0 p1 p2 p3 p4 p5 p6 p7 p8 v0 v1 v2 v3 v4 f0 f3
            generalize ((((((((((((((W2).setCell ⟨w.heap.size, 0, none⟩ (.int .u16 pc2)).setCell ⟨w.heap.size, 1, none⟩ (.int .u16 (r2 0))).setCell ⟨w.heap.size, 2, none⟩ (.int .u16 (r2 1))).setCell ⟨w.heap.size, 3, none⟩ (.int .u16 (r2 2))).setCell ⟨w.heap.size, 4, none⟩ (.int .u16 (r2 3))).setCell ⟨w.heap.size, 5, none⟩ (.int .u16 (r2 4))).setCell ⟨w.heap.size, 6, none⟩ (.int .u16 (r2 5))).setCell ⟨w.heap.size, 7, none⟩ (.int .u16 (r2 6))).setCell ⟨w.heap.size, 8, none⟩ (.int .u16 (r2 7))).setCell ⟨B4, 0, none⟩ (.int .u8 7)).setCell ⟨B4, 1, none⟩ (.int .u16 x1)).setCell ⟨B4, 2, none⟩ (.int .u16 x2)).setCell ⟨B4, 3, none⟩ (.int .u8 x3)).setCell ⟨B4, 4, none⟩ (.int .i64 x4) = W3 at *
            have p0 : W3.cell? ⟨w.heap.size, 0, none⟩ = some (.int .u16 pc2) := m0.c 0
            have p1 : W3.cell? ⟨w.heap.size, 1, none⟩ = some (.int .u16 (r2 0)) := m0.c 1
            have p2 : W3.cell? ⟨w.heap.size, 2, none⟩ = some (.int .u16 (r2 1)) := m0.c 2
            have p3 : W3.cell? ⟨w.heap.size, 3, none⟩ = some (.int .u16 (r2 2)) := m0.c 3
            have p4 : W3.cell? ⟨w.heap.size, 4, none⟩ = some (.int .u16 (r2 3)) := m0.c 4
            have p5 : W3.cell? ⟨w.heap.size, 5, none⟩ = some (.int .u16 (r2 4)) := m0.c 5
            have p6 : W3.cell? ⟨w.heap.size, 6, none⟩ = some (.int .u16 (r2 5)) := m0.c 6
            have p7 : W3.cell? ⟨w.heap.size, 7, none⟩ = some (.int .u16 (r2 6)) := m0.c 7
            have p8 : W3.cell? ⟨w.heap.size, 8, none⟩ = some (.int .u16 (r2 7)) := m0.c 8
            have q0 : W3.cell? ⟨w.heap.size + 1, 0, none⟩ = some (.int .u16 0) := m1.c 0
            have q1 : W3.cell? ⟨w.heap.size + 1, 1, none⟩ = some (.int .u16 0) := m1.c 1
            have q2 : W3.cell? ⟨w.heap.size + 1, 2, none⟩ = some (.int .u16 0) := m1.c 2
            have q3 : W3.cell? ⟨w.heap.size + 1, 3, none⟩ = some (.int .u16 0) := m1.c 3
            have q4 : W3.cell? ⟨w.heap.size + 1, 4, none⟩ = some (.int .u16 0) := m1.c 4
            have q5 : W3.cell? ⟨w.heap.size + 1, 5, none⟩ = some (.int .u16 0) := m1.c 5
            have q6 : W3.cell? ⟨w.heap.size + 1, 6, none⟩ = some (.int .u16 0) := m1.c 6
            have q7 : W3.cell? ⟨w.heap.size + 1, 7, none⟩ = some (.int .u16 0) := m1.c 7
            have q8 : W3.cell? ⟨w.heap.size + 1, 8, none⟩ = some (.int .u16 0) := m1.c 8
            have u0 : W3.cell? ⟨w.heap.size + 1 + 1, 0, none⟩ = some (.int .u8 0) := m2.c 0
            have u1 : W3.cell? ⟨w.heap.size + 1 + 1, 1, none⟩ = some (.int .u16 0) := m2.c 1
            have u2 : W3.cell? ⟨w.heap.size + 1 + 1, 2, none⟩ = some (.int .u16 0) := m2.c 2
            have u3 : W3.cell? ⟨w.heap.size + 1 + 1, 3, none⟩ = some (.int .u8 0) := m2.c 3
            have u4 : W3.cell? ⟨w.heap.size + 1 + 1, 4, none⟩ = some (.int .i64 0) := m2.c 4
            have v0 : W3.cell? ⟨B4, 0, none⟩ = some (.int .u8 7) := m3.c 0
            have v1 : W3.cell? ⟨B4, 1, none⟩ = some (.int .u16 x1) := m3.c 1
            have v2 : W3.cell? ⟨B4, 2, none⟩ = some (.int .u16 x2) := m3.c 2
            have v3 : W3.cell? ⟨B4, 3, none⟩ = some (.int .u8 x3) := m3.c 3
            have v4 : W3.cell? ⟨B4, 4, none⟩ = some (.int .i64 x4) := m3.c 4
            have f1 := m1.f
            have f2 := m2.f
            have e1 : ¬ B4 = w.heap.size + 1 := by omega
            have e2 : ¬ B4 = w.heap.size + 1 + 1 := by omega
            clear m0 m3
            go_region
            have n1 : Cel ((((((((((((((((W3).setCell ⟨w.heap.size + 1, 0, none⟩ (.int .u16 pc2)).setCell ⟨w.heap.size + 1, 1, none⟩ (.int .u16 (r2 0))).setCell ⟨w.heap.size + 1, 2, none⟩ (.int .u16 (r2 1))).setCell ⟨w.heap.size + 1, 3, none⟩ (.int .u16 (r2 2))).setCell ⟨w.heap.size + 1, 4, none⟩ (.int .u16 (r2 3))).setCell ⟨w.heap.size + 1, 5, none⟩ (.int .u16 (r2 4))).setCell ⟨w.heap.size + 1, 6, none⟩ (.int .u16 (r2 5))).setCell ⟨w.heap.size + 1, 7, none⟩ (.int .u16 (r2 6))).setCell ⟨w.heap.size + 1, 8, none⟩ (.int .u16 (r2 7))).setCell ⟨w.heap.size + 1 + 1, 0, none⟩ (.int .u8 7)).setCell ⟨w.heap.size + 1 + 1, 1, none⟩ (.int .u16 x1)).setCell ⟨w.heap.size + 1 + 1, 2, none⟩ (.int .u16 x2)).setCell ⟨w.heap.size + 1 + 1, 3, none⟩ (.int .u8 x3)).setCell ⟨w.heap.size + 1 + 1, 4, none⟩ (.int .i64 x4)).drew) (w.heap.size + 1) #[.int .u16 pc2, .int .u16 (r2 0), .int .u16 (r2 1), .int .u16 (r2 2), .int .u16 (r2 3), .int .u16 (r2 4), .int .u16 (r2 5), .int .u16 (r2 6), .int .u16 (r2 7)] 26 := Cel.drew ((m1.set9 (.int .u16 pc2) (.int .u16 (r2 0)) (.int .u16 (r2 1)) (.int .u16 (r2 2)) (.int .u16 (r2 3)) (.int .u16 (r2 4)) (.int .u16 (r2 5)) (.int .u16 (r2 6)) (.int .u16 (r2 7))).set5o (c := w.heap.size + 1 + 1) (by omega) (.int .u8 7) (.int .u16 x1) (.int .u16 x2) (.int .u8 x3) (.int .i64 x4))
            have n2 : Cel ((((((((((((((((W3).setCell ⟨w.heap.size + 1, 0, none⟩ (.int .u16 pc2)).setCell ⟨w.heap.size + 1, 1, none⟩ (.int .u16 (r2 0))).setCell ⟨w.heap.size + 1, 2, none⟩ (.int .u16 (r2 1))).setCell ⟨w.heap.size + 1, 3, none⟩ (.int .u16 (r2 2))).setCell ⟨w.heap.size + 1, 4, none⟩ (.int .u16 (r2 3))).setCell ⟨w.heap.size + 1, 5, none⟩ (.int .u16 (r2 4))).setCell ⟨w.heap.size + 1, 6, none⟩ (.int .u16 (r2 5))).setCell ⟨w.heap.size + 1, 7, none⟩ (.int .u16 (r2 6))).setCell ⟨w.heap.size + 1, 8, none⟩ (.int .u16 (r2 7))).setCell ⟨w.heap.size + 1 + 1, 0, none⟩ (.int .u8 7)).setCell ⟨w.heap.size + 1 + 1, 1, none⟩ (.int .u16 x1)).setCell ⟨w.heap.size + 1 + 1, 2, none⟩ (.int .u16 x2)).setCell ⟨w.heap.size + 1 + 1, 3, none⟩ (.int .u8 x3)).setCell ⟨w.heap.size + 1 + 1, 4, none⟩ (.int .i64 x4)).drew) (w.heap.size + 1 + 1) #[.int .u8 7, .int .u16 x1, .int .u16 x2, .int .u8 x3, .int .i64 x4] 35 := Cel.drew ((m2.set9o (c := w.heap.size + 1) (by omega) (.int .u16 pc2) (.int .u16 (r2 0)) (.int .u16 (r2 1)) (.int .u16 (r2 2)) (.int .u16 (r2 3)) (.int .u16 (r2 4)) (.int .u16 (r2 5)) (.int .u16 (r2 6)) (.int .u16 (r2 7))).set5 (.int .u8 7) (.int .u16 x1) (.int .u16 x2) (.int .u8 x3) (.int .i64 x4))
            have hbF : Below w.heap.size w ((((((((((((((((W3).setCell ⟨w.heap.size + 1, 0, none⟩ (.int .u16 pc2)).setCell ⟨w.heap.size + 1, 1, none⟩ (.int .u16 (r2 0))).setCell ⟨w.heap.size + 1, 2, none⟩ (.int .u16 (r2 1))).setCell ⟨w.heap.size + 1, 3, none⟩ (.int .u16 (r2 2))).setCell ⟨w.heap.size + 1, 4, none⟩ (.int .u16 (r2 3))).setCell ⟨w.heap.size + 1, 5, none⟩ (.int .u16 (r2 4))).setCell ⟨w.heap.size + 1, 6, none⟩ (.int .u16 (r2 5))).setCell ⟨w.heap.size + 1, 7, none⟩ (.int .u16 (r2 6))).setCell ⟨w.heap.size + 1, 8, none⟩ (.int .u16 (r2 7))).setCell ⟨w.heap.size + 1 + 1, 0, none⟩ (.int .u8 7)).setCell ⟨w.heap.size + 1 + 1, 1, none⟩ (.int .u16 x1)).setCell ⟨w.heap.size + 1 + 1, 2, none⟩ (.int .u16 x2)).setCell ⟨w.heap.size + 1 + 1, 3, none⟩ (.int .u8 x3)).setCell ⟨w.heap.size + 1 + 1, 4, none⟩ (.int .i64 x4)).drew) := Below.drew (bsx (bsx (bsx (bsx (bsx (bsx (bsx (bsx (bsx (bsx (bsx (bsx (bsx (bsx (hb4) (by omega) _ _) (by omega) _ _) (by omega) _ _) (by omega) _ _) (by omega) _ _) (by omega) _ _) (by omega) _ _) (by omega) _ _) (by omega) _ _) (by omega) _ _) (by omega) _ _) (by omega) _ _) (by omega) _ _) (by omega) _ _)
            generalize (((((((((((((((W3).setCell ⟨w.heap.size + 1, 0, none⟩ (.int .u16 pc2)).setCell ⟨w.heap.size + 1, 1, none⟩ (.int .u16 (r2 0))).setCell ⟨w.heap.size + 1, 2, none⟩ (.int .u16 (r2 1))).setCell ⟨w.heap.size + 1, 3, none⟩ (.int .u16 (r2 2))).setCell ⟨w.heap.size + 1, 4, none⟩ (.int .u16 (r2 3))).setCell ⟨w.heap.size + 1, 5, none⟩ (.int .u16 (r2 4))).setCell ⟨w.heap.size + 1, 6, none⟩ (.int .u16 (r2 5))).setCell ⟨w.heap.size + 1, 7, none⟩ (.int .u16 (r2 6))).setCell ⟨w.heap.size + 1, 8, none⟩ (.int .u16 (r2 7))).setCell ⟨w.heap.size + 1 + 1, 0, none⟩ (.int .u8 7)).setCell ⟨w.heap.size + 1 + 1, 1, none⟩ (.int .u16 x1)).setCell ⟨w.heap.size + 1 + 1, 2, none⟩ (.int .u16 x2)).setCell ⟨w.heap.size + 1 + 1, 3, none⟩ (.int .u8 x3)).setCell ⟨w.heap.size + 1 + 1, 4, none⟩ (.int .i64 x4)).drew = WF at *
            clear p0 p1 p2 p3 p4 p5 p6 p7 p8 q0 q1 q2 q3 q4 q5 q6 q7 q8 u0 u1 u2 u3 u4 v0 v1 v2 v3 v4 f1 f2 e1 e2 m1 m2 hb4
            have q0 : WF.cell? ⟨w.heap.size + 1, 0, none⟩ = some (.int .u16 pc2) := n1.c 0
            have q1 : WF.cell? ⟨w.heap.size + 1, 1, none⟩ = some (.int .u16 (r2 0)) := n1.c 1
            have q2 : WF.cell? ⟨w.heap.size + 1, 2, none⟩ = some (.int .u16 (r2 1)) := n1.c 2
            have q3 : WF.cell? ⟨w.heap.size + 1, 3, none⟩ = some (.int .u16 (r2 2)) := n1.c 3
            have q4 : WF.cell? ⟨w.heap.size + 1, 4, none⟩ = some (.int .u16 (r2 3)) := n1.c 4
            have q5 : WF.cell? ⟨w.heap.size + 1, 5, none⟩ = some (.int .u16 (r2 4)) := n1.c 5
            have q6 : WF.cell? ⟨w.heap.size + 1, 6, none⟩ = some (.int .u16 (r2 5)) := n1.c 6
            have q7 : WF.cell? ⟨w.heap.size + 1, 7, none⟩ = some (.int .u16 (r2 6)) := n1.c 7
            have q8 : WF.cell? ⟨w.heap.size + 1, 8, none⟩ = some (.int .u16 (r2 7)) := n1.c 8
            have u0 : WF.cell? ⟨w.heap.size + 1 + 1, 0, none⟩ = some (.int .u8 7) := n2.c 0
            have u1 : WF.cell? ⟨w.heap.size + 1 + 1, 1, none⟩ = some (.int .u16 x1) := n2.c 1
            have u2 : WF.cell? ⟨w.heap.size + 1 + 1, 2, none⟩ = some (.int .u16 x2) := n2.c 2
            have u3 : WF.cell? ⟨w.heap.size + 1 + 1, 3, none⟩ = some (.int .u8 x3) := n2.c 3
            have u4 : WF.cell? ⟨w.heap.size + 1 + 1, 4, none⟩ = some (.int .i64 x4) := n2.c 4
            go_wp2_with fail
            refine bodyPost_ret (v := .tuple #[rgV pc2 r2, accV (7, x1, x2, x3, x4), .int .i64 ((k : Int))]) (by simp [results, Tryd.results14, go_sem, accV, rgV, q0, q1, q2, q3, q4, q5, q6, q7, q8, u0, u1, u2, u3, u4]) rfl ⟨?_, hbF⟩
            rw [HR3.out]
            rfl
          · have hx7' : (x0 == 7) = false := by rw [beq_eq_false_iff_ne]; exact hx7
            have HR4 : Hid (X = ((pc2, r2), (x0, x1, x2, x3, x4), (k : Int) + 1)) := by
              show _ = _
              rw [HR3.out, if_neg hx, if_neg hx7]
            clear HR3
            have HR3 := HR4
            clear HR4
            have hk1 : k ≤ 1000 := by omega
            go_wp2_with fail
            clear hb3 p0 p1 p2 p3 p4 p5 p6 p7 p8 v0 v1 v2 v3 v4 f0 f3
            generalize ((((((((((((((W2).setCell ⟨w.heap.size, 0, none⟩ (.int .u16 pc2)).setCell ⟨w.heap.size, 1, none⟩ (.int .u16 (r2 0))).setCell ⟨w.heap.size, 2, none⟩ (.int .u16 (r2 1))).setCell ⟨w.heap.size, 3, none⟩ (.int .u16 (r2 2))).setCell ⟨w.heap.size, 4, none⟩ (.int .u16 (r2 3))).setCell ⟨w.heap.size, 5, none⟩ (.int .u16 (r2 4))).setCell ⟨w.heap.size, 6, none⟩ (.int .u16 (r2 5))).setCell ⟨w.heap.size, 7, none⟩ (.int .u16 (r2 6))).setCell ⟨w.heap.size, 8, none⟩ (.int .u16 (r2 7))).setCell ⟨B4, 0, none⟩ (.int .u8 x0)).setCell ⟨B4, 1, none⟩ (.int .u16 x1)).setCell ⟨B4, 2, none⟩ (.int .u16 x2)).setCell ⟨B4, 3, none⟩ (.int .u8 x3)).setCell ⟨B4, 4, none⟩ (.int .i64 x4) = W3 at *
            have p0 : W3.cell? ⟨w.heap.size, 0, none⟩ = some (.int .u16 pc2) := m0.c 0
            have p1 : W3.cell? ⟨w.heap.size, 1, none⟩ = some (.int .u16 (r2 0)) := m0.c 1
            have p2 : W3.cell? ⟨w.heap.size, 2, none⟩ = some (.int .u16 (r2 1)) := m0.c 2
            have p3 : W3.cell? ⟨w.heap.size, 3, none⟩ = some (.int .u16 (r2 2)) := m0.c 3
            have p4 : W3.cell? ⟨w.heap.size, 4, none⟩ = some (.int .u16 (r2 3)) := m0.c 4
            have p5 : W3.cell? ⟨w.heap.size, 5, none⟩ = some (.int .u16 (r2 4)) := m0.c 5
            have p6 : W3.cell? ⟨w.heap.size, 6, none⟩ = some (.int .u16 (r2 5)) := m0.c 6
            have p7 : W3.cell? ⟨w.heap.size, 7, none⟩ = some (.int .u16 (r2 6)) := m0.c 7
            have p8 : W3.cell? ⟨w.heap.size, 8, none⟩ = some (.int .u16 (r2 7)) := m0.c 8
            have q0 : W3.cell? ⟨w.heap.size + 1, 0, none⟩ = some (.int .u16 0) := m1.c 0
            have q1 : W3.cell? ⟨w.heap.size + 1, 1, none⟩ = some (.int .u16 0) := m1.c 1
            have q2 : W3.cell? ⟨w.heap.size + 1, 2, none⟩ = some (.int .u16 0) := m1.c 2
            have q3 : W3.cell? ⟨w.heap.size + 1, 3, none⟩ = some (.int .u16 0) := m1.c 3
            have q4 : W3.cell? ⟨w.heap.size + 1, 4, none⟩ = some (.int .u16 0) := m1.c 4
            have q5 : W3.cell? ⟨w.heap.size + 1, 5, none⟩ = some (.int .u16 0) := m1.c 5
            have q6 : W3.cell? ⟨w.heap.size + 1, 6, none⟩ = some (.int .u16 0) := m1.c 6
            have q7 : W3.cell? ⟨w.heap.size + 1, 7, none⟩ = some (.int .u16 0) := m1.c 7
            have q8 : W3.cell? ⟨w.heap.size + 1, 8, none⟩ = some (.int .u16 0) := m1.c 8
            have u0 : W3.cell? ⟨w.heap.size + 1 + 1, 0, none⟩ = some (.int .u8 0) := m2.c 0
            have u1 : W3.cell? ⟨w.heap.size + 1 + 1, 1, none⟩ = some (.int .u16 0) := m2.c 1
            have u2 : W3.cell? ⟨w.heap.size + 1 + 1, 2, none⟩ = some (.int .u16 0) := m2.c 2
            have u3 : W3.cell? ⟨w.heap.size + 1 + 1, 3, none⟩ = some (.int .u8 0) := m2.c 3
            have u4 : W3.cell? ⟨w.heap.size + 1 + 1, 4, none⟩ = some (.int .i64 0) := m2.c 4
            have v0 : W3.cell? ⟨B4, 0, none⟩ = some (.int .u8 x0) := m3.c 0
            have v1 : W3.cell? ⟨B4, 1, none⟩ = some (.int .u16 x1) := m3.c 1
            have v2 : W3.cell? ⟨B4, 2, none⟩ = some (.int .u16 x2) := m3.c 2
            have v3 : W3.cell? ⟨B4, 3, none⟩ = some (.int .u8 x3) := m3.c 3
            have v4 : W3.cell? ⟨B4, 4, none⟩ = some (.int .i64 x4) := m3.c 4
            have f1 := m1.f
            have f2 := m2.f
            have e1 : ¬ B4 = w.heap.size + 1 := by omega
            have e2 : ¬ B4 = w.heap.size + 1 + 1 := by omega
            clear m0 m3
            go_region
            have n1 : Cel ((((((((((((((((W3).setCell ⟨w.heap.size + 1, 0, none⟩ (.int .u16 pc2)).setCell ⟨w.heap.size + 1, 1, none⟩ (.int .u16 (r2 0))).setCell ⟨w.heap.size + 1, 2, none⟩ (.int .u16 (r2 1))).setCell ⟨w.heap.size + 1, 3, none⟩ (.int .u16 (r2 2))).setCell ⟨w.heap.size + 1, 4, none⟩ (.int .u16 (r2 3))).setCell ⟨w.heap.size + 1, 5, none⟩ (.int .u16 (r2 4))).setCell ⟨w.heap.size + 1, 6, none⟩ (.int .u16 (r2 5))).setCell ⟨w.heap.size + 1, 7, none⟩ (.int .u16 (r2 6))).setCell ⟨w.heap.size + 1, 8, none⟩ (.int .u16 (r2 7))).setCell ⟨w.heap.size + 1 + 1, 0, none⟩ (.int .u8 x0)).setCell ⟨w.heap.size + 1 + 1, 1, none⟩ (.int .u16 x1)).setCell ⟨w.heap.size + 1 + 1, 2, none⟩ (.int .u16 x2)).setCell ⟨w.heap.size + 1 + 1, 3, none⟩ (.int .u8 x3)).setCell ⟨w.heap.size + 1 + 1, 4, none⟩ (.int .i64 x4)).drew) (w.heap.size + 1) #[.int .u16 pc2, .int .u16 (r2 0), .int .u16 (r2 1), .int .u16 (r2 2), .int .u16 (r2 3), .int .u16 (r2 4), .int .u16 (r2 5), .int .u16 (r2 6), .int .u16 (r2 7)] 26 := Cel.drew ((m1.set9 (.int .u16 pc2) (.int .u16 (r2 0)) (.int .u16 (r2 1)) (.int .u16 (r2 2)) (.int .u16 (r2 3)) (.int .u16 (r2 4)) (.int .u16 (r2 5)) (.int .u16 (r2 6)) (.int .u16 (r2 7))).set5o (c := w.heap.size + 1 + 1) (by omega) (.int .u8 x0) (.int .u16 x1) (.int .u16 x2) (.int .u8 x3) (.int .i64 x4))
            have n2 : Cel ((((((((((((((((W3).setCell ⟨w.heap.size + 1, 0, none⟩ (.int .u16 pc2)).setCell ⟨w.heap.size + 1, 1, none⟩ (.int .u16 (r2 0))).setCell ⟨w.heap.size + 1, 2, none⟩ (.int .u16 (r2 1))).setCell ⟨w.heap.size + 1, 3, none⟩ (.int .u16 (r2 2))).setCell ⟨w.heap.size + 1, 4, none⟩ (.int .u16 (r2 3))).setCell ⟨w.heap.size + 1, 5, none⟩ (.int .u16 (r2 4))).setCell ⟨w.heap.size + 1, 6, none⟩ (.int .u16 (r2 5))).setCell ⟨w.heap.size + 1, 7, none⟩ (.int .u16 (r2 6))).setCell ⟨w.heap.size + 1, 8, none⟩ (.int .u16 (r2 7))).setCell ⟨w.heap.size + 1 + 1, 0, none⟩ (.int .u8 x0)).setCell ⟨w.heap.size + 1 + 1, 1, none⟩ (.int .u16 x1)).setCell ⟨w.heap.size + 1 + 1, 2, none⟩ (.int .u16 x2)).setCell ⟨w.heap.size + 1 + 1, 3, none⟩ (.int .u8 x3)).setCell ⟨w.heap.size + 1 + 1, 4, none⟩ (.int .i64 x4)).drew) (w.heap.size + 1 + 1) #[.int .u8 x0, .int .u16 x1, .int .u16 x2, .int .u8 x3, .int .i64 x4] 35 := Cel.drew ((m2.set9o (c := w.heap.size + 1) (by omega) (.int .u16 pc2) (.int .u16 (r2 0)) (.int .u16 (r2 1)) (.int .u16 (r2 2)) (.int .u16 (r2 3)) (.int .u16 (r2 4)) (.int .u16 (r2 5)) (.int .u16 (r2 6)) (.int .u16 (r2 7))).set5 (.int .u8 x0) (.int .u16 x1) (.int .u16 x2) (.int .u8 x3) (.int .i64 x4))
            have hbF : Below w.heap.size w ((((((((((((((((W3).setCell ⟨w.heap.size + 1, 0, none⟩ (.int .u16 pc2)).setCell ⟨w.heap.size + 1, 1, none⟩ (.int .u16 (r2 0))).setCell ⟨w.heap.size + 1, 2, none⟩ (.int .u16 (r2 1))).setCell ⟨w.heap.size + 1, 3, none⟩ (.int .u16 (r2 2))).setCell ⟨w.heap.size + 1, 4, none⟩ (.int .u16 (r2 3))).setCell ⟨w.heap.size + 1, 5, none⟩ (.int .u16 (r2 4))).setCell ⟨w.heap.size + 1, 6, none⟩ (.int .u16 (r2 5))).setCell ⟨w.heap.size + 1, 7, none⟩ (.int .u16 (r2 6))).setCell ⟨w.heap.size + 1, 8, none⟩ (.int .u16 (r2 7))).setCell ⟨w.heap.size + 1 + 1, 0, none⟩ (.int .u8 x0)).setCell ⟨w.heap.size + 1 + 1, 1, none⟩ (.int .u16 x1)).setCell ⟨w.heap.size + 1 + 1, 2, none⟩ (.int .u16 x2)).setCell ⟨w.heap.size + 1 + 1, 3, none⟩ (.int .u8 x3)).setCell ⟨w.heap.size + 1 + 1, 4, none⟩ (.int .i64 x4)).drew) := Below.drew (bsx (bsx (bsx (bsx (bsx (bsx (bsx (bsx (bsx (bsx (bsx (bsx (bsx (bsx (hb4) (by omega) _ _) (by omega) _ _) (by omega) _ _) (by omega) _ _) (by omega) _ _) (by omega) _ _) (by omega) _ _) (by omega) _ _) (by omega) _ _) (by omega) _ _) (by omega) _ _) (by omega) _ _) (by omega) _ _) (by omega) _ _)
            generalize (((((((((((((((W3).setCell ⟨w.heap.size + 1, 0, none⟩ (.int .u16 pc2)).setCell ⟨w.heap.size + 1, 1, none⟩ (.int .u16 (r2 0))).setCell ⟨w.heap.size + 1, 2, none⟩ (.int .u16 (r2 1))).setCell ⟨w.heap.size + 1, 3, none⟩ (.int .u16 (r2 2))).setCell ⟨w.heap.size + 1, 4, none⟩ (.int .u16 (r2 3))).setCell ⟨w.heap.size + 1, 5, none⟩ (.int .u16 (r2 4))).setCell ⟨w.heap.size + 1, 6, none⟩ (.int .u16 (r2 5))).setCell ⟨w.heap.size + 1, 7, none⟩ (.int .u16 (r2 6))).setCell ⟨w.heap.size + 1, 8, none⟩ (.int .u16 (r2 7))).setCell ⟨w.heap.size + 1 + 1, 0, none⟩ (.int .u8 x0)).setCell ⟨w.heap.size + 1 + 1, 1, none⟩ (.int .u16 x1)).setCell ⟨w.heap.size + 1 + 1, 2, none⟩ (.int .u16 x2)).setCell ⟨w.heap.size + 1 + 1, 3, none⟩ (.int .u8 x3)).setCell ⟨w.heap.size + 1 + 1, 4, none⟩ (.int .i64 x4)).drew = WF at *
            clear p0 p1 p2 p3 p4 p5 p6 p7 p8 q0 q1 q2 q3 q4 q5 q6 q7 q8 u0 u1 u2 u3 u4 v0 v1 v2 v3 v4 f1 f2 e1 e2 m1 m2 hb4
            have q0 : WF.cell? ⟨w.heap.size + 1, 0, none⟩ = some (.int .u16 pc2) := n1.c 0
            have q1 : WF.cell? ⟨w.heap.size + 1, 1, none⟩ = some (.int .u16 (r2 0)) := n1.c 1
            have q2 : WF.cell? ⟨w.heap.size + 1, 2, none⟩ = some (.int .u16 (r2 1)) := n1.c 2
            have q3 : WF.cell? ⟨w.heap.size + 1, 3, none⟩ = some (.int .u16 (r2 2)) := n1.c 3
            have q4 : WF.cell? ⟨w.heap.size + 1, 4, none⟩ = some (.int .u16 (r2 3)) := n1.c 4
            have q5 : WF.cell? ⟨w.heap.size + 1, 5, none⟩ = some (.int .u16 (r2 4)) := n1.c 5
            have q6 : WF.cell? ⟨w.heap.size + 1, 6, none⟩ = some (.int .u16 (r2 5)) := n1.c 6
            have q7 : WF.cell? ⟨w.heap.size + 1, 7, none⟩ = some (.int .u16 (r2 6)) := n1.c 7
            have q8 : WF.cell? ⟨w.heap.size + 1, 8, none⟩ = some (.int .u16 (r2 7)) := n1.c 8
            have u0 : WF.cell? ⟨w.heap.size + 1 + 1, 0, none⟩ = some (.int .u8 x0) := n2.c 0
            have u1 : WF.cell? ⟨w.heap.size + 1 + 1, 1, none⟩ = some (.int .u16 x1) := n2.c 1
            have u2 : WF.cell? ⟨w.heap.size + 1 + 1, 2, none⟩ = some (.int .u16 x2) := n2.c 2
            have u3 : WF.cell? ⟨w.heap.size + 1 + 1, 3, none⟩ = some (.int .u8 x3) := n2.c 3
            have u4 : WF.cell? ⟨w.heap.size + 1 + 1, 4, none⟩ = some (.int .i64 x4) := n2.c 4
            go_wp2_with fail
            refine bodyPost_ret (v := .tuple #[rgV pc2 r2, accV (x0, x1, x2, x3, x4), .int .i64 ((k : Int) + 1)]) (by simp [results, Tryd.results14, go_sem, accV, rgV, q0, q1, q2, q3, q4, q5, q6, q7, q8, u0, u1, u2, u3, u4]) rfl ⟨?_, hbF⟩
            rw [HR3.out]
            rfl
    · have hlt' : ¬ (k : Int) < most := fun h => hlt ((hl k).1 h)
      have hk' : N - k = 0 := by omega
      have HR3 : Hid (X = ((pc', r'), (0, 0, 0, 0, 0), (k : Int))) := by
        show _ = _
        rw [← HR.out, hk', runF]
      have p0 : wr.cell? ⟨w.heap.size, 0, none⟩ = some (.int .u16 pc') := k0.c 0
      have p1 : wr.cell? ⟨w.heap.size, 1, none⟩ = some (.int .u16 (r' 0)) := k0.c 1
      have p2 : wr.cell? ⟨w.heap.size, 2, none⟩ = some (.int .u16 (r' 1)) := k0.c 2
      have p3 : wr.cell? ⟨w.heap.size, 3, none⟩ = some (.int .u16 (r' 2)) := k0.c 3
      have p4 : wr.cell? ⟨w.heap.size, 4, none⟩ = some (.int .u16 (r' 3)) := k0.c 4
      have p5 : wr.cell? ⟨w.heap.size, 5, none⟩ = some (.int .u16 (r' 4)) := k0.c 5
      have p6 : wr.cell? ⟨w.heap.size, 6, none⟩ = some (.int .u16 (r' 5)) := k0.c 6
      have p7 : wr.cell? ⟨w.heap.size, 7, none⟩ = some (.int .u16 (r' 6)) := k0.c 7
      have p8 : wr.cell? ⟨w.heap.size, 8, none⟩ = some (.int .u16 (r' 7)) := k0.c 8
      have q0 : wr.cell? ⟨w.heap.size + 1, 0, none⟩ = some (.int .u16 0) := k1.c 0
      have q1 : wr.cell? ⟨w.heap.size + 1, 1, none⟩ = some (.int .u16 0) := k1.c 1
      have q2 : wr.cell? ⟨w.heap.size + 1, 2, none⟩ = some (.int .u16 0) := k1.c 2
      have q3 : wr.cell? ⟨w.heap.size + 1, 3, none⟩ = some (.int .u16 0) := k1.c 3
      have q4 : wr.cell? ⟨w.heap.size + 1, 4, none⟩ = some (.int .u16 0) := k1.c 4
      have q5 : wr.cell? ⟨w.heap.size + 1, 5, none⟩ = some (.int .u16 0) := k1.c 5
      have q6 : wr.cell? ⟨w.heap.size + 1, 6, none⟩ = some (.int .u16 0) := k1.c 6
      have q7 : wr.cell? ⟨w.heap.size + 1, 7, none⟩ = some (.int .u16 0) := k1.c 7
      have q8 : wr.cell? ⟨w.heap.size + 1, 8, none⟩ = some (.int .u16 0) := k1.c 8
      have u0 : wr.cell? ⟨w.heap.size + 1 + 1, 0, none⟩ = some (.int .u8 0) := k2.c 0
      have u1 : wr.cell? ⟨w.heap.size + 1 + 1, 1, none⟩ = some (.int .u16 0) := k2.c 1
      have u2 : wr.cell? ⟨w.heap.size + 1 + 1, 2, none⟩ = some (.int .u16 0) := k2.c 2
      have u3 : wr.cell? ⟨w.heap.size + 1 + 1, 3, none⟩ = some (.int .u8 0) := k2.c 3
      have u4 : wr.cell? ⟨w.heap.size + 1 + 1, 4, none⟩ = some (.int .i64 0) := k2.c 4
      have f1 := k1.f
      have f2 := k2.f
      clear k0
      go_wp2_with fail
      have n1 : Cel (((((((((((((((wr).setCell ⟨w.heap.size + 1, 0, none⟩ (.int .u16 pc')).setCell ⟨w.heap.size + 1, 1, none⟩ (.int .u16 (r' 0))).setCell ⟨w.heap.size + 1, 2, none⟩ (.int .u16 (r' 1))).setCell ⟨w.heap.size + 1, 3, none⟩ (.int .u16 (r' 2))).setCell ⟨w.heap.size + 1, 4, none⟩ (.int .u16 (r' 3))).setCell ⟨w.heap.size + 1, 5, none⟩ (.int .u16 (r' 4))).setCell ⟨w.heap.size + 1, 6, none⟩ (.int .u16 (r' 5))).setCell ⟨w.heap.size + 1, 7, none⟩ (.int .u16 (r' 6))).setCell ⟨w.heap.size + 1, 8, none⟩ (.int .u16 (r' 7))).setCell ⟨w.heap.size + 1 + 1, 0, none⟩ (.int .u8 0)).setCell ⟨w.heap.size + 1 + 1, 1, none⟩ (.int .u16 0)).setCell ⟨w.heap.size + 1 + 1, 2, none⟩ (.int .u16 0)).setCell ⟨w.heap.size + 1 + 1, 3, none⟩ (.int .u8 0)).setCell ⟨w.heap.size + 1 + 1, 4, none⟩ (.int .i64 0)) (w.heap.size + 1) #[.int .u16 pc', .int .u16 (r' 0), .int .u16 (r' 1), .int .u16 (r' 2), .int .u16 (r' 3), .int .u16 (r' 4), .int .u16 (r' 5), .int .u16 (r' 6), .int .u16 (r' 7)] 26 := (k1.set9 (.int .u16 pc') (.int .u16 (r' 0)) (.int .u16 (r' 1)) (.int .u16 (r' 2)) (.int .u16 (r' 3)) (.int .u16 (r' 4)) (.int .u16 (r' 5)) (.int .u16 (r' 6)) (.int .u16 (r' 7))).set5o (c := w.heap.size + 1 + 1) (by omega) (.int .u8 0) (.int .u16 0) (.int .u16 0) (.int .u8 0) (.int .i64 0)
      have n2 : Cel (((((((((((((((wr).setCell ⟨w.heap.size + 1, 0, none⟩ (.int .u16 pc')).setCell ⟨w.heap.size + 1, 1, none⟩ (.int .u16 (r' 0))).setCell ⟨w.heap.size + 1, 2, none⟩ (.int .u16 (r' 1))).setCell ⟨w.heap.size + 1, 3, none⟩ (.int .u16 (r' 2))).setCell ⟨w.heap.size + 1, 4, none⟩ (.int .u16 (r' 3))).setCell ⟨w.heap.size + 1, 5, none⟩ (.int .u16 (r' 4))).setCell ⟨w.heap.size + 1, 6, none⟩ (.int .u16 (r' 5))).setCell ⟨w.heap.size + 1, 7, none⟩ (.int .u16 (r' 6))).setCell ⟨w.heap.size + 1, 8, none⟩ (.int .u16 (r' 7))).setCell ⟨w.heap.size + 1 + 1, 0, none⟩ (.int .u8 0)).setCell ⟨w.heap.size + 1 + 1, 1, none⟩ (.int .u16 0)).setCell ⟨w.heap.size + 1 + 1, 2, none⟩ (.int .u16 0)).setCell ⟨w.heap.size + 1 + 1, 3, none⟩ (.int .u8 0)).setCell ⟨w.heap.size + 1 + 1, 4, none⟩ (.int .i64 0)) (w.heap.size + 1 + 1) #[.int .u8 0, .int .u16 0, .int .u16 0, .int .u8 0, .int .i64 0] 35 := (k2.set9o (c := w.heap.size + 1) (by omega) (.int .u16 pc') (.int .u16 (r' 0)) (.int .u16 (r' 1)) (.int .u16 (r' 2)) (.int .u16 (r' 3)) (.int .u16 (r' 4)) (.int .u16 (r' 5)) (.int .u16 (r' 6)) (.int .u16 (r' 7))).set5 (.int .u8 0) (.int .u16 0) (.int .u16 0) (.int .u8 0) (.int .i64 0)
      have hbF : Below w.heap.size w (((((((((((((((wr).setCell ⟨w.heap.size + 1, 0, none⟩ (.int .u16 pc')).setCell ⟨w.heap.size + 1, 1, none⟩ (.int .u16 (r' 0))).setCell ⟨w.heap.size + 1, 2, none⟩ (.int .u16 (r' 1))).setCell ⟨w.heap.size + 1, 3, none⟩ (.int .u16 (r' 2))).setCell ⟨w.heap.size + 1, 4, none⟩ (.int .u16 (r' 3))).setCell ⟨w.heap.size + 1, 5, none⟩ (.int .u16 (r' 4))).setCell ⟨w.heap.size + 1, 6, none⟩ (.int .u16 (r' 5))).setCell ⟨w.heap.size + 1, 7, none⟩ (.int .u16 (r' 6))).setCell ⟨w.heap.size + 1, 8, none⟩ (.int .u16 (r' 7))).setCell ⟨w.heap.size + 1 + 1, 0, none⟩ (.int .u8 0)).setCell ⟨w.heap.size + 1 + 1, 1, none⟩ (.int .u16 0)).setCell ⟨w.heap.size + 1 + 1, 2, none⟩ (.int .u16 0)).setCell ⟨w.heap.size + 1 + 1, 3, none⟩ (.int .u8 0)).setCell ⟨w.heap.size + 1 + 1, 4, none⟩ (.int .i64 0)) := bsx (bsx (bsx (bsx (bsx (bsx (bsx (bsx (bsx (bsx (bsx (bsx (bsx (bsx (hb0) (by omega) _ _) (by omega) _ _) (by omega) _ _) (by omega) _ _) (by omega) _ _) (by omega) _ _) (by omega) _ _) (by omega) _ _) (by omega) _ _) (by omega) _ _) (by omega) _ _) (by omega) _ _) (by omega) _ _) (by omega) _ _
      generalize ((((((((((((((wr).setCell ⟨w.heap.size + 1, 0, none⟩ (.int .u16 pc')).setCell ⟨w.heap.size + 1, 1, none⟩ (.int .u16 (r' 0))).setCell ⟨w.heap.size + 1, 2, none⟩ (.int .u16 (r' 1))).setCell ⟨w.heap.size + 1, 3, none⟩ (.int .u16 (r' 2))).setCell ⟨w.heap.size + 1, 4, none⟩ (.int .u16 (r' 3))).setCell ⟨w.heap.size + 1, 5, none⟩ (.int .u16 (r' 4))).setCell ⟨w.heap.size + 1, 6, none⟩ (.int .u16 (r' 5))).setCell ⟨w.heap.size + 1, 7, none⟩ (.int .u16 (r' 6))).setCell ⟨w.heap.size + 1, 8, none⟩ (.int .u16 (r' 7))).setCell ⟨w.heap.size + 1 + 1, 0, none⟩ (.int .u8 0)).setCell ⟨w.heap.size + 1 + 1, 1, none⟩ (.int .u16 0)).setCell ⟨w.heap.size + 1 + 1, 2, none⟩ (.int .u16 0)).setCell ⟨w.heap.size + 1 + 1, 3, none⟩ (.int .u8 0)).setCell ⟨w.heap.size + 1 + 1, 4, none⟩ (.int .i64 0) = WF at *
      clear p0 p1 p2 p3 p4 p5 p6 p7 p8 q0 q1 q2 q3 q4 q5 q6 q7 q8 u0 u1 u2 u3 u4 f1 f2 k1 k2 hb0
      have q0 : WF.cell? ⟨w.heap.size + 1, 0, none⟩ = some (.int .u16 pc') := n1.c 0
      have q1 : WF.cell? ⟨w.heap.size + 1, 1, none⟩ = some (.int .u16 (r' 0)) := n1.c 1
      have q2 : WF.cell? ⟨w.heap.size + 1, 2, none⟩ = some (.int .u16 (r' 1)) := n1.c 2
      have q3 : WF.cell? ⟨w.heap.size + 1, 3, none⟩ = some (.int .u16 (r' 2)) := n1.c 3
      have q4 : WF.cell? ⟨w.heap.size + 1, 4, none⟩ = some (.int .u16 (r' 3)) := n1.c 4
      have q5 : WF.cell? ⟨w.heap.size + 1, 5, none⟩ = some (.int .u16 (r' 4)) := n1.c 5
      have q6 : WF.cell? ⟨w.heap.size + 1, 6, none⟩ = some (.int .u16 (r' 5)) := n1.c 6
      have q7 : WF.cell? ⟨w.heap.size + 1, 7, none⟩ = some (.int .u16 (r' 6)) := n1.c 7
      have q8 : WF.cell? ⟨w.heap.size + 1, 8, none⟩ = some (.int .u16 (r' 7)) := n1.c 8
      have u0 : WF.cell? ⟨w.heap.size + 1 + 1, 0, none⟩ = some (.int .u8 0) := n2.c 0
      have u1 : WF.cell? ⟨w.heap.size + 1 + 1, 1, none⟩ = some (.int .u16 0) := n2.c 1
      have u2 : WF.cell? ⟨w.heap.size + 1 + 1, 2, none⟩ = some (.int .u16 0) := n2.c 2
      have u3 : WF.cell? ⟨w.heap.size + 1 + 1, 3, none⟩ = some (.int .u8 0) := n2.c 3
      have u4 : WF.cell? ⟨w.heap.size + 1 + 1, 4, none⟩ = some (.int .i64 0) := n2.c 4
      refine bodyPost_ret (v := .tuple #[rgV pc' r', accV (0, 0, 0, 0, 0), .int .i64 ((k : Int))]) (by simp [results, Tryd.results14, go_sem, accV, rgV, q0, q1, q2, q3, q4, q5, q6, q7, q8, u0, u1, u2, u3, u4]) rfl ⟨?_, hbF⟩
      rw [HR3.out]
      rfl
set_option maxHeartbeats 16000000 in
theorem run_gt (pc : Int) (r : Nat → Int) (v : Value) (bs : List UInt8) (most : Int) (w : World) (hp : Wd pc) (hr : ∀ k, Wd (r k)) (hb : Bts w v bs) (hm : 1000 < most) :
    Calls Tryd.prog 14 #[rgV pc r, v, .int .i64 most] w fun e w' => e = .returned (runV (runF bs 1000 pc r 0)) ∧ Below w.heap.size w w' := by
  obtain ⟨N, hN⟩ : ∃ N, N = 1000 := ⟨_, rfl⟩
  rw [← hN]
  generalize hX : runF bs N pc r 0 = X
  have hl : ∀ k : Nat, (k : Int) < 1000 ↔ k < N := fun k => by omega
  have hN1 : N ≤ 1000 := by omega
  have HX : Hid (runF bs N pc r 0 = X) := hX
  have HB : Hid (Bts w v bs) := hb
  clear hX hb hN
  have cA : Cel (((w.alloc (.cells #[.int .u16 pc, .int .u16 (r 0), .int .u16 (r 1), .int .u16 (r 2), .int .u16 (r 3), .int .u16 (r 4), .int .u16 (r 5), .int .u16 (r 6), .int .u16 (r 7)] 26)).alloc (.cells #[.int .u16 0, .int .u16 0, .int .u16 0, .int .u16 0, .int .u16 0, .int .u16 0, .int .u16 0, .int .u16 0, .int .u16 0] 26)).alloc (.cells #[.int .u8 0, .int .u16 0, .int .u16 0, .int .u8 0, .int .i64 0] 35)) (w.heap.size) #[.int .u16 pc, .int .u16 (r 0), .int .u16 (r 1), .int .u16 (r 2), .int .u16 (r 3), .int .u16 (r 4), .int .u16 (r 5), .int .u16 (r 6), .int .u16 (r 7)] 26 := ((Cel.new w _ _).alloc _).alloc _
  have cB : Cel (((w.alloc (.cells #[.int .u16 pc, .int .u16 (r 0), .int .u16 (r 1), .int .u16 (r 2), .int .u16 (r 3), .int .u16 (r 4), .int .u16 (r 5), .int .u16 (r 6), .int .u16 (r 7)] 26)).alloc (.cells #[.int .u16 0, .int .u16 0, .int .u16 0, .int .u16 0, .int .u16 0, .int .u16 0, .int .u16 0, .int .u16 0, .int .u16 0] 26)).alloc (.cells #[.int .u8 0, .int .u16 0, .int .u16 0, .int .u8 0, .int .i64 0] 35)) (w.heap.size + 1) #[.int .u16 0, .int .u16 0, .int .u16 0, .int .u16 0, .int .u16 0, .int .u16 0, .int .u16 0, .int .u16 0, .int .u16 0] 26 := by
    have h := (Cel.new (w.alloc (.cells #[.int .u16 pc, .int .u16 (r 0), .int .u16 (r 1), .int .u16 (r 2), .int .u16 (r 3), .int .u16 (r 4), .int .u16 (r 5), .int .u16 (r 6), .int .u16 (r 7)] 26)) #[.int .u16 0, .int .u16 0, .int .u16 0, .int .u16 0, .int .u16 0, .int .u16 0, .int .u16 0, .int .u16 0, .int .u16 0] 26).alloc (.cells #[.int .u8 0, .int .u16 0, .int .u16 0, .int .u8 0, .int .i64 0] 35)
    rw [World.size_alloc] at h
    exact h
  have cC : Cel (((w.alloc (.cells #[.int .u16 pc, .int .u16 (r 0), .int .u16 (r 1), .int .u16 (r 2), .int .u16 (r 3), .int .u16 (r 4), .int .u16 (r 5), .int .u16 (r 6), .int .u16 (r 7)] 26)).alloc (.cells #[.int .u16 0, .int .u16 0, .int .u16 0, .int .u16 0, .int .u16 0, .int .u16 0, .int .u16 0, .int .u16 0, .int .u16 0] 26)).alloc (.cells #[.int .u8 0, .int .u16 0, .int .u16 0, .int .u8 0, .int .i64 0] 35)) (w.heap.size + 1 + 1) #[.int .u8 0, .int .u16 0, .int .u16 0, .int .u8 0, .int .i64 0] 35 := by
    have h := Cel.new ((w.alloc (.cells #[.int .u16 pc, .int .u16 (r 0), .int .u16 (r 1), .int .u16 (r 2), .int .u16 (r 3), .int .u16 (r 4), .int .u16 (r 5), .int .u16 (r 6), .int .u16 (r 7)] 26)).alloc (.cells #[.int .u16 0, .int .u16 0, .int .u16 0, .int .u16 0, .int .u16 0, .int .u16 0, .int .u16 0, .int .u16 0, .int .u16 0] 26)) #[.int .u8 0, .int .u16 0, .int .u16 0, .int .u8 0, .int .i64 0] 35
    rw [World.size_alloc, World.size_alloc] at h
    exact h
  have hB0 := nx (nx (nx (Below.refl _ w) (.cells #[.int .u16 pc, .int .u16 (r 0), .int .u16 (r 1), .int .u16 (r 2), .int .u16 (r 3), .int .u16 (r 4), .int .u16 (r 5), .int .u16 (r 6), .int .u16 (r 7)] 26)) (.cells #[.int .u16 0, .int .u16 0, .int .u16 0, .int .u16 0, .int .u16 0, .int .u16 0, .int .u16 0, .int .u16 0, .int .u16 0] 26)) (.cells #[.int .u8 0, .int .u16 0, .int .u16 0, .int .u8 0, .int .i64 0] 35)
  unfold rgV
  go_enter Tryd.func14, Tryd.ntmps14
  go_wp2_with fail
  go_loopw [9] (fun i wr => ∃ (k : Nat) (pc' : Int) (r' : Nat → Int), k ≤ N ∧ i = .int .i64 k ∧ Wd pc' ∧ (∀ j, Wd (r' j)) ∧ Hid (runF bs (N - k) pc' r' k = X) ∧ Cel wr (w.heap.size) #[.int .u16 pc', .int .u16 (r' 0), .int .u16 (r' 1), .int .u16 (r' 2), .int .u16 (r' 3), .int .u16 (r' 4), .int .u16 (r' 5), .int .u16 (r' 6), .int .u16 (r' 7)] 26 ∧ Cel wr (w.heap.size + 1) #[.int .u16 0, .int .u16 0, .int .u16 0, .int .u16 0, .int .u16 0, .int .u16 0, .int .u16 0, .int .u16 0, .int .u16 0] 26 ∧ Cel wr (w.heap.size + 1 + 1) #[.int .u8 0, .int .u16 0, .int .u16 0, .int .u8 0, .int .i64 0] 35 ∧ Below w.heap.size w wr) (fun i _ => N - (intOf i).toNat)
  case atStart => exact ⟨0, pc, r, by omega, rfl, hp, hr, HX, cA, cB, cC, hB0⟩
  case round =>
    obtain ⟨k, pc', r', hk, rfl, hp', hr', HR, k0, k1, k2, hb0⟩ := hrel
    clear cA cB cC hB0 HX hp hr
    have hs0 : w.heap.size + 1 + 1 < wr.heap.size := (Array.getElem?_eq_some_iff.1 k2).1
    by_cases hlt : k < N
    · have hlt' := (hl k).2 hlt
      have cN := next_any pc' r' v bs wr hp' (HB.out.below hb0 (Nat.le_refl _))
      have HR2 : Hid (runF bs (N - (k + 1) + 1) pc' r' k = X) := by
        show _ = _
        rw [show N - (k + 1) + 1 = N - k by omega]
        exact HR.out
      cases hY : nextP bs pc' with
      | error e =>
        have he : (e != 0) = true := by
          rw [bne_iff_ne]
          rcases next_err bs pc' e hY with rfl | rfl <;> decide
        have HR3 : Hid (X = ((pc', r'), (7, 0, 0, 0, e), (k : Int))) := by
          show _ = _
          rw [← HR2.out, runF, hY]
        rw [hY] at cN
        clear hY HR HR2
        unfold rgV nextV insV at cN
        have p0 : wr.cell? ⟨w.heap.size, 0, none⟩ = some (.int .u16 pc') := k0.c 0
        have p1 : wr.cell? ⟨w.heap.size, 1, none⟩ = some (.int .u16 (r' 0)) := k0.c 1
        have p2 : wr.cell? ⟨w.heap.size, 2, none⟩ = some (.int .u16 (r' 1)) := k0.c 2
        have p3 : wr.cell? ⟨w.heap.size, 3, none⟩ = some (.int .u16 (r' 2)) := k0.c 3
        have p4 : wr.cell? ⟨w.heap.size, 4, none⟩ = some (.int .u16 (r' 3)) := k0.c 4
        have p5 : wr.cell? ⟨w.heap.size, 5, none⟩ = some (.int .u16 (r' 4)) := k0.c 5
        have p6 : wr.cell? ⟨w.heap.size, 6, none⟩ = some (.int .u16 (r' 5)) := k0.c 6
        have p7 : wr.cell? ⟨w.heap.size, 7, none⟩ = some (.int .u16 (r' 6)) := k0.c 7
        have p8 : wr.cell? ⟨w.heap.size, 8, none⟩ = some (.int .u16 (r' 7)) := k0.c 8
        go_wp2_with fail
        refine cN.mono ?_
        rintro e' W1 ⟨rfl, hB1⟩
        have hs1 := hB1.size
        have j0 := k0.below hB1 (by omega)
        have j1 := k1.below hB1 (by omega)
        have j2 := k2.below hB1 (by omega)
        have hb1 := hb0.trans (hB1.mono (by omega))
        clear p0 p1 p2 p3 p4 p5 p6 p7 p8 k0 k1 k2 hB1 cN hb0
        have l0 : w.heap.size < W1.heap.size := by omega
        have l1 : w.heap.size + 1 < W1.heap.size := by omega
        have l2 : w.heap.size + 1 + 1 < W1.heap.size := by omega
        have p0 : W1.cell? ⟨w.heap.size, 0, none⟩ = some (.int .u16 pc') := j0.c 0
        have p1 : W1.cell? ⟨w.heap.size, 1, none⟩ = some (.int .u16 (r' 0)) := j0.c 1
        have p2 : W1.cell? ⟨w.heap.size, 2, none⟩ = some (.int .u16 (r' 1)) := j0.c 2
        have p3 : W1.cell? ⟨w.heap.size, 3, none⟩ = some (.int .u16 (r' 2)) := j0.c 3
        have p4 : W1.cell? ⟨w.heap.size, 4, none⟩ = some (.int .u16 (r' 3)) := j0.c 4
        have p5 : W1.cell? ⟨w.heap.size, 5, none⟩ = some (.int .u16 (r' 4)) := j0.c 5
        have p6 : W1.cell? ⟨w.heap.size, 6, none⟩ = some (.int .u16 (r' 5)) := j0.c 6
        have p7 : W1.cell? ⟨w.heap.size, 7, none⟩ = some (.int .u16 (r' 6)) := j0.c 7
        have p8 : W1.cell? ⟨w.heap.size, 8, none⟩ = some (.int .u16 (r' 7)) := j0.c 8
        have q0 : W1.cell? ⟨w.heap.size + 1, 0, none⟩ = some (.int .u16 0) := j1.c 0
        have q1 : W1.cell? ⟨w.heap.size + 1, 1, none⟩ = some (.int .u16 0) := j1.c 1
        have q2 : W1.cell? ⟨w.heap.size + 1, 2, none⟩ = some (.int .u16 0) := j1.c 2
        have q3 : W1.cell? ⟨w.heap.size + 1, 3, none⟩ = some (.int .u16 0) := j1.c 3
        have q4 : W1.cell? ⟨w.heap.size + 1, 4, none⟩ = some (.int .u16 0) := j1.c 4
        have q5 : W1.cell? ⟨w.heap.size + 1, 5, none⟩ = some (.int .u16 0) := j1.c 5
        have q6 : W1.cell? ⟨w.heap.size + 1, 6, none⟩ = some (.int .u16 0) := j1.c 6
        have q7 : W1.cell? ⟨w.heap.size + 1, 7, none⟩ = some (.int .u16 0) := j1.c 7
        have q8 : W1.cell? ⟨w.heap.size + 1, 8, none⟩ = some (.int .u16 0) := j1.c 8
        have u0 : W1.cell? ⟨w.heap.size + 1 + 1, 0, none⟩ = some (.int .u8 0) := j2.c 0
        have u1 : W1.cell? ⟨w.heap.size + 1 + 1, 1, none⟩ = some (.int .u16 0) := j2.c 1
        have u2 : W1.cell? ⟨w.heap.size + 1 + 1, 2, none⟩ = some (.int .u16 0) := j2.c 2
        have u3 : W1.cell? ⟨w.heap.size + 1 + 1, 3, none⟩ = some (.int .u8 0) := j2.c 3
        have u4 : W1.cell? ⟨w.heap.size + 1 + 1, 4, none⟩ = some (.int .i64 0) := j2.c 4
        have f1 := j1.f
        have f2 := j2.f
        clear j0
        go_wp2_with fail
        have cT := fun w => trap_any e w
        unfold accV at cT
        simp only at cT
        go_region_held3 (fun w' => w'.cell? ⟨w.heap.size, 0, none⟩ = some (.int .u16 pc') ∧ w'.cell? ⟨w.heap.size, 1, none⟩ = some (.int .u16 (r' 0)) ∧ w'.cell? ⟨w.heap.size, 2, none⟩ = some (.int .u16 (r' 1)) ∧ w'.cell? ⟨w.heap.size, 3, none⟩ = some (.int .u16 (r' 2)) ∧ w'.cell? ⟨w.heap.size, 4, none⟩ = some (.int .u16 (r' 3)) ∧ w'.cell? ⟨w.heap.size, 5, none⟩ = some (.int .u16 (r' 4)) ∧ w'.cell? ⟨w.heap.size, 6, none⟩ = some (.int .u16 (r' 5)) ∧ w'.cell? ⟨w.heap.size, 7, none⟩ = some (.int .u16 (r' 6)) ∧ w'.cell? ⟨w.heap.size, 8, none⟩ = some (.int .u16 (r' 7))) (simp [go_sem, l0, p0, p1, p2, p3, p4, p5, p6, p7, p8]) ((go_at_call 17; refine (cT _).mono ?_; rintro e'' w' ⟨rfl, rfl⟩))
        have n1 : Cel ((((((((((((((((((W1).setCell ⟨w.heap.size + 1, 0, none⟩ (.int .u16 pc')).setCell ⟨w.heap.size + 1, 1, none⟩ (.int .u16 (r' 0))).setCell ⟨w.heap.size + 1, 2, none⟩ (.int .u16 (r' 1))).setCell ⟨w.heap.size + 1, 3, none⟩ (.int .u16 (r' 2))).setCell ⟨w.heap.size + 1, 4, none⟩ (.int .u16 (r' 3))).setCell ⟨w.heap.size + 1, 5, none⟩ (.int .u16 (r' 4))).setCell ⟨w.heap.size + 1, 6, none⟩ (.int .u16 (r' 5))).setCell ⟨w.heap.size + 1, 7, none⟩ (.int .u16 (r' 6))).setCell ⟨w.heap.size + 1, 8, none⟩ (.int .u16 (r' 7))).setCell ⟨w.heap.size + 1 + 1, 0, none⟩ (.int .u8 7)).setCell ⟨w.heap.size + 1 + 1, 1, none⟩ (.int .u16 0)).setCell ⟨w.heap.size + 1 + 1, 2, none⟩ (.int .u16 0)).setCell ⟨w.heap.size + 1 + 1, 3, none⟩ (.int .u8 0)).setCell ⟨w.heap.size + 1 + 1, 4, none⟩ (.int .i64 e)).alloc (.cells #[.int .u8 0, .int .u8 0, .int .u8 0, .int .u16 0] 29)).alloc (.cells #[.int .u8 7, .int .u16 0, .int .u16 0, .int .u8 0, .int .i64 e] 35)).drew) (w.heap.size + 1) #[.int .u16 pc', .int .u16 (r' 0), .int .u16 (r' 1), .int .u16 (r' 2), .int .u16 (r' 3), .int .u16 (r' 4), .int .u16 (r' 5), .int .u16 (r' 6), .int .u16 (r' 7)] 26 := Cel.drew ((((j1.set9 (.int .u16 pc') (.int .u16 (r' 0)) (.int .u16 (r' 1)) (.int .u16 (r' 2)) (.int .u16 (r' 3)) (.int .u16 (r' 4)) (.int .u16 (r' 5)) (.int .u16 (r' 6)) (.int .u16 (r' 7))).set5o (c := w.heap.size + 1 + 1) (by omega) (.int .u8 7) (.int .u16 0) (.int .u16 0) (.int .u8 0) (.int .i64 e)).alloc (.cells #[.int .u8 0, .int .u8 0, .int .u8 0, .int .u16 0] 29)).alloc (.cells #[.int .u8 7, .int .u16 0, .int .u16 0, .int .u8 0, .int .i64 e] 35))
        have n2 : Cel ((((((((((((((((((W1).setCell ⟨w.heap.size + 1, 0, none⟩ (.int .u16 pc')).setCell ⟨w.heap.size + 1, 1, none⟩ (.int .u16 (r' 0))).setCell ⟨w.heap.size + 1, 2, none⟩ (.int .u16 (r' 1))).setCell ⟨w.heap.size + 1, 3, none⟩ (.int .u16 (r' 2))).setCell ⟨w.heap.size + 1, 4, none⟩ (.int .u16 (r' 3))).setCell ⟨w.heap.size + 1, 5, none⟩ (.int .u16 (r' 4))).setCell ⟨w.heap.size + 1, 6, none⟩ (.int .u16 (r' 5))).setCell ⟨w.heap.size + 1, 7, none⟩ (.int .u16 (r' 6))).setCell ⟨w.heap.size + 1, 8, none⟩ (.int .u16 (r' 7))).setCell ⟨w.heap.size + 1 + 1, 0, none⟩ (.int .u8 7)).setCell ⟨w.heap.size + 1 + 1, 1, none⟩ (.int .u16 0)).setCell ⟨w.heap.size + 1 + 1, 2, none⟩ (.int .u16 0)).setCell ⟨w.heap.size + 1 + 1, 3, none⟩ (.int .u8 0)).setCell ⟨w.heap.size + 1 + 1, 4, none⟩ (.int .i64 e)).alloc (.cells #[.int .u8 0, .int .u8 0, .int .u8 0, .int .u16 0] 29)).alloc (.cells #[.int .u8 7, .int .u16 0, .int .u16 0, .int .u8 0, .int .i64 e] 35)).drew) (w.heap.size + 1 + 1) #[.int .u8 7, .int .u16 0, .int .u16 0, .int .u8 0, .int .i64 e] 35 := Cel.drew ((((j2.set9o (c := w.heap.size + 1) (by omega) (.int .u16 pc') (.int .u16 (r' 0)) (.int .u16 (r' 1)) (.int .u16 (r' 2)) (.int .u16 (r' 3)) (.int .u16 (r' 4)) (.int .u16 (r' 5)) (.int .u16 (r' 6)) (.int .u16 (r' 7))).set5 (.int .u8 7) (.int .u16 0) (.int .u16 0) (.int .u8 0) (.int .i64 e)).alloc (.cells #[.int .u8 0, .int .u8 0, .int .u8 0, .int .u16 0] 29)).alloc (.cells #[.int .u8 7, .int .u16 0, .int .u16 0, .int .u8 0, .int .i64 e] 35))
        have hbF : Below w.heap.size w ((((((((((((((((((W1).setCell ⟨w.heap.size + 1, 0, none⟩ (.int .u16 pc')).setCell ⟨w.heap.size + 1, 1, none⟩ (.int .u16 (r' 0))).setCell ⟨w.heap.size + 1, 2, none⟩ (.int .u16 (r' 1))).setCell ⟨w.heap.size + 1, 3, none⟩ (.int .u16 (r' 2))).setCell ⟨w.heap.size + 1, 4, none⟩ (.int .u16 (r' 3))).setCell ⟨w.heap.size + 1, 5, none⟩ (.int .u16 (r' 4))).setCell ⟨w.heap.size + 1, 6, none⟩ (.int .u16 (r' 5))).setCell ⟨w.heap.size + 1, 7, none⟩ (.int .u16 (r' 6))).setCell ⟨w.heap.size + 1, 8, none⟩ (.int .u16 (r' 7))).setCell ⟨w.heap.size + 1 + 1, 0, none⟩ (.int .u8 7)).setCell ⟨w.heap.size + 1 + 1, 1, none⟩ (.int .u16 0)).setCell ⟨w.heap.size + 1 + 1, 2, none⟩ (.int .u16 0)).setCell ⟨w.heap.size + 1 + 1, 3, none⟩ (.int .u8 0)).setCell ⟨w.heap.size + 1 + 1, 4, none⟩ (.int .i64 e)).alloc (.cells #[.int .u8 0, .int .u8 0, .int .u8 0, .int .u16 0] 29)).alloc (.cells #[.int .u8 7, .int .u16 0, .int .u16 0, .int .u8 0, .int .i64 e] 35)).drew) := Below.drew (nx (nx (bsx (bsx (bsx (bsx (bsx (bsx (bsx (bsx (bsx (bsx (bsx (bsx (bsx (bsx (hb1) (by omega) _ _) (by omega) _ _) (by omega) _ _) (by omega) _ _) (by omega) _ _) (by omega) _ _) (by omega) _ _) (by omega) _ _) (by omega) _ _) (by omega) _ _) (by omega) _ _) (by omega) _ _) (by omega) _ _) (by omega) _ _) (.cells #[.int .u8 0, .int .u8 0, .int .u8 0, .int .u16 0] 29)) (.cells #[.int .u8 7, .int .u16 0, .int .u16 0, .int .u8 0, .int .i64 e] 35))
        generalize (((((((((((((((((W1).setCell ⟨w.heap.size + 1, 0, none⟩ (.int .u16 pc')).setCell ⟨w.heap.size + 1, 1, none⟩ (.int .u16 (r' 0))).setCell ⟨w.heap.size + 1, 2, none⟩ (.int .u16 (r' 1))).setCell ⟨w.heap.size + 1, 3, none⟩ (.int .u16 (r' 2))).setCell ⟨w.heap.size + 1, 4, none⟩ (.int .u16 (r' 3))).setCell ⟨w.heap.size + 1, 5, none⟩ (.int .u16 (r' 4))).setCell ⟨w.heap.size + 1, 6, none⟩ (.int .u16 (r' 5))).setCell ⟨w.heap.size + 1, 7, none⟩ (.int .u16 (r' 6))).setCell ⟨w.heap.size + 1, 8, none⟩ (.int .u16 (r' 7))).setCell ⟨w.heap.size + 1 + 1, 0, none⟩ (.int .u8 7)).setCell ⟨w.heap.size + 1 + 1, 1, none⟩ (.int .u16 0)).setCell ⟨w.heap.size + 1 + 1, 2, none⟩ (.int .u16 0)).setCell ⟨w.heap.size + 1 + 1, 3, none⟩ (.int .u8 0)).setCell ⟨w.heap.size + 1 + 1, 4, none⟩ (.int .i64 e)).alloc (.cells #[.int .u8 0, .int .u8 0, .int .u8 0, .int .u16 0] 29)).alloc (.cells #[.int .u8 7, .int .u16 0, .int .u16 0, .int .u8 0, .int .i64 e] 35)).drew = WF at *
        clear p0 p1 p2 p3 p4 p5 p6 p7 p8 q0 q1 q2 q3 q4 q5 q6 q7 q8 u0 u1 u2 u3 u4 f1 f2 j1 j2 hb1 cT l0 l1 l2
        have q0 : WF.cell? ⟨w.heap.size + 1, 0, none⟩ = some (.int .u16 pc') := n1.c 0
        have q1 : WF.cell? ⟨w.heap.size + 1, 1, none⟩ = some (.int .u16 (r' 0)) := n1.c 1
        have q2 : WF.cell? ⟨w.heap.size + 1, 2, none⟩ = some (.int .u16 (r' 1)) := n1.c 2
        have q3 : WF.cell? ⟨w.heap.size + 1, 3, none⟩ = some (.int .u16 (r' 2)) := n1.c 3
        have q4 : WF.cell? ⟨w.heap.size + 1, 4, none⟩ = some (.int .u16 (r' 3)) := n1.c 4
        have q5 : WF.cell? ⟨w.heap.size + 1, 5, none⟩ = some (.int .u16 (r' 4)) := n1.c 5
        have q6 : WF.cell? ⟨w.heap.size + 1, 6, none⟩ = some (.int .u16 (r' 5)) := n1.c 6
        have q7 : WF.cell? ⟨w.heap.size + 1, 7, none⟩ = some (.int .u16 (r' 6)) := n1.c 7
        have q8 : WF.cell? ⟨w.heap.size + 1, 8, none⟩ = some (.int .u16 (r' 7)) := n1.c 8
        have u0 : WF.cell? ⟨w.heap.size + 1 + 1, 0, none⟩ = some (.int .u8 7) := n2.c 0
        have u1 : WF.cell? ⟨w.heap.size + 1 + 1, 1, none⟩ = some (.int .u16 0) := n2.c 1
        have u2 : WF.cell? ⟨w.heap.size + 1 + 1, 2, none⟩ = some (.int .u16 0) := n2.c 2
        have u3 : WF.cell? ⟨w.heap.size + 1 + 1, 3, none⟩ = some (.int .u8 0) := n2.c 3
        have u4 : WF.cell? ⟨w.heap.size + 1 + 1, 4, none⟩ = some (.int .i64 e) := n2.c 4
        go_wp2_with fail
        refine bodyPost_ret (v := .tuple #[rgV pc' r', accV (7, 0, 0, 0, e), .int .i64 ((k : Int))]) (by simp [results, Tryd.results14, go_sem, accV, rgV, q0, q1, q2, q3, q4, q5, q6, q7, q8, u0, u1, u2, u3, u4]) rfl ⟨?_, hbF⟩
        rw [HR3.out]
        rfl
      | ok i =>
        obtain ⟨d0, d1, d2, d3⟩ := i
        obtain ⟨hO, _⟩ := next_ok bs pc' _ hY
        simp only at hO
        have cE := fun w => exec_any pc' r' d0 d1 d2 d3 w hp' hr' hO
        have hwd := exec_wd pc' r' d0 d1 d2 d3 hp' hr' ⟨hO.2.2.2.2.2.2.1, hO.2.2.2.2.2.2.2⟩
        have HR3 : Hid (X = (if (execP pc' r' d0 d1 d2 d3).2.1 = 0 then runF bs (N - (k + 1)) (execP pc' r' d0 d1 d2 d3).1.1 (execP pc' r' d0 d1 d2 d3).1.2 ((k : Int) + 1)
            else ((execP pc' r' d0 d1 d2 d3).1, (execP pc' r' d0 d1 d2 d3).2, if (execP pc' r' d0 d1 d2 d3).2.1 = 7 then (k : Int) else (k : Int) + 1))) := by
          show _ = _
          rw [← HR2.out, runF, hY]
        rw [hY] at cN
        clear hY HR HR2
        generalize execP pc' r' d0 d1 d2 d3 = E at *
        obtain ⟨⟨pc2, r2⟩, x0, x1, x2, x3, x4⟩ := E
        unfold execV rgV insV accV at cE
        unfold rgV nextV insV4 insV at cN
        simp only at cE cN hwd HR3
        have p0 : wr.cell? ⟨w.heap.size, 0, none⟩ = some (.int .u16 pc') := k0.c 0
        have p1 : wr.cell? ⟨w.heap.size, 1, none⟩ = some (.int .u16 (r' 0)) := k0.c 1
        have p2 : wr.cell? ⟨w.heap.size, 2, none⟩ = some (.int .u16 (r' 1)) := k0.c 2
        have p3 : wr.cell? ⟨w.heap.size, 3, none⟩ = some (.int .u16 (r' 2)) := k0.c 3
        have p4 : wr.cell? ⟨w.heap.size, 4, none⟩ = some (.int .u16 (r' 3)) := k0.c 4
        have p5 : wr.cell? ⟨w.heap.size, 5, none⟩ = some (.int .u16 (r' 4)) := k0.c 5
        have p6 : wr.cell? ⟨w.heap.size, 6, none⟩ = some (.int .u16 (r' 5)) := k0.c 6
        have p7 : wr.cell? ⟨w.heap.size, 7, none⟩ = some (.int .u16 (r' 6)) := k0.c 7
        have p8 : wr.cell? ⟨w.heap.size, 8, none⟩ = some (.int .u16 (r' 7)) := k0.c 8
        go_wp2_with fail
        refine cN.mono ?_
        rintro e' W1 ⟨rfl, hB1⟩
        have hs1 := hB1.size
        have j0 := k0.below hB1 (by omega)
        have j1 := k1.below hB1 (by omega)
        have j2 := k2.below hB1 (by omega)
        have hb1 := hb0.trans (hB1.mono (by omega))
        clear p0 p1 p2 p3 p4 p5 p6 p7 p8 k0 k1 k2 hB1 cN hb0
        have l0 : w.heap.size < W1.heap.size := by omega
        have p0 : W1.cell? ⟨w.heap.size, 0, none⟩ = some (.int .u16 pc') := j0.c 0
        have p1 : W1.cell? ⟨w.heap.size, 1, none⟩ = some (.int .u16 (r' 0)) := j0.c 1
        have p2 : W1.cell? ⟨w.heap.size, 2, none⟩ = some (.int .u16 (r' 1)) := j0.c 2
        have p3 : W1.cell? ⟨w.heap.size, 3, none⟩ = some (.int .u16 (r' 2)) := j0.c 3
        have p4 : W1.cell? ⟨w.heap.size, 4, none⟩ = some (.int .u16 (r' 3)) := j0.c 4
        have p5 : W1.cell? ⟨w.heap.size, 5, none⟩ = some (.int .u16 (r' 4)) := j0.c 5
        have p6 : W1.cell? ⟨w.heap.size, 6, none⟩ = some (.int .u16 (r' 5)) := j0.c 6
        have p7 : W1.cell? ⟨w.heap.size, 7, none⟩ = some (.int .u16 (r' 6)) := j0.c 7
        have p8 : W1.cell? ⟨w.heap.size, 8, none⟩ = some (.int .u16 (r' 7)) := j0.c 8
        go_wp2_with fail
        have i0 := (j0.alloc (.cells #[.int .u8 d0, .int .u8 d1, .int .u8 d2, .int .u16 d3] 29)).alloc (.cells #[.int .u8 0, .int .u16 0, .int .u16 0, .int .u8 0, .int .i64 0] 35)
        have i1 := (j1.alloc (.cells #[.int .u8 d0, .int .u8 d1, .int .u8 d2, .int .u16 d3] 29)).alloc (.cells #[.int .u8 0, .int .u16 0, .int .u16 0, .int .u8 0, .int .i64 0] 35)
        have i2 := (j2.alloc (.cells #[.int .u8 d0, .int .u8 d1, .int .u8 d2, .int .u16 d3] 29)).alloc (.cells #[.int .u8 0, .int .u16 0, .int .u16 0, .int .u8 0, .int .i64 0] 35)
        have i3 := Cel.new (W1.alloc (.cells #[.int .u8 d0, .int .u8 d1, .int .u8 d2, .int .u16 d3] 29)) #[.int .u8 0, .int .u16 0, .int .u16 0, .int .u8 0, .int .i64 0] 35
        rw [World.size_alloc] at i3
        have hb2 := nx (nx hb1 (.cells #[.int .u8 d0, .int .u8 d1, .int .u8 d2, .int .u16 d3] 29)) (.cells #[.int .u8 0, .int .u16 0, .int .u16 0, .int .u8 0, .int .i64 0] 35)
        have hs2 : ((W1.alloc (.cells #[.int .u8 d0, .int .u8 d1, .int .u8 d2, .int .u16 d3] 29)).alloc (.cells #[.int .u8 0, .int .u16 0, .int .u16 0, .int .u8 0, .int .i64 0] 35)).heap.size = W1.heap.size + 1 + 1 := by simp
        clear j0 j1 j2 hb1 p0 p1 p2 p3 p4 p5 p6 p7 p8
        refine (cE _).mono ?_
        rintro e' W2 ⟨rfl, hB2⟩
        generalize ((W1.alloc (.cells #[.int .u8 d0, .int .u8 d1, .int .u8 d2, .int .u16 d3] 29)).alloc (.cells #[.int .u8 0, .int .u16 0, .int .u16 0, .int .u8 0, .int .i64 0] 35)) = W1' at *
        have o0 := i0.below hB2 (by omega)
        have o1 := i1.below hB2 (by omega)
        have o2 := i2.below hB2 (by omega)
        have o3 := i3.below hB2 (by omega)
        have hb3 := hb2.trans (hB2.mono (by omega))
        have hB4 : w.heap.size + 1 + 1 < W1.heap.size + 1 := by omega
        generalize W1.heap.size + 1 = B4 at *
        clear i0 i1 i2 i3 hb2 hB2 cE hs2 hs1 l0
        have p0 : W2.cell? ⟨w.heap.size, 0, none⟩ = some (.int .u16 pc') := o0.c 0
        have p1 : W2.cell? ⟨w.heap.size, 1, none⟩ = some (.int .u16 (r' 0)) := o0.c 1
        have p2 : W2.cell? ⟨w.heap.size, 2, none⟩ = some (.int .u16 (r' 1)) := o0.c 2
        have p3 : W2.cell? ⟨w.heap.size, 3, none⟩ = some (.int .u16 (r' 2)) := o0.c 3
        have p4 : W2.cell? ⟨w.heap.size, 4, none⟩ = some (.int .u16 (r' 3)) := o0.c 4
        have p5 : W2.cell? ⟨w.heap.size, 5, none⟩ = some (.int .u16 (r' 4)) := o0.c 5
        have p6 : W2.cell? ⟨w.heap.size, 6, none⟩ = some (.int .u16 (r' 5)) := o0.c 6
        have p7 : W2.cell? ⟨w.heap.size, 7, none⟩ = some (.int .u16 (r' 6)) := o0.c 7
        have p8 : W2.cell? ⟨w.heap.size, 8, none⟩ = some (.int .u16 (r' 7)) := o0.c 8
        have v0 : W2.cell? ⟨B4, 0, none⟩ = some (.int .u8 0) := o3.c 0
        have v1 : W2.cell? ⟨B4, 1, none⟩ = some (.int .u16 0) := o3.c 1
        have v2 : W2.cell? ⟨B4, 2, none⟩ = some (.int .u16 0) := o3.c 2
        have v3 : W2.cell? ⟨B4, 3, none⟩ = some (.int .u8 0) := o3.c 3
        have v4 : W2.cell? ⟨B4, 4, none⟩ = some (.int .i64 0) := o3.c 4
        have f0 := o0.f
        have f3 := o3.f
        have m0 : Cel (((((((((((((((W2).setCell ⟨w.heap.size, 0, none⟩ (.int .u16 pc2)).setCell ⟨w.heap.size, 1, none⟩ (.int .u16 (r2 0))).setCell ⟨w.heap.size, 2, none⟩ (.int .u16 (r2 1))).setCell ⟨w.heap.size, 3, none⟩ (.int .u16 (r2 2))).setCell ⟨w.heap.size, 4, none⟩ (.int .u16 (r2 3))).setCell ⟨w.heap.size, 5, none⟩ (.int .u16 (r2 4))).setCell ⟨w.heap.size, 6, none⟩ (.int .u16 (r2 5))).setCell ⟨w.heap.size, 7, none⟩ (.int .u16 (r2 6))).setCell ⟨w.heap.size, 8, none⟩ (.int .u16 (r2 7))).setCell ⟨B4, 0, none⟩ (.int .u8 x0)).setCell ⟨B4, 1, none⟩ (.int .u16 x1)).setCell ⟨B4, 2, none⟩ (.int .u16 x2)).setCell ⟨B4, 3, none⟩ (.int .u8 x3)).setCell ⟨B4, 4, none⟩ (.int .i64 x4)) (w.heap.size) #[.int .u16 pc2, .int .u16 (r2 0), .int .u16 (r2 1), .int .u16 (r2 2), .int .u16 (r2 3), .int .u16 (r2 4), .int .u16 (r2 5), .int .u16 (r2 6), .int .u16 (r2 7)] 26 := (o0.set9 (.int .u16 pc2) (.int .u16 (r2 0)) (.int .u16 (r2 1)) (.int .u16 (r2 2)) (.int .u16 (r2 3)) (.int .u16 (r2 4)) (.int .u16 (r2 5)) (.int .u16 (r2 6)) (.int .u16 (r2 7))).set5o (c := B4) (by omega) (.int .u8 x0) (.int .u16 x1) (.int .u16 x2) (.int .u8 x3) (.int .i64 x4)
        have m1 : Cel (((((((((((((((W2).setCell ⟨w.heap.size, 0, none⟩ (.int .u16 pc2)).setCell ⟨w.heap.size, 1, none⟩ (.int .u16 (r2 0))).setCell ⟨w.heap.size, 2, none⟩ (.int .u16 (r2 1))).setCell ⟨w.heap.size, 3, none⟩ (.int .u16 (r2 2))).setCell ⟨w.heap.size, 4, none⟩ (.int .u16 (r2 3))).setCell ⟨w.heap.size, 5, none⟩ (.int .u16 (r2 4))).setCell ⟨w.heap.size, 6, none⟩ (.int .u16 (r2 5))).setCell ⟨w.heap.size, 7, none⟩ (.int .u16 (r2 6))).setCell ⟨w.heap.size, 8, none⟩ (.int .u16 (r2 7))).setCell ⟨B4, 0, none⟩ (.int .u8 x0)).setCell ⟨B4, 1, none⟩ (.int .u16 x1)).setCell ⟨B4, 2, none⟩ (.int .u16 x2)).setCell ⟨B4, 3, none⟩ (.int .u8 x3)).setCell ⟨B4, 4, none⟩ (.int .i64 x4)) (w.heap.size + 1) #[.int .u16 0, .int .u16 0, .int .u16 0, .int .u16 0, .int .u16 0, .int .u16 0, .int .u16 0, .int .u16 0, .int .u16 0] 26 := (o1.set9o (c := w.heap.size) (by omega) (.int .u16 pc2) (.int .u16 (r2 0)) (.int .u16 (r2 1)) (.int .u16 (r2 2)) (.int .u16 (r2 3)) (.int .u16 (r2 4)) (.int .u16 (r2 5)) (.int .u16 (r2 6)) (.int .u16 (r2 7))).set5o (c := B4) (by omega) (.int .u8 x0) (.int .u16 x1) (.int .u16 x2) (.int .u8 x3) (.int .i64 x4)
        have m2 : Cel (((((((((((((((W2).setCell ⟨w.heap.size, 0, none⟩ (.int .u16 pc2)).setCell ⟨w.heap.size, 1, none⟩ (.int .u16 (r2 0))).setCell ⟨w.heap.size, 2, none⟩ (.int .u16 (r2 1))).setCell ⟨w.heap.size, 3, none⟩ (.int .u16 (r2 2))).setCell ⟨w.heap.size, 4, none⟩ (.int .u16 (r2 3))).setCell ⟨w.heap.size, 5, none⟩ (.int .u16 (r2 4))).setCell ⟨w.heap.size, 6, none⟩ (.int .u16 (r2 5))).setCell ⟨w.heap.size, 7, none⟩ (.int .u16 (r2 6))).setCell ⟨w.heap.size, 8, none⟩ (.int .u16 (r2 7))).setCell ⟨B4, 0, none⟩ (.int .u8 x0)).setCell ⟨B4, 1, none⟩ (.int .u16 x1)).setCell ⟨B4, 2, none⟩ (.int .u16 x2)).setCell ⟨B4, 3, none⟩ (.int .u8 x3)).setCell ⟨B4, 4, none⟩ (.int .i64 x4)) (w.heap.size + 1 + 1) #[.int .u8 0, .int .u16 0, .int .u16 0, .int .u8 0, .int .i64 0] 35 := (o2.set9o (c := w.heap.size) (by omega) (.int .u16 pc2) (.int .u16 (r2 0)) (.int .u16 (r2 1)) (.int .u16 (r2 2)) (.int .u16 (r2 3)) (.int .u16 (r2 4)) (.int .u16 (r2 5)) (.int .u16 (r2 6)) (.int .u16 (r2 7))).set5o (c := B4) (by omega) (.int .u8 x0) (.int .u16 x1) (.int .u16 x2) (.int .u8 x3) (.int .i64 x4)
        have m3 : Cel (((((((((((((((W2).setCell ⟨w.heap.size, 0, none⟩ (.int .u16 pc2)).setCell ⟨w.heap.size, 1, none⟩ (.int .u16 (r2 0))).setCell ⟨w.heap.size, 2, none⟩ (.int .u16 (r2 1))).setCell ⟨w.heap.size, 3, none⟩ (.int .u16 (r2 2))).setCell ⟨w.heap.size, 4, none⟩ (.int .u16 (r2 3))).setCell ⟨w.heap.size, 5, none⟩ (.int .u16 (r2 4))).setCell ⟨w.heap.size, 6, none⟩ (.int .u16 (r2 5))).setCell ⟨w.heap.size, 7, none⟩ (.int .u16 (r2 6))).setCell ⟨w.heap.size, 8, none⟩ (.int .u16 (r2 7))).setCell ⟨B4, 0, none⟩ (.int .u8 x0)).setCell ⟨B4, 1, none⟩ (.int .u16 x1)).setCell ⟨B4, 2, none⟩ (.int .u16 x2)).setCell ⟨B4, 3, none⟩ (.int .u8 x3)).setCell ⟨B4, 4, none⟩ (.int .i64 x4)) B4 #[.int .u8 x0, .int .u16 x1, .int .u16 x2, .int .u8 x3, .int .i64 x4] 35 := (o3.set9o (c := w.heap.size) (by omega) (.int .u16 pc2) (.int .u16 (r2 0)) (.int .u16 (r2 1)) (.int .u16 (r2 2)) (.int .u16 (r2 3)) (.int .u16 (r2 4)) (.int .u16 (r2 5)) (.int .u16 (r2 6)) (.int .u16 (r2 7))).set5 (.int .u8 x0) (.int .u16 x1) (.int .u16 x2) (.int .u8 x3) (.int .i64 x4)
        have hb4 : Below w.heap.size w (((((((((((((((W2).setCell ⟨w.heap.size, 0, none⟩ (.int .u16 pc2)).setCell ⟨w.heap.size, 1, none⟩ (.int .u16 (r2 0))).setCell ⟨w.heap.size, 2, none⟩ (.int .u16 (r2 1))).setCell ⟨w.heap.size, 3, none⟩ (.int .u16 (r2 2))).setCell ⟨w.heap.size, 4, none⟩ (.int .u16 (r2 3))).setCell ⟨w.heap.size, 5, none⟩ (.int .u16 (r2 4))).setCell ⟨w.heap.size, 6, none⟩ (.int .u16 (r2 5))).setCell ⟨w.heap.size, 7, none⟩ (.int .u16 (r2 6))).setCell ⟨w.heap.size, 8, none⟩ (.int .u16 (r2 7))).setCell ⟨B4, 0, none⟩ (.int .u8 x0)).setCell ⟨B4, 1, none⟩ (.int .u16 x1)).setCell ⟨B4, 2, none⟩ (.int .u16 x2)).setCell ⟨B4, 3, none⟩ (.int .u8 x3)).setCell ⟨B4, 4, none⟩ (.int .i64 x4)) := bsx (bsx (bsx (bsx (bsx (bsx (bsx (bsx (bsx (bsx (bsx (bsx (bsx (bsx (hb3) (by omega) _ _) (by omega) _ _) (by omega) _ _) (by omega) _ _) (by omega) _ _) (by omega) _ _) (by omega) _ _) (by omega) _ _) (by omega) _ _) (by omega) _ _) (by omega) _ _) (by omega) _ _) (by omega) _ _) (by omega) _ _
        clear o0 o1 o2 o3
        by_cases hx : x0 = 0
        · subst hx
          have HR4 : Hid (runF bs (N - (k + 1)) pc2 r2 ((k : Int) + 1) = X) := by
            show _ = _
            rw [HR3.out, if_pos rfl]
          clear HR3
          go_wp2_with fail
          clear hb3 p0 p1 p2 p3 p4 p5 p6 p7 p8 v0 v1 v2 v3 v4 f0 f3
          generalize ((((((((((((((W2).setCell ⟨w.heap.size, 0, none⟩ (.int .u16 pc2)).setCell ⟨w.heap.size, 1, none⟩ (.int .u16 (r2 0))).setCell ⟨w.heap.size, 2, none⟩ (.int .u16 (r2 1))).setCell ⟨w.heap.size, 3, none⟩ (.int .u16 (r2 2))).setCell ⟨w.heap.size, 4, none⟩ (.int .u16 (r2 3))).setCell ⟨w.heap.size, 5, none⟩ (.int .u16 (r2 4))).setCell ⟨w.heap.size, 6, none⟩ (.int .u16 (r2 5))).setCell ⟨w.heap.size, 7, none⟩ (.int .u16 (r2 6))).setCell ⟨w.heap.size, 8, none⟩ (.int .u16 (r2 7))).setCell ⟨B4, 0, none⟩ (.int .u8 0)).setCell ⟨B4, 1, none⟩ (.int .u16 x1)).setCell ⟨B4, 2, none⟩ (.int .u16 x2)).setCell ⟨B4, 3, none⟩ (.int .u8 x3)).setCell ⟨B4, 4, none⟩ (.int .i64 x4) = W3 at *
          go_roundw
          case rel => exact ⟨k + 1, pc2, r2, by omega, by go_num, hwd.1, hwd.2, HR4, m0, m1, m2, hb4⟩
          case measure => simp [intOf]; omega
        · have hx0 : (x0 == 0) = false := by rw [beq_eq_false_iff_ne]; exact hx
          by_cases hx7 : x0 = 7
          · subst hx7
            have HR4 : Hid (X = ((pc2, r2), (7, x1, x2, x3, x4), (k : Int))) := by
              show _ = _
              rw [HR3.out, if_neg (by decide), if_pos rfl]
            clear HR3
            have HR3 := HR4
            clear HR4
            go_wp2_with fail
            clear hb3 p0 p1 p2 p3 p4 p5 p6 p7 p8 v0 v1 v2 v3 v4 f0 f3
            generalize ((((((((((((((W2).setCell ⟨w.heap.size, 0, none⟩ (.int .u16 pc2)).setCell ⟨w.heap.size, 1, none⟩ (.int .u16 (r2 0))).setCell ⟨w.heap.size, 2, none⟩ (.int .u16 (r2 1))).setCell ⟨w.heap.size, 3, none⟩ (.int .u16 (r2 2))).setCell ⟨w.heap.size, 4, none⟩ (.int .u16 (r2 3))).setCell ⟨w.heap.size, 5, none⟩ (.int .u16 (r2 4))).setCell ⟨w.heap.size, 6, none⟩ (.int .u16 (r2 5))).setCell ⟨w.heap.size, 7, none⟩ (.int .u16 (r2 6))).setCell ⟨w.heap.size, 8, none⟩ (.int .u16 (r2 7))).setCell ⟨B4, 0, none⟩ (.int .u8 7)).setCell ⟨B4, 1, none⟩ (.int .u16 x1)).setCell ⟨B4, 2, none⟩ (.int .u16 x2)).setCell ⟨B4, 3, none⟩ (.int .u8 x3)).setCell ⟨B4, 4, none⟩ (.int .i64 x4) = W3 at *
            have p0 : W3.cell? ⟨w.heap.size, 0, none⟩ = some (.int .u16 pc2) := m0.c 0
            have p1 : W3.cell? ⟨w.heap.size, 1, none⟩ = some (.int .u16 (r2 0)) := m0.c 1
            have p2 : W3.cell? ⟨w.heap.size, 2, none⟩ = some (.int .u16 (r2 1)) := m0.c 2
            have p3 : W3.cell? ⟨w.heap.size, 3, none⟩ = some (.int .u16 (r2 2)) := m0.c 3
            have p4 : W3.cell? ⟨w.heap.size, 4, none⟩ = some (.int .u16 (r2 3)) := m0.c 4
            have p5 : W3.cell? ⟨w.heap.size, 5, none⟩ = some (.int .u16 (r2 4)) := m0.c 5
            have p6 : W3.cell? ⟨w.heap.size, 6, none⟩ = some (.int .u16 (r2 5)) := m0.c 6
            have p7 : W3.cell? ⟨w.heap.size, 7, none⟩ = some (.int .u16 (r2 6)) := m0.c 7
            have p8 : W3.cell? ⟨w.heap.size, 8, none⟩ = some (.int .u16 (r2 7)) := m0.c 8
            have q0 : W3.cell? ⟨w.heap.size + 1, 0, none⟩ = some (.int .u16 0) := m1.c 0
            have q1 : W3.cell? ⟨w.heap.size + 1, 1, none⟩ = some (.int .u16 0) := m1.c 1
            have q2 : W3.cell? ⟨w.heap.size + 1, 2, none⟩ = some (.int .u16 0) := m1.c 2
            have q3 : W3.cell? ⟨w.heap.size + 1, 3, none⟩ = some (.int .u16 0) := m1.c 3
            have q4 : W3.cell? ⟨w.heap.size + 1, 4, none⟩ = some (.int .u16 0) := m1.c 4
            have q5 : W3.cell? ⟨w.heap.size + 1, 5, none⟩ = some (.int .u16 0) := m1.c 5
            have q6 : W3.cell? ⟨w.heap.size + 1, 6, none⟩ = some (.int .u16 0) := m1.c 6
            have q7 : W3.cell? ⟨w.heap.size + 1, 7, none⟩ = some (.int .u16 0) := m1.c 7
            have q8 : W3.cell? ⟨w.heap.size + 1, 8, none⟩ = some (.int .u16 0) := m1.c 8
            have u0 : W3.cell? ⟨w.heap.size + 1 + 1, 0, none⟩ = some (.int .u8 0) := m2.c 0
            have u1 : W3.cell? ⟨w.heap.size + 1 + 1, 1, none⟩ = some (.int .u16 0) := m2.c 1
            have u2 : W3.cell? ⟨w.heap.size + 1 + 1, 2, none⟩ = some (.int .u16 0) := m2.c 2
            have u3 : W3.cell? ⟨w.heap.size + 1 + 1, 3, none⟩ = some (.int .u8 0) := m2.c 3
            have u4 : W3.cell? ⟨w.heap.size + 1 + 1, 4, none⟩ = some (.int .i64 0) := m2.c 4
            have v0 : W3.cell? ⟨B4, 0, none⟩ = some (.int .u8 7) := m3.c 0
            have v1 : W3.cell? ⟨B4, 1, none⟩ = some (.int .u16 x1) := m3.c 1
            have v2 : W3.cell? ⟨B4, 2, none⟩ = some (.int .u16 x2) := m3.c 2
            have v3 : W3.cell? ⟨B4, 3, none⟩ = some (.int .u8 x3) := m3.c 3
            have v4 : W3.cell? ⟨B4, 4, none⟩ = some (.int .i64 x4) := m3.c 4
            have f1 := m1.f
            have f2 := m2.f
            have e1 : ¬ B4 = w.heap.size + 1 := by omega
            have e2 : ¬ B4 = w.heap.size + 1 + 1 := by omega
            clear m0 m3
            go_region
            have n1 : Cel ((((((((((((((((W3).setCell ⟨w.heap.size + 1, 0, none⟩ (.int .u16 pc2)).setCell ⟨w.heap.size + 1, 1, none⟩ (.int .u16 (r2 0))).setCell ⟨w.heap.size + 1, 2, none⟩ (.int .u16 (r2 1))).setCell ⟨w.heap.size + 1, 3, none⟩ (.int .u16 (r2 2))).setCell ⟨w.heap.size + 1, 4, none⟩ (.int .u16 (r2 3))).setCell ⟨w.heap.size + 1, 5, none⟩ (.int .u16 (r2 4))).setCell ⟨w.heap.size + 1, 6, none⟩ (.int .u16 (r2 5))).setCell ⟨w.heap.size + 1, 7, none⟩ (.int .u16 (r2 6))).setCell ⟨w.heap.size + 1, 8, none⟩ (.int .u16 (r2 7))).setCell ⟨w.heap.size + 1 + 1, 0, none⟩ (.int .u8 7)).setCell ⟨w.heap.size + 1 + 1, 1, none⟩ (.int .u16 x1)).setCell ⟨w.heap.size + 1 + 1, 2, none⟩ (.int .u16 x2)).setCell ⟨w.heap.size + 1 + 1, 3, none⟩ (.int .u8 x3)).setCell ⟨w.heap.size + 1 + 1, 4, none⟩ (.int .i64 x4)).drew) (w.heap.size + 1) #[.int .u16 pc2, .int .u16 (r2 0), .int .u16 (r2 1), .int .u16 (r2 2), .int .u16 (r2 3), .int .u16 (r2 4), .int .u16 (r2 5), .int .u16 (r2 6), .int .u16 (r2 7)] 26 := Cel.drew ((m1.set9 (.int .u16 pc2) (.int .u16 (r2 0)) (.int .u16 (r2 1)) (.int .u16 (r2 2)) (.int .u16 (r2 3)) (.int .u16 (r2 4)) (.int .u16 (r2 5)) (.int .u16 (r2 6)) (.int .u16 (r2 7))).set5o (c := w.heap.size + 1 + 1) (by omega) (.int .u8 7) (.int .u16 x1) (.int .u16 x2) (.int .u8 x3) (.int .i64 x4))
            have n2 : Cel ((((((((((((((((W3).setCell ⟨w.heap.size + 1, 0, none⟩ (.int .u16 pc2)).setCell ⟨w.heap.size + 1, 1, none⟩ (.int .u16 (r2 0))).setCell ⟨w.heap.size + 1, 2, none⟩ (.int .u16 (r2 1))).setCell ⟨w.heap.size + 1, 3, none⟩ (.int .u16 (r2 2))).setCell ⟨w.heap.size + 1, 4, none⟩ (.int .u16 (r2 3))).setCell ⟨w.heap.size + 1, 5, none⟩ (.int .u16 (r2 4))).setCell ⟨w.heap.size + 1, 6, none⟩ (.int .u16 (r2 5))).setCell ⟨w.heap.size + 1, 7, none⟩ (.int .u16 (r2 6))).setCell ⟨w.heap.size + 1, 8, none⟩ (.int .u16 (r2 7))).setCell ⟨w.heap.size + 1 + 1, 0, none⟩ (.int .u8 7)).setCell ⟨w.heap.size + 1 + 1, 1, none⟩ (.int .u16 x1)).setCell ⟨w.heap.size + 1 + 1, 2, none⟩ (.int .u16 x2)).setCell ⟨w.heap.size + 1 + 1, 3, none⟩ (.int .u8 x3)).setCell ⟨w.heap.size + 1 + 1, 4, none⟩ (.int .i64 x4)).drew) (w.heap.size + 1 + 1) #[.int .u8 7, .int .u16 x1, .int .u16 x2, .int .u8 x3, .int .i64 x4] 35 := Cel.drew ((m2.set9o (c := w.heap.size + 1) (by omega) (.int .u16 pc2) (.int .u16 (r2 0)) (.int .u16 (r2 1)) (.int .u16 (r2 2)) (.int .u16 (r2 3)) (.int .u16 (r2 4)) (.int .u16 (r2 5)) (.int .u16 (r2 6)) (.int .u16 (r2 7))).set5 (.int .u8 7) (.int .u16 x1) (.int .u16 x2) (.int .u8 x3) (.int .i64 x4))
            have hbF : Below w.heap.size w ((((((((((((((((W3).setCell ⟨w.heap.size + 1, 0, none⟩ (.int .u16 pc2)).setCell ⟨w.heap.size + 1, 1, none⟩ (.int .u16 (r2 0))).setCell ⟨w.heap.size + 1, 2, none⟩ (.int .u16 (r2 1))).setCell ⟨w.heap.size + 1, 3, none⟩ (.int .u16 (r2 2))).setCell ⟨w.heap.size + 1, 4, none⟩ (.int .u16 (r2 3))).setCell ⟨w.heap.size + 1, 5, none⟩ (.int .u16 (r2 4))).setCell ⟨w.heap.size + 1, 6, none⟩ (.int .u16 (r2 5))).setCell ⟨w.heap.size + 1, 7, none⟩ (.int .u16 (r2 6))).setCell ⟨w.heap.size + 1, 8, none⟩ (.int .u16 (r2 7))).setCell ⟨w.heap.size + 1 + 1, 0, none⟩ (.int .u8 7)).setCell ⟨w.heap.size + 1 + 1, 1, none⟩ (.int .u16 x1)).setCell ⟨w.heap.size + 1 + 1, 2, none⟩ (.int .u16 x2)).setCell ⟨w.heap.size + 1 + 1, 3, none⟩ (.int .u8 x3)).setCell ⟨w.heap.size + 1 + 1, 4, none⟩ (.int .i64 x4)).drew) := Below.drew (bsx (bsx (bsx (bsx (bsx (bsx (bsx (bsx (bsx (bsx (bsx (bsx (bsx (bsx (hb4) (by omega) _ _) (by omega) _ _) (by omega) _ _) (by omega) _ _) (by omega) _ _) (by omega) _ _) (by omega) _ _) (by omega) _ _) (by omega) _ _) (by omega) _ _) (by omega) _ _) (by omega) _ _) (by omega) _ _) (by omega) _ _)
            generalize (((((((((((((((W3).setCell ⟨w.heap.size + 1, 0, none⟩ (.int .u16 pc2)).setCell ⟨w.heap.size + 1, 1, none⟩ (.int .u16 (r2 0))).setCell ⟨w.heap.size + 1, 2, none⟩ (.int .u16 (r2 1))).setCell ⟨w.heap.size + 1, 3, none⟩ (.int .u16 (r2 2))).setCell ⟨w.heap.size + 1, 4, none⟩ (.int .u16 (r2 3))).setCell ⟨w.heap.size + 1, 5, none⟩ (.int .u16 (r2 4))).setCell ⟨w.heap.size + 1, 6, none⟩ (.int .u16 (r2 5))).setCell ⟨w.heap.size + 1, 7, none⟩ (.int .u16 (r2 6))).setCell ⟨w.heap.size + 1, 8, none⟩ (.int .u16 (r2 7))).setCell ⟨w.heap.size + 1 + 1, 0, none⟩ (.int .u8 7)).setCell ⟨w.heap.size + 1 + 1, 1, none⟩ (.int .u16 x1)).setCell ⟨w.heap.size + 1 + 1, 2, none⟩ (.int .u16 x2)).setCell ⟨w.heap.size + 1 + 1, 3, none⟩ (.int .u8 x3)).setCell ⟨w.heap.size + 1 + 1, 4, none⟩ (.int .i64 x4)).drew = WF at *
            clear p0 p1 p2 p3 p4 p5 p6 p7 p8 q0 q1 q2 q3 q4 q5 q6 q7 q8 u0 u1 u2 u3 u4 v0 v1 v2 v3 v4 f1 f2 e1 e2 m1 m2 hb4
            have q0 : WF.cell? ⟨w.heap.size + 1, 0, none⟩ = some (.int .u16 pc2) := n1.c 0
            have q1 : WF.cell? ⟨w.heap.size + 1, 1, none⟩ = some (.int .u16 (r2 0)) := n1.c 1
            have q2 : WF.cell? ⟨w.heap.size + 1, 2, none⟩ = some (.int .u16 (r2 1)) := n1.c 2
            have q3 : WF.cell? ⟨w.heap.size + 1, 3, none⟩ = some (.int .u16 (r2 2)) := n1.c 3
            have q4 : WF.cell? ⟨w.heap.size + 1, 4, none⟩ = some (.int .u16 (r2 3)) := n1.c 4
            have q5 : WF.cell? ⟨w.heap.size + 1, 5, none⟩ = some (.int .u16 (r2 4)) := n1.c 5
            have q6 : WF.cell? ⟨w.heap.size + 1, 6, none⟩ = some (.int .u16 (r2 5)) := n1.c 6
            have q7 : WF.cell? ⟨w.heap.size + 1, 7, none⟩ = some (.int .u16 (r2 6)) := n1.c 7
            have q8 : WF.cell? ⟨w.heap.size + 1, 8, none⟩ = some (.int .u16 (r2 7)) := n1.c 8
            have u0 : WF.cell? ⟨w.heap.size + 1 + 1, 0, none⟩ = some (.int .u8 7) := n2.c 0
            have u1 : WF.cell? ⟨w.heap.size + 1 + 1, 1, none⟩ = some (.int .u16 x1) := n2.c 1
            have u2 : WF.cell? ⟨w.heap.size + 1 + 1, 2, none⟩ = some (.int .u16 x2) := n2.c 2
            have u3 : WF.cell? ⟨w.heap.size + 1 + 1, 3, none⟩ = some (.int .u8 x3) := n2.c 3
            have u4 : WF.cell? ⟨w.heap.size + 1 + 1, 4, none⟩ = some (.int .i64 x4) := n2.c 4
            go_wp2_with fail
            refine bodyPost_ret (v := .tuple #[rgV pc2 r2, accV (7, x1, x2, x3, x4), .int .i64 ((k : Int))]) (by simp [results, Tryd.results14, go_sem, accV, rgV, q0, q1, q2, q3, q4, q5, q6, q7, q8, u0, u1, u2, u3, u4]) rfl ⟨?_, hbF⟩
            rw [HR3.out]
            rfl
          · have hx7' : (x0 == 7) = false := by rw [beq_eq_false_iff_ne]; exact hx7
            have HR4 : Hid (X = ((pc2, r2), (x0, x1, x2, x3, x4), (k : Int) + 1)) := by
              show _ = _
              rw [HR3.out, if_neg hx, if_neg hx7]
            clear HR3
            have HR3 := HR4
            clear HR4
            have hk1 : k ≤ 1000 := by omega
            go_wp2_with fail
            clear hb3 p0 p1 p2 p3 p4 p5 p6 p7 p8 v0 v1 v2 v3 v4 f0 f3
            generalize ((((((((((((((W2).setCell ⟨w.heap.size, 0, none⟩ (.int .u16 pc2)).setCell ⟨w.heap.size, 1, none⟩ (.int .u16 (r2 0))).setCell ⟨w.heap.size, 2, none⟩ (.int .u16 (r2 1))).setCell ⟨w.heap.size, 3, none⟩ (.int .u16 (r2 2))).setCell ⟨w.heap.size, 4, none⟩ (.int .u16 (r2 3))).setCell ⟨w.heap.size, 5, none⟩ (.int .u16 (r2 4))).setCell ⟨w.heap.size, 6, none⟩ (.int .u16 (r2 5))).setCell ⟨w.heap.size, 7, none⟩ (.int .u16 (r2 6))).setCell ⟨w.heap.size, 8, none⟩ (.int .u16 (r2 7))).setCell ⟨B4, 0, none⟩ (.int .u8 x0)).setCell ⟨B4, 1, none⟩ (.int .u16 x1)).setCell ⟨B4, 2, none⟩ (.int .u16 x2)).setCell ⟨B4, 3, none⟩ (.int .u8 x3)).setCell ⟨B4, 4, none⟩ (.int .i64 x4) = W3 at *
            have p0 : W3.cell? ⟨w.heap.size, 0, none⟩ = some (.int .u16 pc2) := m0.c 0
            have p1 : W3.cell? ⟨w.heap.size, 1, none⟩ = some (.int .u16 (r2 0)) := m0.c 1
            have p2 : W3.cell? ⟨w.heap.size, 2, none⟩ = some (.int .u16 (r2 1)) := m0.c 2
            have p3 : W3.cell? ⟨w.heap.size, 3, none⟩ = some (.int .u16 (r2 2)) := m0.c 3
            have p4 : W3.cell? ⟨w.heap.size, 4, none⟩ = some (.int .u16 (r2 3)) := m0.c 4
            have p5 : W3.cell? ⟨w.heap.size, 5, none⟩ = some (.int .u16 (r2 4)) := m0.c 5
            have p6 : W3.cell? ⟨w.heap.size, 6, none⟩ = some (.int .u16 (r2 5)) := m0.c 6
            have p7 : W3.cell? ⟨w.heap.size, 7, none⟩ = some (.int .u16 (r2 6)) := m0.c 7
            have p8 : W3.cell? ⟨w.heap.size, 8, none⟩ = some (.int .u16 (r2 7)) := m0.c 8
            have q0 : W3.cell? ⟨w.heap.size + 1, 0, none⟩ = some (.int .u16 0) := m1.c 0
            have q1 : W3.cell? ⟨w.heap.size + 1, 1, none⟩ = some (.int .u16 0) := m1.c 1
            have q2 : W3.cell? ⟨w.heap.size + 1, 2, none⟩ = some (.int .u16 0) := m1.c 2
            have q3 : W3.cell? ⟨w.heap.size + 1, 3, none⟩ = some (.int .u16 0) := m1.c 3
            have q4 : W3.cell? ⟨w.heap.size + 1, 4, none⟩ = some (.int .u16 0) := m1.c 4
            have q5 : W3.cell? ⟨w.heap.size + 1, 5, none⟩ = some (.int .u16 0) := m1.c 5
            have q6 : W3.cell? ⟨w.heap.size + 1, 6, none⟩ = some (.int .u16 0) := m1.c 6
            have q7 : W3.cell? ⟨w.heap.size + 1, 7, none⟩ = some (.int .u16 0) := m1.c 7
            have q8 : W3.cell? ⟨w.heap.size + 1, 8, none⟩ = some (.int .u16 0) := m1.c 8
            have u0 : W3.cell? ⟨w.heap.size + 1 + 1, 0, none⟩ = some (.int .u8 0) := m2.c 0
            have u1 : W3.cell? ⟨w.heap.size + 1 + 1, 1, none⟩ = some (.int .u16 0) := m2.c 1
            have u2 : W3.cell? ⟨w.heap.size + 1 + 1, 2, none⟩ = some (.int .u16 0) := m2.c 2
            have u3 : W3.cell? ⟨w.heap.size + 1 + 1, 3, none⟩ = some (.int .u8 0) := m2.c 3
            have u4 : W3.cell? ⟨w.heap.size + 1 + 1, 4, none⟩ = some (.int .i64 0) := m2.c 4
            have v0 : W3.cell? ⟨B4, 0, none⟩ = some (.int .u8 x0) := m3.c 0
            have v1 : W3.cell? ⟨B4, 1, none⟩ = some (.int .u16 x1) := m3.c 1
            have v2 : W3.cell? ⟨B4, 2, none⟩ = some (.int .u16 x2) := m3.c 2
            have v3 : W3.cell? ⟨B4, 3, none⟩ = some (.int .u8 x3) := m3.c 3
            have v4 : W3.cell? ⟨B4, 4, none⟩ = some (.int .i64 x4) := m3.c 4
            have f1 := m1.f
            have f2 := m2.f
            have e1 : ¬ B4 = w.heap.size + 1 := by omega
            have e2 : ¬ B4 = w.heap.size + 1 + 1 := by omega
            clear m0 m3
            go_region
            have n1 : Cel ((((((((((((((((W3).setCell ⟨w.heap.size + 1, 0, none⟩ (.int .u16 pc2)).setCell ⟨w.heap.size + 1, 1, none⟩ (.int .u16 (r2 0))).setCell ⟨w.heap.size + 1, 2, none⟩ (.int .u16 (r2 1))).setCell ⟨w.heap.size + 1, 3, none⟩ (.int .u16 (r2 2))).setCell ⟨w.heap.size + 1, 4, none⟩ (.int .u16 (r2 3))).setCell ⟨w.heap.size + 1, 5, none⟩ (.int .u16 (r2 4))).setCell ⟨w.heap.size + 1, 6, none⟩ (.int .u16 (r2 5))).setCell ⟨w.heap.size + 1, 7, none⟩ (.int .u16 (r2 6))).setCell ⟨w.heap.size + 1, 8, none⟩ (.int .u16 (r2 7))).setCell ⟨w.heap.size + 1 + 1, 0, none⟩ (.int .u8 x0)).setCell ⟨w.heap.size + 1 + 1, 1, none⟩ (.int .u16 x1)).setCell ⟨w.heap.size + 1 + 1, 2, none⟩ (.int .u16 x2)).setCell ⟨w.heap.size + 1 + 1, 3, none⟩ (.int .u8 x3)).setCell ⟨w.heap.size + 1 + 1, 4, none⟩ (.int .i64 x4)).drew) (w.heap.size + 1) #[.int .u16 pc2, .int .u16 (r2 0), .int .u16 (r2 1), .int .u16 (r2 2), .int .u16 (r2 3), .int .u16 (r2 4), .int .u16 (r2 5), .int .u16 (r2 6), .int .u16 (r2 7)] 26 := Cel.drew ((m1.set9 (.int .u16 pc2) (.int .u16 (r2 0)) (.int .u16 (r2 1)) (.int .u16 (r2 2)) (.int .u16 (r2 3)) (.int .u16 (r2 4)) (.int .u16 (r2 5)) (.int .u16 (r2 6)) (.int .u16 (r2 7))).set5o (c := w.heap.size + 1 + 1) (by omega) (.int .u8 x0) (.int .u16 x1) (.int .u16 x2) (.int .u8 x3) (.int .i64 x4))
            have n2 : Cel ((((((((((((((((W3).setCell ⟨w.heap.size + 1, 0, none⟩ (.int .u16 pc2)).setCell ⟨w.heap.size + 1, 1, none⟩ (.int .u16 (r2 0))).setCell ⟨w.heap.size + 1, 2, none⟩ (.int .u16 (r2 1))).setCell ⟨w.heap.size + 1, 3, none⟩ (.int .u16 (r2 2))).setCell ⟨w.heap.size + 1, 4, none⟩ (.int .u16 (r2 3))).setCell ⟨w.heap.size + 1, 5, none⟩ (.int .u16 (r2 4))).setCell ⟨w.heap.size + 1, 6, none⟩ (.int .u16 (r2 5))).setCell ⟨w.heap.size + 1, 7, none⟩ (.int .u16 (r2 6))).setCell ⟨w.heap.size + 1, 8, none⟩ (.int .u16 (r2 7))).setCell ⟨w.heap.size + 1 + 1, 0, none⟩ (.int .u8 x0)).setCell ⟨w.heap.size + 1 + 1, 1, none⟩ (.int .u16 x1)).setCell ⟨w.heap.size + 1 + 1, 2, none⟩ (.int .u16 x2)).setCell ⟨w.heap.size + 1 + 1, 3, none⟩ (.int .u8 x3)).setCell ⟨w.heap.size + 1 + 1, 4, none⟩ (.int .i64 x4)).drew) (w.heap.size + 1 + 1) #[.int .u8 x0, .int .u16 x1, .int .u16 x2, .int .u8 x3, .int .i64 x4] 35 := Cel.drew ((m2.set9o (c := w.heap.size + 1) (by omega) (.int .u16 pc2) (.int .u16 (r2 0)) (.int .u16 (r2 1)) (.int .u16 (r2 2)) (.int .u16 (r2 3)) (.int .u16 (r2 4)) (.int .u16 (r2 5)) (.int .u16 (r2 6)) (.int .u16 (r2 7))).set5 (.int .u8 x0) (.int .u16 x1) (.int .u16 x2) (.int .u8 x3) (.int .i64 x4))
            have hbF : Below w.heap.size w ((((((((((((((((W3).setCell ⟨w.heap.size + 1, 0, none⟩ (.int .u16 pc2)).setCell ⟨w.heap.size + 1, 1, none⟩ (.int .u16 (r2 0))).setCell ⟨w.heap.size + 1, 2, none⟩ (.int .u16 (r2 1))).setCell ⟨w.heap.size + 1, 3, none⟩ (.int .u16 (r2 2))).setCell ⟨w.heap.size + 1, 4, none⟩ (.int .u16 (r2 3))).setCell ⟨w.heap.size + 1, 5, none⟩ (.int .u16 (r2 4))).setCell ⟨w.heap.size + 1, 6, none⟩ (.int .u16 (r2 5))).setCell ⟨w.heap.size + 1, 7, none⟩ (.int .u16 (r2 6))).setCell ⟨w.heap.size + 1, 8, none⟩ (.int .u16 (r2 7))).setCell ⟨w.heap.size + 1 + 1, 0, none⟩ (.int .u8 x0)).setCell ⟨w.heap.size + 1 + 1, 1, none⟩ (.int .u16 x1)).setCell ⟨w.heap.size + 1 + 1, 2, none⟩ (.int .u16 x2)).setCell ⟨w.heap.size + 1 + 1, 3, none⟩ (.int .u8 x3)).setCell ⟨w.heap.size + 1 + 1, 4, none⟩ (.int .i64 x4)).drew) := Below.drew (bsx (bsx (bsx (bsx (bsx (bsx (bsx (bsx (bsx (bsx (bsx (bsx (bsx (bsx (hb4) (by omega) _ _) (by omega) _ _) (by omega) _ _) (by omega) _ _) (by omega) _ _) (by omega) _ _) (by omega) _ _) (by omega) _ _) (by omega) _ _) (by omega) _ _) (by omega) _ _) (by omega) _ _) (by omega) _ _) (by omega) _ _)
            generalize (((((((((((((((W3).setCell ⟨w.heap.size + 1, 0, none⟩ (.int .u16 pc2)).setCell ⟨w.heap.size + 1, 1, none⟩ (.int .u16 (r2 0))).setCell ⟨w.heap.size + 1, 2, none⟩ (.int .u16 (r2 1))).setCell ⟨w.heap.size + 1, 3, none⟩ (.int .u16 (r2 2))).setCell ⟨w.heap.size + 1, 4, none⟩ (.int .u16 (r2 3))).setCell ⟨w.heap.size + 1, 5, none⟩ (.int .u16 (r2 4))).setCell ⟨w.heap.size + 1, 6, none⟩ (.int .u16 (r2 5))).setCell ⟨w.heap.size + 1, 7, none⟩ (.int .u16 (r2 6))).setCell ⟨w.heap.size + 1, 8, none⟩ (.int .u16 (r2 7))).setCell ⟨w.heap.size + 1 + 1, 0, none⟩ (.int .u8 x0)).setCell ⟨w.heap.size + 1 + 1, 1, none⟩ (.int .u16 x1)).setCell ⟨w.heap.size + 1 + 1, 2, none⟩ (.int .u16 x2)).setCell ⟨w.heap.size + 1 + 1, 3, none⟩ (.int .u8 x3)).setCell ⟨w.heap.size + 1 + 1, 4, none⟩ (.int .i64 x4)).drew = WF at *
            clear p0 p1 p2 p3 p4 p5 p6 p7 p8 q0 q1 q2 q3 q4 q5 q6 q7 q8 u0 u1 u2 u3 u4 v0 v1 v2 v3 v4 f1 f2 e1 e2 m1 m2 hb4
            have q0 : WF.cell? ⟨w.heap.size + 1, 0, none⟩ = some (.int .u16 pc2) := n1.c 0
            have q1 : WF.cell? ⟨w.heap.size + 1, 1, none⟩ = some (.int .u16 (r2 0)) := n1.c 1
            have q2 : WF.cell? ⟨w.heap.size + 1, 2, none⟩ = some (.int .u16 (r2 1)) := n1.c 2
            have q3 : WF.cell? ⟨w.heap.size + 1, 3, none⟩ = some (.int .u16 (r2 2)) := n1.c 3
            have q4 : WF.cell? ⟨w.heap.size + 1, 4, none⟩ = some (.int .u16 (r2 3)) := n1.c 4
            have q5 : WF.cell? ⟨w.heap.size + 1, 5, none⟩ = some (.int .u16 (r2 4)) := n1.c 5
            have q6 : WF.cell? ⟨w.heap.size + 1, 6, none⟩ = some (.int .u16 (r2 5)) := n1.c 6
            have q7 : WF.cell? ⟨w.heap.size + 1, 7, none⟩ = some (.int .u16 (r2 6)) := n1.c 7
            have q8 : WF.cell? ⟨w.heap.size + 1, 8, none⟩ = some (.int .u16 (r2 7)) := n1.c 8
            have u0 : WF.cell? ⟨w.heap.size + 1 + 1, 0, none⟩ = some (.int .u8 x0) := n2.c 0
            have u1 : WF.cell? ⟨w.heap.size + 1 + 1, 1, none⟩ = some (.int .u16 x1) := n2.c 1
            have u2 : WF.cell? ⟨w.heap.size + 1 + 1, 2, none⟩ = some (.int .u16 x2) := n2.c 2
            have u3 : WF.cell? ⟨w.heap.size + 1 + 1, 3, none⟩ = some (.int .u8 x3) := n2.c 3
            have u4 : WF.cell? ⟨w.heap.size + 1 + 1, 4, none⟩ = some (.int .i64 x4) := n2.c 4
            go_wp2_with fail
            refine bodyPost_ret (v := .tuple #[rgV pc2 r2, accV (x0, x1, x2, x3, x4), .int .i64 ((k : Int) + 1)]) (by simp [results, Tryd.results14, go_sem, accV, rgV, q0, q1, q2, q3, q4, q5, q6, q7, q8, u0, u1, u2, u3, u4]) rfl ⟨?_, hbF⟩
            rw [HR3.out]
            rfl
    · have hlt' : ¬ (k : Int) < 1000 := fun h => hlt ((hl k).1 h)
      have hk' : N - k = 0 := by omega
      have HR3 : Hid (X = ((pc', r'), (0, 0, 0, 0, 0), (k : Int))) := by
        show _ = _
        rw [← HR.out, hk', runF]
      have p0 : wr.cell? ⟨w.heap.size, 0, none⟩ = some (.int .u16 pc') := k0.c 0
      have p1 : wr.cell? ⟨w.heap.size, 1, none⟩ = some (.int .u16 (r' 0)) := k0.c 1
      have p2 : wr.cell? ⟨w.heap.size, 2, none⟩ = some (.int .u16 (r' 1)) := k0.c 2
      have p3 : wr.cell? ⟨w.heap.size, 3, none⟩ = some (.int .u16 (r' 2)) := k0.c 3
      have p4 : wr.cell? ⟨w.heap.size, 4, none⟩ = some (.int .u16 (r' 3)) := k0.c 4
      have p5 : wr.cell? ⟨w.heap.size, 5, none⟩ = some (.int .u16 (r' 4)) := k0.c 5
      have p6 : wr.cell? ⟨w.heap.size, 6, none⟩ = some (.int .u16 (r' 5)) := k0.c 6
      have p7 : wr.cell? ⟨w.heap.size, 7, none⟩ = some (.int .u16 (r' 6)) := k0.c 7
      have p8 : wr.cell? ⟨w.heap.size, 8, none⟩ = some (.int .u16 (r' 7)) := k0.c 8
      have q0 : wr.cell? ⟨w.heap.size + 1, 0, none⟩ = some (.int .u16 0) := k1.c 0
      have q1 : wr.cell? ⟨w.heap.size + 1, 1, none⟩ = some (.int .u16 0) := k1.c 1
      have q2 : wr.cell? ⟨w.heap.size + 1, 2, none⟩ = some (.int .u16 0) := k1.c 2
      have q3 : wr.cell? ⟨w.heap.size + 1, 3, none⟩ = some (.int .u16 0) := k1.c 3
      have q4 : wr.cell? ⟨w.heap.size + 1, 4, none⟩ = some (.int .u16 0) := k1.c 4
      have q5 : wr.cell? ⟨w.heap.size + 1, 5, none⟩ = some (.int .u16 0) := k1.c 5
      have q6 : wr.cell? ⟨w.heap.size + 1, 6, none⟩ = some (.int .u16 0) := k1.c 6
      have q7 : wr.cell? ⟨w.heap.size + 1, 7, none⟩ = some (.int .u16 0) := k1.c 7
      have q8 : wr.cell? ⟨w.heap.size + 1, 8, none⟩ = some (.int .u16 0) := k1.c 8
      have u0 : wr.cell? ⟨w.heap.size + 1 + 1, 0, none⟩ = some (.int .u8 0) := k2.c 0
      have u1 : wr.cell? ⟨w.heap.size + 1 + 1, 1, none⟩ = some (.int .u16 0) := k2.c 1
      have u2 : wr.cell? ⟨w.heap.size + 1 + 1, 2, none⟩ = some (.int .u16 0) := k2.c 2
      have u3 : wr.cell? ⟨w.heap.size + 1 + 1, 3, none⟩ = some (.int .u8 0) := k2.c 3
      have u4 : wr.cell? ⟨w.heap.size + 1 + 1, 4, none⟩ = some (.int .i64 0) := k2.c 4
      have f1 := k1.f
      have f2 := k2.f
      clear k0
      go_wp2_with fail
      have n1 : Cel (((((((((((((((wr).setCell ⟨w.heap.size + 1, 0, none⟩ (.int .u16 pc')).setCell ⟨w.heap.size + 1, 1, none⟩ (.int .u16 (r' 0))).setCell ⟨w.heap.size + 1, 2, none⟩ (.int .u16 (r' 1))).setCell ⟨w.heap.size + 1, 3, none⟩ (.int .u16 (r' 2))).setCell ⟨w.heap.size + 1, 4, none⟩ (.int .u16 (r' 3))).setCell ⟨w.heap.size + 1, 5, none⟩ (.int .u16 (r' 4))).setCell ⟨w.heap.size + 1, 6, none⟩ (.int .u16 (r' 5))).setCell ⟨w.heap.size + 1, 7, none⟩ (.int .u16 (r' 6))).setCell ⟨w.heap.size + 1, 8, none⟩ (.int .u16 (r' 7))).setCell ⟨w.heap.size + 1 + 1, 0, none⟩ (.int .u8 0)).setCell ⟨w.heap.size + 1 + 1, 1, none⟩ (.int .u16 0)).setCell ⟨w.heap.size + 1 + 1, 2, none⟩ (.int .u16 0)).setCell ⟨w.heap.size + 1 + 1, 3, none⟩ (.int .u8 0)).setCell ⟨w.heap.size + 1 + 1, 4, none⟩ (.int .i64 0)) (w.heap.size + 1) #[.int .u16 pc', .int .u16 (r' 0), .int .u16 (r' 1), .int .u16 (r' 2), .int .u16 (r' 3), .int .u16 (r' 4), .int .u16 (r' 5), .int .u16 (r' 6), .int .u16 (r' 7)] 26 := (k1.set9 (.int .u16 pc') (.int .u16 (r' 0)) (.int .u16 (r' 1)) (.int .u16 (r' 2)) (.int .u16 (r' 3)) (.int .u16 (r' 4)) (.int .u16 (r' 5)) (.int .u16 (r' 6)) (.int .u16 (r' 7))).set5o (c := w.heap.size + 1 + 1) (by omega) (.int .u8 0) (.int .u16 0) (.int .u16 0) (.int .u8 0) (.int .i64 0)
      have n2 : Cel (((((((((((((((wr).setCell ⟨w.heap.size + 1, 0, none⟩ (.int .u16 pc')).setCell ⟨w.heap.size + 1, 1, none⟩ (.int .u16 (r' 0))).setCell ⟨w.heap.size + 1, 2, none⟩ (.int .u16 (r' 1))).setCell ⟨w.heap.size + 1, 3, none⟩ (.int .u16 (r' 2))).setCell ⟨w.heap.size + 1, 4, none⟩ (.int .u16 (r' 3))).setCell ⟨w.heap.size + 1, 5, none⟩ (.int .u16 (r' 4))).setCell ⟨w.heap.size + 1, 6, none⟩ (.int .u16 (r' 5))).setCell ⟨w.heap.size + 1, 7, none⟩ (.int .u16 (r' 6))).setCell ⟨w.heap.size + 1, 8, none⟩ (.int .u16 (r' 7))).setCell ⟨w.heap.size + 1 + 1, 0, none⟩ (.int .u8 0)).setCell ⟨w.heap.size + 1 + 1, 1, none⟩ (.int .u16 0)).setCell ⟨w.heap.size + 1 + 1, 2, none⟩ (.int .u16 0)).setCell ⟨w.heap.size + 1 + 1, 3, none⟩ (.int .u8 0)).setCell ⟨w.heap.size + 1 + 1, 4, none⟩ (.int .i64 0)) (w.heap.size + 1 + 1) #[.int .u8 0, .int .u16 0, .int .u16 0, .int .u8 0, .int .i64 0] 35 := (k2.set9o (c := w.heap.size + 1) (by omega) (.int .u16 pc') (.int .u16 (r' 0)) (.int .u16 (r' 1)) (.int .u16 (r' 2)) (.int .u16 (r' 3)) (.int .u16 (r' 4)) (.int .u16 (r' 5)) (.int .u16 (r' 6)) (.int .u16 (r' 7))).set5 (.int .u8 0) (.int .u16 0) (.int .u16 0) (.int .u8 0) (.int .i64 0)
      have hbF : Below w.heap.size w (((((((((((((((wr).setCell ⟨w.heap.size + 1, 0, none⟩ (.int .u16 pc')).setCell ⟨w.heap.size + 1, 1, none⟩ (.int .u16 (r' 0))).setCell ⟨w.heap.size + 1, 2, none⟩ (.int .u16 (r' 1))).setCell ⟨w.heap.size + 1, 3, none⟩ (.int .u16 (r' 2))).setCell ⟨w.heap.size + 1, 4, none⟩ (.int .u16 (r' 3))).setCell ⟨w.heap.size + 1, 5, none⟩ (.int .u16 (r' 4))).setCell ⟨w.heap.size + 1, 6, none⟩ (.int .u16 (r' 5))).setCell ⟨w.heap.size + 1, 7, none⟩ (.int .u16 (r' 6))).setCell ⟨w.heap.size + 1, 8, none⟩ (.int .u16 (r' 7))).setCell ⟨w.heap.size + 1 + 1, 0, none⟩ (.int .u8 0)).setCell ⟨w.heap.size + 1 + 1, 1, none⟩ (.int .u16 0)).setCell ⟨w.heap.size + 1 + 1, 2, none⟩ (.int .u16 0)).setCell ⟨w.heap.size + 1 + 1, 3, none⟩ (.int .u8 0)).setCell ⟨w.heap.size + 1 + 1, 4, none⟩ (.int .i64 0)) := bsx (bsx (bsx (bsx (bsx (bsx (bsx (bsx (bsx (bsx (bsx (bsx (bsx (bsx (hb0) (by omega) _ _) (by omega) _ _) (by omega) _ _) (by omega) _ _) (by omega) _ _) (by omega) _ _) (by omega) _ _) (by omega) _ _) (by omega) _ _) (by omega) _ _) (by omega) _ _) (by omega) _ _) (by omega) _ _) (by omega) _ _
      generalize ((((((((((((((wr).setCell ⟨w.heap.size + 1, 0, none⟩ (.int .u16 pc')).setCell ⟨w.heap.size + 1, 1, none⟩ (.int .u16 (r' 0))).setCell ⟨w.heap.size + 1, 2, none⟩ (.int .u16 (r' 1))).setCell ⟨w.heap.size + 1, 3, none⟩ (.int .u16 (r' 2))).setCell ⟨w.heap.size + 1, 4, none⟩ (.int .u16 (r' 3))).setCell ⟨w.heap.size + 1, 5, none⟩ (.int .u16 (r' 4))).setCell ⟨w.heap.size + 1, 6, none⟩ (.int .u16 (r' 5))).setCell ⟨w.heap.size + 1, 7, none⟩ (.int .u16 (r' 6))).setCell ⟨w.heap.size + 1, 8, none⟩ (.int .u16 (r' 7))).setCell ⟨w.heap.size + 1 + 1, 0, none⟩ (.int .u8 0)).setCell ⟨w.heap.size + 1 + 1, 1, none⟩ (.int .u16 0)).setCell ⟨w.heap.size + 1 + 1, 2, none⟩ (.int .u16 0)).setCell ⟨w.heap.size + 1 + 1, 3, none⟩ (.int .u8 0)).setCell ⟨w.heap.size + 1 + 1, 4, none⟩ (.int .i64 0) = WF at *
      clear p0 p1 p2 p3 p4 p5 p6 p7 p8 q0 q1 q2 q3 q4 q5 q6 q7 q8 u0 u1 u2 u3 u4 f1 f2 k1 k2 hb0
      have q0 : WF.cell? ⟨w.heap.size + 1, 0, none⟩ = some (.int .u16 pc') := n1.c 0
      have q1 : WF.cell? ⟨w.heap.size + 1, 1, none⟩ = some (.int .u16 (r' 0)) := n1.c 1
      have q2 : WF.cell? ⟨w.heap.size + 1, 2, none⟩ = some (.int .u16 (r' 1)) := n1.c 2
      have q3 : WF.cell? ⟨w.heap.size + 1, 3, none⟩ = some (.int .u16 (r' 2)) := n1.c 3
      have q4 : WF.cell? ⟨w.heap.size + 1, 4, none⟩ = some (.int .u16 (r' 3)) := n1.c 4
      have q5 : WF.cell? ⟨w.heap.size + 1, 5, none⟩ = some (.int .u16 (r' 4)) := n1.c 5
      have q6 : WF.cell? ⟨w.heap.size + 1, 6, none⟩ = some (.int .u16 (r' 5)) := n1.c 6
      have q7 : WF.cell? ⟨w.heap.size + 1, 7, none⟩ = some (.int .u16 (r' 6)) := n1.c 7
      have q8 : WF.cell? ⟨w.heap.size + 1, 8, none⟩ = some (.int .u16 (r' 7)) := n1.c 8
      have u0 : WF.cell? ⟨w.heap.size + 1 + 1, 0, none⟩ = some (.int .u8 0) := n2.c 0
      have u1 : WF.cell? ⟨w.heap.size + 1 + 1, 1, none⟩ = some (.int .u16 0) := n2.c 1
      have u2 : WF.cell? ⟨w.heap.size + 1 + 1, 2, none⟩ = some (.int .u16 0) := n2.c 2
      have u3 : WF.cell? ⟨w.heap.size + 1 + 1, 3, none⟩ = some (.int .u8 0) := n2.c 3
      have u4 : WF.cell? ⟨w.heap.size + 1 + 1, 4, none⟩ = some (.int .i64 0) := n2.c 4
      refine bodyPost_ret (v := .tuple #[rgV pc' r', accV (0, 0, 0, 0, 0), .int .i64 ((k : Int))]) (by simp [results, Tryd.results14, go_sem, accV, rgV, q0, q1, q2, q3, q4, q5, q6, q7, q8, u0, u1, u2, u3, u4]) rfl ⟨?_, hbF⟩
      rw [HR3.out]
      rfl
theorem run_any (pc : Int) (r : Nat → Int) (v : Value) (bs : List UInt8) (most : Int) (w : World) (hp : Wd pc) (hr : ∀ k, Wd (r k)) (hb : Bts w v bs) :
    Calls Tryd.prog 14 #[rgV pc r, v, .int .i64 most] w fun e w' => e = .returned (runV (runF bs (min most 1000).toNat pc r 0)) ∧ Below w.heap.size w w' := by
  by_cases h : most ≤ 1000
  · rw [show min most 1000 = most by omega]
    exact run_le pc r v bs most w hp hr hb h
  · rw [show (min most 1000).toNat = 1000 by omega]
    exact run_gt pc r v bs most w hp hr hb (by omega)
end Go.Proofs.YtbjklpdloglniaaDoor
