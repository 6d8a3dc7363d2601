/- live, without the document's calls. -/
import Derived.Test.YtgfiliodbggahabQuF
namespace Go.Proofs.Ytgfiliodbggahab
open Go.RowKit Go.Maps
set_option linter.unusedVariables false
set_option maxRecDepth 100000
theorem goS_le : ∀ (l : List Pe) (pen : Fin 6 → Nat) (e : Fin 6), (goS l pen).1 e ≤ pen e
  | [], pen, e => Nat.le_refl _
  | x :: l, pen, e => by
    simp only [goS]
    split
    · exact Nat.le_refl _
    · refine Nat.le_trans (goS_le l _ e) ?_
      unfold upd
      split
      · rename_i e2; subst e2; omega
      · exact Nat.le_refl _
theorem ok_turn {q : Qs} (h : q.Ok) : (turnQ q).Ok := fun e => Nat.le_trans (goS_le _ _ e) (h e)
def lv1 : Qs := takeQ 1 0 q0
def lv2 : Qs := takeQ 2 3 lv1
theorem VStp.belowB {B : Nat} {w w' : World} {vb pb : Nat} {q q' : Qs} (s : VStp B w w' vb pb q') (h : Vec B w vb pb q) (hB : B ≤ w.heap.size) : Below B w w' :=
  s.ap.below B (fun i e => by
    rcases e with e | e
    · exact e ▸ h.gv
    · exact e ▸ h.gp) hB
set_option maxHeartbeats 1000000 in
theorem live_any (w : World) : Calls Try.prog 6 #[] w fun e w' => e = .returned (.bool true) ∧ Below w.heap.size w w' := by
  have cN := new_any w
  have c1 := fun W (h : Vec w.heap.size W (w.heap.size + 1) w.heap.size q0) => take_ok w.heap.size (w.heap.size + 1) w.heap.size q0 1 0 W h
  have c2 := fun W (h : Vec w.heap.size W (w.heap.size + 1) w.heap.size lv1) => take_ok w.heap.size (w.heap.size + 1) w.heap.size lv1 2 3 W h
  have c3 := fun W (h : Vec w.heap.size W (w.heap.size + 1) w.heap.size lv2) => turn_any w.heap.size (w.heap.size + 1) w.heap.size lv2 W h (fun _ => Nat.zero_le _)
  have c4 := fun W (h : Vec w.heap.size W (w.heap.size + 1) w.heap.size (turnQ lv2)) => turn_any w.heap.size (w.heap.size + 1) w.heap.size (turnQ lv2) W h (ok_turn (fun _ => Nat.zero_le _))
  have c5 := fun W (h : Vec w.heap.size W (w.heap.size + 1) w.heap.size (turnQ (turnQ lv2))) => vnow_any (w.heap.size + 1) w.heap.size (turnQ (turnQ lv2)) W h.c
  have e1 : takeE 1 0 q0 = 0 := by decide
  have e2 : takeE 2 3 lv1 = 0 := by decide
  have e3 : turnV (turnS lv2).2 = .tuple #[.int .i64 0, .int .u8 1, .bool true] := by kernel_rfl
  have e4 : turnV (turnS (turnQ lv2)).2 = .tuple #[.int .i64 3, .int .u8 2, .bool true] := by kernel_rfl
  have e5 : (((turnQ (turnQ lv2)).now.1 : Nat) : Int) = 3 := by kernel_rfl
  rw [e1] at c1
  rw [e2] at c2
  rw [e3] at c3
  rw [e4] at c4
  rw [e5] at c5
  change ∀ W, Vec w.heap.size W (w.heap.size + 1) w.heap.size q0 → Calls _ _ #[_, .int .u8 1, .int .i64 0] _ (fun r w' => _ ∧ VStp _ W w' _ _ lv1) at c1
  change ∀ W, Vec w.heap.size W (w.heap.size + 1) w.heap.size lv1 → Calls _ _ #[_, .int .u8 2, .int .i64 3] _ (fun r w' => _ ∧ VStp _ W w' _ _ lv2) at c2
  generalize turnQ (turnQ lv2) = q4 at *
  generalize turnQ lv2 = q3 at *
  generalize lv2 = q2 at *
  generalize lv1 = q1 at *
  generalize q0 = qz at *
  clear e1 e2 e3 e4 e5
  go_enter Try.func6, Try.ntmps6
  go_wp2_with fail
  refine cN.mono ?_
  rintro e W0 ⟨rfl, h0, hB0⟩
  have c1' := c1 W0 h0
  clear c1 cN
  go_wp2_with fail
  refine c1'.mono ?_
  rintro e W1 ⟨rfl, s1⟩
  have c2' := c2 W1 s1.vec
  have hB1 := hB0.trans (s1.belowB h0 hB0.size)
  have V1 := s1.vec
  clear c2 c1' s1 h0 hB0
  go_wp2_with fail
  refine c2'.mono ?_
  rintro e W2 ⟨rfl, s2⟩
  have c3' := c3 W2 s2.vec
  have hB2 := hB1.trans (s2.belowB V1 hB1.size)
  have V2 := s2.vec
  clear c3 c2' s2 V1 hB1
  go_wp2_with fail
  refine c3'.mono ?_
  rintro e W3 ⟨rfl, s3⟩
  have c4' := c4 W3 s3.vec
  have hB3 := hB2.trans (s3.belowB V2 hB2.size)
  have V3 := s3.vec
  clear c4 c3' s3 V2 hB2
  go_wp2_with fail
  refine c4'.mono ?_
  rintro e W4 ⟨rfl, s4⟩
  have c5' := c5 W4 s4.vec
  have HB4 : Hid (Below w.heap.size w W4) := hB3.trans (s4.belowB V3 hB3.size)
  clear c5 c4' s4 V3 hB3
  go_wp2_with fail
  refine c5'.mono ?_
  rintro e W5 ⟨rfl, rfl⟩
  clear c5'
  go_wp2
  go_ret
  exact ⟨rfl, HB4.out⟩
end Go.Proofs.Ytgfiliodbggahab
