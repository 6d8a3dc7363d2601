/- live; whether both tell the same. -/
import Derived.Test.YtgfiliodbggahaaQuY
namespace Go.Proofs.Ytgfiliodbggahaa
open Go.RowKit Go.Maps
set_option linter.unusedVariables false
set_option maxRecDepth 100000
def lv1 : Qs := takeQ 1 0 q0
def lv2 : Qs := takeQ 2 3 lv1
theorem VStp.belowB {B : Nat} {w w' : World} {vb pb : Nat} {q q' : Qs} (s : VStp B w w' vb pb q') (h : Vec B w vb pb q) (hB : B ≤ w.heap.size) : Below B w w' :=
  s.ap.below B (fun i e => by
    rcases e with e | e
    · exact e ▸ h.gv
    · exact e ▸ h.gp) hB
set_option maxHeartbeats 1000000 in
theorem live_any (w : World) : Calls Try.prog 10 #[] w fun e w' => e = .returned (.bool true) ∧ Below w.heap.size w w' := by
  have cN := new_any w
  have c1 := fun W (h : Vec w.heap.size W (w.heap.size + 1) w.heap.size q0) => take_ok w.heap.size (w.heap.size + 1) w.heap.size q0 1 0 W h
  have c2 := fun W (h : Vec w.heap.size W (w.heap.size + 1) w.heap.size lv1) => take_ok w.heap.size (w.heap.size + 1) w.heap.size lv1 2 3 W h
  have c3 := fun W (h : Vec w.heap.size W (w.heap.size + 1) w.heap.size lv2) => turn_any w.heap.size (w.heap.size + 1) w.heap.size lv2 W h (fun _ => Nat.zero_le _)
  have c4 := fun W (h : Vec w.heap.size W (w.heap.size + 1) w.heap.size (turnQ lv2)) => turn_any w.heap.size (w.heap.size + 1) w.heap.size (turnQ lv2) W h (ok_turn (fun _ => Nat.zero_le _))
  have c5 := fun W (h : Vec w.heap.size W (w.heap.size + 1) w.heap.size (turnQ (turnQ lv2))) => vnow_any (w.heap.size + 1) w.heap.size (turnQ (turnQ lv2)) W h.c
  have e1 : takeE 1 0 q0 = 0 := by decide
  have e2 : takeE 2 3 lv1 = 0 := by decide
  have e3 : turnV (turnS lv2).2 = .tuple #[.int .i64 0, .int .u8 1, .bool true] := by kernel_rfl
  have e4 : turnV (turnS (turnQ lv2)).2 = .tuple #[.int .i64 3, .int .u8 2, .bool true] := by kernel_rfl
  have e5 : (((turnQ (turnQ lv2)).now.1 : Nat) : Int) = 3 := by kernel_rfl
  rw [e1] at c1
  rw [e2] at c2
  rw [e3] at c3
  rw [e4] at c4
  rw [e5] at c5
  change ∀ W, Vec w.heap.size W (w.heap.size + 1) w.heap.size q0 → Calls _ _ #[_, .int .u8 1, .int .i64 0] _ (fun r w' => _ ∧ VStp _ W w' _ _ lv1) at c1
  change ∀ W, Vec w.heap.size W (w.heap.size + 1) w.heap.size lv1 → Calls _ _ #[_, .int .u8 2, .int .i64 3] _ (fun r w' => _ ∧ VStp _ W w' _ _ lv2) at c2
  generalize turnQ (turnQ lv2) = q4 at *
  generalize turnQ lv2 = q3 at *
  generalize lv2 = q2 at *
  generalize lv1 = q1 at *
  generalize q0 = qz at *
  clear e1 e2 e3 e4 e5
  go_enter Try.func10, Try.ntmps10
  go_wp2_with fail
  refine cN.mono ?_
  rintro e W0 ⟨rfl, h0, hB0⟩
  have c1' := c1 W0 h0
  clear c1 cN
  go_wp2_with fail
  refine c1'.mono ?_
  rintro e W1 ⟨rfl, s1⟩
  have c2' := c2 W1 s1.vec
  have hB1 := hB0.trans (s1.belowB h0 hB0.size)
  have V1 := s1.vec
  clear c2 c1' s1 h0 hB0
  go_wp2_with fail
  refine c2'.mono ?_
  rintro e W2 ⟨rfl, s2⟩
  have c3' := c3 W2 s2.vec
  have hB2 := hB1.trans (s2.belowB V1 hB1.size)
  have V2 := s2.vec
  clear c3 c2' s2 V1 hB1
  go_wp2_with fail
  refine c3'.mono ?_
  rintro e W3 ⟨rfl, s3⟩
  have c4' := c4 W3 s3.vec
  have hB3 := hB2.trans (s3.belowB V2 hB2.size)
  have V3 := s3.vec
  clear c4 c3' s3 V2 hB2
  go_wp2_with fail
  refine c4'.mono ?_
  rintro e W4 ⟨rfl, s4⟩
  have c5' := c5 W4 s4.vec
  have HB4 : Hid (Below w.heap.size w W4) := hB3.trans (s4.belowB V3 hB3.size)
  clear c5 c4' s4 V3 hB3
  go_wp2_with fail
  refine c5'.mono ?_
  rintro e W5 ⟨rfl, rfl⟩
  clear c5'
  go_wp2
  go_ret
  exact ⟨rfl, HB4.out⟩
theorem vat_any (vb pb : Nat) (q : Qs) (k : Int) (w : World) (h : VecC w vb pb q) : ∃ a b, Calls Try.prog 19 #[.pointer (some ⟨vb, 0, none⟩), .int .i64 k] w (fun r w' => r = .returned (.tuple #[.int .u8 a, .bool b]) ∧ Below w.heap.size w w') ∧ ∀ (B rb : Nat) (W : World), Rv B W rb q → Calls Try.prog 27 #[.pointer (some ⟨rb, 0, none⟩), .int .i64 k] W (fun r w' => r = .returned (.tuple #[.int .u8 a, .bool b]) ∧ w' = W) := by
  by_cases hk : k < 0 ∨ 8 ≤ k
  · refine ⟨0, false, (vat_bad vb pb q k w h hk).mono ?_, fun B rb W _ => rat_bad rb k W hk⟩
    rintro r w' ⟨rfl, rfl⟩
    exact ⟨rfl, Below.refl _ _⟩
  · have e1 : (((k.toNat : Nat) : Int)) = k := by omega
    have a1 := vat_ok vb pb q ⟨k.toNat, by omega⟩ w h
    have a2 := fun B rb W hr => rat_ok B rb q ⟨k.toNat, by omega⟩ W hr
    simp only [e1] at a1 a2
    exact ⟨_, _, a1, a2⟩
theorem vplaces_all (vb pb : Nat) (q : Qs) (e : Int) (w : World) (h : VecC w vb pb q) (h0 : 0 ≤ e) : ∃ L : List Nat, L.length ≤ 8 ∧ Calls Try.prog 12 #[.pointer (some ⟨vb, 0, none⟩), .int .u8 e] w (fun r w' => ∃ v, r = .returned v ∧ Ints w' v L ∧ Below w.heap.size w w') ∧ ∀ (B rb : Nat) (W : World), Rv B W rb q → Calls Try.prog 29 #[.pointer (some ⟨rb, 0, none⟩), .int .u8 e] W (fun r w' => ∃ v, r = .returned v ∧ Ints w' v L ∧ Below W.heap.size W w') := by
  refine ⟨pcL e (tkL q.pl 0 8), pcL_len e q.pl 8, (places_any vb pb q e w h).mono ?_, fun B rb W hr => ?_⟩
  · rintro r w' ⟨v, rfl, hrow, hB⟩
    exact ⟨v, rfl, (Ints.of_own hrow).1, hB⟩
  · rcases en_cases e h0 with ⟨e', rfl, _⟩ | ⟨hb, _⟩
    · refine (rplaces_ok B rb q e' W hr).mono ?_
      rintro r w' ⟨v, rfl, hrow, hB⟩
      exact ⟨v, rfl, (Ints.of_own hrow).1, hB⟩
    · rw [pcL_bad e hb]
      refine (rplaces_bad rb e W hb).mono ?_
      rintro r w' ⟨rfl, rfl⟩
      exact ⟨_, rfl, ⟨none, 0, rfl, fun j n h => by cases h⟩, Below.refl _ _⟩
theorem vpen_all (vb pb : Nat) (q : Qs) (e : Int) (w : World) (h : VecC w vb pb q) (h0 : 0 ≤ e) : ∃ n : Int, Calls Try.prog 13 #[.pointer (some ⟨vb, 0, none⟩), .int .u8 e] w (fun r w' => r = .returned (.int .i64 n) ∧ w' = w) ∧ ∀ (B rb : Nat) (W : World), Rv B W rb q → Calls Try.prog 30 #[.pointer (some ⟨rb, 0, none⟩), .int .u8 e] W (fun r w' => r = .returned (.int .i64 n) ∧ w' = W) := by
  rcases en_cases e h0 with ⟨e', rfl, _⟩ | ⟨hb, _⟩
  · exact ⟨_, vpen_ok vb pb q e' w h, fun B rb W hr => rpen_ok B rb q e' W hr⟩
  · exact ⟨_, vpen_bad vb e w hb, fun B rb W hr => rpen_bad rb e W hb⟩
end Go.Proofs.Ytgfiliodbggahaa
