/- Whether an instruction is right: the program. -/
import Derived.Test.YtbjklpdloglniaaDoorIsaE
namespace Go.Proofs.YtbjklpdloglniaaDoor
open Go.RowKit
set_option linter.unusedVariables false

set_option maxHeartbeats 1000000 in
set_option maxRecDepth 100000 in
theorem iright_no (o a b m : Int) (w : World) (h : 23 < o ∨ (¬ 23 < o ∧ 8 ≤ a) ∨ (¬ 23 < o ∧ ¬ 8 ≤ a ∧ 8 ≤ b)) :
    Calls Tryd.prog 16 #[.agg #[.int .u8 o, .int .u8 a, .int .u8 b, .int .u16 m]] w fun e W' => e = .returned (.bool false) ∧ Below w.heap.size w W' := by
  rcases h with h1 | ⟨h1, h2⟩ | ⟨h1, h2, h3⟩
  all_goals
    go_enter Tryd.func16, Tryd.ntmps16
    go_wp2
    go_ret
    exact ⟨rfl, (Below.refl _ w).alloc (Nat.le_refl _) _⟩
set_option maxHeartbeats 2000000 in
set_option maxRecDepth 100000 in
theorem iright_yes (o a b m : Int) (w : World) (h1 : ¬ 23 < o) (h2 : ¬ 8 ≤ a) (h3 : ¬ 8 ≤ b) (L : List (Nat × Int)) (hL3 : L.length ≤ 3)
    (cP : ∀ w, Calls Tryd.prog 26 #[.agg #[.int .u8 o, .int .u8 a, .int .u8 b, .int .u16 m]] w fun e W' => ∃ v, e = .returned v ∧ Rw w.heap.size W' v (L.map partV) ∧ Below w.heap.size w W') :
    Calls Tryd.prog 16 #[.agg #[.int .u8 o, .int .u8 a, .int .u8 b, .int .u16 m]] w fun e W' => e = .returned (.bool (decide (L.foldl layP (o, 0, 0, 0) = (o, a, b, m)))) ∧ Below w.heap.size w W' := by
  have hFi := Four.new w (.int .u8 o) (.int .u8 a) (.int .u8 b) (.int .u16 m)
  go_enter Tryd.func16, Tryd.ntmps16
  go_wp2_with fail
  refine (cP _).mono ?_
  rintro e W1 ⟨v, rfl, hR, hB⟩
  have hF0 := (hFi.alloc (.cells #[.int .u8 o, .int .u8 0, .int .u8 0, .int .u16 0] 29)).below hB (by simp; omega)
  have hG0 := (Four.new (w.alloc (.cells #[.int .u8 o, .int .u8 a, .int .u8 b, .int .u16 m] 29)) (.int .u8 o) (.int .u8 0) (.int .u8 0) (.int .u16 0)).below hB (by simp)
  have hB1 : Below w.heap.size w W1 := (((Below.refl _ w).alloc (Nat.le_refl _) _).alloc (by simp) _).trans (hB.mono (by simp; omega))
  rw [World.size_alloc] at hG0
  rw [World.size_alloc, World.size_alloc] at hR
  clear hB hFi cP
  obtain ⟨a0, cap0, rfl, hc0⟩ := id hR
  clear hc0
  rw [List.length_map] at hR ⊢
  have hs1 := hB1.size
  go_wp2_with fail
  go_loopw [25] (fun i wr => ∃ k : Nat, k ≤ L.length ∧ i = .int .i64 k ∧ Four wr w.heap.size (.int .u8 o) (.int .u8 a) (.int .u8 b) (.int .u16 m) ∧ (∃ o' a' b' m', (L.take k).foldl layP (o, 0, 0, 0) = (o', a', b', m') ∧ Four wr (w.heap.size + 1) (.int .u8 o') (.int .u8 a') (.int .u8 b') (.int .u16 m')) ∧ Rw (w.heap.size + 1 + 1) wr (.slice a0 L.length cap0) (L.map partV) ∧ Below w.heap.size w wr ∧ w.heap.size + 1 + 1 ≤ wr.heap.size) (fun i _ => L.length - (intOf i).toNat)
  case atStart => exact ⟨0, by omega, rfl, hF0, ⟨o, 0, 0, 0, by simp, hG0⟩, hR, hB1, (Array.getElem?_eq_some_iff.1 hG0).1⟩
  case round =>
    obtain ⟨k, hk, rfl, hF, ⟨o', a', b', m', hfold, hG⟩, hRr, hBr, hsz⟩ := hrel
    clear hR hF0 hG0
    have g0 := hG.c0
    have g1 := hG.c1
    have g2 := hG.c2
    have g3 := hG.c3
    have i0 := hF.c0
    have i1 := hF.c1
    have i2 := hF.c2
    have i3 := hF.c3
    by_cases hlt : k < L.length
    · have hlt' : (k : Int) < (L.length : Int) := by omega
      obtain ⟨ao, cap, hv, hc⟩ := id hRr
      injection hv with hv1 hv2 hv3
      clear hv2 hv3
      subst hv1
      obtain ⟨g, off, rfl, hg, hcell⟩ := hc k (partV L[k]) (by rw [List.getElem?_map, List.getElem?_eq_getElem hlt]; rfl)
      have HX := take_fold L k hlt (o, 0, 0, 0)
      rw [hfold] at HX
      have cL := fun w => lay_any (o', a', b', m') L[k] w
      have HX' : Hid ((L.take (k + 1)).foldl layP (o, 0, 0, 0) = layP (o', a', b', m') L[k]) := HX
      clear HX hfold hc
      generalize partV L[k] = pv at hcell cL
      generalize layP (o', a', b', m') L[k] = i2 at cL HX'
      obtain ⟨o2, a2, b2, m2⟩ := i2
      unfold insV4 insV at cL
      simp only at cL
      have q0 := hG.f 0
      have q1 := hG.f 1
      have q2 := hG.f 2
      have q3 := hG.f 3
      go_wp2_with (go_at_call 27; refine (cL _).mono ?_; rintro e W2 ⟨rfl, hB2⟩; have hG2 := hG.below hB2 (by omega); have r0 := hG2.f 0; have s0 := hG2.c0; have hG3 := hG2.set0 (.int .u8 o2); have r1 := hG3.f 1; have s1 := hG3.c1; have hG4 := hG3.set1 (.int .u8 a2); have r2 := hG4.f 2; have s2 := hG4.c2; have hG5 := hG4.set2 (.int .u8 b2); have r3 := hG5.f 3; have s3 := hG5.c3)
      have hB3 : Below w.heap.size w W2 := hBr.trans (hB2.mono (by have := hBr.size; omega))
      go_roundw
      case rel =>
        have hR2 := (hRr.below hB2 (Nat.le_refl _))
        refine ⟨k + 1, by omega, by go_num, (hF.below hB2 (by omega)).keep (by omega), ⟨o2, a2, b2, m2, HX'.out, hG2.set⟩, hR2.keep (by omega), Below.set4 hB3 (by omega) _ _ _ _, ?_⟩
        exact Nat.lt_of_lt_of_le (Nat.lt_of_succ_le hsz) (by have := hB2.size; simp; omega)
      case measure => simp [intOf]; omega
    · have hlt' : ¬ (k : Int) < (L.length : Int) := by omega
      have hke : k = L.length := by omega
      subst hke
      rw [List.take_length] at hfold
      have HF : Hid (L.foldl layP (o, 0, 0, 0) = (o', a', b', m')) := hfold
      clear hRr hfold
      have eI := eqIns
      have eG := eqGuardI
      go_wp2
      go_ret
      refine ⟨?_, hBr⟩
      rw [HF.out]
      simp
theorem iright_any (o a b m : Int) (w : World) (h0 : 0 ≤ o) (h1 : o ≤ 255) :
    Calls Tryd.prog 16 #[.agg #[.int .u8 o, .int .u8 a, .int .u8 b, .int .u16 m]] w fun e W' => e = .returned (.bool (insR o a b m)) ∧ Below w.heap.size w W' := by
  rw [insR_fold]
  by_cases h : o ≤ 23 ∧ a < 8 ∧ b < 8
  · rw [decide_eq_true h, Bool.true_and]
    exact iright_yes o a b m w (by omega) (by omega) (by omega) _ (parts_len o a b m) (fun w => parts_any o a b m w h0 h1)
  · rw [decide_eq_false h, Bool.false_and]
    exact iright_no o a b m w (by omega)
end Go.Proofs.YtbjklpdloglniaaDoor
