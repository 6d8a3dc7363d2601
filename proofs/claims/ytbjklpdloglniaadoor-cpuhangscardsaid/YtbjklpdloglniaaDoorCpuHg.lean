/- Which registers an instruction reads; what it does hangs on these alone. -/
import Derived.Test.YtbjklpdloglniaaDoorCpuRd
namespace Go.Proofs.YtbjklpdloglniaaDoor
open Go.RowKit
set_option linter.unusedVariables false
set_option maxRecDepth 100000
/-- What an operation reads. -/
def rdF (o a b : Int) : Nat → Bool := fun j => if (4 ≤ o ∧ o ≤ 12) ∨ o = 14 ∨ o = 16 ∨ o = 20 then decide (j = a.toNat) || decide (j = b.toNat) else if o = 3 ∨ o = 13 ∨ o = 15 then decide (j = b.toNat) else if o = 18 ∨ o = 19 then decide (j = a.toNat) else if o = 22 then decide (j = 7) else false
def rdG (o a b m : Int) : Nat → Bool := if insR o a b m = true then rdF o a b else fun _ => false
theorem does_hangs (pc : Int) (r s : Nat → Int) (o a b m : Int) (h0 : 0 ≤ o) (h23 : o ≤ 23) (h1 : o ≠ 1) (H : ∀ j, rdF o a b j = true → r j = s j) : (doesP pc r o a b m).2 = (doesP pc s o a b m).2 ∧ (doesP pc r o a b m).1.1 = (doesP pc s o a b m).1.1 ∧ ((doesP pc r o a b m).2.1 = 0 → ∀ j, wrF o a j = true → (doesP pc r o a b m).1.2 j = (doesP pc s o a b m).1.2 j) := by
  have hc : o = 0 ∨ o = 2 ∨ o = 3 ∨ o = 4 ∨ o = 5 ∨ o = 6 ∨ o = 7 ∨ o = 8 ∨ o = 9 ∨ o = 10 ∨ o = 11 ∨ o = 12 ∨ o = 13 ∨ o = 14 ∨ o = 15 ∨ o = 16 ∨ o = 17 ∨ o = 18 ∨ o = 19 ∨ o = 20 ∨ o = 21 ∨ o = 22 ∨ o = 23 := by omega
  rcases hc with rfl | rfl | rfl | rfl | rfl | rfl | rfl | rfl | rfl | rfl | rfl | rfl | rfl | rfl | rfl | rfl | rfl | rfl | rfl | rfl | rfl | rfl | rfl
  · simp +contextual [doesP, wrF]
  · simp +contextual [doesP, wrF, upd]
  · have eb := H b.toNat (by simp [rdF])
    simp +contextual [doesP, wrF, upd, eb]
  · have ea := H a.toNat (by simp [rdF])
    have eb := H b.toNat (by simp [rdF])
    simp +contextual [doesP, wrF, upd, ea, eb]
  · have ea := H a.toNat (by simp [rdF])
    have eb := H b.toNat (by simp [rdF])
    simp +contextual [doesP, wrF, upd, ea, eb]
  · have ea := H a.toNat (by simp [rdF])
    have eb := H b.toNat (by simp [rdF])
    simp +contextual [doesP, wrF, upd, ea, eb]
  · have ea := H a.toNat (by simp [rdF])
    have eb := H b.toNat (by simp [rdF])
    simp +contextual [doesP, wrF, upd, ea, eb]
  · have ea := H a.toNat (by simp [rdF])
    have eb := H b.toNat (by simp [rdF])
    simp +contextual [doesP, wrF, upd, ea, eb]
  · have ea := H a.toNat (by simp [rdF])
    have eb := H b.toNat (by simp [rdF])
    simp +contextual [doesP, wrF, upd, ea, eb]
  · have ea := H a.toNat (by simp [rdF])
    have eb := H b.toNat (by simp [rdF])
    simp +contextual [doesP, wrF, upd, ea, eb]
  · have ea := H a.toNat (by simp [rdF])
    have eb := H b.toNat (by simp [rdF])
    simp +contextual [doesP, wrF, upd, ea, eb]
  · have ea := H a.toNat (by simp [rdF])
    have eb := H b.toNat (by simp [rdF])
    simp +contextual [doesP, wrF, upd, ea, eb]
  · have eb := H b.toNat (by simp [rdF])
    simp +contextual [doesP, wrF, eb]
  · have ea := H a.toNat (by simp [rdF])
    have eb := H b.toNat (by simp [rdF])
    simp +contextual [doesP, wrF, ea, eb]
  · have eb := H b.toNat (by simp [rdF])
    simp +contextual [doesP, wrF, eb]
  · have ea := H a.toNat (by simp [rdF])
    have eb := H b.toNat (by simp [rdF])
    simp +contextual [doesP, wrF, ea, eb]
  · simp +contextual [doesP, wrF]
  · have ea := H a.toNat (by simp [rdF])
    simp +contextual [doesP, wrF, ea]
  · have ea := H a.toNat (by simp [rdF])
    simp +contextual [doesP, wrF, ea]
  · have ea := H a.toNat (by simp [rdF])
    have eb := H b.toNat (by simp [rdF])
    simp +contextual [doesP, wrF, ea, eb]
  · simp +contextual [doesP, wrF, upd]
  · have e7 := H 7 (by simp [rdF])
    simp +contextual [doesP, wrF, e7]
  · simp +contextual [doesP, wrF]
theorem exec_hangs (pc : Int) (r s : Nat → Int) (o a b m : Int) (h0 : 0 ≤ o) (H : ∀ j, rdG o a b m j = true → r j = s j) : (execP pc r o a b m).2 = (execP pc s o a b m).2 ∧ (execP pc r o a b m).1.1 = (execP pc s o a b m).1.1 ∧ ((execP pc r o a b m).2.1 = 0 → ∀ j, wrG o a b m j = true → (execP pc r o a b m).1.2 j = (execP pc s o a b m).1.2 j) := by
  unfold execP
  by_cases hR : insR o a b m = false
  · simp [if_pos hR]
  have hR' : insR o a b m = true := by
    cases h : insR o a b m
    · exact absurd h hR
    · rfl
  rw [if_neg hR, if_neg hR]
  have H' : ∀ j, rdF o a b j = true → r j = s j := fun j hj => H j (by unfold rdG; rw [if_pos hR']; exact hj)
  by_cases h1 : o = 1
  · simp [if_pos h1]
  rw [if_neg h1, if_neg h1]
  have hb : o = 7 → r b.toNat = s b.toNat := fun h => H' _ (by rw [h]; simp [rdF])
  by_cases h7 : o = 7 ∧ r b.toNat = 0
  · have h7' : o = 7 ∧ s b.toNat = 0 := ⟨h7.1, (hb h7.1) ▸ h7.2⟩
    rw [if_pos h7, if_pos h7']
    simp
  · have h7' : ¬ (o = 7 ∧ s b.toNat = 0) := fun e => h7 ⟨e.1, (hb e.1).trans e.2⟩
    rw [if_neg h7, if_neg h7']
    have := does_hangs pc r s o a b m h0 ((insR_iff o a b m).1 hR').1.1 h1 H'
    unfold wrG
    rw [if_pos hR']
    exact this
theorem rd_kind (o a b m : Int) (w : World) (hO : InsOk o a b m) : Calls Tryd.prog 9 #[kindV o a b m] w fun e w' => e = .returned (mkV (rdG o a b m)) ∧ Below w.heap.size w w' := by
  cases hR : insR o a b m with
  | false =>
    have e1 : kindV o a b m = .nilIface := by unfold kindV; rw [if_pos hR]
    have e2 : rdG o a b m = fun _ => false := by unfold rdG; rw [hR, if_neg (by decide)]
    rw [e1, e2, mkV_false]
    exact reads_none w
  | true =>
    obtain ⟨⟨h23, ha2, hb2⟩, _⟩ := (insR_iff o a b m).1 hR
    have h0 := hO.1
    have ha := hO.2.2.1
    have hb := hO.2.2.2.2.1
    have e2 : rdG o a b m = rdF o a b := by unfold rdG; rw [if_pos hR]
    rw [e2]
    unfold kindV
    rw [hR]
    have hc : o = 0 ∨ o = 1 ∨ o = 2 ∨ o = 3 ∨ o = 4 ∨ o = 5 ∨ o = 6 ∨ o = 7 ∨ o = 8 ∨ o = 9 ∨ o = 10 ∨ o = 11 ∨ o = 12 ∨ o = 13 ∨ o = 14 ∨ o = 15 ∨ o = 16 ∨ o = 17 ∨ o = 18 ∨ o = 19 ∨ o = 20 ∨ o = 21 ∨ o = 22 ∨ o = 23 := by omega
    rcases hc with rfl | rfl | rfl | rfl | rfl | rfl | rfl | rfl | rfl | rfl | rfl | rfl | rfl | rfl | rfl | rfl | rfl | rfl | rfl | rfl | rfl | rfl | rfl | rfl
    · exact reads_pass _ w
    · exact reads_halt _ w
    · exact reads_constant _ w
    · exact reads_move 3 a b m w hb hb2
    · exact reads_reckoning 4 a b m w ha ha2 hb hb2
    · exact reads_reckoning 5 a b m w ha ha2 hb hb2
    · exact reads_reckoning 6 a b m w ha ha2 hb hb2
    · exact reads_quotient 7 a b m w ha ha2 hb hb2
    · exact reads_reckoning 8 a b m w ha ha2 hb hb2
    · exact reads_reckoning 9 a b m w ha ha2 hb hb2
    · exact reads_reckoning 10 a b m w ha ha2 hb hb2
    · exact reads_reckoning 11 a b m w ha ha2 hb hb2
    · exact reads_reckoning 12 a b m w ha ha2 hb hb2
    · exact reads_load 13 a b m w hb hb2
    · exact reads_store 14 a b m w ha ha2 hb hb2
    · exact reads_load 15 a b m w hb hb2
    · exact reads_store 16 a b m w ha ha2 hb hb2
    · exact reads_jump _ w
    · exact reads_zeroJump 18 a b m w ha ha2
    · exact reads_zeroJump 19 a b m w ha ha2
    · exact reads_lessJump 20 a b m w ha ha2 hb hb2
    · exact reads_call _ w
    · exact reads_back w
    · exact reads_system _ w
set_option maxHeartbeats 2000000 in
theorem Reads_any (o a b m : Int) (w : World) (hO : InsOk o a b m) : Calls Tryd.prog 4 #[insV o a b m] w fun e w' => (∃ v, e = .returned v ∧ Bts w' v (lst (rdG o a b m) 8)) ∧ Below w.heap.size w w' := by
  have cK := fun w => kind_any o a b m w hO
  have cW := fun w => rd_kind o a b m w hO
  have cL := fun w => list_any (rdG o a b m) w
  generalize kindV o a b m = kv at *
  generalize mkV (rdG o a b m) = mv at *
  unfold insV at *
  go_enter Tryd.func4, Tryd.ntmps4
  go_wp2_with fail
  refine (cK _).mono ?_
  rintro e W1 ⟨rfl, hB1⟩
  have hb1 := (nx (Below.refl _ w) _).trans (hB1.mono (by simp))
  go_wp2_with fail
  refine (cW _).mono ?_
  rintro e W2 ⟨rfl, hB2⟩
  have hb2 := hb1.trans (hB2.mono hb1.size)
  go_wp2_with fail
  refine (cL _).mono ?_
  rintro e W3 ⟨⟨v, rfl, hv⟩, hB3⟩
  have hb3 := hb2.trans (hB3.mono hb2.size)
  have HV : Hid (Bts W3 v (lst (rdG o a b m) 8)) := hv
  clear hv
  go_wp2_with fail
  go_ret
  exact ⟨⟨v, rfl, HV.out⟩, hb3⟩
end Go.Proofs.YtbjklpdloglniaaDoor
