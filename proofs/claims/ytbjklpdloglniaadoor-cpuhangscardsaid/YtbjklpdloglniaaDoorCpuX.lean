/- Which registers an instruction writes, whether a register is one of some, and that the others stay. -/
import Derived.Test.YtbjklpdloglniaaDoorCpuW
namespace Go.Proofs.YtbjklpdloglniaaDoor
open Go.RowKit
set_option linter.unusedVariables false
set_option maxRecDepth 100000

/-- The registers that an instruction writes. -/
def wrG (o a b m : Int) : Nat → Bool := if insR o a b m = true then wrF o a else fun _ => false
theorem lst_false (n : Nat) : lst (fun _ => false) n = [] := by
  induction n with
  | zero => rfl
  | succ n ih => rw [lst, ih]; rfl
theorem mkV_false : mkV (fun _ => false) = .agg #[.bool false, .bool false, .bool false, .bool false, .bool false, .bool false, .bool false, .bool false] := rfl
theorem wr_kind (o a b m : Int) (w : World) (hO : InsOk o a b m) : Calls Tryd.prog 13 #[kindV o a b m] w fun e w' => e = .returned (mkV (wrG o a b m)) ∧ Below w.heap.size w w' := by
  cases hR : insR o a b m with
  | false =>
    have e1 : kindV o a b m = .nilIface := by unfold kindV; rw [if_pos hR]
    have e2 : wrG o a b m = fun _ => false := by unfold wrG; rw [hR, if_neg (by decide)]
    rw [e1, e2, mkV_false]
    exact writes_none w
  | true =>
    obtain ⟨⟨h23, ha2, hb2⟩, _⟩ := (insR_iff o a b m).1 hR
    have h0 := hO.1
    have ha := hO.2.2.1
    have e2 : wrG o a b m = wrF o a := by unfold wrG; rw [if_pos hR]
    rw [e2]
    unfold kindV
    rw [hR]
    have hc : o = 0 ∨ o = 1 ∨ o = 2 ∨ o = 3 ∨ o = 4 ∨ o = 5 ∨ o = 6 ∨ o = 7 ∨ o = 8 ∨ o = 9 ∨ o = 10 ∨ o = 11 ∨ o = 12 ∨ o = 13 ∨ o = 14 ∨ o = 15 ∨ o = 16 ∨ o = 17 ∨ o = 18 ∨ o = 19 ∨ o = 20 ∨ o = 21 ∨ o = 22 ∨ o = 23 := by omega
    rcases hc with rfl | rfl | rfl | rfl | rfl | rfl | rfl | rfl | rfl | rfl | rfl | rfl | rfl | rfl | rfl | rfl | rfl | rfl | rfl | rfl | rfl | rfl | rfl | rfl
    · exact writes_pass _ w
    · exact writes_halt _ w
    · exact writes_constant 2 a b m w ha ha2
    · exact writes_move 3 a b m w ha ha2
    · exact writes_reckoning 4 a b m w ha ha2
    · exact writes_reckoning 5 a b m w ha ha2
    · exact writes_reckoning 6 a b m w ha ha2
    · exact writes_quotient 7 a b m w ha ha2
    · exact writes_reckoning 8 a b m w ha ha2
    · exact writes_reckoning 9 a b m w ha ha2
    · exact writes_reckoning 10 a b m w ha ha2
    · exact writes_reckoning 11 a b m w ha ha2
    · exact writes_reckoning 12 a b m w ha ha2
    · exact writes_load 13 a b m w ha ha2
    · exact writes_store _ w
    · exact writes_load 15 a b m w ha ha2
    · exact writes_store _ w
    · exact writes_jump _ w
    · exact writes_zeroJump _ w
    · exact writes_zeroJump _ w
    · exact writes_lessJump _ w
    · exact writes_call 21 a b m w
    · exact writes_back _ w
    · exact writes_system _ w
set_option maxHeartbeats 2000000 in
theorem Writes_any (o a b m : Int) (w : World) (hO : InsOk o a b m) : Calls Tryd.prog 6 #[insV o a b m] w fun e w' => (∃ v, e = .returned v ∧ Bts w' v (lst (wrG o a b m) 8)) ∧ Below w.heap.size w w' := by
  have cK := fun w => kind_any o a b m w hO
  have cW := fun w => wr_kind o a b m w hO
  have cL := fun w => list_any (wrG o a b m) w
  generalize kindV o a b m = kv at *
  generalize mkV (wrG o a b m) = mv at *
  unfold insV at *
  go_enter Tryd.func6, Tryd.ntmps6
  go_wp2_with fail
  refine (cK _).mono ?_
  rintro e W1 ⟨rfl, hB1⟩
  have hb1 := (nx (Below.refl _ w) _).trans (hB1.mono (by simp))
  go_wp2_with fail
  refine (cW _).mono ?_
  rintro e W2 ⟨rfl, hB2⟩
  have hb2 := hb1.trans (hB2.mono hb1.size)
  go_wp2_with fail
  refine (cL _).mono ?_
  rintro e W3 ⟨⟨v, rfl, hv⟩, hB3⟩
  have hb3 := hb2.trans (hB3.mono hb2.size)
  have HV : Hid (Bts W3 v (lst (wrG o a b m) 8)) := hv
  clear hv
  go_wp2_with fail
  go_ret
  exact ⟨⟨v, rfl, HV.out⟩, hb3⟩
def hasL (L : List UInt8) (k : Nat) : Bool := L.any (fun x => decide (x.toNat = k))
theorem has_append (L M : List UInt8) (k : Nat) : hasL (L ++ M) k = (hasL L k || hasL M k) := List.any_append
theorem has_lst (f : Nat → Bool) (k : Nat) : ∀ n, n ≤ 256 → hasL (lst f n) k = (decide (k < n) && f k)
  | 0, _ => by simp [hasL, lst]
  | n + 1, hn => by
    rw [lst, has_append, has_lst f k n (by omega)]
    by_cases hk : k = n
    · subst hk
      cases f k with
      | false => simp [hasL]
      | true => simp [hasL, ofNat_toNat8 k (by omega)]
    · have h1 : decide (k < n + 1) = decide (k < n) := decide_eq_decide.2 (by omega)
      rw [h1]
      have h2 : hasL (if f n = true then [UInt8.ofNat n] else []) k = false := by
        cases f n with
        | false => rfl
        | true =>
          simp [hasL]
          omega
      rw [h2, Bool.or_false]
theorem upd_other (r : Nat → Int) (k j : Nat) (v : Int) (h : decide (j = k) = false) : upd r k v j = r j := by
  unfold upd
  rw [if_neg (of_decide_eq_false h)]
/-- What an instruction does not write stays. -/
theorem does_stays (pc : Int) (r : Nat → Int) (o a b m : Int) (j : Nat) (h0 : 0 ≤ o) (h23 : o ≤ 23) (h1 : o ≠ 1) (hf : wrF o a j = false) : (doesP pc r o a b m).1.2 j = r j := by
  have hA : (2 ≤ o ∧ o ≤ 13) ∨ o = 15 → decide (j = a.toNat) = false := fun h => by
    unfold wrF at hf
    rw [if_pos h] at hf
    exact hf
  have h7 : o = 21 → decide (j = 7) = false := fun h => by
    unfold wrF at hf
    rw [if_neg (by omega), if_pos h] at hf
    exact hf
  unfold doesP
  by_cases c2 : o = 2
  · rw [if_pos c2]; exact upd_other _ _ _ _ (hA (by omega))
  rw [if_neg c2]
  by_cases c3 : o = 3
  · rw [if_pos c3]; exact upd_other _ _ _ _ (hA (by omega))
  rw [if_neg c3]
  by_cases c7 : o = 7
  · rw [if_pos c7]; exact upd_other _ _ _ _ (hA (by omega))
  rw [if_neg c7]
  by_cases c13 : o = 13
  · rw [if_pos c13]
  rw [if_neg c13]
  by_cases c14 : o = 14
  · rw [if_pos c14]
  rw [if_neg c14]
  by_cases c15 : o = 15
  · rw [if_pos c15]
  rw [if_neg c15]
  by_cases c16 : o = 16
  · rw [if_pos c16]
  rw [if_neg c16]
  by_cases c17 : o = 17
  · rw [if_pos c17]
  rw [if_neg c17]
  by_cases c18 : o = 18
  · rw [if_pos c18]
  rw [if_neg c18]
  by_cases c19 : o = 19
  · rw [if_pos c19]
  rw [if_neg c19]
  by_cases c20 : o = 20
  · rw [if_pos c20]
  rw [if_neg c20]
  by_cases c21 : o = 21
  · rw [if_pos c21]; exact upd_other _ _ _ _ (h7 (by omega))
  rw [if_neg c21]
  by_cases c22 : o = 22
  · rw [if_pos c22]
  rw [if_neg c22]
  by_cases c23 : o = 23
  · rw [if_pos c23]
  rw [if_neg c23]
  by_cases c0 : o = 0
  · rw [if_pos c0]
  rw [if_neg c0]
  exact upd_other _ _ _ _ (hA (by omega))
theorem exec_stays (pc : Int) (r : Nat → Int) (o a b m : Int) (j : Nat) (h0 : 0 ≤ o) (hf : wrG o a b m j = false) : (execP pc r o a b m).1.2 j = r j := by
  unfold execP
  by_cases hR : insR o a b m = false
  · rw [if_pos hR]
  rw [if_neg hR]
  have hR' : insR o a b m = true := by
    cases h : insR o a b m
    · exact absurd h hR
    · rfl
  by_cases h1 : o = 1
  · rw [if_pos h1]
  rw [if_neg h1]
  by_cases h7 : o = 7 ∧ r b.toNat = 0
  · rw [if_pos h7]
  rw [if_neg h7]
  unfold wrG at hf
  rw [if_pos hR'] at hf
  exact does_stays pc r o a b m j h0 ((insR_iff o a b m).1 hR').1.1 h1 hf
/-- Where it traps or halts the registers are as they were. -/
theorem exec_same (pc : Int) (r : Nat → Int) (o a b m : Int) (h : (execP pc r o a b m).2.1 = 7 ∨ (execP pc r o a b m).2.1 = 6) : (execP pc r o a b m).1 = (pc, r) := by
  revert h
  unfold execP
  by_cases hR : insR o a b m = false
  · rw [if_pos hR]; intro _; rfl
  rw [if_neg hR]
  by_cases h1 : o = 1
  · rw [if_pos h1]; intro _; rfl
  rw [if_neg h1]
  by_cases h7 : o = 7 ∧ r b.toNat = 0
  · rw [if_pos h7]; intro _; rfl
  rw [if_neg h7]
  unfold doesP
  by_cases c2 : o = 2
  · rw [if_pos c2]; intro h; exact absurd h (show ¬ ((0 : Int) = 7 ∨ (0 : Int) = 6) by decide)
  rw [if_neg c2]
  by_cases c3 : o = 3
  · rw [if_pos c3]; intro h; exact absurd h (show ¬ ((0 : Int) = 7 ∨ (0 : Int) = 6) by decide)
  rw [if_neg c3]
  by_cases c7 : o = 7
  · rw [if_pos c7]; intro h; exact absurd h (show ¬ ((0 : Int) = 7 ∨ (0 : Int) = 6) by decide)
  rw [if_neg c7]
  by_cases c13 : o = 13
  · rw [if_pos c13]; intro h; exact absurd h (show ¬ ((1 : Int) = 7 ∨ (1 : Int) = 6) by decide)
  rw [if_neg c13]
  by_cases c14 : o = 14
  · rw [if_pos c14]; intro h; exact absurd h (show ¬ ((2 : Int) = 7 ∨ (2 : Int) = 6) by decide)
  rw [if_neg c14]
  by_cases c15 : o = 15
  · rw [if_pos c15]; intro h; exact absurd h (show ¬ ((3 : Int) = 7 ∨ (3 : Int) = 6) by decide)
  rw [if_neg c15]
  by_cases c16 : o = 16
  · rw [if_pos c16]; intro h; exact absurd h (show ¬ ((4 : Int) = 7 ∨ (4 : Int) = 6) by decide)
  rw [if_neg c16]
  by_cases c17 : o = 17
  · rw [if_pos c17]; intro h; exact absurd h (show ¬ ((0 : Int) = 7 ∨ (0 : Int) = 6) by decide)
  rw [if_neg c17]
  by_cases c18 : o = 18
  · rw [if_pos c18]; intro h; exact absurd h (show ¬ ((0 : Int) = 7 ∨ (0 : Int) = 6) by decide)
  rw [if_neg c18]
  by_cases c19 : o = 19
  · rw [if_pos c19]; intro h; exact absurd h (show ¬ ((0 : Int) = 7 ∨ (0 : Int) = 6) by decide)
  rw [if_neg c19]
  by_cases c20 : o = 20
  · rw [if_pos c20]; intro h; exact absurd h (show ¬ ((0 : Int) = 7 ∨ (0 : Int) = 6) by decide)
  rw [if_neg c20]
  by_cases c21 : o = 21
  · rw [if_pos c21]; intro h; exact absurd h (show ¬ ((0 : Int) = 7 ∨ (0 : Int) = 6) by decide)
  rw [if_neg c21]
  by_cases c22 : o = 22
  · rw [if_pos c22]; intro h; exact absurd h (show ¬ ((0 : Int) = 7 ∨ (0 : Int) = 6) by decide)
  rw [if_neg c22]
  by_cases c23 : o = 23
  · rw [if_pos c23]; intro h; exact absurd h (show ¬ ((5 : Int) = 7 ∨ (5 : Int) = 6) by decide)
  rw [if_neg c23]
  by_cases c0 : o = 0
  · rw [if_pos c0]; intro h; exact absurd h (show ¬ ((0 : Int) = 7 ∨ (0 : Int) = 6) by decide)
  rw [if_neg c0]
  intro h; exact absurd h (show ¬ ((0 : Int) = 7 ∨ (0 : Int) = 6) by decide)
end Go.Proofs.YtbjklpdloglniaaDoor
