/- The document's answer for a label. -/
import Derived.Test.YtmepnnlmhlndmaaDoorNameQ
namespace Go.Proofs.YtmepnnlmhlndmaaDoor
open Go.RowKit Go.Shelf
set_option linter.unusedVariables false

/-- The two tables that reading letters needs. -/
def NTabs (w : World) : Prop := Lib.Utf8Tabs 0 1 w
theorem NTabs.later {w w' : World} (h : NTabs w) (hb : Below w.heap.size w w') : NTabs w' := Utf8Tabs_below h hb
theorem get_suffix (s : ByteArray) (p j : Nat) (hp : p ≤ s.size) : (s.extract p s.size).get! j = s.get! (p + j) := by
  show (s.extract p s.size).data[j]! = s.data[p + j]!
  rw [getElem!_def, getElem!_def]
  have e : (s.extract p s.size).data[j]? = s.data[p + j]? := by
    rw [← Array.getElem?_toList, ← Array.getElem?_toList, Lib.extract_to_end, List.getElem?_drop]
  rw [e]
theorem decode_suffix (s : ByteArray) (p : Nat) (hp : p < s.size) : Lib.decodeGo (s.extract p s.size) = Utf8.decode s p := by
  have hsz : (s.extract p s.size).size = s.size - p := by rw [Lib.size_eq, Lib.extract_to_end, List.length_drop, ← Lib.size_eq]
  unfold Lib.decodeGo
  rw [if_neg (by omega), Lib.decode_at, Lib.decode_at s p, hsz]
  rw [get_suffix s p 0 (by omega), get_suffix s p (0 + 1) (by omega), get_suffix s p (0 + 2) (by omega), get_suffix s p (0 + 3) (by omega)]
  simp only [Nat.zero_add, Nat.add_zero, Nat.sub_zero]

theorem rletter_any (r : Int) (w : World) :
    Calls Tryd.prog 81 #[.int .i32 r] w fun e w' => e = .returned (.bool (letR r)) ∧ w' = w := by
  have yes : letR r = true → (97 ≤ r ∧ r ≤ 122) ∨ (48 ≤ r ∧ r ≤ 57) ∨ (945 ≤ r ∧ r ≤ 969) := fun h => of_decide_eq_true h
  have no : letR r = false → ¬ ((97 ≤ r ∧ r ≤ 122) ∨ (48 ≤ r ∧ r ≤ 57) ∨ (945 ≤ r ∧ r ≤ 969)) := fun h => of_decide_eq_false h
  cases hl : letR r with
  | true =>
    have H := yes hl
    clear yes no hl
    rcases H with ⟨h1, h2⟩ | ⟨h1, h2⟩ | ⟨h1, h2⟩
    · go_enter Tryd.func81, Tryd.ntmps81
      go_wp2
      go_ret
      exact ⟨by simp; try omega, rfl⟩
    · go_enter Tryd.func81, Tryd.ntmps81
      go_wp2
      all_goals (go_ret; exact ⟨by simp; try omega, rfl⟩)
    · go_enter Tryd.func81, Tryd.ntmps81
      go_wp2
      all_goals (go_ret; exact ⟨by simp; try omega, rfl⟩)
  | false =>
    have H := no hl
    clear yes no hl
    go_enter Tryd.func81, Tryd.ntmps81
    go_wp2
    all_goals (go_ret; exact ⟨by simp; try omega, rfl⟩)

set_option maxHeartbeats 1000000 in
theorem rlabel_any (s : ByteArray) (w : World) (hs : s.size ≤ 1000000) (hT : NTabs w) :
    Calls Tryd.prog 79 #[.string s] w fun e w' => e = .returned (.bool (labB s)) ∧ Below w.heap.size w w' := by
  obtain ⟨V, hV⟩ : ∃ V, labB s = V := ⟨_, rfl⟩
  rw [hV]
  have HV : Hid (labK s 6 0 = V) := hV
  clear hV
  go_enter Tryd.func79, Tryd.ntmps79
  go_wp2
  go_loopw [3, 4] (fun n i W => ∃ (pos k : Nat), k ≤ 6 ∧ pos ≤ s.size ∧ i = .int .i64 pos ∧ n = .int .i64 ((6 - k : Nat) : Int) ∧ labK s k pos = V ∧ Below w.heap.size w W) (fun _ i _ => s.size - (intOf i).toNat)
  case atStart => exact ⟨0, 6, by omega, by omega, rfl, rfl, HV.out, Below.refl _ _⟩
  case round =>
    obtain ⟨pos, k, hk, hps, rfl, rfl, hd, hB⟩ := hrel
    by_cases hp : pos < s.size
    · have hp' : (pos : Int) < (s.size : Int) := by omega
      have hw := width_pos s pos hp
      have hw2 := (decode_stroke s pos hp).2.2
      have cD := Tryd.utf8_DecodeRuneInString (s.extract pos s.size) wr (hT.later hB)
      rw [decode_suffix s pos hp] at cD
      have cL := fun w => rletter_any ((Utf8.decode s pos).1 : Int) w
      cases k with
      | zero =>
        generalize Utf8.decode s pos = dd at *
        obtain ⟨rn, wd⟩ := dd
        simp only at *
        simp only [labK] at hd
        rw [decide_eq_false (by omega)] at hd
        subst hd
        clear HV
        go_wp2_with fail
        refine cD.mono ?_
        rintro e W2 ⟨rfl, hB2⟩
        cases hlt : letR (rn : Int) with
        | false =>
          rw [hlt] at cL
          go_wp2_with (go_at_call 81; refine (cL _).mono ?_; rintro e w' ⟨rfl, rfl⟩)
          go_ret
          exact ⟨rfl, hB.trans (hB2.mono hB.size)⟩
        | true =>
          rw [hlt] at cL
          go_wp2_with (go_at_call 81; refine (cL _).mono ?_; rintro e w' ⟨rfl, rfl⟩)
          go_ret
          exact ⟨rfl, hB.trans (hB2.mono hB.size)⟩
      | succ k =>
        simp only [labK] at hd
        rw [if_pos hp] at hd
        generalize Utf8.decode s pos = dd at *
        obtain ⟨rn, wd⟩ := dd
        simp only at *
        have HD : Hid ((letR (rn : Int) && labK s k (pos + wd)) = V) := hd
        clear hd HV
        have hn6 : ¬ (6 : Int) ≤ ((6 - (k + 1) : Nat) : Int) := by omega
        go_wp2_with fail
        refine cD.mono ?_
        rintro e W2 ⟨rfl, hB2⟩
        have hB3 := hB.trans (hB2.mono hB.size)
        cases hlt : letR (rn : Int) with
        | false =>
          rw [hlt] at cL
          have hd := HD.out
          rw [hlt, Bool.false_and] at hd
          subst hd
          clear HD hlt
          go_wp2_with (go_at_call 81; refine (cL _).mono ?_; rintro e w' ⟨rfl, rfl⟩)
          go_ret
          exact ⟨rfl, hB3⟩
        | true =>
          rw [hlt] at cL
          have hd := HD.out
          rw [hlt, Bool.true_and] at hd
          have HD2 : Hid (labK s k (pos + wd) = V) := hd
          clear HD hlt hd
          go_wp2_with (go_at_call 81; refine (cL _).mono ?_; rintro e w' ⟨rfl, rfl⟩)
          go_roundw
          case rel => exact ⟨pos + wd, k, by omega, by omega, by go_num, by congr 1; omega, HD2.out, hB3⟩
          case measure => simp [intOf]; omega
    · have hp' : ¬ (pos : Int) < (s.size : Int) := by omega
      have hV2 : V = decide (k < 6) := by
        rw [← hd]
        cases k with
        | zero => simp only [labK]; rw [decide_eq_true hp]; rfl
        | succ k => simp only [labK]; rw [if_neg hp]; exact decide_eq_decide.2 (by omega)
      subst hV2
      clear HV hd
      go_wp2
      go_ret
      refine ⟨?_, hB⟩
      have : decide (0 < 6 - k) = decide (k < 6) := decide_eq_decide.2 (by omega)
      rw [← this]
      simp
end Go.Proofs.YtmepnnlmhlndmaaDoor
