/- Letters and labels, as the program reads them. -/
import Derived.Test.YtdegjmceeggldaaProg
import Derived.WalkKit
import Derived.WalkSpells
import Derived.WalkLawsBesides
import Derived.Handy
import Derived.Lib.ValidLaws
namespace Go.Proofs.Ytdegjmceeggldaa
open Go.RowKit
set_option linter.unusedVariables false

/-- May a rune be a letter of a label? -/
def letR (r : Int) : Bool := decide ((97 ≤ r ∧ r ≤ 122) ∨ (48 ≤ r ∧ r ≤ 57) ∨ (945 ≤ r ∧ r ≤ 969))
theorem letter_any (r : Int) (w : World) :
    Calls Try.prog 35 #[.int .i32 r] w fun e w' => e = .returned (.bool (letR r)) ∧ w' = w := by
  have yes : letR r = true → (97 ≤ r ∧ r ≤ 122) ∨ (48 ≤ r ∧ r ≤ 57) ∨ (945 ≤ r ∧ r ≤ 969) := fun h => of_decide_eq_true h
  have no : letR r = false → ¬ ((97 ≤ r ∧ r ≤ 122) ∨ (48 ≤ r ∧ r ≤ 57) ∨ (945 ≤ r ∧ r ≤ 969)) := fun h => of_decide_eq_false h
  cases hl : letR r with
  | true =>
    have H := yes hl
    clear yes no hl
    rcases H with ⟨h1, h2⟩ | ⟨h1, h2⟩ | ⟨h1, h2⟩
    · go_enter Try.func35, Try.ntmps35
      go_wp2
      go_ret
      exact ⟨by simp; try omega, rfl⟩
    · go_enter Try.func35, Try.ntmps35
      go_wp2
      all_goals (go_ret; exact ⟨by simp; try omega, rfl⟩)
    · go_enter Try.func35, Try.ntmps35
      go_wp2
      all_goals (go_ret; exact ⟨by simp; try omega, rfl⟩)
  | false =>
    have H := no hl
    clear yes no hl
    go_enter Try.func35, Try.ntmps35
    go_wp2
    all_goals (go_ret; exact ⟨by simp; try omega, rfl⟩)

/-- From a place on, so many letters at the most, the end behind them; all in all one at least. -/
def labK (s : ByteArray) : Nat → Nat → Bool
  | 0, pos => decide (¬ pos < s.size)
  | k + 1, pos => if pos < s.size then (letR ((Utf8.decode s pos).1 : Int) && labK s k (pos + (Utf8.decode s pos).2)) else decide (k < 5)
def labB (s : ByteArray) : Bool := labK s 6 0

theorem iter_below (w : World) (s : ByteArray) (pos : Nat) : Below w.heap.size w (w.iter s pos) := (Below.refl _ _).alloc (Nat.le_refl _) _
theorem width_pos (s : ByteArray) (pos : Nat) (h : pos < s.size) : 1 ≤ (Utf8.decode s pos).2 := Lib.width_pos s pos

set_option maxHeartbeats 1000000 in
theorem label_any (s : ByteArray) (w : World) :
    Calls Try.prog 29 #[.string s] w fun e w' => e = .returned (.bool (labB s)) ∧ ∃ pos, w' = w.iter s pos := by
  obtain ⟨V, hV⟩ : ∃ V, labB s = V := ⟨_, rfl⟩
  rw [hV]
  have HV : Hid (labK s 6 0 = V) := hV
  clear hV
  go_enter Try.func29, Try.ntmps29
  go_wp2
  go_loopw [3] (fun n w' => ∃ (pos k : Nat), w' = w.iter s pos ∧ k ≤ 6 ∧ n = .int .i64 ((6 - k : Nat) : Int) ∧ labK s k pos = V) (fun _ w' => s.size - w'.iterPos w.heap.size)
  case atStart => exact ⟨0, 6, rfl, by omega, rfl, HV.out⟩
  case round =>
    obtain ⟨pos, k, rfl, hk, rfl, hd⟩ := hrel
    by_cases hp : pos < s.size
    · have hw := width_pos s pos hp
      have hnx : ∀ ty, (Instr.next (.pointer (some ⟨w.heap.size, 0, none⟩)) true ty).run Try.prog (w.iter s pos) = _ := fun ty => run_next_any w s pos ty hp
      have cL := fun w => letter_any ((Utf8.decode s pos).1 : Int) w
      cases k with
      | zero =>
        simp only [labK] at hd
        rw [decide_eq_false (by omega)] at hd
        subst hd
        clear HV
        go_wp2_with (go_at_call 35; refine (cL _).mono ?_; rintro e w' ⟨rfl, rfl⟩)
        go_ret
        exact ⟨rfl, _, rfl⟩
      | succ k =>
        have hn : ((6 - (k + 1) : Nat) : Int) + 1 = ((6 - k : Nat) : Int) := by omega
        have hn6 : ¬ 6 < ((6 - k : Nat) : Int) := by omega
        simp only [labK] at hd
        rw [if_pos hp] at hd
        cases hlt : letR ((Utf8.decode s pos).1 : Int) with
        | false =>
          rw [hlt] at cL hd
          simp only [Bool.false_and] at hd
          subst hd
          clear HV hlt
          go_wp2_with (go_at_call 35; refine (cL _).mono ?_; rintro e w' ⟨rfl, rfl⟩)
          go_ret
          exact ⟨rfl, _, rfl⟩
        | true =>
          rw [hlt] at cL hd
          simp only [Bool.true_and] at hd
          have HD : Hid (labK s k (pos + (Utf8.decode s pos).2) = V) := hd
          clear hd HV hlt
          go_wp2_with (go_at_call 35; refine (cL _).mono ?_; rintro e w' ⟨rfl, hw'⟩; subst hw')
          go_roundw
          case rel => exact ⟨pos + (Utf8.decode s pos).2, k, rfl, by omega, by congr 1; omega, HD.out⟩
          case measure => simp; omega
    · have hnx : ∀ ty, (Instr.next (.pointer (some ⟨w.heap.size, 0, none⟩)) true ty).run Try.prog (w.iter s pos) = _ := fun ty => run_next_end w s pos ty hp
      have hV2 : V = decide (k < 6) := by
        rw [← hd]
        cases k with
        | zero => simp only [labK]; rw [decide_eq_true hp]; rfl
        | succ k => simp only [labK]; rw [if_neg hp]; exact decide_eq_decide.2 (by omega)
      subst hV2
      clear HV hd
      go_wp2
      go_ret
      refine ⟨?_, _, rfl⟩
      have : decide (0 < 6 - k) = decide (k < 6) := decide_eq_decide.2 (by omega)
      rw [← this]
      rfl
end Go.Proofs.Ytdegjmceeggldaa
