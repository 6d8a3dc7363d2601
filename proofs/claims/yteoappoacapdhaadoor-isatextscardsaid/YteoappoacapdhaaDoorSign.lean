/- A sign in quotes as the program reads it; the tables of UTF-8 lie where the translation lays them. -/
import Derived.Test.YteoappoacapdhaaDoorDigs
import Derived.Test.YteoappoacapdhaaDoorShelf
import Derived.Lib.ValidLaws
namespace Go.Proofs.YteoappoacapdhaaDoor
open Go.RowKit
set_option linter.unusedVariables false

def Tabs (w : World) : Prop := Lib.Utf8Tabs 2 3 w
theorem Tabs.later {w w' : World} (h : Tabs w) (hb : Below w.heap.size w w') : Tabs w' := Utf8Tabs_below h hb
theorem empty_yes (s : ByteArray) (h : s.size = 0) : s.toList.isEmpty = true := by
  rw [Lib.toList_data, List.isEmpty_iff_length_eq_zero, ← Lib.size_eq]; exact h
theorem empty_no (s : ByteArray) (h : 0 < s.size) : s.toList.isEmpty = false := by
  rw [Lib.toList_data]
  cases hl : s.data.toList with
  | nil => rw [Lib.size_eq, hl] at h; simp at h
  | cons a l => rfl
def signR (B : ByteArray) : Option Int :=
  if B.size = 0 ∨ Lib.validD B.data.toList = false then none
  else if (Utf8.decode B 0).1 < 32 ∨ 65535 < (Utf8.decode B 0).1 ∨ (Utf8.decode B 0).1 = 39 ∨ (Utf8.decode B 0).2 < B.size then none
  else some ((Utf8.decode B 0).1 : Int)
def signO (l : List UInt8) : Option Int := if Lib.hasSuffix l [39] then signR ⟨(Lib.trimSuffix l [39]).toArray⟩ else none

theorem valid_any (s : ByteArray) (w : World) (hs : s.size ≤ 9223372036854775807) (hT : Tabs w) :
    Calls Tryd.prog 81 #[.string s] w fun e w' => e = .returned (.bool (Lib.validD s.data.toList)) ∧ Below w.heap.size w w' := Any.utf8_ValidString Tryd.laysValid s w hs hT

theorem width_pos (s : ByteArray) (pos : Nat) (h : pos < s.size) : 1 ≤ (Utf8.decode s pos).2 := by
  by_cases ha : (s[pos]'h).toNat < 128
  · rw [decode_ascii s pos h ha]
    exact Nat.le_refl _
  · exact (decode_high s pos h (by omega)).2

set_option maxHeartbeats 1000000 in
theorem sign_any (s : ByteArray) (w : World) (hs : s.size ≤ 9223372036854775807) (hT : Tabs w) :
    Calls Tryd.prog 69 #[.string s] w fun e w' => e = .returned (.tuple #[.int .i64 (optN (signO s.data.toList)), .bool (signO s.data.toList).isSome]) ∧ Below w.heap.size w w' := by
  have cC := Tryd.strings_CutSuffix s ⟨#[39]⟩ w hs
  have hBs : (Lib.trimSuffix s.data.toList [39]).length ≤ s.size := by
    unfold Lib.trimSuffix; split
    · simp
    · simp
  unfold signO
  change Calls _ _ _ _ (fun e w' => e = .returned (.tuple #[.string ⟨(Lib.trimSuffix s.data.toList [39]).toArray⟩, .bool (Lib.hasSuffix s.data.toList [39])]) ∧ w' = w) at cC
  generalize Lib.hasSuffix s.data.toList [39] = C at *
  obtain ⟨B, hB⟩ : ∃ B : ByteArray, (⟨(Lib.trimSuffix s.data.toList [39]).toArray⟩ : ByteArray) = B := ⟨_, rfl⟩
  have hsz : B.size ≤ 9223372036854775807 := by rw [← hB]; show (Lib.trimSuffix s.data.toList [39]).toArray.size ≤ _; simp; omega
  rw [hB] at cC ⊢
  clear hB hBs
  cases C with
  | false =>
    go_enter Tryd.func69, Tryd.ntmps69
    go_wp2_with (go_at_call 80; refine cC.mono ?_; rintro e w' ⟨rfl, rfl⟩)
    go_ret2
    exact ⟨rfl, Below.refl _ _⟩
  | true =>
    simp only [if_true]
    by_cases h0 : B.size = 0
    · have he := empty_yes B h0
      have e : signR B = none := by unfold signR; rw [if_pos (Or.inl h0)]
      rw [e]
      go_enter Tryd.func69, Tryd.ntmps69
      go_wp2_with (go_at_call 80; refine cC.mono ?_; rintro e w' ⟨rfl, rfl⟩)
      go_ret2
      exact ⟨rfl, Below.refl _ _⟩
    · have he := empty_no B (by omega)
      have hp : 0 < B.size := by omega
      have cV := valid_any B w hsz hT
      cases hV : Lib.validD B.data.toList with
      | false =>
        rw [hV] at cV
        have e : signR B = none := by unfold signR; rw [if_pos (Or.inr hV)]
        rw [e]
        clear hV e hT
        go_enter Tryd.func69, Tryd.ntmps69
        go_wp2_with (first | (go_at_call 80; refine cC.mono ?_; rintro e w' ⟨rfl, rfl⟩) | (go_at_call 81; refine cV.mono ?_; rintro e w1 ⟨rfl, hb⟩))
        go_ret2
        exact ⟨rfl, hb⟩
      | true =>
        rw [hV] at cV
        have e : signR B = if (Utf8.decode B 0).1 < 32 ∨ 65535 < (Utf8.decode B 0).1 ∨ (Utf8.decode B 0).1 = 39 ∨ (Utf8.decode B 0).2 < B.size then none else some ((Utf8.decode B 0).1 : Int) := by
          unfold signR; rw [if_neg (by rintro (g | g); exact h0 g; rw [hV] at g; cases g)]
        rw [e]
        have hw := width_pos B 0 hp
        obtain ⟨R, hR⟩ : ∃ R, (Utf8.decode B 0).1 = R := ⟨_, rfl⟩
        obtain ⟨K, hK⟩ : ∃ K, (Utf8.decode B 0).2 = K := ⟨_, rfl⟩
        rw [hR, hK]
        rw [hK] at hw
        have n0 := fun (w : World) (ty : TypeId) => run_next_any (P := Tryd.prog) w B 0 ty hp
        rw [hR, hK] at n0
        simp only [Nat.zero_add] at n0
        have n1 := fun (w : World) (ty : TypeId) (h : K < B.size) => run_next_any (P := Tryd.prog) w B K ty h
        have n2 := fun (w : World) (ty : TypeId) (h : ¬ K < B.size) => run_next_end (P := Tryd.prog) w B K ty h
        clear hV e hT hR hK h0
        by_cases c1 : R < 32
        · rw [if_pos (Or.inl c1)]
          go_enter Tryd.func69, Tryd.ntmps69
          go_wp2_with (first | (go_at_call 80; refine cC.mono ?_; rintro e w' ⟨rfl, rfl⟩) | (go_at_call 81; refine cV.mono ?_; rintro e w1 ⟨rfl, hb⟩))
          refine wp_loop_rounds 3 ?_
          rw [rounds_succ]
          have n0' := n0 w1
          go_wp2
          go_ret2
          exact ⟨rfl, hb.trans ((iter_below _ _ _).mono hb.size)⟩
        by_cases c2 : 65535 < R
        · rw [if_pos (Or.inr (Or.inl c2))]
          go_enter Tryd.func69, Tryd.ntmps69
          go_wp2_with (first | (go_at_call 80; refine cC.mono ?_; rintro e w' ⟨rfl, rfl⟩) | (go_at_call 81; refine cV.mono ?_; rintro e w1 ⟨rfl, hb⟩))
          refine wp_loop_rounds 3 ?_
          rw [rounds_succ]
          have n0' := n0 w1
          go_wp2
          go_ret2
          exact ⟨rfl, hb.trans ((iter_below _ _ _).mono hb.size)⟩
        by_cases c3 : R = 39
        · rw [if_pos (Or.inr (Or.inr (Or.inl c3)))]
          subst c3
          go_enter Tryd.func69, Tryd.ntmps69
          go_wp2_with (first | (go_at_call 80; refine cC.mono ?_; rintro e w' ⟨rfl, rfl⟩) | (go_at_call 81; refine cV.mono ?_; rintro e w1 ⟨rfl, hb⟩))
          refine wp_loop_rounds 3 ?_
          rw [rounds_succ]
          have n0' := n0 w1
          go_wp2
          go_ret2
          exact ⟨rfl, hb.trans ((iter_below _ _ _).mono hb.size)⟩
        have c3' : ((R : Int) == 39) = false := by rw [beq_eq_false_iff_ne]; omega
        by_cases c4 : K < B.size
        · rw [if_pos (Or.inr (Or.inr (Or.inr c4)))]
          go_enter Tryd.func69, Tryd.ntmps69
          go_wp2_with (first | (go_at_call 80; refine cC.mono ?_; rintro e w' ⟨rfl, rfl⟩) | (go_at_call 81; refine cV.mono ?_; rintro e w1 ⟨rfl, hb⟩))
          refine wp_loop_rounds 3 ?_
          rw [rounds_succ]
          have n0' := n0 w1
          have n1' := fun ty => n1 w1 ty c4
          go_wp2
          rw [rounds_succ]
          go_wp2
          go_ret2
          exact ⟨rfl, hb.trans ((iter_below _ _ _).mono hb.size)⟩
        · rw [if_neg (by omega)]
          go_enter Tryd.func69, Tryd.ntmps69
          go_wp2_with (first | (go_at_call 80; refine cC.mono ?_; rintro e w' ⟨rfl, rfl⟩) | (go_at_call 81; refine cV.mono ?_; rintro e w1 ⟨rfl, hb⟩))
          refine wp_loop_rounds 3 ?_
          rw [rounds_succ]
          have n0' := n0 w1
          have n2' := fun ty => n2 w1 ty c4
          go_wp2
          rw [rounds_succ]
          go_wp2
          go_ret2
          exact ⟨rfl, hb.trans ((iter_below _ _ _).mono hb.size)⟩
end Go.Proofs.YteoappoacapdhaaDoor
