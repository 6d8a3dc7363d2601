/- The operation of a word: the program. -/
import Derived.Test.YteoappoacapdhaaDoorIsaW
namespace Go.Proofs.YteoappoacapdhaaDoor
open Go.RowKit Go.Maps
set_option linter.unusedVariables false

set_option maxRecDepth 100000 in
theorem wordsM_hit (j : Nat) (h : j < 24) : (wordsM 24).atKey (.string (wordsL.getD j [])) (.lit (.int .u8 0)) = .lit (.int .u8 (j : Int)) ∧ has (wordsM 24) (.string (wordsL.getD j [])) = true := by
  match j, h with
  | 0, _ => exact ⟨by kernel_rfl, by kernel_rfl⟩
  | 1, _ => exact ⟨by kernel_rfl, by kernel_rfl⟩
  | 2, _ => exact ⟨by kernel_rfl, by kernel_rfl⟩
  | 3, _ => exact ⟨by kernel_rfl, by kernel_rfl⟩
  | 4, _ => exact ⟨by kernel_rfl, by kernel_rfl⟩
  | 5, _ => exact ⟨by kernel_rfl, by kernel_rfl⟩
  | 6, _ => exact ⟨by kernel_rfl, by kernel_rfl⟩
  | 7, _ => exact ⟨by kernel_rfl, by kernel_rfl⟩
  | 8, _ => exact ⟨by kernel_rfl, by kernel_rfl⟩
  | 9, _ => exact ⟨by kernel_rfl, by kernel_rfl⟩
  | 10, _ => exact ⟨by kernel_rfl, by kernel_rfl⟩
  | 11, _ => exact ⟨by kernel_rfl, by kernel_rfl⟩
  | 12, _ => exact ⟨by kernel_rfl, by kernel_rfl⟩
  | 13, _ => exact ⟨by kernel_rfl, by kernel_rfl⟩
  | 14, _ => exact ⟨by kernel_rfl, by kernel_rfl⟩
  | 15, _ => exact ⟨by kernel_rfl, by kernel_rfl⟩
  | 16, _ => exact ⟨by kernel_rfl, by kernel_rfl⟩
  | 17, _ => exact ⟨by kernel_rfl, by kernel_rfl⟩
  | 18, _ => exact ⟨by kernel_rfl, by kernel_rfl⟩
  | 19, _ => exact ⟨by kernel_rfl, by kernel_rfl⟩
  | 20, _ => exact ⟨by kernel_rfl, by kernel_rfl⟩
  | 21, _ => exact ⟨by kernel_rfl, by kernel_rfl⟩
  | 22, _ => exact ⟨by kernel_rfl, by kernel_rfl⟩
  | 23, _ => exact ⟨by kernel_rfl, by kernel_rfl⟩
  | n + 24, h => exact absurd h (by omega)
theorem opF_none : ∀ (l : List (List UInt8)) (k : Nat) (s : List UInt8), opF l k s = none → s ∉ l
  | [], _, _, _ => by simp
  | x :: l, k, s, h => by
    simp only [opF] at h
    split at h
    · cases h
    · rename_i hne
      simp only [List.mem_cons, not_or]
      exact ⟨fun e => hne e.symm, opF_none l (k + 1) s h⟩
theorem wordsM_map (k : Nat) : IsMap (wordsM k) := by
  induction k with
  | zero => exact isMap_empty
  | succ k ih => rw [wordsM_step]; exact ih.put _ _
theorem wordsM_miss (s : List UInt8) (h : s ∉ wordsL) : ∀ k : Nat, k ≤ 24 → has (wordsM k) (.string s) = false
  | 0, _ => rfl
  | k + 1, hk => by
    rw [wordsM_step, has_put_other]
    · exact wordsM_miss s h k (by omega)
    · intro e
      injection e with e
      apply h
      rw [e]
      have hl : wordsL.length = 24 := rfl
      rw [List.getD_eq_getElem?_getD, List.getElem?_eq_getElem (by omega)]
      exact List.getElem_mem _
def opN (s : List UInt8) : Int := match opO s with
  | some n => (n : Int)
  | none => 0
theorem wordsM_look (s : List UInt8) : (wordsM 24).atKey (.string s) (.lit (.int .u8 0)) = .lit (.int .u8 (opN s)) ∧ has (wordsM 24) (.string s) = (opO s).isSome := by
  unfold opN
  cases h : opO s with
  | none =>
    have hm := wordsM_miss s (opF_none _ _ _ h) 24 (Nat.le_refl _)
    exact ⟨atKey_of_not_has hm _, hm⟩
  | some n =>
    obtain ⟨h1, h2⟩ := op_word s n h
    have e : wordsL.getD n [] = s := by simpa [wordT] using h2
    rw [← e]
    exact wordsM_hit n (by omega)
theorem zeroOp (w : World) : (zeroValue 22).run Tryd.prog w = .ok (.int .u8 0) w := by kernel_rfl
set_option maxHeartbeats 1000000 in
set_option maxRecDepth 100000 in
theorem readw_any (s : ByteArray) (w : World) (hs : s.size ≤ 9223372036854775807) (hW : Wds w) :
    Calls Tryd.prog 25 #[.string s] w fun e w' => e = .returned (.tuple #[.int .u8 (opN s.data.toList), .bool (opO s.data.toList).isSome]) ∧ Below w.heap.size w w' := by
  have cO := fun w h => oper_any w h
  obtain ⟨l1, l2⟩ := wordsM_look s.data.toList
  rw [← l2]
  clear l2
  generalize opN s.data.toList = n at l1 ⊢
  generalize wordsM 24 = M at *
  go_enter Tryd.func25, Tryd.ntmps25
  go_wp2_with fail
  refine (cO _ hW).mono ?_
  rintro e W1 ⟨rfl, hown, hB⟩
  have hkey : keyOf Tryd.prog 9 (.string s) = some (.string s.data.toList) := WideMaps.keyOf_string_mk Tryd.underlying9 (by unfold maxLen; omega)
  go_wp2_with (at_lookup; refine wpList_lookup_own_ok_int _ rfl _ _ 64 rfl 9 22 .u8 lawS Tryd.underlying64 Tryd.underlying22 (zeroOp _) w.heap.size 24 _ rfl hown _ _ rfl hkey ?_; intro c hat hwc)
  go_ret2
  rw [l1] at hat
  injection hat with hat
  injection hat with _ hat
  subst hat
  exact ⟨rfl, hB⟩
end Go.Proofs.YteoappoacapdhaaDoor
