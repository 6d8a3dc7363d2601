/- The document's answers for names: any text, any labels. -/
import Derived.Test.YtmepnnlmhlndmaaDoorRefM
import Derived.Deep.QuietTactic
import Derived.BigQuiet
namespace Go.Proofs.YtmepnnlmhlndmaaDoor
open Go.RowKit Go.Shelf
set_option linter.unusedVariables false

theorem rsplit_any (s : ByteArray) (w : World) (hs : s.size ≤ 1000) (hT : NTabs w) :
    Calls Tryd.prog 75 #[.string s] w fun e W' => ∃ v err, e = .returned (.tuple #[v, .int .i64 err]) ∧ SplitsTo w W' (splitO s.data.toList) v err ∧ Below w.heap.size w W' := by
  by_cases h1 : s.data.toList = [47]
  · obtain rfl : s = ⟨#[47]⟩ := by
      cases s with | mk d => simp at h1; rw [show d = #[47] from Array.toList_inj.1 h1]
    go_enter Tryd.func75, Tryd.ntmps75
    go_wp2
    go_ret2
    exact ⟨_, _, rfl, ⟨rfl, World.ownsRow_nil _ _ _ _⟩, Below.refl _ _⟩
  · have h1' : (s.toList == [47]) = false := by rw [beq_eq_false_iff_ne, Lib.toList_data]; exact h1
    by_cases h2 : s.data.toList.head? = some 47
    · by_cases h3 : s.size ≤ 200
      · refine (rsplit_in s w hT h1' h2 h3).mono ?_
        rintro e W' ⟨v, err, rfl, hS, hB⟩
        refine ⟨v, err, rfl, ?_, hB⟩
        unfold splitO
        rw [if_neg h1, if_neg (by simp [h2])]
        exact hS
      · have hO : splitO s.data.toList = none := by
          cases hc : splitO s.data.toList with
          | none => rfl
          | some ls => have := splitO_len hc; rw [← Lib.size_eq] at this; omega
        rw [hO]
        have hp : 0 < s.size := by omega
        have hb0 : s[0] = 47 := by
          have := drop_list s 0 hp
          rw [List.drop_zero] at this
          rw [this] at h2
          simpa using h2
        have he : (s.toList == []) = false := by
          rw [beq_eq_false_iff_ne, Lib.toList_data]
          intro e
          rw [Lib.size_eq, e] at hp
          simp at hp
        have hp' : (0 : Int) < (s.size : Int) := by omega
        have hl' : (200 : Int) < (s.size : Int) := by omega
        clear h2 hO
        go_enter Tryd.func75, Tryd.ntmps75
        go_wp2
        go_ret2
        exact ⟨_, _, rfl, ⟨rfl, rfl⟩, Below.refl _ _⟩
    · have hO : splitO s.data.toList = none := by
        unfold splitO
        rw [if_neg h1, if_pos h2]
      rw [hO]
      by_cases hp : 0 < s.size
      · have hb0 : s[0].toNat ≠ 47 := by
          intro e
          have e2 : s[0] = 47 := UInt8.toNat_inj.1 e
          have := drop_list s 0 hp
          rw [List.drop_zero] at this
          rw [this, e2] at h2
          simp at h2
        have hb1 : ((s[0].toNat : Int) != 47) = true := by rw [bne_iff_ne]; omega
        have he : (s.toList == []) = false := by
          rw [beq_eq_false_iff_ne, Lib.toList_data]
          intro e
          rw [Lib.size_eq, e] at hp
          simp at hp
        have hp' : (0 : Int) < (s.size : Int) := by omega
        clear h2 hO
        go_enter Tryd.func75, Tryd.ntmps75
        go_wp2
        go_ret2
        exact ⟨_, _, rfl, ⟨rfl, rfl⟩, Below.refl _ _⟩
      · obtain rfl : s = ⟨#[]⟩ := by
          have h0 : s.size = 0 := by omega
          cases s with | mk d => exact congrArg ByteArray.mk (Array.eq_empty_of_size_eq_zero h0)
        clear h2 hO
        go_enter Tryd.func75, Tryd.ntmps75
        go_wp2
        go_ret2
        exact ⟨_, _, rfl, ⟨rfl, rfl⟩, Below.refl _ _⟩
theorem rsplit_some (s : ByteArray) (w : World) (hs : s.size ≤ 1000) (hT : NTabs w) {ls : List (List UInt8)} (h : splitO s.data.toList = some ls) :
    Calls Tryd.prog 75 #[.string s] w fun e W' => ∃ a cap, e = .returned (.tuple #[.slice a ls.length cap, .int .i64 0]) ∧ W'.ownsRow w.heap.size 9 1 (.slice a ls.length cap) ls.length (ls.map strV) ∧ Below w.heap.size w W' := by
  refine (rsplit_any s w hs hT).mono ?_
  rintro e W' ⟨v, err, rfl, hS, hB⟩
  rw [h] at hS
  obtain ⟨rfl, hown⟩ := hS
  obtain ⟨a, cap, rfl⟩ : ∃ a cap, v = .slice a ls.length cap := by
    rcases hown.2 with ⟨hv, h0⟩ | ⟨g, cap, cur, hv, _⟩
    · exact ⟨none, 0, by rw [h0]; exact hv⟩
    · exact ⟨_, _, hv⟩
  exact ⟨a, cap, rfl, hown, hB⟩
theorem rsplit_none (s : ByteArray) (w : World) (hs : s.size ≤ 1000) (hT : NTabs w) (h : splitO s.data.toList = none) :
    Calls Tryd.prog 75 #[.string s] w fun e W' => e = .returned (.tuple #[.slice none 0 0, .int .i64 3]) ∧ Below w.heap.size w W' := by
  refine (rsplit_any s w hs hT).mono ?_
  rintro e W' ⟨v, err, rfl, hS, hB⟩
  rw [h] at hS
  obtain ⟨rfl, rfl⟩ := hS
  exact ⟨rfl, hB⟩

end Go.Proofs.YtmepnnlmhlndmaaDoor
