/- The document's answers for names: any text, any labels. -/
import Derived.Test.YtioinppclejbhaaDoorRefM
import Derived.Deep.QuietTactic
import Derived.BigQuiet
namespace Go.Proofs.YtioinppclejbhaaDoor
open Go.RowKit Go.Shelf
set_option linter.unusedVariables false

theorem rsplit_any (s : ByteArray) (w : World) (hs : s.size ≤ 1000) (hT : NTabs w) :
    Calls Tryd.prog 49 #[.string s] w fun e W' => ∃ v err, e = .returned (.tuple #[v, .int .i64 err]) ∧ SplitsTo w W' (splitO s.data.toList) v err ∧ Below w.heap.size w W' := by
  by_cases h1 : s.data.toList = [47]
  · obtain rfl : s = ⟨#[47]⟩ := by
      cases s with | mk d => simp at h1; rw [show d = #[47] from Array.toList_inj.1 h1]
    go_enter Tryd.func49, Tryd.ntmps49
    go_wp2
    go_ret2
    exact ⟨_, _, rfl, ⟨rfl, World.ownsRow_nil _ _ _ _⟩, Below.refl _ _⟩
  · have h1' : (s.toList == [47]) = false := by rw [beq_eq_false_iff_ne, Lib.toList_data]; exact h1
    by_cases h2 : s.data.toList.head? = some 47
    · by_cases h3 : s.size ≤ 200
      · refine (rsplit_in s w hT h1' h2 h3).mono ?_
        rintro e W' ⟨v, err, rfl, hS, hB⟩
        refine ⟨v, err, rfl, ?_, hB⟩
        unfold splitO
        rw [if_neg h1, if_neg (by simp [h2])]
        exact hS
      · have hO : splitO s.data.toList = none := by
          cases hc : splitO s.data.toList with
          | none => rfl
          | some ls => have := splitO_len hc; rw [← Lib.size_eq] at this; omega
        rw [hO]
        have hp : 0 < s.size := by omega
        have hb0 : s[0] = 47 := by
          have := drop_list s 0 hp
          rw [List.drop_zero] at this
          rw [this] at h2
          simpa using h2
        have he : (s.toList == []) = false := by
          rw [beq_eq_false_iff_ne, Lib.toList_data]
          intro e
          rw [Lib.size_eq, e] at hp
          simp at hp
        have hp' : (0 : Int) < (s.size : Int) := by omega
        have hl' : (200 : Int) < (s.size : Int) := by omega
        clear h2 hO
        go_enter Tryd.func49, Tryd.ntmps49
        go_wp2
        go_ret2
        exact ⟨_, _, rfl, ⟨rfl, rfl⟩, Below.refl _ _⟩
    · have hO : splitO s.data.toList = none := by
        unfold splitO
        rw [if_neg h1, if_pos h2]
      rw [hO]
      by_cases hp : 0 < s.size
      · have hb0 : s[0].toNat ≠ 47 := by
          intro e
          have e2 : s[0] = 47 := UInt8.toNat_inj.1 e
          have := drop_list s 0 hp
          rw [List.drop_zero] at this
          rw [this, e2] at h2
          simp at h2
        have hb1 : ((s[0].toNat : Int) != 47) = true := by rw [bne_iff_ne]; omega
        have he : (s.toList == []) = false := by
          rw [beq_eq_false_iff_ne, Lib.toList_data]
          intro e
          rw [Lib.size_eq, e] at hp
          simp at hp
        have hp' : (0 : Int) < (s.size : Int) := by omega
        clear h2 hO
        go_enter Tryd.func49, Tryd.ntmps49
        go_wp2
        go_ret2
        exact ⟨_, _, rfl, ⟨rfl, rfl⟩, Below.refl _ _⟩
      · obtain rfl : s = ⟨#[]⟩ := by
          have h0 : s.size = 0 := by omega
          cases s with | mk d => exact congrArg ByteArray.mk (Array.eq_empty_of_size_eq_zero h0)
        clear h2 hO
        go_enter Tryd.func49, Tryd.ntmps49
        go_wp2
        go_ret2
        exact ⟨_, _, rfl, ⟨rfl, rfl⟩, Below.refl _ _⟩
theorem rsplit_some (s : ByteArray) (w : World) (hs : s.size ≤ 1000) (hT : NTabs w) {ls : List (List UInt8)} (h : splitO s.data.toList = some ls) :
    Calls Tryd.prog 49 #[.string s] w fun e W' => ∃ a cap, e = .returned (.tuple #[.slice a ls.length cap, .int .i64 0]) ∧ W'.ownsRow w.heap.size 9 1 (.slice a ls.length cap) ls.length (ls.map strV) ∧ Below w.heap.size w W' := by
  refine (rsplit_any s w hs hT).mono ?_
  rintro e W' ⟨v, err, rfl, hS, hB⟩
  rw [h] at hS
  obtain ⟨rfl, hown⟩ := hS
  obtain ⟨a, cap, rfl⟩ : ∃ a cap, v = .slice a ls.length cap := by
    rcases hown.2 with ⟨hv, h0⟩ | ⟨g, cap, cur, hv, _⟩
    · exact ⟨none, 0, by rw [h0]; exact hv⟩
    · exact ⟨_, _, hv⟩
  exact ⟨a, cap, rfl, hown, hB⟩
theorem rsplit_none (s : ByteArray) (w : World) (hs : s.size ≤ 1000) (hT : NTabs w) (h : splitO s.data.toList = none) :
    Calls Tryd.prog 49 #[.string s] w fun e W' => e = .returned (.tuple #[.slice none 0 0, .int .i64 3]) ∧ Below w.heap.size w W' := by
  refine (rsplit_any s w hs hT).mono ?_
  rintro e W' ⟨v, err, rfl, hS, hB⟩
  rw [h] at hS
  obtain ⟨rfl, rfl⟩ := hS
  exact ⟨rfl, hB⟩

set_option maxHeartbeats 2000000 in
set_option maxRecDepth 100000 in
theorem rjoin_any (v : Value) (ls : List (List UInt8)) (w : World) (hr : Row w v ls) (hm : ∀ x ∈ ls, x.length ≤ 1000) (hb : ls.length ≤ 1000) (hT : NTabs w) :
    Calls Tryd.prog 79 #[v] w fun e w' => e = .returned (textV (joinO ls)) ∧ Below w.heap.size w w' := by
  obtain ⟨O, hO⟩ : ∃ O, joinO ls = O := ⟨_, rfl⟩
  rw [hO]
  have HO : Hid (joinO ls = O) := hO
  clear hO
  obtain ⟨a, cap, rfl, hcap, hcells⟩ := hr
  by_cases h6 : 6 < ls.length
  · have hO : O = ([], 4) := by rw [← HO.out]; unfold joinO; rw [if_pos h6]
    subst hO
    have hb1 : (6 : Int) < (ls.length : Int) := by omega
    clear hcells hm HO
    go_enter Tryd.func79, Tryd.ntmps79
    go_wp2
    go_ret2
    exact ⟨rfl, Below.refl _ _⟩
  · have hb1 : ¬ (6 : Int) < (ls.length : Int) := by omega
    have hm' : Hid (∀ x ∈ ls, x.length ≤ 1000) := hm
    have hc' : Hid (∀ j x, ls[j]? = some x → ∃ g off, a = some ⟨g, off, none⟩ ∧ w.cell? ⟨g, off + j, none⟩ = some (strV x)) := hcells
    clear hm hcells
    go_enter Tryd.func79, Tryd.ntmps79
    go_wp2
    go_loopw [4, 5] (fun t i W => ∃ k : Nat, k ≤ ls.length ∧ i = .int .i64 k ∧ t = .string ⟨(joinL (ls.take k)).toArray⟩ ∧ Below w.heap.size w W ∧ ∀ x ∈ ls.take k, labB ⟨x.toArray⟩ = true) (fun _ i _ => 6 - (intOf i).toNat)
    case atStart => exact ⟨0, by omega, rfl, rfl, Below.refl _ _, by simp⟩
    case round =>
      obtain ⟨k, hk, rfl, rfl, hB, hgood⟩ := hrel
      have hG : Hid (∀ x ∈ ls.take k, labB ⟨x.toArray⟩ = true) := hgood
      clear hgood
      by_cases hlt : k < ls.length
      · have hlt' : (k : Int) < (ls.length : Int) := by omega
        obtain ⟨g, off, rfl, hcell⟩ := hc'.out k _ (List.getElem?_eq_getElem hlt)
        have hg : g < w.heap.size := World.block_lt_of_cell? _ _ hcell
        have hcell' : wr.cell? ⟨g, off + k, none⟩ = some (.string ⟨(ls[k]'hlt).toArray⟩) := (hB.cell (p := ⟨g, off + k, none⟩) hg).trans hcell
        have hxs : (ls[k]'hlt).length ≤ 1000 := hm'.out _ (List.getElem_mem hlt)
        have hjl := joinL_len (ls.take k) 1000 (fun x hx => hm'.out x (List.mem_of_mem_take hx))
        have htl : (ls.take k).length = k := by rw [List.length_take]; omega
        rw [htl] at hjl
        have HT : Hid (ls.take (k + 1) = ls.take k ++ [ls[k]'hlt]) := List.take_succ_eq_append_getElem hlt
        have HX : Hid ((ls[k]'hlt) ∈ ls) := List.getElem_mem hlt
        clear hcell
        generalize ls[k]'hlt = x at *
        have hwsz := hB.size
        have cL := rlabel_any ⟨x.toArray⟩ wr (by show x.length ≤ _; omega) (hT.later hB)
        cases hlb : labB ⟨x.toArray⟩ with
        | false =>
          rw [hlb] at cL
          have hO2 : O = ([], 3) := by
            rw [← HO.out]
            unfold joinO
            rw [if_neg h6, if_neg (by intro e; rw [e] at hlt; simp at hlt), if_neg]
            intro hh
            rw [List.all_eq_true] at hh
            have := hh x HX.out
            rw [hlb] at this
            cases this
          subst hO2
          clear hlb HO
          go_wp2_with fail
          refine cL.mono ?_
          rintro e W3 ⟨rfl, hB3⟩
          go_wp2
          go_ret2
          exact ⟨rfl, hB.trans (hB3.mono hwsz)⟩
        | true =>
          rw [hlb] at cL
          have HL : Hid (labB ⟨x.toArray⟩ = true) := hlb
          clear hlb
          have HJ : Hid (joinL (ls.take (k + 1)) = joinL (ls.take k) ++ (47 :: x)) := by
            show _ = _
            rw [HT.out, joinL_snoc]
            simp
          generalize joinL (ls.take k) = J at *
          have hs1 : ¬ 9223372036854775807 < 1 + x.length := by omega
          have hs2 : ¬ 9223372036854775807 < J.length + (1 + x.length) := by omega
          go_wp2_with fail
          refine cL.mono ?_
          rintro e W3 ⟨rfl, hB3⟩
          have hcell3 := (hB3.cell (p := ⟨g, off + k, none⟩) (by show g < _; omega)).trans hcell'
          clear hcell'
          go_wp2
          go_roundw
          case rel =>
            refine ⟨k + 1, by omega, by go_num, ?_, hB.trans (hB3.mono hwsz), ?_⟩
            · rw [HJ.out]
              congr 1
            · rw [HT.out]
              intro y hy
              rcases List.mem_append.1 hy with hy | hy
              · exact hG.out y hy
              · simp at hy; subst hy; exact HL.out
          case measure => simp [intOf]; omega
      · have hlt' : ¬ (k : Int) < (ls.length : Int) := by omega
        obtain rfl : k = ls.length := by omega
        rw [List.take_length]
        have hall : ls.all (fun x => labB ⟨x.toArray⟩) = true := by
          have := hG.out
          rw [List.take_length] at this
          rw [List.all_eq_true]
          exact this
        by_cases h0 : ls = []
        · subst h0
          have hO : O = ([47], 0) := by rw [← HO.out]; rfl
          subst hO
          have hj : joinL [] = [] := rfl
          rw [hj]
          clear HO hall hG
          go_wp2
          go_ret2
          exact ⟨rfl, hB⟩
        · have hO : O = (joinL ls, 0) := by
            rw [← HO.out]
            unfold joinO
            rw [if_neg h6, if_neg h0, if_pos hall]
          subst hO
          have hne : ((⟨(joinL ls).toArray⟩ : ByteArray).toList == []) = false := by
            rw [beq_eq_false_iff_ne, Lib.toList_data]
            cases ls with
            | nil => exact absurd rfl h0
            | cons y z => simp [joinL]
          have hne2 : (joinL ls == []) = false := by
            rw [beq_eq_false_iff_ne]
            cases ls with
            | nil => exact absurd rfl h0
            | cons y z => simp [joinL]
          clear HO hall hG
          generalize hJ : joinL ls = J at *
          go_wp2
          go_ret2
          exact ⟨rfl, hB⟩
end Go.Proofs.YtioinppclejbhaaDoor
