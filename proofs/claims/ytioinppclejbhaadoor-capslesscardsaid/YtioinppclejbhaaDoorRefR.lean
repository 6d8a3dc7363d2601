/- The document's answers for names: what stands above what, what stands above both; whether texts are the same. -/
import Derived.Test.YtioinppclejbhaaDoorRefO
namespace Go.Proofs.YtioinppclejbhaaDoor
open Go.RowKit Go.Shelf
set_option linter.unusedVariables false

set_option maxHeartbeats 4000000 in
set_option maxRecDepth 100000 in
theorem rabove_any (s t : ByteArray) (w : World) (hs : s.size ≤ 1000) (ht : t.size ≤ 1000) (hT : NTabs w) :
    Calls Tryd.prog 22 #[.string s, .string t] w fun e W' => e = .returned (.bool (aboveB s.data.toList t.data.toList)) ∧ Below w.heap.size w W' := by
  unfold aboveB
  cases h : splitO s.data.toList with
  | none =>
    have cS := rsplit_none s w hs hT h
    clear h
    simp only
    cases h : splitO t.data.toList with
    | none =>
      have cT := fun w hT => rsplit_none t w ht hT h
      clear h
      go_enter Tryd.func22, Tryd.ntmps22
      go_wp2_with fail
      refine cS.mono ?_
      rintro e W' ⟨rfl, hB⟩
      go_wp2_with fail
      refine (cT W' (hT.later hB)).mono ?_
      rintro e W2 ⟨rfl, hB2⟩
      go_wp2
      go_ret
      exact ⟨rfl, hB.trans (hB2.mono hB.size)⟩
    | some ms =>
      have cT := fun w hT => rsplit_some t w ht hT h
      clear h
      go_enter Tryd.func22, Tryd.ntmps22
      go_wp2_with fail
      refine cS.mono ?_
      rintro e W' ⟨rfl, hB⟩
      go_wp2_with fail
      refine (cT W' (hT.later hB)).mono ?_
      rintro e W2 ⟨a2, cap2, rfl, hown2, hB2⟩
      go_wp2
      go_ret
      exact ⟨rfl, hB.trans (hB2.mono hB.size)⟩
  | some ls =>
    have cS := rsplit_some s w hs hT h
    have h6 := (splitO_some h).1
    clear h
    cases h : splitO t.data.toList with
    | none =>
      have cT := fun w hT => rsplit_none t w ht hT h
      clear h
      simp only
      go_enter Tryd.func22, Tryd.ntmps22
      go_wp2_with fail
      refine cS.mono ?_
      rintro e W' ⟨a, cap, rfl, hown, hB⟩
      go_wp2_with fail
      refine (cT W' (hT.later hB)).mono ?_
      rintro e W2 ⟨rfl, hB2⟩
      go_wp2
      go_ret
      exact ⟨rfl, hB.trans (hB2.mono hB.size)⟩
    | some ms =>
      have cT := fun w hT => rsplit_some t w ht hT h
      have h6' := (splitO_some h).1
      clear h
      simp only
      obtain ⟨N, hN⟩ : ∃ N, alikeN ls ms = N := ⟨_, rfl⟩
      have hle := alikeN_le ls ms
      rw [hN] at hle ⊢
      obtain ⟨V, hV⟩ : ∃ V, decide (N = ls.length) = V := ⟨_, rfl⟩
      rw [hV]
      have HN : Hid (alikeN ls ms = N ∧ decide (N = ls.length) = V ∧ N ≤ ls.length ∧ N ≤ ms.length) := ⟨hN, hV, hle⟩
      clear hN hV hle
      go_enter Tryd.func22, Tryd.ntmps22
      go_wp2_with fail
      refine cS.mono ?_
      rintro e W' ⟨a, cap, rfl, hown, hB⟩
      have hR1 := Row.of_own hown
      go_wp2_with fail
      refine (cT W' (hT.later hB)).mono ?_
      rintro e W2 ⟨a2, cap2, rfl, hown2, hB2⟩
      have hR2 := Row.of_own hown2
      have hR1' := hR1.below hB2 (Nat.le_refl _)
      have hB3 := hB.trans (hB2.mono hB.size)
      obtain ⟨_, _, hv1, hca, hcA⟩ := hR1'
      cases hv1
      obtain ⟨_, _, hv2, hcb, hcB⟩ := hR2
      cases hv2
      have HA : Hid (∀ j x, ls[j]? = some x → ∃ g off, a = some ⟨g, off, none⟩ ∧ W2.cell? ⟨g, off + j, none⟩ = some (strV x)) := hcA
      have HB : Hid (∀ j x, ms[j]? = some x → ∃ g off, a2 = some ⟨g, off, none⟩ ∧ W2.cell? ⟨g, off + j, none⟩ = some (strV x)) := hcB
      clear hcA hcB hR1 hown hown2 hB hB2
      by_cases hgt : ms.length < ls.length
      · have hgt' : (ms.length : Int) < (ls.length : Int) := by omega
        have hV2 : V = false := by
          have := HN.out
          rw [← this.2.1]
          exact decide_eq_false (by omega)
        subst hV2
        clear HN HA HB
        go_wp2
        go_ret
        exact ⟨rfl, hB3⟩
      · have hgt' : ¬ (ms.length : Int) < (ls.length : Int) := by omega
        go_wp2
        go_loopw [9] (fun i W => ∃ k : Nat, k ≤ ls.length ∧ i = .int .i64 k ∧ alikeN (ls.drop k) (ms.drop k) + k = N ∧ Below W2.heap.size W2 W) (fun i _ => 1001 - (intOf i).toNat)
        case atStart => exact ⟨0, by omega, rfl, HN.out.1, Below.refl _ _⟩
        case round =>
          obtain ⟨k, hk, rfl, hal, hBw⟩ := hrel
          have hB4 := hB3.trans (hBw.mono hB3.size)
          have HAL : Hid (alikeN (ls.drop k) (ms.drop k) + k = N) := hal
          clear hal
          by_cases h1 : k < ls.length
          · have h1' : (k : Int) < (ls.length : Int) := by omega
            have h2 : k < ms.length := by omega
            have h2' : (k : Int) < (ms.length : Int) := by omega
            obtain ⟨g, off, rfl, hcell⟩ := HA.out k _ (List.getElem?_eq_getElem h1)
            obtain ⟨g2, off2, rfl, hcell2⟩ := HB.out k _ (List.getElem?_eq_getElem h2)
            have hg : g < W2.heap.size := World.block_lt_of_cell? _ _ hcell
            have hg2 : g2 < W2.heap.size := World.block_lt_of_cell? _ _ hcell2
            have hc1 : wr.cell? ⟨g, off + k, none⟩ = some (.string ⟨(ls[k]'h1).toArray⟩) := (hBw.cell (p := ⟨g, off + k, none⟩) hg).trans hcell
            have hc2 : wr.cell? ⟨g2, off2 + k, none⟩ = some (.string ⟨(ms[k]'h2).toArray⟩) := (hBw.cell (p := ⟨g2, off2 + k, none⟩) hg2).trans hcell2
            have hal := HAL.out
            rw [List.drop_eq_getElem_cons h1, List.drop_eq_getElem_cons h2] at hal
            clear hcell hcell2 HAL
            generalize ls[k]'h1 = x at *
            generalize ms[k]'h2 = y at *
            simp only [alikeN] at hal
            by_cases hxy : x = y
            · have hsb : (x == y) = true := beq_iff_eq.2 hxy
              rw [if_pos hxy] at hal
              have HL : Hid (alikeN (ls.drop (k + 1)) (ms.drop (k + 1)) + 1 + k = N) := hal
              clear hal hxy
              go_wp2
              go_quiet (fail)
              go_wp2
              go_roundw
              case rel => exact ⟨k + 1, by omega, by go_num, by have := HL.out; omega, Below.drewN hBw _⟩
              case measure => simp [intOf]; omega
            · have hsb : (x == y) = false := beq_eq_false_iff_ne.2 hxy
              rw [if_neg hxy] at hal
              have hV2 : V = false := by
                have := HN.out
                rw [← this.2.1]
                exact decide_eq_false (by omega)
              subst hV2
              clear hal hxy HN
              go_wp2
              go_quiet (fail)
              go_wp2
              go_ret
              exact ⟨rfl, Below.drewN hB4 _⟩
          · have h1' : ¬ (k : Int) < (ls.length : Int) := by omega
            have hV2 : V = true := by
              have := HN.out
              have hal := HAL.out
              rw [← this.2.1]
              exact decide_eq_true (by omega)
            subst hV2
            clear HN HAL
            go_wp2
            go_ret
            exact ⟨rfl, hB4⟩
end Go.Proofs.YtioinppclejbhaaDoor
