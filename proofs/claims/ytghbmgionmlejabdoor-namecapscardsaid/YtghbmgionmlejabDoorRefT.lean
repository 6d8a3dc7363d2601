/- The document's answer for what stands above two names. -/
import Derived.Test.YtghbmgionmlejabDoorRefR
namespace Go.Proofs.YtghbmgionmlejabDoor
open Go.RowKit Go.Shelf
set_option linter.unusedVariables false

set_option maxHeartbeats 4000000 in
set_option maxRecDepth 100000 in
theorem rcommon_any (s t : ByteArray) (w : World) (hs : s.size ≤ 1000) (ht : t.size ≤ 1000) (hT : NTabs w) :
    Calls Tryd.prog 32 #[.string s, .string t] w fun e W' => e = .returned (textV (commonO s.data.toList t.data.toList)) ∧ Below w.heap.size w W' := by
  unfold commonO
  cases h : splitO s.data.toList with
  | none =>
    have cS := rsplit_none s w hs hT h
    clear h
    simp only
    cases h : splitO t.data.toList with
    | none =>
      have cT := fun w hT => rsplit_none t w ht hT h
      clear h
      go_enter Tryd.func32, Tryd.ntmps32
      go_wp2_with fail
      refine cS.mono ?_
      rintro e W' ⟨rfl, hB⟩
      go_wp2_with fail
      refine (cT W' (hT.later hB)).mono ?_
      rintro e W2 ⟨rfl, hB2⟩
      go_wp2
      go_ret2
      exact ⟨rfl, hB.trans (hB2.mono hB.size)⟩
    | some ms =>
      have cT := fun w hT => rsplit_some t w ht hT h
      clear h
      go_enter Tryd.func32, Tryd.ntmps32
      go_wp2_with fail
      refine cS.mono ?_
      rintro e W' ⟨rfl, hB⟩
      go_wp2_with fail
      refine (cT W' (hT.later hB)).mono ?_
      rintro e W2 ⟨a2, cap2, rfl, hown2, hB2⟩
      go_wp2
      go_ret2
      exact ⟨rfl, hB.trans (hB2.mono hB.size)⟩
  | some ls =>
    have cS := rsplit_some s w hs hT h
    have hq := splitO_some h
    have h6 := hq.1
    clear h
    cases h : splitO t.data.toList with
    | none =>
      have cT := fun w hT => rsplit_none t w ht hT h
      clear h
      simp only
      go_enter Tryd.func32, Tryd.ntmps32
      go_wp2_with fail
      refine cS.mono ?_
      rintro e W' ⟨a, cap, rfl, hown, hB⟩
      go_wp2_with fail
      refine (cT W' (hT.later hB)).mono ?_
      rintro e W2 ⟨rfl, hB2⟩
      go_wp2
      go_ret2
      exact ⟨rfl, hB.trans (hB2.mono hB.size)⟩
    | some ms =>
      have cT := fun w hT => rsplit_some t w ht hT h
      have h6' := (splitO_some h).1
      clear h
      simp only
      obtain ⟨N, hN⟩ : ∃ N, alikeN ls ms = N := ⟨_, rfl⟩
      have hNl : N ≤ ls.length := hN ▸ (alikeN_le ls ms).1
      have HN : Hid (alikeN ls ms = N) := hN
      rw [hN]
      clear hN
      obtain ⟨o1, o2, hO⟩ : ∃ o1 o2, joinO (ls.take N) = (o1, o2) := ⟨_, _, rfl⟩
      have cJ : Hid (∀ v w, NTabs w → Row w v (ls.take N) → Calls Tryd.prog 30 #[v] w fun e w' => e = .returned (.tuple #[.string ⟨o1.toArray⟩, .int .i64 o2]) ∧ Below w.heap.size w w') := fun v w hT hr => by
        have := rjoin_any v _ w hr (fun x hx => by have := hq.2.2 x (List.mem_of_mem_take hx); rw [Lib.size_eq] at hs; omega) (by rw [List.length_take]; omega) hT
        rw [hO] at this
        exact this
      rw [hO]
      clear hO hq
      go_enter Tryd.func32, Tryd.ntmps32
      go_wp2_with fail
      refine cS.mono ?_
      rintro e W' ⟨a, cap, rfl, hown, hB⟩
      have hR1 := Row.of_own hown
      have hcap : ls.length ≤ cap := by obtain ⟨a', c', hv, hc, _⟩ := hR1; cases hv; exact hc
      go_wp2_with fail
      refine (cT W' (hT.later hB)).mono ?_
      rintro e W2 ⟨a2, cap2, rfl, hown2, hB2⟩
      have hR2 := Row.of_own hown2
      have hR1' := hR1.below hB2 (Nat.le_refl _)
      have hB3 := hB.trans (hB2.mono hB.size)
      have HR : Hid (Row W2 (.slice a ls.length cap) ls) := hR1'
      obtain ⟨_, _, hv1, hca, hcA⟩ := hR1'
      cases hv1
      obtain ⟨_, _, hv2, hcb, hcB⟩ := hR2
      cases hv2
      have HA : Hid (∀ j x, ls[j]? = some x → ∃ g off, a = some ⟨g, off, none⟩ ∧ W2.cell? ⟨g, off + j, none⟩ = some (strV x)) := hcA
      have HB : Hid (∀ j x, ms[j]? = some x → ∃ g off, a2 = some ⟨g, off, none⟩ ∧ W2.cell? ⟨g, off + j, none⟩ = some (strV x)) := hcB
      clear hcA hcB hR1 hown hown2 hB hB2
      have hTW := hT.later hB3
      have fin : Hid (∀ W3, Below W2.heap.size W2 W3 → NTabs W3 ∧ Row W3 (.slice a N cap) (ls.take N)) := fun W3 hb => ⟨hTW.later hb, (HR.out.below hb (Nat.le_refl _)).take N hNl⟩
      have hNc : (N : Int) ≤ (cap : Int) := by omega
      clear HR hTW
      go_wp2
      go_loopw [10] (fun i W => ∃ k : Nat, k ≤ ls.length ∧ k ≤ ms.length ∧ i = .int .i64 k ∧ alikeN (ls.drop k) (ms.drop k) + k = N ∧ Below W2.heap.size W2 W) (fun i _ => 1001 - (intOf i).toNat)
      case atStart => exact ⟨0, by omega, by omega, rfl, HN.out, Below.refl _ _⟩
      case round =>
        obtain ⟨k, hk, hk2, rfl, hal, hBw⟩ := hrel
        have HAL : Hid (alikeN (ls.drop k) (ms.drop k) + k = N) := hal
        clear hal
        have hend : Hid (∀ n, Below w.heap.size w (wr.drewN n) ∧ NTabs (wr.drewN n) ∧ Row (wr.drewN n) (.slice a N cap) (ls.take N)) := fun n => by
          have hb : Below W2.heap.size W2 (wr.drewN n) := Below.drewN hBw n
          exact ⟨hB3.trans (hb.mono hB3.size), fin.out _ hb⟩
        by_cases h1 : k < ls.length
        · have h1' : (k : Int) < (ls.length : Int) := by omega
          by_cases h2 : k < ms.length
          · have h2' : (k : Int) < (ms.length : Int) := by omega
            obtain ⟨g, off, rfl, hcell⟩ := HA.out k _ (List.getElem?_eq_getElem h1)
            obtain ⟨g2, off2, rfl, hcell2⟩ := HB.out k _ (List.getElem?_eq_getElem h2)
            have hg : g < W2.heap.size := World.block_lt_of_cell? _ _ hcell
            have hg2 : g2 < W2.heap.size := World.block_lt_of_cell? _ _ hcell2
            have hc1 : wr.cell? ⟨g, off + k, none⟩ = some (.string ⟨(ls[k]'h1).toArray⟩) := (hBw.cell (p := ⟨g, off + k, none⟩) hg).trans hcell
            have hc2 : wr.cell? ⟨g2, off2 + k, none⟩ = some (.string ⟨(ms[k]'h2).toArray⟩) := (hBw.cell (p := ⟨g2, off2 + k, none⟩) hg2).trans hcell2
            have hal := HAL.out
            rw [List.drop_eq_getElem_cons h1, List.drop_eq_getElem_cons h2] at hal
            clear hcell hcell2 HAL
            generalize ls[k]'h1 = x at *
            generalize ms[k]'h2 = y at *
            simp only [alikeN] at hal
            by_cases hxy : x = y
            · have hsb : (x == y) = true := beq_iff_eq.2 hxy
              rw [if_pos hxy] at hal
              have HL : Hid (alikeN (ls.drop (k + 1)) (ms.drop (k + 1)) + 1 + k = N) := hal
              clear hal hxy
              go_wp2
              go_quiet (fail)
              go_wp2
              go_roundw
              case rel => exact ⟨k + 1, by omega, by omega, by go_num, by have := HL.out; omega, Below.drewN hBw _⟩
              case measure => simp [intOf]; omega
            · have hsb : (x == y) = false := beq_eq_false_iff_ne.2 hxy
              rw [if_neg hxy] at hal
              obtain rfl : k = N := by omega
              clear hal hxy HN
              go_wp2
              go_quiet (fail)
              go_wp2_with fail
              obtain ⟨hb5, hT5, hR5⟩ := hend.out nq
              refine (cJ.out _ _ hT5 hR5).mono ?_
              rintro e W5 ⟨rfl, hB5⟩
              go_wp2
              go_ret2
              exact ⟨rfl, hb5.trans (hB5.mono hb5.size)⟩
          · have h2' : decide ((k : Int) < (ms.length : Int)) = false := decide_eq_false (by omega)
            have hN2 : k = N := by
              have hal := HAL.out
              rw [← hal, show ms.drop k = [] from List.drop_eq_nil_of_le (by omega)]
              cases ls.drop k <;> simp [alikeN]
            subst hN2
            clear HAL HN
            go_wp2
            go_quiet (fail)
            go_wp2_with fail
            obtain ⟨hb5, hT5, hR5⟩ := hend.out nq
            refine (cJ.out _ _ hT5 hR5).mono ?_
            rintro e W5 ⟨rfl, hB5⟩
            go_wp2
            go_ret2
            exact ⟨rfl, hb5.trans (hB5.mono hb5.size)⟩
        · have h1' : decide ((k : Int) < (ls.length : Int)) = false := decide_eq_false (by omega)
          have hN2 : k = N := by
            have hal := HAL.out
            rw [← hal, show ls.drop k = [] from List.drop_eq_nil_of_le (by omega)]
            simp [alikeN]
          subst hN2
          clear HAL HN
          go_wp2
          go_quiet (fail)
          go_wp2_with fail
          obtain ⟨hb5, hT5, hR5⟩ := hend.out nq
          refine (cJ.out _ _ hT5 hR5).mono ?_
          rintro e W5 ⟨rfl, hB5⟩
          go_wp2
          go_ret2
          exact ⟨rfl, hb5.trans (hB5.mono hb5.size)⟩
end Go.Proofs.YtghbmgionmlejabDoor
