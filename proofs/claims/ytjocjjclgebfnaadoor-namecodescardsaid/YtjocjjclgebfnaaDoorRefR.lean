/- The document's answers for names: what stands above what, what stands above both; whether texts are the same. -/
import Derived.Test.YtjocjjclgebfnaaDoorRefO
namespace Go.Proofs.YtjocjjclgebfnaaDoor
open Go.RowKit Go.Shelf
set_option linter.unusedVariables false

set_option maxHeartbeats 4000000 in
set_option maxRecDepth 100000 in
theorem same_any (u v : Value) (xs ys : List (List UInt8)) (w : World) (ha : Row w u xs) (hb : Row w v ys) (la : xs.length ≤ 1000) (lb : ys.length ≤ 1000) :
    Calls Tryd.prog 10 #[u, v] w fun e w' => e = .returned (.bool (decide (xs = ys))) ∧ Below w.heap.size w w' := by
  obtain ⟨a, ca, rfl, hca, hcA⟩ := ha
  obtain ⟨b, cb, rfl, hcb, hcB⟩ := hb
  by_cases hl : xs.length = ys.length
  · have hl1 : ((xs.length : Int) != (ys.length : Int)) = false := by rw [hl]; simp
    have HA : Hid (∀ j x, xs[j]? = some x → ∃ g off, a = some ⟨g, off, none⟩ ∧ w.cell? ⟨g, off + j, none⟩ = some (strV x)) := hcA
    have HB : Hid (∀ j x, ys[j]? = some x → ∃ g off, b = some ⟨g, off, none⟩ ∧ w.cell? ⟨g, off + j, none⟩ = some (strV x)) := hcB
    obtain ⟨V, hV⟩ : ∃ V, decide (xs = ys) = V := ⟨_, rfl⟩
    rw [hV]
    have HV : Hid (decide (xs = ys) = V) := hV
    have HLn : Hid (xs.length = ys.length) := hl
    clear hcA hcB hV hl
    go_enter Tryd.func10, Tryd.ntmps10
    go_wp2
    go_loopw [5] (fun i W => ∃ k : Nat, k ≤ xs.length ∧ i = .int .i64 k ∧ xs.take k = ys.take k ∧ Below w.heap.size w W) (fun i _ => 1001 - (intOf i).toNat)
    case atStart => exact ⟨0, by omega, rfl, rfl, Below.refl _ _⟩
    case round =>
      obtain ⟨k, hk, rfl, htk, hB⟩ := hrel
      have HTk : Hid (xs.take k = ys.take k) := htk
      clear htk
      by_cases h1 : k < xs.length
      · have h1' : (k : Int) < (xs.length : Int) := by omega
        have h2 : k < ys.length := by have := HLn.out; omega
        have h2' : (k : Int) < (ys.length : Int) := by omega
        obtain ⟨g, off, rfl, hcell⟩ := HA.out k _ (List.getElem?_eq_getElem h1)
        obtain ⟨g2, off2, rfl, hcell2⟩ := HB.out k _ (List.getElem?_eq_getElem h2)
        have hg : g < w.heap.size := World.block_lt_of_cell? _ _ hcell
        have hg2 : g2 < w.heap.size := World.block_lt_of_cell? _ _ hcell2
        have hc1 : wr.cell? ⟨g, off + k, none⟩ = some (.string ⟨(xs[k]'h1).toArray⟩) := (hB.cell (p := ⟨g, off + k, none⟩) hg).trans hcell
        have hc2 : wr.cell? ⟨g2, off2 + k, none⟩ = some (.string ⟨(ys[k]'h2).toArray⟩) := (hB.cell (p := ⟨g2, off2 + k, none⟩) hg2).trans hcell2
        have HX : Hid (xs.take (k + 1) = xs.take k ++ [xs[k]'h1] ∧ ys.take (k + 1) = ys.take k ++ [ys[k]'h2]) := ⟨List.take_succ_eq_append_getElem h1, List.take_succ_eq_append_getElem h2⟩
        have HE : Hid (xs = ys → xs[k]'h1 = ys[k]'h2) := by
          intro e
          subst e
          rfl
        clear hcell hcell2
        generalize xs[k]'h1 = x at *
        generalize ys[k]'h2 = y at *
        by_cases hxy : x = y
        · have hsb : (x == y) = true := beq_iff_eq.2 hxy
          have HT2 : Hid (xs.take (k + 1) = ys.take (k + 1)) := by
            show _ = _
            rw [HX.out.1, HX.out.2, HTk.out, hxy]
          clear hxy HX HE
          go_wp2
          go_quiet (fail)
          go_wp2
          go_roundw
          case rel => exact ⟨k + 1, by omega, by go_num, HT2.out, Below.drewN hB _⟩
          case measure => simp [intOf]; omega
        · have hsb : (x == y) = false := beq_eq_false_iff_ne.2 hxy
          have hV2 : V = false := by
            rw [← HV.out]
            exact decide_eq_false fun e => hxy (HE.out e)
          subst hV2
          clear hxy HX HE HV
          go_wp2
          go_quiet (fail)
          go_wp2
          go_ret
          exact ⟨rfl, Below.drewN hB _⟩
      · have h1' : ¬ (k : Int) < (xs.length : Int) := by omega
        have hV2 : V = true := by
          rw [← HV.out]
          have h := HTk.out
          have hn := HLn.out
          rw [List.take_of_length_le (by omega), List.take_of_length_le (by omega)] at h
          exact decide_eq_true h
        subst hV2
        clear HV
        go_wp2
        go_ret
        exact ⟨rfl, hB⟩
  · rw [decide_eq_false (fun e => hl (by rw [e]))]
    have hl1 : ((xs.length : Int) != (ys.length : Int)) = true := by rw [bne_iff_ne]; omega
    clear hcA hcB
    go_enter Tryd.func10, Tryd.ntmps10
    go_wp2
    go_ret
    exact ⟨rfl, Below.refl _ _⟩

end Go.Proofs.YtjocjjclgebfnaaDoor
