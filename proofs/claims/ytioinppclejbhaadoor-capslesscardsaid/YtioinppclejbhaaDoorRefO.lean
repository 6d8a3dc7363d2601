/- The document's answers for names: how many labels, the name above, one below, what stands above what. -/
import Derived.Test.YtioinppclejbhaaDoorRefN
namespace Go.Proofs.YtioinppclejbhaaDoor
open Go.RowKit Go.Shelf
set_option linter.unusedVariables false

set_option maxHeartbeats 1000000 in
set_option maxRecDepth 100000 in
theorem rchild_any (s x : ByteArray) (w : World) (hs : s.size ≤ 1000) (hx : x.size ≤ 1000) (hT : NTabs w) :
    Calls Tryd.prog 75 #[.string s, .string x] w fun e W' => e = .returned (textV (childO s.data.toList x.data.toList)) ∧ Below w.heap.size w W' := by
  unfold childO
  have cL := fun w hT => rlabel_any x w (by omega) hT
  obtain ⟨i0, hi, hz0, hz1, hz2⟩ := info_parts infoS
  cases h : splitO s.data.toList with
  | some ls =>
    have cS := rsplit_some s w hs hT h
    have hq := splitO_some h
    have h6 := hq.1
    have hml : Hid (∀ y ∈ ls ++ [x.data.toList], y.length ≤ 1000) := fun y hy => by
      rcases List.mem_append.1 hy with hy | hy
      · have := hq.2.2 y hy; rw [Lib.size_eq] at hs; omega
      · simp at hy; subst hy; rw [Lib.size_eq] at hx; exact hx
    obtain ⟨o1, o2, hO⟩ : ∃ o1 o2, joinO (ls ++ [x.data.toList]) = (o1, o2) := ⟨_, _, rfl⟩
    have cJ : Hid (∀ v w, NTabs w → Row w v (ls ++ [x.data.toList]) → Calls Tryd.prog 79 #[v] w fun e w' => e = .returned (.tuple #[.string ⟨o1.toArray⟩, .int .i64 o2]) ∧ Below w.heap.size w w') := fun v w hT hr => by
      have := rjoin_any v _ w hr hml.out (by simp; omega) hT
      rw [hO] at this
      exact this
    simp only
    rw [hO]
    clear h hq hO
    cases hl : labB x with
    | false =>
      rw [hl] at cL
      rw [if_neg (by simp)]
      clear hl
      go_enter Tryd.func75, Tryd.ntmps75
      go_wp2_with fail
      refine cS.mono ?_
      rintro e W' ⟨a, cap, rfl, hown, hB⟩
      go_wp2_with fail
      refine (cL W' (hT.later hB)).mono ?_
      rintro e W2 ⟨rfl, hB2⟩
      go_wp2
      go_ret2
      exact ⟨rfl, hB.trans (hB2.mono hB.size)⟩
    | true =>
      rw [hl] at cL
      rw [if_pos rfl]
      clear hl
      go_enter Tryd.func75, Tryd.ntmps75
      go_wp2_with fail
      refine cS.mono ?_
      rintro e W' ⟨a, cap, rfl, hown, hB⟩
      go_wp2_with fail
      refine (cL W' (hT.later hB)).mono ?_
      rintro e W1 ⟨rfl, hB2⟩
      have hR0 := (Row.of_own hown).below hB2 (Nat.le_refl _)
      have hB1 : Below w.heap.size w W1 := hB.trans (hB2.mono hB.size)
      have hs1 := hB1.size
      have hnil : a = none → ls.length = 0 ∧ cap = 0 := fun ha => by
        rcases hown.2 with ⟨hv, h0⟩ | ⟨g, cap, cur, hv, _⟩
        · refine ⟨h0, ?_⟩
          injection hv
        · rw [ha] at hv; cases hv
      obtain ⟨a', cap', hv, hcp, hcells⟩ := hR0
      cases hv
      have HC : Hid (∀ j y, ls[j]? = some y → ∃ g off, a = some ⟨g, off, none⟩ ∧ W1.cell? ⟨g, off + j, none⟩ = some (strV y)) := hcells
      have HN : Hid (a = none → ls.length = 0 ∧ cap = 0) := hnil
      clear hown hcells hnil
      have hlit := World.ownsRow_lit (base := w.heap.size) (e := 9) (size := 1) W1 #[] 0 hs1 (by decide) rfl
      have hA0 : Below w.heap.size w (W1.alloc (.cells #[] 9)) := hB1.alloc hs1 _
      have hA1 : (W1.alloc (.cells #[] 9)).heap.size = W1.heap.size + 1 := by simp
      have fin : Hid (∀ (v1 v2 : Value) (w1 w2 : World), w1.ownsRow w.heap.size 9 1 v1 (0 + ls.length) (#[].toList ++ ls.map strV) → Below w.heap.size w w1 → w2.ownsRow w.heap.size 9 1 v2 (0 + ls.length + 1) ((#[].toList ++ ls.map strV) ++ [.string x]) → (w1.alloc (.cells #[.string x] 9)).grownBy w2 v1.ownBlock →
          Below w.heap.size w w2 ∧ Row w2 v2 (ls ++ [x.data.toList])) := by
        intro v1 v2 w1 w2 h1 hb1 h2 hg
        have hz := hb1.size
        refine ⟨(hb1.alloc hz _).grown hg (by simp; omega) (fun k hk => (h1.lt k hk).1), Row.of_own (base := w.heap.size) (n := 0 + ls.length + 1) ?_⟩
        have e : List.map strV (ls ++ [x.data.toList]) = (#[].toList ++ ls.map strV) ++ [.string x] := by simp [strV]
        rw [e]
        exact h2
      by_cases h0 : ls = []
      · subst h0
        have hna : a = none → cap = 0 := fun ha => (HN.out ha).2
        have HN2 : Hid (a = none → cap = 0) := hna
        clear hna HN HC
        go_wp2_with (at_builtin; first | (refine wpList_append_fits_any _ rfl _ _ 73 rfl w.heap.size 9 i0 1 Tryd.underlying73 hi hz1 W1.heap.size 0 0 _ rfl hlit a 0 cap [] rfl rfl (fun ha => ⟨rfl, HN2.out ha⟩) (fun ad _ j u hj => by cases hj) (by simp) (by decide) ?_; intro w1 hown1 hgrow1; have hb1 := hA0.grown hgrow1 (by omega) (fun k hk => by cases hk; omega); have hz1s := hb1.size) | (refine wpList_append_own _ rfl _ _ 73 rfl w.heap.size 9 i0 (.string ⟨#[]⟩) 1 16 Tryd.underlying73 hi hz0 hz1 hz2 rfl (by decide) _ _ _ rfl (hown1.alloc _) ⟨w1.heap.size, 0, none⟩ 1 1 [.string x] rfl rfl (cell_one_new _ _ _) (by simp [Value.oneCell']) (by unfold maxLen; omega) (by omega) (by simp; omega) ?_; intro v2 w2 hown2 hgrow2 _))
        obtain ⟨hBf, hRf⟩ := fin.out _ v2 w1 w2 hown1 hb1 hown2 hgrow2
        refine (cJ.out _ w2 (hT.later hBf) hRf).mono ?_
        rintro e W3 ⟨rfl, hB4⟩
        go_wp2
        go_ret2
        exact ⟨rfl, hBf.trans (hB4.mono hBf.size)⟩
      · have hp : 0 < ls.length := List.length_pos_iff.2 h0
        obtain ⟨g, off, ha, _⟩ := HC.out 0 _ (List.getElem?_eq_getElem hp)
        subst ha
        have hnews : Hid (∀ j u, (ls.map strV)[j]? = some u → (W1.alloc (.cells #[] 9)).cell? ((⟨g, off, none⟩ : Addr).add j) = some u) := by
          intro j u hj
          rw [List.getElem?_map] at hj
          obtain ⟨y, hy, rfl⟩ := Option.map_eq_some_iff.1 hj
          obtain ⟨g', off', e', hc'⟩ := HC.out j y hy
          cases e'
          have e2 : (⟨g, off, none⟩ : Addr).add j = ⟨g, off + j, none⟩ := by
            unfold Addr.add
            split
            · rename_i hj0; rw [hj0]; rfl
            · rfl
          rw [e2]
          have hlt : g < W1.heap.size := World.block_lt_of_cell? _ _ hc'
          exact (((Below.refl W1.heap.size W1).alloc (Nat.le_refl _) (.cells #[] 9)).cell (p := ⟨g, off + j, none⟩) hlt).trans hc'
        clear HC HN h0
        go_wp2_with (at_builtin; first | (refine wpList_append_own _ rfl _ _ 73 rfl w.heap.size 9 i0 (.string ⟨#[]⟩) 1 16 Tryd.underlying73 hi hz0 hz1 hz2 rfl (by decide) _ _ _ rfl hlit ⟨g, off, none⟩ ls.length cap (ls.map strV) rfl (by simp) hnews.out (by simp [Value.oneCell', strV]) (by unfold maxLen; omega) (by omega) (by omega) ?_; intro v1 w1 hown1 hgrow1 _; have hb1 := hA0.grown hgrow1 (by omega) (fun k hk => by cases hk; omega); have hz1s := hb1.size) | (refine wpList_append_own _ rfl _ _ 73 rfl w.heap.size 9 i0 (.string ⟨#[]⟩) 1 16 Tryd.underlying73 hi hz0 hz1 hz2 rfl (by decide) _ _ _ rfl (hown1.alloc _) ⟨w1.heap.size, 0, none⟩ 1 1 [.string x] rfl rfl (cell_one_new _ _ _) (by simp [Value.oneCell']) (by unfold maxLen; omega) (by omega) (by simp; omega) ?_; intro v2 w2 hown2 hgrow2 _))
        obtain ⟨hBf, hRf⟩ := fin.out v1 v2 w1 w2 hown1 hb1 hown2 hgrow2
        refine (cJ.out _ w2 (hT.later hBf) hRf).mono ?_
        rintro e W3 ⟨rfl, hB4⟩
        go_wp2
        go_ret2
        exact ⟨rfl, hBf.trans (hB4.mono hBf.size)⟩
  | none =>
    have cS := rsplit_none s w hs hT h
    clear h
    simp only
    go_enter Tryd.func75, Tryd.ntmps75
    go_wp2_with fail
    refine cS.mono ?_
    rintro e W' ⟨rfl, hB⟩
    go_wp2
    go_ret2
    exact ⟨rfl, hB⟩
end Go.Proofs.YtioinppclejbhaaDoor
