/- The program's New, List, Fork, Protect, Translate. -/
import Derived.Test.YtdmahmolhdbegaaPgTlbG
namespace Go.Proofs.Ytdmahmolhdbegaa.Tb
open Go.RowKit Go.Maps
set_option linter.unusedVariables false
set_option maxRecDepth 100000

theorem new_any (w : World) : Calls Try.prog 8 #[] w fun e w' => e = .returned (.pointer (some ⟨w.heap.size, 0, none⟩)) ∧ Ob w.heap.size 80 w' w.heap.size (.slice none 0 0) [] ∧ Below w.heap.size w w' := by
  have hO : Hid (Ob w.heap.size 80 (w.alloc (.cells #[.slice none 0 0] 80)) w.heap.size (.slice none 0 0) []) := ⟨Nat.le_refl _, heap_alloc_new w _, World.ownsRow_nil _ _ _ _⟩
  go_enter Try.func8, Try.ntmps8
  go_wp2
  go_ret
  exact ⟨rfl, hO.out, (Below.refl _ w).alloc (Nat.le_refl _) _⟩
theorem rnew_any (w : World) : Calls Try.prog 47 #[] w fun e w' => e = .returned (.pointer (some ⟨w.heap.size, 0, none⟩)) ∧ Ob w.heap.size 108 w' w.heap.size (.slice none 0 0) [] ∧ Below w.heap.size w w' := by
  have hO : Hid (Ob w.heap.size 108 (w.alloc (.cells #[.slice none 0 0] 108)) w.heap.size (.slice none 0 0) []) := ⟨Nat.le_refl _, heap_alloc_new w _, World.ownsRow_nil _ _ _ _⟩
  go_enter Try.func47, Try.ntmps47
  go_wp2
  go_ret
  exact ⟨rfl, hO.out, (Below.refl _ w).alloc (Nat.le_refl _) _⟩
set_option maxHeartbeats 2000000 in
theorem list_any (B tb : Nat) (v : Value) (L : List Mp) (w : World) (h : Ob B 80 w tb v L) (hL : L.length ≤ 1000) :
    Calls Try.prog 22 #[.pointer (some ⟨tb, 0, none⟩)] w fun e w' => ∃ v', e = .returned v' ∧ w'.ownsRow w.heap.size 39 4 v' L.length (mpsCs L) ∧ Below w.heap.size w w' := by
  have hcon := clone_any B v L w h.row hL
  have hcell := h.cell
  clear h
  go_enter Try.func22, Try.ntmps22
  go_wp2_with fail
  refine hcon.mono ?_
  rintro e W1 ⟨v', rfl, hr, hB⟩
  have HR : Hid (W1.ownsRow w.heap.size 39 4 v' L.length (mpsCs L)) := hr
  clear hr hcon
  go_wp2
  go_ret
  exact ⟨v', rfl, HR.out, hB⟩
set_option maxHeartbeats 2000000 in
theorem rlist_any (B tb : Nat) (v : Value) (L : List Mp) (w : World) (h : Ob B 108 w tb v L) (hL : L.length ≤ 1000) :
    Calls Try.prog 23 #[.pointer (some ⟨tb, 0, none⟩)] w fun e w' => ∃ v', e = .returned v' ∧ w'.ownsRow w.heap.size 39 4 v' L.length (mpsCs L) ∧ Below w.heap.size w w' := by
  have hcell := h.cell
  have hlt := h.lt
  have hne : tb ≠ w.heap.size := by omega
  have hw0 : Below w.heap.size w (w.alloc (.cells #[] 39)) := (Below.refl _ w).alloc (Nat.le_refl _) _
  have HM : Hid (Mps (w.alloc (.cells #[] 39)) v L) := (Mps.of_own h.row).below hw0
  clear h
  go_enter Try.func23, Try.ntmps23
  go_wp2_with (at_builtin; refine wpList_app rfl _ _ rfl w.heap.size _ [] _ L rfl rfl (own_none w w.heap.size (Nat.le_refl _)) HM.out (by simp; omega) (by simp) ?_; intro v' w1 hown1 hgrow hat)
  go_ret
  refine ⟨_, rfl, hown1, hw0.grown hgrow hw0.size (fun k e => ?_)⟩
  have e' : w.heap.size = k := Option.some.inj e
  omega
theorem mpsCs_wr : ∀ (D : List Mp) (i : Nat) (b : Bool), i < D.length → mpsCs (D.modify i (fun m => (m.1, m.2.1, m.2.2.1, b))) = (mpsCs D).set (i * 4 + 3) (.bool b)
  | [], i, b, h => by cases h
  | x :: D, 0, b, h => by simp [mpsCs]
  | x :: D, i + 1, b, h => by
    have := mpsCs_wr D i b (by simpa using h)
    simp only [List.modify_succ_cons, mpsCs, this, show (i + 1) * 4 = i * 4 + 1 + 1 + 1 + 1 by omega]
    rfl
theorem RowC.wr {w : World} {g cap : Nat} {D : List Mp} (h : RowC w g cap D) (i : Nat) (b : Bool) (hi : i < D.length) : RowC (w.setCell ⟨g, i * 4 + 3, none⟩ (.bool b)) g cap (D.modify i (fun m => (m.1, m.2.1, m.2.2.1, b))) := by
  obtain ⟨cur, hb, h1, h2, h3, h4⟩ := h
  refine ⟨_, heap_set_here hb _, by simpa using h1, by simpa using h2, h3, ?_⟩
  rw [List.length_modify, mpsCs_wr D i b hi, ← h4]
  simp [List.take_set]
set_option maxHeartbeats 2000000 in
theorem protect_any (B tb : Nat) (v : Value) (L : List Mp) (a p : Int) (b : Bool) (w : World) (h : Ob B 80 w tb v L) (hL : L.length ≤ 1000) :
    Calls Try.prog 72 #[.pointer (some ⟨tb, 0, none⟩), .int .u8 a, .int .u8 p, .bool b] w fun e w' => e = .returned (.bool (fdB a p L)) ∧ ∃ v', Stp B 80 w w' tb v v' (wrL a p b L) := by
  have hlt := h.lt
  have hcon := at_any B tb v L a p w h hL
  have HO : Hid (Ob B 80 w tb v L) := h
  clear h
  cases hk : L.findIdx? (ofB a p) with
  | none =>
    have e1 : idxI (ofB a p) L = -1 := by unfold idxI; rw [hk]
    have e2 : wrL a p b L = L := by unfold wrL; rw [hk]
    have e3 : fdB a p L = false := by unfold fdB; rw [hk]; rfl
    rw [e1] at hcon
    rw [e2, e3]
    clear e1 e2 e3 hk
    go_enter Try.func72, Try.ntmps72
    go_wp2_with fail
    refine hcon.mono ?_
    rintro e W1 ⟨rfl, hB1⟩
    go_wp2
    go_ret
    exact ⟨rfl, v, HO.out.below hB1, Apart.of_below hB1, .inl rfl⟩
  | some k =>
    obtain ⟨hkl, _, _⟩ := idx_some hk
    have e1 : idxI (ofB a p) L = (k : Int) := by unfold idxI; rw [hk]
    have e2 : wrL a p b L = L.modify k (fun m => (m.1, m.2.1, m.2.2.1, b)) := by unfold wrL; rw [hk]
    have e3 : fdB a p L = true := by unfold fdB; rw [hk]; rfl
    rw [e1] at hcon
    rw [e2, e3]
    clear e1 e2 e3 hk
    obtain ⟨g, cap, rfl, hBg, hR⟩ := own_row HO.out.row (by intro e; subst e; cases hkl)
    have hcell := HO.out.cell
    have hgt := HO.out.ne tT g rfl
    have hkz : (k : Int) < (L.length : Int) := by omega
    have hkn : ¬ (k : Int) < 0 := by omega
    have HR : Hid (RowC w g cap L) := hR
    have hgl := hR.lt
    clear hR
    go_enter Try.func72, Try.ntmps72
    go_wp2_with fail
    refine hcon.mono ?_
    rintro e W1 ⟨rfl, hB1⟩
    have HR1 : Hid (RowC W1 g cap L) := HR.out.stay (hB1.block g hgl)
    obtain ⟨c0, c1, c2, c3⟩ := HR1.out.at k _ (List.getElem?_eq_getElem hkl)
    have f3 := HR1.out.thaw (k * 4 + 3)
    rw [← hB1.cell (p := ⟨tb, 0, none⟩) hlt] at hcell
    have hS : Hid (Stp B 80 w (W1.setCell ⟨g, k * 4 + 3, none⟩ (.bool b)) tb (.slice (some ⟨g, 0, none⟩) L.length cap) (.slice (some ⟨g, 0, none⟩) L.length cap) (L.modify k (fun m => (m.1, m.2.1, m.2.2.1, b)))) := by
      have hr := row_own (HR1.out.wr k b hkl) hBg
      rw [List.length_modify] at hr
      refine ⟨⟨HO.out.ge, ?_, by rw [List.length_modify]; exact hr⟩, (Apart.of_below hB1).then (Apart.set W1 ⟨g, k * 4 + 3, none⟩ (.bool b)) (fun i _ e => .inr (by rw [e]; rfl)), .inl rfl⟩
      rw [Below.heap_setCell _ _ _ _ (fun e => hgt e.symm), hB1.block tb hlt]
      exact HO.out.blk
    clear c0 c1 c2 hcon
    go_wp2
    go_ret
    exact ⟨rfl, _, hS.out⟩
end Go.Proofs.Ytdmahmolhdbegaa.Tb
