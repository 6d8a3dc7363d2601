/- The program's Find, Drop, Asid, Frame. -/
import Derived.Test.YtdmahmolhdbegaaPgTlbE
namespace Go.Proofs.Ytdmahmolhdbegaa.Tb
open Go.RowKit Go.Maps
set_option linter.unusedVariables false
set_option maxRecDepth 100000

def fdM (a p : Int) (L : List Mp) : Mp := match L.findIdx? (ofB a p) with | some k => (L[k]?).getD zM | none => zM
def fdB (a p : Int) (L : List Mp) : Bool := (L.findIdx? (ofB a p)).isSome
theorem b4 {W : World} {b : Nat} {x0 x1 x2 x3 : Value} {t : TypeId} (h : W.heap[b]? = some (.cells #[x0, x1, x2, x3] t)) : (W.cell? ⟨b, 0, none⟩ = some x0 ∧ W.cell? ⟨b, 1, none⟩ = some x1 ∧ W.cell? ⟨b, 2, none⟩ = some x2 ∧ W.cell? ⟨b, 3, none⟩ = some x3) ∧ (W.frozen? ⟨b, 0, none⟩ = false ∧ W.frozen? ⟨b, 1, none⟩ = false ∧ W.frozen? ⟨b, 2, none⟩ = false ∧ W.frozen? ⟨b, 3, none⟩ = false) :=
  ⟨⟨by rw [Lib.cell_of_heap h]; rfl, by rw [Lib.cell_of_heap h]; rfl, by rw [Lib.cell_of_heap h]; rfl, by rw [Lib.cell_of_heap h]; rfl⟩, Lib.frozen_of_heap h 0, Lib.frozen_of_heap h 1, Lib.frozen_of_heap h 2, Lib.frozen_of_heap h 3⟩
theorem below_set4 {w W : World} {b : Nat} (h : Below w.heap.size w W) (hb : w.heap.size ≤ b) (x0 x1 x2 x3 : Value) : Below w.heap.size w ((((W.setCell ⟨b, 0, none⟩ x0).setCell ⟨b, 1, none⟩ x1).setCell ⟨b, 2, none⟩ x2).setCell ⟨b, 3, none⟩ x3) :=
  (((h.setCell (p := ⟨b, 0, none⟩) hb _).setCell (p := ⟨b, 1, none⟩) hb _).setCell (p := ⟨b, 2, none⟩) hb _).setCell (p := ⟨b, 3, none⟩) hb _

set_option maxHeartbeats 2000000 in
theorem find_any (B tb : Nat) (v : Value) (L : List Mp) (a p : Int) (w : World) (h : Ob B 80 w tb v L) (hL : L.length ≤ 1000) :
    Calls Try.prog 26 #[.pointer (some ⟨tb, 0, none⟩), .int .u8 a, .int .u8 p] w fun e w' => e = .returned (.tuple #[mpV (fdM a p L), .bool (fdB a p L)]) ∧ Below w.heap.size w w' := by
  have hlt := h.lt
  have hw0 : Below w.heap.size w (w.alloc (.cells #[.int .u8 0, .int .u8 0, .int .u8 0, .bool false] 39)) := (Below.refl _ w).alloc (Nat.le_refl _) _
  have hcon := at_any B tb v L a p _ (h.below hw0) hL
  have hblk := heap_alloc_new w (.cells #[.int .u8 0, .int .u8 0, .int .u8 0, .bool false] 39)
  have HO : Hid (Ob B 80 w tb v L) := h
  clear h
  cases hk : L.findIdx? (ofB a p) with
  | none =>
    have e1 : idxI (ofB a p) L = -1 := by unfold idxI; rw [hk]
    have e2 : fdM a p L = zM := by unfold fdM; rw [hk]
    have e3 : fdB a p L = false := by unfold fdB; rw [hk]; rfl
    rw [e1] at hcon
    rw [e2, e3]
    clear e1 e2 e3 hk
    go_enter Try.func26, Try.ntmps26
    go_wp2_with fail
    refine hcon.mono ?_
    rintro e W1 ⟨rfl, hB1⟩
    have hb1 : Below w.heap.size w W1 := hw0.trans (hB1.mono hw0.size)
    obtain ⟨⟨r0, r1, r2, r3⟩, f0, f1, f2, f3⟩ := b4 ((hB1.block _ (by simp)).trans hblk)
    clear hblk hcon hw0 hB1
    go_wp2
    refine bodyPost_ret (v := .tuple #[.agg #[.int .u8 0, .int .u8 0, .int .u8 0, .bool false], .bool false]) (by simp [results, Try.results26, go_sem, r0, r1, r2, r3]) rfl ⟨rfl, ?_⟩
    exact below_set4 hb1 (Nat.le_refl _) _ _ _ _
  | some k =>
    obtain ⟨hkl, _, _⟩ := idx_some hk
    have e1 : idxI (ofB a p) L = (k : Int) := by unfold idxI; rw [hk]
    have e2 : fdM a p L = L[k] := by unfold fdM; rw [hk]; simp [List.getElem?_eq_getElem hkl]
    have e3 : fdB a p L = true := by unfold fdB; rw [hk]; rfl
    rw [e1] at hcon
    rw [e2, e3]
    clear e1 e2 e3 hk
    obtain ⟨g, cap, rfl, hBg, hR⟩ := own_row HO.out.row (by intro e; subst e; cases hkl)
    obtain ⟨c0, c1, c2, c3⟩ := hR.at k _ (List.getElem?_eq_getElem hkl)
    have hgl := hR.lt
    have hcell := HO.out.cell
    generalize L[k] = y at *
    obtain ⟨y0, y1, y2, y3⟩ := y
    simp only at c0 c1 c2 c3
    have hkz : (k : Int) < (L.length : Int) := by omega
    have hkn : ¬ (k : Int) < 0 := by omega
    clear hR
    go_enter Try.func26, Try.ntmps26
    go_wp2_with fail
    refine hcon.mono ?_
    rintro e W1 ⟨rfl, hB1⟩
    have hb1 : Below w.heap.size w W1 := hw0.trans (hB1.mono hw0.size)
    obtain ⟨⟨r0, r1, r2, r3⟩, f0, f1, f2, f3⟩ := b4 ((hB1.block _ (by simp)).trans hblk)
    rw [← hb1.cell (p := ⟨tb, 0, none⟩) hlt] at hcell
    rw [← hb1.cell (p := ⟨g, k * 4, none⟩) hgl] at c0
    rw [← hb1.cell (p := ⟨g, k * 4 + 1, none⟩) hgl] at c1
    rw [← hb1.cell (p := ⟨g, k * 4 + 2, none⟩) hgl] at c2
    rw [← hb1.cell (p := ⟨g, k * 4 + 3, none⟩) hgl] at c3
    clear hblk hcon hw0 hB1
    go_wp2
    refine bodyPost_ret (v := .tuple #[.agg #[.int .u8 y0, .int .u8 y1, .int .u8 y2, .bool y3], .bool true]) (by simp [results, Try.results26, go_sem, r0, r1, r2, r3]) rfl ⟨rfl, ?_⟩
    exact below_set4 hb1 (Nat.le_refl _) _ _ _ _
set_option maxHeartbeats 2000000 in
theorem asid_any (B tb : Nat) (v : Value) (L : List Mp) (a : Int) (w : World) (h : Ob B 80 w tb v L) (hL : L.length ≤ 1000) :
    Calls Try.prog 69 #[.pointer (some ⟨tb, 0, none⟩), .int .u8 a] w fun e w' => e = .returned (.int .i64 ((L.length : Int) - ((L.filter (fun x => !decide (x.1 = a))).length : Int))) ∧ ∃ v', Stp B 80 w w' tb v v' (L.filter (fun x => !decide (x.1 = a))) := by
  have hb : Below w.heap.size w (w.alloc (.cells #[.int .u8 a] 5)) := (Below.refl _ w).alloc (Nat.le_refl _) _
  have hcon := out_any 83 #[.pointer (some ⟨w.heap.size, 0, none⟩)] _ w.heap.size _ (asid_pred a w.heap.size) (enters_of Try.func83 (by kernel_rfl) rfl) B tb v L _ (h.below hb) hL (heap_alloc_new w _) (fun e => by have := (h.row.lt _ e).2; omega)
  clear h
  generalize hM : L.filter (fun x => !decide (x.1 = a)) = M at *
  clear hM
  go_enter Try.func69, Try.ntmps69
  go_wp2_with fail
  refine hcon.mono ?_
  rintro e W1 ⟨rfl, v', hS, _⟩
  have HS : Hid (Stp B 80 w W1 tb v v' M) := hS.pre hb
  clear hS hcon hb
  go_wp2
  go_ret
  exact ⟨rfl, _, HS.out⟩
set_option maxHeartbeats 2000000 in
theorem frame_any (B tb : Nat) (v : Value) (L : List Mp) (a : Int) (w : World) (h : Ob B 80 w tb v L) (hL : L.length ≤ 1000) :
    Calls Try.prog 15 #[.pointer (some ⟨tb, 0, none⟩), .int .u8 a] w fun e w' => e = .returned (.int .i64 ((L.length : Int) - ((L.filter (fun x => !decide (x.2.2.1 = a))).length : Int))) ∧ ∃ v', Stp B 80 w w' tb v v' (L.filter (fun x => !decide (x.2.2.1 = a))) := by
  have hb : Below w.heap.size w (w.alloc (.cells #[.int .u8 a] 5)) := (Below.refl _ w).alloc (Nat.le_refl _) _
  have hcon := out_any 32 #[.pointer (some ⟨w.heap.size, 0, none⟩)] _ w.heap.size _ (frame_pred a w.heap.size) (enters_of Try.func32 (by kernel_rfl) rfl) B tb v L _ (h.below hb) hL (heap_alloc_new w _) (fun e => by have := (h.row.lt _ e).2; omega)
  clear h
  generalize hM : L.filter (fun x => !decide (x.2.2.1 = a)) = M at *
  clear hM
  go_enter Try.func15, Try.ntmps15
  go_wp2_with fail
  refine hcon.mono ?_
  rintro e W1 ⟨rfl, v', hS, _⟩
  have HS : Hid (Stp B 80 w W1 tb v v' M) := hS.pre hb
  clear hS hcon hb
  go_wp2
  go_ret
  exact ⟨rfl, _, HS.out⟩
set_option maxHeartbeats 2000000 in
theorem drop_any (B tb : Nat) (v : Value) (L : List Mp) (a p : Int) (w : World) (h : Ob B 80 w tb v L) (hL : L.length ≤ 1000) :
    Calls Try.prog 67 #[.pointer (some ⟨tb, 0, none⟩), .int .u8 a, .int .u8 p] w fun e w' => e = .returned (.bool (fdB a p L)) ∧ ∃ v', Stp B 80 w w' tb v v' (L.filter (fun x => !ofB a p x)) := by
  have hb : Below w.heap.size w (w.alloc (.cells #[.int .u8 a, .int .u8 p, .int .u8 0, .bool false] 39)) := (Below.refl _ w).alloc (Nat.le_refl _) _
  have hcon := out_any 84 #[.pointer (some ⟨w.heap.size, 0, none⟩)] _ w.heap.size _ (of_pred a p w.heap.size) (enters_of Try.func84 (by kernel_rfl) rfl) B tb v L _ (h.below hb) hL (heap_alloc_new w _) (fun e => by have := (h.row.lt _ e).2; omega)
  have HE : Hid (decide (0 < (L.length : Int) - ((L.filter (fun x => !ofB a p x)).length : Int)) = fdB a p L) := by
    show _ = _
    unfold fdB
    cases hk : L.findIdx? (ofB a p) with
    | none =>
      rw [filter_none _ L (fun j hj => idx_none hk j hj)]
      simp
    | some k =>
      obtain ⟨hkl, h1, _⟩ := idx_some hk
      have : (L.filter (fun x => !ofB a p x)).length < L.length := by
        rw [List.length_filter_lt_length_iff_exists]
        exact ⟨L[k], List.getElem_mem hkl, by simp [h1]⟩
      show decide _ = true
      exact decide_eq_true (by omega)
  have cO := of_any a p w
  clear h
  generalize hM : L.filter (fun x => !ofB a p x) = M at *
  clear hM
  go_enter Try.func67, Try.ntmps67
  go_wp2_with fail
  refine cO.mono ?_
  rintro e W0 ⟨rfl, rfl⟩
  go_wp2_with fail
  refine hcon.mono ?_
  rintro e W1 ⟨rfl, v', hS, _⟩
  have HS : Hid (Stp B 80 w W1 tb v v' M) := hS.pre hb
  clear hS hcon hb cO
  go_wp2
  go_ret
  refine ⟨?_, _, HS.out⟩
  rw [← HE.out]
  simp
end Go.Proofs.Ytdmahmolhdbegaa.Tb
