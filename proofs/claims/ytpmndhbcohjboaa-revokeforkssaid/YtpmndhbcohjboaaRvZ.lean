/- Both forks. -/
import Derived.Test.YtpmndhbcohjboaaLawRvE
import Derived.Shelf.SlMaps.Clone
namespace Go.Proofs.Ytpmndhbcohjboaa
open Go.RowKit Go.Maps
set_option linter.unusedVariables false
set_option maxRecDepth 100000
set_option maxHeartbeats 2000000 in
theorem clone_d (B : Nat) (v : Value) (n : Nat) (xs : List Value) (w : World) (hR : RowO w B 63 2 v n xs) (h1 : ∀ y ∈ xs, y.oneCell' = true) (hl : n ≤ 1000) : Calls Try.prog 40 #[v] w fun r w' => ∃ v', r = .returned v' ∧ RowO w' w.heap.size 63 2 v' n xs ∧ Below w.heap.size w w' := by
  obtain ⟨a, cap, rfl⟩ := hR.sl
  have hq := fun w => Lib.run_eql_slice_nil (P := Try.prog) w 56 63 a n cap 0 0 Try.underlying56
  cases a with
  | none =>
    rcases hR.form with ⟨i, rfl, rfl⟩ | ⟨_, _, _, i, _⟩
    · injection i with _ _ i
      subst i
      clear hR
      go_enter Try.func40, Try.ntmps40
      go_wp2
      go_ret
      exact ⟨_, rfl, RowO.nil _ _ _ _, Below.refl _ _⟩
    · cases i
  | some ad =>
    have hX := below_new w (.cells #[] 63)
    have HR := Hid3.mk (hR.below hX)
    have H0 := Hid3.mk (row_none w 63 2 w.heap.size (Nat.le_refl _))
    have HX := Hid3.mk hX
    clear hR hX
    go_enter Try.func40, Try.ntmps40
    go_wp2_with (at_builtin; refine wpList_appR rfl _ _ 56 63 2 appD rfl w.heap.size _ 0 [] rfl H0.out B _ n xs rfl HR.out h1 (by omega) HX.out.size ?_; intro v' W4 hown4 hgrow hat; have H4 := Hid3.mk (And.intro hown4 (below_grown (B := B) HX.out H0.out hgrow)); clear hown4 hgrow hat)
    go_ret
    have := H4.out.1
    rw [Nat.zero_add, List.nil_append] at this
    exact ⟨_, rfl, this, H4.out.2⟩
set_option maxHeartbeats 2000000 in
theorem clone_u (B : Nat) (v : Value) (n : Nat) (xs : List Value) (w : World) (hR : RowO w B 5 1 v n xs) (h1 : ∀ y ∈ xs, y.oneCell' = true) (hl : n ≤ 1000) : Calls Try.prog 42 #[v] w fun r w' => ∃ v', r = .returned v' ∧ RowO w' w.heap.size 5 1 v' n xs ∧ Below w.heap.size w w' := by
  obtain ⟨a, cap, rfl⟩ := hR.sl
  have hq := fun w => Lib.run_eql_slice_nil (P := Try.prog) w 54 5 a n cap 0 0 Try.underlying54
  cases a with
  | none =>
    rcases hR.form with ⟨i, rfl, rfl⟩ | ⟨_, _, _, i, _⟩
    · injection i with _ _ i
      subst i
      clear hR
      go_enter Try.func42, Try.ntmps42
      go_wp2
      go_ret
      exact ⟨_, rfl, RowO.nil _ _ _ _, Below.refl _ _⟩
    · cases i
  | some ad =>
    have hX := below_new w (.cells #[] 5)
    have HR := Hid3.mk (hR.below hX)
    have H0 := Hid3.mk (row_none w 5 1 w.heap.size (Nat.le_refl _))
    have HX := Hid3.mk hX
    clear hR hX
    go_enter Try.func42, Try.ntmps42
    go_wp2_with (at_builtin; refine wpList_appR rfl _ _ 54 5 1 appV rfl w.heap.size _ 0 [] rfl H0.out B _ n xs rfl HR.out h1 (by omega) HX.out.size ?_; intro v' W4 hown4 hgrow hat; have H4 := Hid3.mk (And.intro hown4 (below_grown (B := B) HX.out H0.out hgrow)); clear hown4 hgrow hat)
    go_ret
    have := H4.out.1
    rw [Nat.zero_add, List.nil_append] at this
    exact ⟨_, rfl, this, H4.out.2⟩
set_option maxHeartbeats 2000000 in
theorem mclone_any (r : Nat) (L : List Dm) (w : World) (h : Mq w r L) : Calls Try.prog 41 #[.map (some r)] w fun e w' => e = .returned (.map (some w.heap.size)) ∧ Mq w' w.heap.size L ∧ Below w.heap.size w w' := by
  obtain ⟨arr, c, h1, h2⟩ := h
  have hq := fun w => run_eql_map_nil_sl (P := Try.prog) w 57 _ _ (some r) Try.underlying57
  have HF : Hid3 (Mq (w.alloc (.map arr c)) w.heap.size L ∧ Below w.heap.size w (w.alloc (.map arr c))) := ⟨⟨arr, c, heap_alloc_new w _, h2⟩, below_new w _⟩
  go_enter Try.func41, Try.ntmps41
  go_wp2
  rw [run_callFunc_extern Try.func50 (by kernel_rfl) (by kernel_rfl) (by kernel_rfl) (e := Extern.MapsClone.clone) (by kernel_rfl), run_maps_clone_sl w 57 h1]
  simp only [Result.andThen]
  rw [Oper.upon_value]
  go_wp2
  rw [run_typeAssert_map_sl _ 57 20 _ _ _ Try.underlying57]
  simp only [Result.andThen]
  rw [Oper.upon_value]
  go_wp2
  go_ret
  exact ⟨rfl, HF.out⟩
set_option maxHeartbeats 2000000 in
theorem rfork_any (B b : Nat) (lv : Value) (ls : Fin 6 → Value) (q : Rs) (w : World) (h : Rk B w b lv ls q) : Calls Try.prog 21 #[.pointer (some ⟨b, 0, none⟩)] w fun e w' => e = .returned (.pointer (some ⟨w.heap.size, 0, none⟩)) ∧ Rk B w' w.heap.size lv ls q ∧ Below w.heap.size w w' := by
  have hX := below_new w (.cells (rCs lv ls).toArray 77)
  have hB : B ≤ w.heap.size := Nat.le_trans h.g (Nat.le_of_lt h.k.lt)
  have HF : Hid3 (Rk B (w.alloc (.cells (rCs lv ls).toArray 77)) w.heap.size lv ls q ∧ Below w.heap.size w (w.alloc (.cells (rCs lv ls).toArray 77))) := ⟨⟨hB, Cl.new w _ _, h.l.below hX, fun e => (h.v e).below hX⟩, hX⟩
  unfold rCs at HF
  have c0 := h.c.c0
  have c1 : w.cell? ⟨b, 1, none⟩ = some (ls 0) := h.c.cv 0
  have c2 : w.cell? ⟨b, 2, none⟩ = some (ls 1) := h.c.cv 1
  have c3 : w.cell? ⟨b, 3, none⟩ = some (ls 2) := h.c.cv 2
  have c4 : w.cell? ⟨b, 4, none⟩ = some (ls 3) := h.c.cv 3
  have c5 : w.cell? ⟨b, 5, none⟩ = some (ls 4) := h.c.cv 4
  have c6 : w.cell? ⟨b, 6, none⟩ = some (ls 5) := h.c.cv 5
  have hbl := h.c.l
  obtain ⟨al, kl, hl⟩ := h.l.sl
  obtain ⟨a0, k0, h0⟩ := (h.v 0).sl
  obtain ⟨a1, k1, h1⟩ := (h.v 1).sl
  obtain ⟨a2, k2, h2⟩ := (h.v 2).sl
  obtain ⟨a3, k3, h3⟩ := (h.v 3).sl
  obtain ⟨a4, k4, h4⟩ := (h.v 4).sl
  obtain ⟨a5, k5, h5⟩ := (h.v 5).sl
  rw [hl] at c0
  rw [h0] at c1
  rw [h1] at c2
  rw [h2] at c3
  rw [h3] at c4
  rw [h4] at c5
  rw [h5] at c6
  have HE : Hid3 ((w.alloc (.cells [lv, ls 0, ls 1, ls 2, ls 3, ls 4, ls 5].toArray 77)) = (w.alloc (.cells #[.slice al q.d.length kl, .slice a0 (q.v 0).length k0, .slice a1 (q.v 1).length k1, .slice a2 (q.v 2).length k2, .slice a3 (q.v 3).length k3, .slice a4 (q.v 4).length k4, .slice a5 (q.v 5).length k5] 77))) := ⟨by rw [hl, h0, h1, h2, h3, h4, h5]⟩
  clear h hX hl h0 h1 h2 h3 h4 h5
  go_enter Try.func21, Try.ntmps21
  go_wp2
  go_ret
  refine ⟨rfl, ?_⟩
  have := HF.out
  rw [HE.out] at this
  exact this
end Go.Proofs.Ytpmndhbcohjboaa
