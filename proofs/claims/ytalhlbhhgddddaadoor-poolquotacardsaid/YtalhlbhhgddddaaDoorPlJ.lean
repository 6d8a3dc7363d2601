/- The program's pool: Events. -/
import Derived.Test.YtalhlbhhgddddaaDoorPlI
namespace Go.Proofs.YtalhlbhhgddddaaDoor
open Go.RowKit Go.Maps
set_option linter.unusedVariables false
set_option maxRecDepth 100000
theorem evCs_len (L : List Ev) : (evCs L).length = L.length * 3 := by
  induction L with
  | nil => rfl
  | cons x L ih =>
    show (evC x ++ evCs L).length = _
    rw [List.length_append, ih, List.length_cons]
    show 3 + _ = _
    omega
theorem evCs_one (L : List Ev) : ∀ y ∈ evCs L, y.oneCell' = true := by
  intro y hy
  obtain ⟨x, _, hx⟩ := List.mem_flatMap.1 hy
  simp only [evC, List.mem_cons, List.not_mem_nil, or_false] at hx
  rcases hx with rfl | rfl | rfl <;> rfl
/-- What became of frames, as a row that is read. -/
def EvR (w : World) (v : Value) (L : List Ev) : Prop := (v = .slice none 0 0 ∧ L = []) ∨ ∃ g cap, v = .slice (some ⟨g, 0, none⟩) L.length cap ∧ g < w.heap.size ∧ L.length ≤ cap ∧ ∀ j u, (evCs L)[j]? = some u → w.cell? ⟨g, j, none⟩ = some u
theorem EvR.of_own {B : Nat} {w : World} {v : Value} {L : List Ev} (h : w.ownsRow B 36 3 v L.length (evCs L)) : EvR w v L := by
  rcases h.2 with ⟨h1, h2⟩ | ⟨g, cap, cur, rfl, _, hb, hk, hm, _, htk⟩
  · exact .inl ⟨h1, List.eq_nil_of_length_eq_zero h2⟩
  · refine .inr ⟨g, cap, rfl, (Array.getElem?_eq_some_iff.1 hb).1, hk, fun j u hu => ?_⟩
    have hj : j < (evCs L).length := (List.getElem?_eq_some_iff.1 hu).1
    rw [evCs_len] at hj
    rw [← htk, List.getElem?_take, if_pos (by omega)] at hu
    rw [Lib.cell_of_heap hb]
    simpa using hu
theorem EvR.low {w w' : World} {v : Value} {L : List Ev} (h : EvR w v L) (k : Below w.heap.size w w') : EvR w' v L := by
  rcases h with h | ⟨g, cap, h1, h2, h3, h4⟩
  · exact .inl h
  · exact .inr ⟨g, cap, h1, Nat.lt_of_lt_of_le h2 k.size, h3, fun j u hu => (k.cell (p := ⟨g, j, none⟩) h2).trans (h4 j u hu)⟩
set_option maxHeartbeats 2000000 in
theorem clone_ev (v : Value) (L : List Ev) (w : World) (hR : EvR w v L) (hL : L.length ≤ 1000) : Calls Tryd.prog 39 #[v] w fun r w' => ∃ v', r = .returned v' ∧ w'.ownsRow w.heap.size 36 3 v' L.length (evCs L) ∧ Below w.heap.size w w' := by
  rcases hR with ⟨rfl, rfl⟩ | ⟨g, cap, rfl, h2, h3, h4⟩
  · have hq := fun w => Lib.run_eql_slice_nil (P := Tryd.prog) w 32 36 none 0 0 0 0 Tryd.underlying32
    go_enter Tryd.func39, Tryd.ntmps39
    go_wp2
    go_ret
    exact ⟨_, rfl, World.ownsRow_nil _ _ _ _, Below.refl _ _⟩
  · obtain ⟨i0, hi, hz0, hz1, hz2⟩ := info_parts infoE
    have hq := fun w => Lib.run_eql_slice_nil (P := Tryd.prog) w 32 36 (some ⟨g, 0, none⟩) L.length cap 0 0 Tryd.underlying32
    have hX := below_new w (.cells #[] 36)
    have hown : (w.alloc (.cells #[] 36)).ownsRow w.heap.size 36 3 (.slice (some ⟨w.heap.size, 0, none⟩) 0 0) 0 [] := World.ownsRow_made w #[] 0 (Nat.le_refl _) (by unfold maxLen; omega) rfl
    have hnw : ∀ j u, (evCs L)[j]? = some u → (w.alloc (.cells #[] 36)).cell? ((⟨g, 0, none⟩ : Addr).add j) = some u := fun j u hu => by
      have := (hX.cell (p := ⟨g, j, none⟩) h2).trans (h4 j u hu)
      have e : (⟨g, 0, none⟩ : Addr).add j = ⟨g, j, none⟩ := by
        by_cases hj : j = 0
        · subst hj; rfl
        · simp [Addr.add, hj]
      rw [e]
      exact this
    have HX := Hid3.mk hX
    have hlen := evCs_len L
    have hone := evCs_one L
    clear h4 hX
    generalize evCs L = XS at *
    generalize L.length = N at *
    go_enter Tryd.func39, Tryd.ntmps39
    go_wp2_with (at_builtin; refine wpList_append_own_at _ rfl _ _ 32 rfl w.heap.size 36 i0 (.agg #[.int .u8 0, .int .u8 0, .int .u8 0]) 3 3 Tryd.underlying32 hi hz0 hz1 hz2 rfl (by decide) _ _ _ rfl hown ⟨g, 0, none⟩ N cap XS rfl hlen hnw hone (by unfold maxLen; omega) (by omega) (by simp) ?_; intro v' w1 hown1 hgrow hk hat; have HO := Hid3.mk (And.intro hown1 hgrow); clear hown1 hgrow hat hk)
    go_ret
    have h5 := HO.out.1
    rw [Nat.zero_add, List.nil_append] at h5
    refine ⟨_, rfl, h5, HX.out.grown HO.out.2 HX.out.size (fun k e => ?_)⟩
    have e' : w.heap.size = k := Option.some.inj e
    omega
set_option maxHeartbeats 1000000 in
theorem events_any (B b fb n : Nat) (v : Value) (q : Ps) (w : World) (h : Pl B w b fb n v q) (hl : q.E.length ≤ 1000) : Calls Tryd.prog 12 #[.pointer (some ⟨b, 0, none⟩)] w fun r w' => ∃ v', r = .returned v' ∧ w'.ownsRow w.heap.size 36 3 v' q.E.length (evCs q.E) ∧ Below w.heap.size w w' := by
  have cC := clone_ev v q.E w (EvR.of_own h.e) hl
  have c7 := h.cells.2
  have hb := h.c.lt
  clear h
  go_enter Tryd.func12, Tryd.ntmps12
  go_wp2_with fail
  refine cC.mono ?_
  rintro r W ⟨v', rfl, h1, h2⟩
  have HH := Hid3.mk (And.intro h1 h2)
  clear cC h1 h2 c7
  go_wp2
  go_ret
  exact ⟨v', rfl, HH.out.1, HH.out.2⟩
end Go.Proofs.YtalhlbhhgddddaaDoor
