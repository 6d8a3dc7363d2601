/- The document's pool: note, gone, Quota, Free, Repossess. -/
import Derived.Test.YtalhlbhhgddddaaDoorPlU
namespace Go.Proofs.YtalhlbhhgddddaaDoor
open Go.RowKit Go.Maps
set_option linter.unusedVariables false
set_option maxRecDepth 100000
theorem Rl.ap (w : World) (b j : Nat) (u : Value) : Apart (fun k => k = b) w (w.setCell ⟨b, j, none⟩ u) := Apart.at (X := fun k => k = b) w b j u rfl
theorem set_ne {arr : Array Value} {i j : Nat} {u x : Value} (h : arr[i]? = some x) (hne : j ≠ i) : (arr.setIfInBounds j u)[i]? = some x := by rw [Array.getElem?_setIfInBounds_ne hne]; exact h
theorem set_eq {arr : Array Value} {j n : Nat} {u : Value} (hs : arr.size = n) (hj : j < n) : (arr.setIfInBounds j u)[j]? = some u := Array.getElem?_setIfInBounds_self_of_lt (by omega)
/-- Whether one has a frame is laid anew. -/
theorem Rl.bit {B : Nat} {w : World} {b : Nat} {v : Value} {q : Ps} (h : Rl B w b v q) (f e : Nat) (hf : f < 8) (he : e < 6) (x : Bool) (O' : Nat) (hO : O' < 64) (hb : ∀ i, i < 6 → O'.testBit i = if i = e then x else (q.O f).testBit i) : Rl B (w.setCell ⟨b, 129 + f * 6 + e, none⟩ (.bool x)) b v ⟨updN q.O f O', q.G, q.M, q.E⟩ := by
  obtain ⟨arr, h1, h2, h3, h4, h5, h6, h7⟩ := h.ex
  refine ⟨h.g, fun i hi => ?_, h.ev.stay (Rl.ap w b _ _) (fun i e1 e2 => h.nb (e2 ▸ e1)), h.gv, h.nb, arr.setIfInBounds (129 + f * 6 + e) (.bool x), heap_setCell_same _ _ _ _ _ _ h1, by simpa using h2, set_ne h3 (by omega), set_ne h4 (by omega), fun i hi => ?_, fun i hi j hj => ?_, fun j hj => ?_⟩
  · show updN q.O f O' i < 64
    unfold updN
    split
    · exact hO
    · exact h.o i hi
  · obtain ⟨a, c⟩ := h5 i hi
    exact ⟨set_ne a (by omega), set_ne c (by omega)⟩
  · show _ = some (Value.bool ((updN q.O f O' i).testBit j))
    unfold updN
    by_cases hif : i = f
    · subst hif
      rw [if_pos rfl, hb j hj]
      by_cases hje : j = e
      · subst hje
        rw [if_pos rfl]
        exact set_eq h2 (by omega)
      · rw [if_neg hje]
        exact set_ne (h6 i hi j hj) (by omega)
    · rw [if_neg hif]
      exact set_ne (h6 i hi j hj) (by omega)
  · obtain ⟨m, a, c⟩ := h7 j hj
    exact ⟨m, set_ne a (by omega), c⟩
/-- A guard is laid anew. -/
theorem Rl.grd {B : Nat} {w : World} {b : Nat} {v : Value} {q : Ps} (h : Rl B w b v q) (f : Nat) (hf : f < 8) (c : ByteArray × Int) : Rl B ((w.setCell ⟨b, 1 + f * 2, none⟩ (.string c.1)).setCell ⟨b, 1 + f * 2 + 1, none⟩ (.int .u8 c.2)) b v ⟨q.O, updN q.G f c, q.M, q.E⟩ := by
  obtain ⟨arr, h1, h2, h3, h4, h5, h6, h7⟩ := h.ex
  refine ⟨h.g, h.o, h.ev.stay ((Rl.ap w b _ _).trans (Rl.ap _ b _ _)) (fun i e1 e2 => h.nb (e2 ▸ e1)), h.gv, h.nb, (arr.setIfInBounds (1 + f * 2) (.string c.1)).setIfInBounds (1 + f * 2 + 1) (.int .u8 c.2), heap_setCell_same _ _ _ _ _ _ (heap_setCell_same _ _ _ _ _ _ h1), by simpa using h2, set_ne (set_ne h3 (by omega)) (by omega), set_ne (set_ne h4 (by omega)) (by omega), fun i hi => ?_, fun i hi j hj => set_ne (set_ne (h6 i hi j hj) (by omega)) (by omega), fun j hj => ?_⟩
  · obtain ⟨a, d⟩ := h5 i hi
    show _ = some (Value.string (updN q.G f c i).1) ∧ _ = some (Value.int .u8 (updN q.G f c i).2)
    unfold updN
    by_cases hif : i = f
    · subst hif
      rw [if_pos rfl]
      exact ⟨set_ne (set_eq h2 (by omega)) (by omega), set_eq (by simpa using h2) (by omega)⟩
    · rw [if_neg hif]
      exact ⟨set_ne (set_ne a (by omega)) (by omega), set_ne (set_ne d (by omega)) (by omega)⟩
  · obtain ⟨m, a, d⟩ := h7 j hj
    exact ⟨m, set_ne (set_ne a (by omega)) (by omega), d⟩
/-- How many one may have is laid anew. -/
theorem Rl.quo {B : Nat} {w : World} {b : Nat} {v : Value} {q : Ps} (h : Rl B w b v q) (e : Nat) (he : e < 6) (m : Int) : Rl B (w.setCell ⟨b, 513 + e, none⟩ (.int .i64 m)) b v ⟨q.O, q.G, upd q.M ⟨e, he⟩ m, q.E⟩ := by
  obtain ⟨arr, h1, h2, h3, h4, h5, h6, h7⟩ := h.ex
  refine ⟨h.g, h.o, h.ev.stay (Rl.ap w b _ _) (fun i e1 e2 => h.nb (e2 ▸ e1)), h.gv, h.nb, arr.setIfInBounds (513 + e) (.int .i64 m), heap_setCell_same _ _ _ _ _ _ h1, by simpa using h2, set_ne h3 (by omega), set_ne h4 (by omega), fun i hi => ?_, fun i hi j hj => set_ne (h6 i hi j hj) (by omega), fun j hj => ?_⟩
  · obtain ⟨a, c⟩ := h5 i hi
    exact ⟨set_ne a (by omega), set_ne c (by omega)⟩
  · by_cases hje : j = e
    · subst hje
      refine ⟨m, set_eq h2 (by omega), .inl ?_⟩
      unfold MN
      rw [dif_pos hj]
      exact upd_same q.M ⟨j, hj⟩ m
    · obtain ⟨m', a, c⟩ := h7 j hj
      refine ⟨m', set_ne a (by omega), ?_⟩
      have : MN ⟨q.O, q.G, upd q.M ⟨e, he⟩ m, q.E⟩ j = MN q j := by
        unfold MN
        rw [dif_pos hj, dif_pos hj]
        exact upd_other q.M ⟨e, he⟩ ⟨j, hj⟩ m (fun x => hje (by injection x))
      rw [this]
      exact c
/-- An event is noted. -/
theorem Rl.noted {B : Nat} {w w2 : World} {b : Nat} {v v2 : Value} {q : Ps} (x : Ev) (h : Rl B w b v q) (hB : B ≤ w.heap.size) (hbl : Below w.heap.size w w2) (hown : w2.ownsRow w.heap.size 36 3 v2 (q.E.length + 1) (evCs q.E ++ evC x)) : RStp B w (w2.setCell ⟨b, 519, none⟩ v2) b v { q with E := q.E ++ [x] } := by
  have hb := h.c.l
  obtain ⟨arr, h1, h2, h3, h4, h5, h6, h7⟩ := (h.low hbl).ex
  have hge : ∀ k, v2.ownBlock = some k → w.heap.size ≤ k := fun k e => own_ge hown e
  have hnb : v2.ownBlock ≠ some b := fun e => by have := hge b e; omega
  have hev : EvR w2 v2 (q.E ++ [x]) := by
    apply EvR.of_own (B := w.heap.size)
    rw [evCs_app, List.length_append]
    exact hown
  refine ⟨⟨v2, ⟨h.g, h.o, hev.stay (Rl.ap w2 b 519 v2) (fun i e1 e2 => hnb (e2 ▸ e1)), fun k e => Nat.le_trans hB (hge k e), hnb, arr.setIfInBounds 519 v2, heap_setCell_same _ _ _ _ _ _ h1, by simpa using h2, set_ne h3 (by omega), set_eq h2 (by omega), fun i hi => ?_, fun i hi j hj => set_ne (h6 i hi j hj) (by omega), fun j hj => ?_⟩, fun k e => .inr (hge k e)⟩, (Apart.of_below hbl).trans (Rl.ap w2 b 519 v2)⟩
  · obtain ⟨a, c⟩ := h5 i hi
    exact ⟨set_ne a (by omega), set_ne c (by omega)⟩
  · obtain ⟨m, a, c⟩ := h7 j hj
    exact ⟨m, set_ne a (by omega), c⟩
theorem ev_at {w w1 : World} {g : Nat} {L : List Ev} (h2 : g < w.heap.size) (h4 : ∀ j u, (evCs L)[j]? = some u → w.cell? ⟨g, j, none⟩ = some u) (hX : Below w.heap.size w w1) : ∀ j u, (evCs L)[j]? = some u → w1.cell? ((⟨g, 0, none⟩ : Addr).add j) = some u := fun j u hu => by
  have := (hX.cell (p := ⟨g, j, none⟩) h2).trans (h4 j u hu)
  have e : (⟨g, 0, none⟩ : Addr).add j = ⟨g, j, none⟩ := by
    by_cases hj : j = 0
    · subst hj; rfl
    · simp [Addr.add, hj]
  rw [e]
  exact this
theorem slice_of {w : World} {B t size n : Nat} {v : Value} {xs : List Value} (h : w.ownsRow B t size v n xs) : ∃ a cap, v = .slice a n cap := by
  rcases h.2 with ⟨hv0, hk0⟩ | ⟨g, cap, cur, hv0, _⟩
  · exact ⟨none, 0, by rw [hk0]; exact hv0⟩
  · exact ⟨_, _, hv0⟩
set_option maxHeartbeats 4000000 in
theorem rnote_any (B b : Nat) (v : Value) (q : Ps) (k e f : Int) (w : World) (h : Rl B w b v q) (hl : q.E.length ≤ 1000) (hB : B ≤ w.heap.size) : Calls Tryd.prog 67 #[.pointer (some ⟨b, 0, none⟩), .int .u8 k, .int .u8 e, .int .u8 f] w fun r w' => r = .returned (.tuple #[]) ∧ RStp B w w' b v { q with E := q.E ++ [(k, e, f)] } := by
  obtain ⟨i0, hi, hz0, hz1, hz2⟩ := info_parts1 infoE
  have cv := h.c.cv
  have hb := h.c.l
  have HP := Hid3.mk h
  have hX := below_new w (.cells #[] 36)
  have hown : (w.alloc (.cells #[] 36)).ownsRow w.heap.size 36 3 (.slice (some ⟨w.heap.size, 0, none⟩) 0 0) 0 [] := World.ownsRow_made w #[] 0 (Nat.le_refl _) (by unfold maxLen; omega) rfl
  have HX := Hid3.mk hX
  have HF : Hid3 (∀ v2 w2, Below w.heap.size w w2 → w2.ownsRow w.heap.size 36 3 v2 (q.E.length + 1) (evCs q.E ++ evC (k, e, f)) → RStp B w (w2.setCell ⟨b, 519, none⟩ v2) b v { q with E := q.E ++ [(k, e, f)] } ∧ w2.cell? ⟨b, 519, none⟩ = some v ∧ w2.frozen? ⟨b, 519, none⟩ = false ∧ b < w2.heap.size) := ⟨fun v2 w2 h1 h2 => by
    have hc := (HP.out.low h1).c
    exact ⟨HP.out.noted (k, e, f) hB h1 h2, hc.cv, hc.fz 519, hc.l⟩⟩
  rcases h.ev with ⟨hv, hE⟩ | ⟨g, cap, hv, h2, h3, h4⟩
  · subst hv
    rw [hE] at HF
    have hnw := new_ev (w.alloc (.cells #[] 36)) (k, e, f)
    rw [show (w.alloc (.cells #[] 36)).heap.size = w.heap.size + 1 by simp] at hnw
    simp only at hnw
    have HE := Hid3.mk hE
    clear h hX hE hl
    go_enter Tryd.func67, Tryd.ntmps67
    go_wp2_with (at_builtin; first
      | (refine wpList_append_own_none rfl _ _ 32 rfl w.heap.size 36 i0 3 Tryd.underlying32 hi (.slice (some ⟨w.heap.size, 0, none⟩) 0 0) 0 [] rfl hown rfl ?_)
      | (refine wpList_append_own_at _ rfl _ _ 32 rfl w.heap.size 36 i0 (.agg #[.int .u8 0, .int .u8 0, .int .u8 0]) 3 3 Tryd.underlying32 hi hz0 hz1 hz2 rfl (by decide) _ 0 [] rfl (hown.alloc _) ⟨w.heap.size + 1, 0, none⟩ 1 1 (evC (k, e, f)) rfl rfl hnw (by simp [evC, Value.oneCell']) (by unfold maxLen; omega) (by omega) (by simp; omega) ?_; intro v' w1 hown' hgrow _ hat; obtain ⟨hS, x7, xf, xb⟩ := HF.out v' w1 ((HX.out.alloc HX.out.size _).grown hgrow (by simp; omega) (fun j ej => by have e' : w.heap.size = j := Option.some.inj ej; omega)) hown'; have HS := Hid3.mk hS; obtain ⟨g', cap', rfl⟩ := ownsRow_succ hown'; clear hown' hgrow hat hS))
    go_end0
    exact ⟨rfl, by rw [HE.out]; exact HS.out⟩
  · subst hv
    have hnx := ev_at h2 h4 hX
    have hlen := evCs_len q.E
    have hone := evCs_one q.E
    clear h hX h4
    generalize evCs q.E = XS at *
    generalize q.E.length = N at *
    go_enter Tryd.func67, Tryd.ntmps67
    go_wp2_with (at_builtin; first
      | (refine wpList_append_own_at _ rfl _ _ 32 rfl w.heap.size 36 i0 (.agg #[.int .u8 0, .int .u8 0, .int .u8 0]) 3 3 Tryd.underlying32 hi hz0 hz1 hz2 rfl (by decide) (.slice (some ⟨w.heap.size, 0, none⟩) 0 0) 0 [] rfl hown ⟨g, 0, none⟩ N cap XS rfl hlen hnx hone (by unfold maxLen; omega) (by omega) (by simp) ?_; intro v1 W1 hown1 hgrow1 _ hat1; have HB1 := Hid3.mk (HX.out.grown hgrow1 HX.out.size (fun j ej => by have e' : w.heap.size = j := Option.some.inj ej; omega)); rw [Nat.zero_add, List.nil_append] at hown1; have hs1 := HB1.out.size; have hnw := new_ev W1 (k, e, f); simp only at hnw; obtain ⟨a1, cap1, hv1⟩ : ∃ a cap, v1 = .slice a N cap := slice_of hown1; subst hv1; clear hgrow1 hat1 hown hnx cv)
      | (refine wpList_append_own_at _ rfl _ _ 32 rfl w.heap.size 36 i0 (.agg #[.int .u8 0, .int .u8 0, .int .u8 0]) 3 3 Tryd.underlying32 hi hz0 hz1 hz2 rfl (by decide) _ N XS rfl (hown1.alloc _) ⟨W1.heap.size, 0, none⟩ 1 1 (evC (k, e, f)) rfl rfl hnw (by simp [evC, Value.oneCell']) (by unfold maxLen; omega) (by omega) (by simp; omega) ?_; intro v' w2 hown' hgrow _ hat; obtain ⟨hS, x7, xf, xb⟩ := HF.out v' w2 ((HB1.out.alloc HB1.out.size _).grown hgrow (by simp; omega) (fun j ej => (hown1.lt j ej).1)) hown'; have HS := Hid3.mk hS; obtain ⟨g', cap', rfl⟩ := ownsRow_succ hown'; clear hown' hgrow hat hS))
    go_end0
    exact ⟨rfl, HS.out⟩
end Go.Proofs.YtalhlbhhgddddaaDoor
