/- vm: the document's Copy. -/
import Derived.Test.YtfmcoibpbcheiaaVmYd
import Derived.Test.YtfmcoibpbcheiaaVrX
namespace Go.Proofs.Ytfmcoibpbcheiaa
open Go.RowKit Go.Maps
set_option linter.unusedVariables false
set_option maxRecDepth 100000
theorem own_nil8 (w : World) (B : Nat) (hB : B ≤ w.heap.size) : (w.alloc (.cells #[] 5)).ownsRow B 5 1 (.slice (some ⟨w.heap.size, 0, none⟩) 0 0) 0 [] :=
  ⟨rfl, .inr ⟨w.heap.size, 0, #[], rfl, hB, heap_alloc_last w _, Nat.le_refl _, Nat.zero_le _, rfl, rfl⟩⟩
theorem map_one (xs : List Int) : ∀ v ∈ xs.map (Value.int .u8), v.oneCell' = true := mids' xs
theorem own_pos {w : World} {B n : Nat} {t : TypeId} {v : Value} {xs : List Value} (h : w.ownsRow B t 1 v n xs) (hn : 0 < n) : ∃ g cap, v = .slice (some ⟨g, 0, none⟩) n cap := by
  rcases h.2 with ⟨_, h0⟩ | ⟨g, cap, cur, e, _⟩
  · omega
  · exact ⟨g, cap, e⟩
set_option maxHeartbeats 2000000 in
theorem rmfork_any (rb g K : Nat) (L : List Int) (w : World) (h : RMem w rb g K L) (hK : 0 < K) : Calls Try.prog 45 #[.pointer (some ⟨rb, 0, none⟩)] w fun e w' => (∃ rb2 g2, e = .returned (.pointer (some ⟨rb2, 0, none⟩)) ∧ RMem w' rb2 g2 K L ∧ w.heap.size ≤ rb2 ∧ w.heap.size ≤ g2) ∧ Below w.heap.size w w' := by
  have hh := h.hi
  have hl := h.len
  obtain ⟨C, hC, hc⟩ := h.c
  have hcell : Hid3 (∀ W, Below w.heap.size w W → ∀ j v, ((L.take K).map (Value.int .u8))[j]? = some v → W.cell? ((⟨g, 0, none⟩ : Addr).add j) = some v) := ⟨fun W hW j v hj => by
    rw [List.getElem?_map] at hj
    cases hx : (L.take K)[j]? with
    | none => rw [hx] at hj; cases hj
    | some x =>
      rw [hx] at hj
      cases hj
      have hj2 : j < K := by have := (List.getElem?_eq_some_iff.1 hx).1; rw [List.length_take] at this; omega
      have hb := h.byte j hj2
      rw [Addr.add_mid, Nat.zero_add, World.cell?_of_block (w := w) (hW.block g (World.block_lt_of_cell? w _ hb)), hb]
      rw [List.getElem?_take, if_pos hj2] at hx
      rw [List.getD_eq_getElem?_getD, hx]
      rfl⟩
  have hrl := h.lt
  have HL : Hid3 ((L.take K).length = K) := ⟨by rw [List.length_take]; omega⟩
  have HLL : Hid3 (L.length = 2048) := ⟨hl⟩
  obtain ⟨M, hM⟩ : ∃ M, M = L.take K := ⟨_, rfl⟩
  rw [← hM] at HL hcell
  have HM : Hid3 (M = L.take K) := ⟨hM⟩
  obtain ⟨i0, hi0, hz0, hz1, hz2⟩ := info_parts infoU8
  have hwa : Below w.heap.size w (w.alloc (.cells #[] 5)) := (Below.refl _ w).alloc (Nat.le_refl _) _
  have hcA := hcell.out _ hwa
  have HB : Hid3 (Below w.heap.size w (w.alloc (.cells #[] 5))) := ⟨hwa⟩
  have hown := own_nil8 w w.heap.size (Nat.le_refl _)
  clear hM hl h hwa
  go_enter Try.func45, Try.ntmps45
  go_wp2_with (at_builtin; refine wpList_append_own _ rfl _ _ 34 rfl w.heap.size 5 i0 (.int .u8 0) 1 1 Try.underlying34 hi0 hz0 hz1 hz2 rfl (by decide) _ _ _ rfl hown ⟨g, 0, none⟩ K C (M.map (Value.int .u8)) rfl (by rw [List.length_map, Nat.mul_one]; exact HL.out) hcA (by exact map_one M) (by unfold maxLen; omega) (by omega) (by simp) ?_; intro v' w1 hown' hgrow _; obtain ⟨g3, cap3, rfl⟩ := own_pos hown' (by omega))
  have hb3 : Below w.heap.size w w1 := HB.out.grown hgrow (by simp) (fun j hj => (hown.lt j hj).1)
  go_ret
  rcases hown'.2 with ⟨h0, _⟩ | ⟨g2, cap, cur, ev, hg, hblk, hk, _, hsz, htk⟩
  · cases h0
  · injection ev with ev1 ev2 ev3
    injection ev1 with ev1
    injection ev1 with ev1
    subst ev1 ev3
    have hg2 : g3 < w1.heap.size := (Array.getElem?_eq_some_iff.1 hblk).1
    refine ⟨⟨_, g3, rfl, ⟨⟨cap3, by omega, ?_⟩, ⟨cur.toList.drop K, ?_⟩, HLL.out, by omega, hh⟩, hb3.size, hg⟩, hb3.alloc hb3.size _⟩
    · exact heap_alloc_last _ _
    · rw [Lib.alloc_old _ _ _ hg2, hblk, ← HM.out]
      rw [Nat.zero_add, Nat.mul_one, List.nil_append] at htk
      rw [← htk, List.take_append_drop, Array.toArray_toList]
theorem pgl_one {P : List Value} {pg : Fin 6 → Int → Option Int} (h : Pgl P pg) : ∀ v ∈ P, v.oneCell' = true := fun v hv => by
  obtain ⟨hl, hP⟩ := h
  obtain ⟨j, hj, rfl⟩ := List.mem_iff_getElem.1 hv
  obtain ⟨a, b⟩ := hP ⟨j / 32, by omega⟩ (j % 32 / 2) (by omega)
  simp only at a b
  by_cases c : j % 2 = 0
  · rw [show j / 32 * 32 + j % 32 / 2 * 2 = j by omega, List.getElem?_eq_getElem hj] at a
    injection a with a
    rw [a]
    rfl
  · rw [show j / 32 * 32 + j % 32 / 2 * 2 + 1 = j by omega, List.getElem?_eq_getElem hj] at b
    injection b with b
    rw [b]
    rfl
theorem rcs_len2 (m : Nat) (h : Fin 6 → Bool) {P : List Value} (cp : Int) (hP : P.length = 192) : (rcs m h P cp).length = 200 := by
  simp [rcs, hsL, hP]
theorem rcs_one (m : Nat) (h : Fin 6 → Bool) {P : List Value} {pg : Fin 6 → Int → Option Int} (cp : Int) (hP : Pgl P pg) : ∀ v ∈ rcs m h P cp, v.oneCell' = true := fun v hv => by
  unfold rcs at hv
  rcases List.mem_cons.1 hv with rfl | hv
  · rfl
  · rcases List.mem_append.1 hv with hv | hv
    · simp only [hsL, List.mem_cons, List.not_mem_nil, or_false] at hv
      rcases hv with rfl | rfl | rfl | rfl | rfl | rfl <;> rfl
    · rcases List.mem_append.1 hv with hv | hv
      · exact pgl_one hP v hv
      · simp only [List.mem_cons, List.not_mem_nil, or_false] at hv
        subst hv
        rfl
def rvZ : List Value := .pointer none :: (hsL (fun _ => false) ++ (pg0 96 ++ [.int .i64 0]))
theorem rv_zero : (Try.prog.info? 79).map (fun i => i.zero) = some (some (.agg rvZ.toArray)) := by kernel_rfl
theorem rv_size : (Try.prog.info? 79).map (·.size) = some 200 := by kernel_rfl
set_option maxHeartbeats 2000000 in
theorem rvcopy_any (B : Nat) (o : Ro) (N : Nat) (s : Vs) (L : List Int) (w : World) (h : Rb B w o N s L) (hN : 1 ≤ N) : Calls Try.prog 17 #[.pointer (some ⟨o.b, 0, none⟩)] w fun r w' => ∃ o', r = .returned (.pointer (some ⟨o'.b, 0, none⟩)) ∧ Rb w.heap.size w' o' N s L ∧ Below w.heap.size w w' := by
  obtain ⟨P, hc, hP⟩ := h.c
  have hl := rcs_len2 o.m s.has s.cp hP.1
  have hH : w.heap[o.b]? = some (.cells (rcs o.m s.has P s.cp).toArray 79 (0, 0)) := hc
  have hsz : (rcs o.m s.has P s.cp).toArray.size = 200 := by rw [List.size_toArray]; exact hl
  have hi : (Try.prog.info? 79).map (·.size) = some (rcs o.m s.has P s.cp).toArray.size := by rw [hsz]; exact rv_size
  have h1 : (rcs o.m s.has P s.cp).toArray.all (·.oneCell') = true := all_oneCell_toArray (rcs_one _ _ _ hP)
  have hZs : rvZ.toArray.size = 200 := by rw [List.size_toArray]; rfl
  have hst := run_storeAt_new (P := Try.prog) w 79 rvZ.toArray (rcs o.m s.has P s.cp).toArray hi (by rw [hZs, hsz]) h1
  have hB1 : Below w.heap.size w (w.alloc (.cells (rcs o.m s.has P s.cp).toArray 79)) := below_new w _
  have hz := rv_zero
  obtain ⟨C, hC⟩ : ∃ C, C = (rcs o.m s.has P s.cp).toArray := ⟨_, rfl⟩
  rw [← hC] at hH hsz hi h1 hst hB1
  have hR := h.below hB1
  have cm := hR.cp.2
  have cF := rmfork_any o.m o.g (32 * N) L _ hR.m (by omega)
  have hH1 : (w.alloc (.cells C 79)).heap[w.heap.size]? = some (.cells C 79 (0, 0)) := heap_alloc_new w _
  have hs1 : (w.alloc (.cells C 79)).heap.size = w.heap.size + 1 := by simp
  have HE : Hid3 (∀ W2 rb2 g2, Below (w.heap.size + 1) (w.alloc (.cells C 79)) W2 → RMem W2 rb2 g2 (32 * N) L → w.heap.size + 1 ≤ rb2 → w.heap.size + 1 ≤ g2 →
      (∃ u, W2.cell? ⟨w.heap.size, 0, none⟩ = some u) ∧ W2.frozen? ⟨w.heap.size, 0, none⟩ = false ∧ w.heap.size < W2.heap.size ∧ Rb w.heap.size (W2.setCell ⟨w.heap.size, 0, none⟩ (.pointer (some ⟨rb2, 0, none⟩))) ⟨w.heap.size, rb2, g2⟩ N s L ∧ Below w.heap.size w (W2.setCell ⟨w.heap.size, 0, none⟩ (.pointer (some ⟨rb2, 0, none⟩)))) := ⟨fun W2 rb2 g2 hB2 hM hr hg => by
    have hb : W2.heap[w.heap.size]? = some (.cells C 79 (0, 0)) := (hB2.block w.heap.size (by omega)).trans hH1
    have hcl : Cl W2 w.heap.size 79 (rcs o.m s.has P s.cp) := by rw [hC] at hb; exact hb
    have c1 := hcl.set 0 (.pointer (some ⟨rb2, 0, none⟩))
    have ap : Apart (XB w.heap.size) W2 (W2.setCell ⟨w.heap.size, 0, none⟩ (.pointer (some ⟨rb2, 0, none⟩))) := Apart.at W2 w.heap.size _ _ rfl
    refine ⟨⟨_, hcl.cell 0⟩, hcl.thaw 0, hcl.lt, ⟨Nat.le_refl _, by show w.heap.size ≤ rb2; omega, by show w.heap.size ≤ g2; omega, ⟨P, c1, hP⟩, hM.keep (ap.block _ hM.lt (fun e => by have : rb2 = w.heap.size := e; omega)) (ap.block _ hM.ltg (fun e => by have : g2 = w.heap.size := e; omega))⟩, hB1.trans ((hB2.mono (by omega)).trans (ap.below w.heap.size (fun k e => by rw [show k = w.heap.size from e]; exact Nat.le_refl _) (by have := hB2.size; omega)))⟩⟩
  rw [hs1] at cF
  clear hR h hc hP hl hB1 hC hH1 hsz h1
  generalize rvZ.toArray = Z at *
  have hszz : w.heap.size < w.heap.size + 1 := Nat.lt_succ_self _
  go_enter Try.func17, Try.ntmps17
  go_wp2_with (first | (refine wpList_load_row rfl 79 _ rfl o.b rfl 79 C (0, 0) _ hH Try.underlying79 rfl hi ?_) | (refine wpList_zalloc rfl 79 rfl _ rfl (.agg Z) Z rfl hz ?_) | (refine wpList_stores rfl 79 _ _ rfl _ (.agg C) rfl rfl hst ?_))
  refine cF.mono ?_
  rintro r W2 ⟨⟨rb2, g2, rfl, hM, hr, hg⟩, hB2⟩
  obtain ⟨⟨u, e1⟩, e2, e3, e4, e5⟩ := HE.out W2 rb2 g2 hB2 hM hr hg
  have H4 := Hid3.mk e4
  have H5 := Hid3.mk e5
  clear e4 e5 cF hM hB2
  go_wp2
  go_ret
  exact ⟨_, rfl, H4.out, H5.out⟩
end Go.Proofs.Ytfmcoibpbcheiaa
