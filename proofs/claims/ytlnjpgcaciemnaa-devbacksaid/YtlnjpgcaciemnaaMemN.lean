/- The document's memory: clean, the same frames, a fork. -/
import Derived.Test.YtlnjpgcaciemnaaMemM
namespace Go.Proofs.Ytlnjpgcaciemnaa
open Go.RowKit Go.Maps
set_option linter.unusedVariables false
set_option maxRecDepth 100000
theorem own_pos {w : World} {B n : Nat} {t : TypeId} {v : Value} {xs : List Value} (h : w.ownsRow B t 1 v n xs) (hn : 0 < n) : ∃ g cap, v = .slice (some ⟨g, 0, none⟩) n cap := by
  rcases h.2 with ⟨_, h0⟩ | ⟨g, cap, cur, e, _⟩
  · omega
  · exact ⟨g, cap, e⟩
set_option maxHeartbeats 2000000 in
theorem rfork_any (rb g K : Nat) (L : List Int) (w : World) (h : RMem w rb g K L) (hK : 0 < K) : Calls Try.prog 22 #[.pointer (some ⟨rb, 0, none⟩)] w fun e w' => (∃ rb2 g2, e = .returned (.pointer (some ⟨rb2, 0, none⟩)) ∧ RMem w' rb2 g2 K L ∧ w.heap.size ≤ rb2 ∧ w.heap.size ≤ g2) ∧ Below w.heap.size w w' := by
  have hh := h.hi
  have hl := h.len
  obtain ⟨C, hC, hc⟩ := h.c
  have hcell : Hid3 (∀ W, Below w.heap.size w W → ∀ j v, ((L.take K).map (Value.int .u8))[j]? = some v → W.cell? ((⟨g, 0, none⟩ : Addr).add j) = some v) := ⟨fun W hW j v hj => by
    rw [List.getElem?_map] at hj
    cases hx : (L.take K)[j]? with
    | none => rw [hx] at hj; cases hj
    | some x =>
      rw [hx] at hj
      cases hj
      have hj2 : j < K := by have := (List.getElem?_eq_some_iff.1 hx).1; rw [List.length_take] at this; omega
      have hb := h.byte j hj2
      rw [Addr.add_mid, Nat.zero_add, World.cell?_of_block (w := w) (hW.block g (World.block_lt_of_cell? w _ hb)), hb]
      rw [List.getElem?_take, if_pos hj2] at hx
      rw [List.getD_eq_getElem?_getD, hx]
      rfl⟩
  have hrl := h.lt
  have HL : Hid3 ((L.take K).length = K) := ⟨by rw [List.length_take]; omega⟩
  have HLL : Hid3 (L.length = 2048) := ⟨hl⟩
  obtain ⟨M, hM⟩ : ∃ M, M = L.take K := ⟨_, rfl⟩
  rw [← hM] at HL hcell
  have HM : Hid3 (M = L.take K) := ⟨hM⟩
  obtain ⟨i0, hi0, hz0, hz1, hz2⟩ := info_parts infoU8
  have hwa : Below w.heap.size w (w.alloc (.cells #[] 5)) := (Below.refl _ w).alloc (Nat.le_refl _) _
  have hcA := hcell.out _ hwa
  have HB : Hid3 (Below w.heap.size w (w.alloc (.cells #[] 5))) := ⟨hwa⟩
  have hown := own_nil8 w w.heap.size (Nat.le_refl _)
  clear hM hl h hwa
  go_enter Try.func22, Try.ntmps22
  go_wp2_with (at_builtin; refine wpList_append_own _ rfl _ _ 36 rfl w.heap.size 5 i0 (.int .u8 0) 1 1 Try.underlying36 hi0 hz0 hz1 hz2 rfl (by decide) _ _ _ rfl hown ⟨g, 0, none⟩ K C (M.map (Value.int .u8)) rfl (by rw [List.length_map, Nat.mul_one]; exact HL.out) hcA (by exact map_one M) (by unfold maxLen; omega) (by omega) (by simp) ?_; intro v' w1 hown' hgrow _; obtain ⟨g3, cap3, rfl⟩ := own_pos hown' (by omega))
  have hb3 : Below w.heap.size w w1 := HB.out.grown hgrow (by simp) (fun j hj => (hown.lt j hj).1)
  go_ret
  rcases hown'.2 with ⟨h0, _⟩ | ⟨g2, cap, cur, ev, hg, hblk, hk, _, hsz, htk⟩
  · cases h0
  · injection ev with ev1 ev2 ev3
    injection ev1 with ev1
    injection ev1 with ev1
    subst ev1 ev3
    have hg2 : g3 < w1.heap.size := (Array.getElem?_eq_some_iff.1 hblk).1
    refine ⟨⟨_, g3, rfl, ⟨⟨cap3, by omega, ?_⟩, ⟨cur.toList.drop K, ?_⟩, HLL.out, by omega, hh⟩, hb3.size, hg⟩, hb3.alloc hb3.size _⟩
    · exact heap_alloc_last _ _
    · rw [Lib.alloc_old _ _ _ hg2, hblk, ← HM.out]
      rw [Nat.zero_add, Nat.mul_one, List.nil_append] at htk
      rw [← htk, List.take_append_drop, Array.toArray_toList]
end Go.Proofs.Ytlnjpgcaciemnaa
