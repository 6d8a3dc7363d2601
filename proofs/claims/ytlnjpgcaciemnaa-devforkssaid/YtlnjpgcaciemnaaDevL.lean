/- A disk: Fork. -/
import Derived.Test.YtlnjpgcaciemnaaDevK
namespace Go.Proofs.Ytlnjpgcaciemnaa
open Go.RowKit Go.Maps
set_option linter.unusedVariables false
set_option maxRecDepth 100000
set_option maxHeartbeats 2000000 in
theorem another_any (B db sb n : Nat) (S : List Int) (v : Value) (last : Int) (Q : List Rq) (w : World) (h : Dk B w db sb n S v last Q) : Calls Try.prog 46 #[.pointer (some ⟨db, 0, none⟩)] w fun e w' => (∃ u, e = .returned (.agg #[u, .int .u32 last]) ∧ w'.ownsRow w.heap.size 45 5 u Q.length (rqsCs Q)) ∧ Below w.heap.size w w' := by
  obtain ⟨W0, hW0⟩ : ∃ W0 : World, W0 = (w.alloc (.cells #[.slice none 0 0, .int .u32 0] 76)).drew := ⟨_, rfl⟩
  have hb0 : Below w.heap.size w W0 := by rw [hW0]; exact ((Below.refl _ w).alloc (Nat.le_refl _) _).drew
  have hx0 : W0.heap[w.heap.size]? = some (.cells #[.slice none 0 0, .int .u32 0] 76) := by rw [hW0]; exact heap_alloc_last w _
  have hD0 := h.below hb0
  have c1 := requests_any B db sb n S v last Q W0 hD0
  obtain ⟨C, hC, _, d1, _⟩ := hD0.c
  have hlt := h.lt
  have hl0 : w.heap.size < W0.heap.size := (Array.getElem?_eq_some_iff.1 hx0).1
  have hS0 : Hid3 (W0.cell? ⟨db, 1, none⟩ = some (.int .u32 last)) := ⟨d1⟩
  have hS1 : Hid3 (∀ W1, Below W0.heap.size W0 W1 → W1.cell? ⟨db, 1, none⟩ = some (.int .u32 last)) := ⟨fun W1 hB => (hB.cell (p := ⟨db, 1, none⟩) hD0.lt).trans d1⟩
  have HE : Hid3 (∀ W1 u, Below W0.heap.size W0 W1 → W1.ownsRow W0.heap.size 45 5 u Q.length (rqsCs Q) → Below w.heap.size w W1 ∧ W1.ownsRow w.heap.size 45 5 u Q.length (rqsCs Q) ∧ W1.heap[w.heap.size]? = some (.cells #[.slice none 0 0, .int .u32 0] 76) ∧ (∃ a cap, u = .slice a Q.length cap) ∧ (∀ g, u.ownBlock = some g → g ≠ w.heap.size)) := ⟨fun W1 u hB hu => by
    refine ⟨hb0.trans (hB.mono hb0.size), ⟨hu.1, ?_⟩, (hB.block _ hl0).trans hx0, form5 hu, fun g hg => by have := (hu.lt g hg).1; omega⟩
    rcases hu.2 with h0 | ⟨g, cap, cur, a1, a2, a3⟩
    · exact .inl h0
    · exact .inr ⟨g, cap, cur, a1, by have := hb0.size; omega, a3⟩⟩
  rw [hW0] at c1 hS0 hS1 HE
  clear h hD0 hb0 hx0 d1 hW0 hl0
  generalize rqsCs Q = cs at *
  generalize Q.length = k at *
  go_enter Try.func46, Try.ntmps46
  go_wp2_with fail
  go_region_held3 (fun w' => w'.cell? ⟨db, 1, none⟩ = some (.int .u32 last)) (with_reducible (first | exact hS0.out | exact hS1.out _ hB | exact hS3.out _ _)) ((go_at_call 37; refine c1.mono ?_; rintro e W2 ⟨⟨u, rfl, hu⟩, hB⟩; obtain ⟨a, cap, rfl⟩ := form5 hu; have hx2 := (HE.out _ _ hB hu).2.2.1; have hdl2 : db < W2.heap.size := Nat.lt_of_lt_of_le hlt (HE.out _ _ hB hu).1.size; have z0 : W2.cell? ⟨w.heap.size, 0, none⟩ = some (.slice none 0 0) := by { rw [Lib.cell_of_heap hx2]; rfl }; have z1 : W2.cell? ⟨w.heap.size, 1, none⟩ = some (.int .u32 0) := by { rw [Lib.cell_of_heap hx2]; rfl }; have zf : ∀ j, W2.frozen? ⟨w.heap.size, j, none⟩ = false := fun j => Lib.frozen_of_heap hx2 j; have hS3 : Hid3 (∀ x y, ((W2.setCell ⟨w.heap.size, 0, none⟩ x).setCell ⟨w.heap.size, 1, none⟩ y).cell? ⟨db, 1, none⟩ = some (.int .u32 last)) := ⟨fun x y => by { unfold World.cell?; rw [Below.heap_setCell _ ⟨w.heap.size, 1, none⟩ _ db (by have := hlt; simp only; omega), Below.heap_setCell _ ⟨w.heap.size, 0, none⟩ _ db (by have := hlt; simp only; omega)]; exact hS1.out _ hB }⟩; clear hx2))
  all_goals
    obtain ⟨hb2, hu2, hx2, _, hne⟩ := HE.out _ _ hB hu
    have HU := Hid3.mk hu2
    have HB2 := Hid3.mk hb2
    have HN := Hid3.mk hne
    have a2 : Hid3 (Below w.heap.size w ((W2.setCell ⟨w.heap.size, 0, none⟩ (.slice a k cap)).setCell ⟨w.heap.size, 1, none⟩ (.int .u32 last)) ∧ ((W2.setCell ⟨w.heap.size, 0, none⟩ (.slice a k cap)).setCell ⟨w.heap.size, 1, none⟩ (.int .u32 last)).ownsRow w.heap.size 45 5 (.slice a k cap) k cs) := ⟨(hb2.setCell (Nat.le_refl _) _).setCell (Nat.le_refl _) _, Apart.own (Apart.own hu2 (Apart.set W2 ⟨w.heap.size, 0, none⟩ (.slice a k cap)) (fun g hg e => hne g hg e)) (Apart.set _ ⟨w.heap.size, 1, none⟩ (.int .u32 last)) (fun g hg e => hne g hg e)⟩
    clear hb2 hu2 hne hx2 hu hB c1 hS0 hS1 HE
    go_wp2
    refine bodyPost_ret (v := .agg #[.slice a k cap, .int .u32 last]) (by simp [results, Try.results46, go_sem, *]) rfl ⟨⟨_, rfl, a2.out.2⟩, a2.out.1⟩
set_option maxHeartbeats 2000000 in
theorem cloneC_any (sb n C : Nat) (S : List Int) (rest : List Value) (w : World) (h : w.heap[sb]? = some (.cells (S.map (Value.int .u8) ++ rest).toArray 86)) (hl : S.length = n * 32) (h1 : 1 ≤ n) (h64 : n ≤ 64) : Calls Try.prog 47 #[.slice (some ⟨sb, 0, none⟩) n C] w fun e w' => (∃ g cap rest', e = .returned (.slice (some ⟨g, 0, none⟩) n cap) ∧ n ≤ cap ∧ w.heap.size ≤ g ∧ w'.heap[g]? = some (.cells (S.map (Value.int .u8) ++ rest').toArray 86)) ∧ Below w.heap.size w w' := by
  obtain ⟨i0, hi0, hz0, hz1, hz2⟩ := info_parts infoC
  have hsb : sb < w.heap.size := (Array.getElem?_eq_some_iff.1 h).1
  have hwa : Below w.heap.size w (w.alloc (.cells #[] 86)) := (Below.refl _ w).alloc (Nat.le_refl _) _
  have hcA : ∀ j v, (S.map (Value.int .u8))[j]? = some v → (w.alloc (.cells #[] 86)).cell? ((⟨sb, 0, none⟩ : Addr).add j) = some v := fun j v hj => by
    rw [Addr.add_mid, Nat.zero_add]
    refine (hwa.cell (p := ⟨sb, j, none⟩) hsb).trans ?_
    rw [cell_of_row w sb j _ _ _ h, List.getElem?_toArray, List.getElem?_append_left (List.getElem?_eq_some_iff.1 hj).1]
    exact hj
  have HB : Hid3 (Below w.heap.size w (w.alloc (.cells #[] 86))) := ⟨hwa⟩
  have HL : Hid3 ((S.map (Value.int .u8)).length = n * 32) := ⟨by rw [List.length_map]; exact hl⟩
  have hown : (w.alloc (.cells #[] 86)).ownsRow w.heap.size 86 32 (.slice (some ⟨w.heap.size, 0, none⟩) 0 0) 0 [] := World.ownsRow_made w #[] 0 (Nat.le_refl _) (by unfold maxLen; omega) rfl
  have hq := fun w => Lib.run_eql_slice_nil (P := Try.prog) w 77 86 (some ⟨sb, 0, none⟩) n C 0 0 Try.underlying77
  have hone := Hid3.mk (map_one S)
  have hz32 : (Value.agg (List.replicate 32 (Value.int .u8 0)).toArray).cells.size = 32 := by simp [Value.cells]
  clear h hwa hl
  generalize S.map (Value.int .u8) = cs at *
  go_enter Try.func47, Try.ntmps47
  go_wp2_with (at_builtin; refine wpList_append_own_at _ rfl _ _ 77 rfl w.heap.size 86 i0 _ 32 32 Try.underlying77 hi0 hz0 hz1 hz2 hz32 (by decide) (.slice (some ⟨w.heap.size, 0, none⟩) 0 0) 0 [] rfl hown ⟨sb, 0, none⟩ n C cs rfl HL.out hcA hone.out (by unfold maxLen; omega) (by omega) (by simp) ?_; intro v' w1 hown' hgrow _ hat)
  have hb3 : Below w.heap.size w w1 := HB.out.grown hgrow (by simp) (fun j hj => (hown.lt j hj).1)
  have HO := Hid3.mk hown'
  clear hown' hgrow hat
  go_ret
  have h9 := HO.out
  rw [Nat.zero_add, List.nil_append] at h9
  rcases h9.2 with ⟨_, h0⟩ | ⟨g, cap, cur, rfl, a2, a3, a4, a5, a6, a7⟩
  · omega
  · refine ⟨⟨g, cap, cur.toList.drop (n * 32), rfl, a4, a2, ?_⟩, hb3⟩
    rw [a3]
    congr 2
    rw [← a7, List.take_append_drop]
set_option maxHeartbeats 4000000 in
theorem dfork_any (B db sb n : Nat) (S : List Int) (v : Value) (last : Int) (Q : List Rq) (w : World) (h : Dk B w db sb n S v last Q) : Calls Try.prog 19 #[.pointer (some ⟨db, 0, none⟩)] w fun e w' => ∃ db2 sb2 v2, e = .returned (.pointer (some ⟨db2, 0, none⟩)) ∧ Dk w.heap.size w' db2 sb2 n S v2 last Q ∧ Below w.heap.size w w' := by
  obtain ⟨W0, hW0⟩ : ∃ W0 : World, W0 = w.drew := ⟨_, rfl⟩
  have hb0 : Below w.heap.size w W0 := by rw [hW0]; exact (Below.refl _ w).drew
  have hs0 : W0.heap.size = w.heap.size := by rw [hW0]; rfl
  have hD0 := h.below hb0
  have c1 := another_any B db sb n S v last Q W0 hD0
  have hlen := h.len
  have hn1 := h.n1
  have hn64 := h.n64
  have hla := h.la
  have hfew := h.few
  obtain ⟨C, hC, _, _, d2⟩ := hD0.c
  obtain ⟨rest, hrow⟩ := hD0.row
  have hlt := h.lt
  have c2 := fun W1 (hB : Below W0.heap.size W0 W1) => cloneC_any sb n C S rest W1 ((hB.block sb hD0.lts).trans hrow) hlen hn1 hn64
  have hS0 : Hid3 (W0.cell? ⟨db, 2, none⟩ = some (.slice (some ⟨sb, 0, none⟩) n C)) := ⟨d2⟩
  have hS1 : Hid3 (∀ W1, Below W0.heap.size W0 W1 → W1.cell? ⟨db, 2, none⟩ = some (.slice (some ⟨sb, 0, none⟩) n C)) := ⟨fun W1 hB => (hB.cell (p := ⟨db, 2, none⟩) hD0.lt).trans d2⟩
  have hS2 : Hid3 (∀ W1 W2, Below W0.heap.size W0 W1 → Below W1.heap.size W1 W2 → W2.cell? ⟨db, 2, none⟩ = some (.slice (some ⟨sb, 0, none⟩) n C)) := ⟨fun W1 W2 hB hB2 => ((hB.trans (hB2.mono hB.size)).cell (p := ⟨db, 2, none⟩) hD0.lt).trans d2⟩
  have HE : Hid3 (∀ W1 W2 u g cap rest', Below W0.heap.size W0 W1 → W1.ownsRow W0.heap.size 45 5 u Q.length (rqsCs Q) → Below W1.heap.size W1 W2 → n ≤ cap → W1.heap.size ≤ g → W2.heap[g]? = some (.cells (S.map (Value.int .u8) ++ rest').toArray 86) → (Dk w.heap.size (W2.alloc (.cells #[u, .int .u32 last, .slice (some ⟨g, 0, none⟩) n cap] 79)) W2.heap.size g n S u last Q ∧ Below w.heap.size w (W2.alloc (.cells #[u, .int .u32 last, .slice (some ⟨g, 0, none⟩) n cap] 79))) ∧ ∃ a k, u = .slice a Q.length k) := ⟨fun W1 W2 u g cap rest' hB hu hB2 hcap hg hr => by
    have s1 := hB.size
    have s2 := hB2.size
    have gl : g < W2.heap.size := (Array.getElem?_eq_some_iff.1 hr).1
    refine ⟨⟨⟨⟨cap, hcap, heap_alloc_last W2 _⟩, ⟨rest', (Lib.alloc_old _ _ _ gl).trans hr⟩, hlen, ?_, hn1, hn64, hfew, by omega, by omega, hla⟩, ((hb0.trans (hB.mono hb0.size)).trans (hB2.mono (by omega))).alloc (by omega) _⟩, form5 hu⟩
    have h9 := (own_wide hu hB2).alloc (.cells #[u, .int .u32 last, .slice (some ⟨g, 0, none⟩) n cap] 79)
    rw [hs0] at h9
    exact h9⟩
  rw [hW0] at c1 c2 hS0 hS1 hS2 HE
  clear h hD0 hb0 hs0 d2 hW0 hrow hlen
  generalize rqsCs Q = cs at *
  go_enter Try.func19, Try.ntmps19
  go_wp2_with fail
  go_region_held3 (fun w' => w'.cell? ⟨db, 2, none⟩ = some (.slice (some ⟨sb, 0, none⟩) n C)) (with_reducible (first | exact hS0.out | exact hS2.out _ _ hB hB2 | exact hS1.out _ hB | exact hS4.out _)) ((first | (go_at_call 46; refine c1.mono ?_; rintro e W1 ⟨⟨u, rfl, hu⟩, hB⟩; obtain ⟨a, k, rfl⟩ := form5 hu) | (go_at_call 47; refine (c2 _ hB).mono ?_; rintro e W2 ⟨⟨g, cap, rest', rfl, hcap, hg, hr⟩, hB2⟩; have hS4 : Hid3 (∀ o, (W2.alloc o).cell? ⟨db, 2, none⟩ = some (.slice (some ⟨sb, 0, none⟩) n C)) := ⟨fun o => (((Below.refl _ W2).alloc (Nat.le_refl _) o).cell (p := ⟨db, 2, none⟩) (Nat.lt_of_lt_of_le hlt (Nat.le_trans hB.size hB2.size))).trans (hS2.out _ _ hB hB2)⟩)))
  all_goals
    obtain ⟨hE, _⟩ := HE.out _ _ _ _ _ _ hB hu hB2 hcap hg hr
    have HF := Hid3.mk hE
    clear hE hu hB hB2 hcap hg hr c1 c2 hS0 hS1 hS2 HE
    go_wp2
    go_ret
    exact ⟨_, _, _, rfl, HF.out.1, HF.out.2⟩
end Go.Proofs.Ytlnjpgcaciemnaa
