/- A disk: asked; a sector's bytes; a frame that goes to a sector. -/
import Derived.Test.YtdmahmolhdbegaaDevD
namespace Go.Proofs.Ytdmahmolhdbegaa
open Go.RowKit Go.Maps
set_option linter.unusedVariables false
set_option maxRecDepth 100000
set_option maxHeartbeats 4000000 in
theorem ask_ok (B db sb n : Nat) (S : List Int) (v : Value) (last : Int) (Q : List Rq) (r0 : Int) (r1 : Bool) (r2 r3 r4 : Int) (w : World) (h : Dk B w db sb n S v last Q) (hq : Q.length < 8) (hla : last < 1000000) (hB : B ≤ w.heap.size) (hs : 0 ≤ r2 ∧ r2 < n) (hf : 0 ≤ r3 ∧ r3 < 64) : Calls Try.prog 10 #[.pointer (some ⟨db, 0, none⟩), .agg #[.int .u32 r0, .bool r1, .int .i64 r2, .int .i64 r3, .int .u8 r4]] w fun e w' => e = .returned (.tuple #[.int .u32 (last + 1), .int .i64 0]) ∧ ∃ v', Dk B w' db sb n S v' (last + 1) (Q ++ [(last + 1, r1, r2, r3, r4)]) ∧ Apart (fun k => k = db ∨ some k = v.ownBlock) w w' ∧ (v'.ownBlock = v.ownBlock ∨ ∃ g, w.heap.size ≤ g ∧ v'.ownBlock = some g) := by
  have hb0 : Below w.heap.size w (w.alloc (.cells #[.int .u32 r0, .bool r1, .int .i64 r2, .int .i64 r3, .int .u8 r4] 37)) := (Below.refl _ w).alloc (Nat.le_refl _) _
  have hb1 : Below w.heap.size w (w.alloc (.cells #[.int .u32 r0, .bool r1, .int .i64 r2, .int .i64 r3, .int .u8 r4] 37)).drew := hb0.drew
  have c1 := dthere_any B db sb n S v last Q r2 (w.alloc (.cells #[.int .u32 r0, .bool r1, .int .i64 r2, .int .i64 r3, .int .u8 r4] 37)) (h.below hb0)
  rw [show thE n r2 = 0 by unfold thE; rw [if_pos (by omega)]] at c1
  have cA := add_ok B db sb n S v last Q (r0, r1, r2, r3, r4) (w.alloc (.cells #[.int .u32 r0, .bool r1, .int .i64 r2, .int .i64 r3, .int .u8 r4] 37)).drew (h.below hb1) hq hla (Nat.le_trans hB hb1.size)
  unfold rqV at cA
  simp only at cA
  have hlt := h.lt
  have hbx : (w.alloc (.cells #[.int .u32 r0, .bool r1, .int .i64 r2, .int .i64 r3, .int .u8 r4] 37)).drew.heap[w.heap.size]? = some (.cells #[.int .u32 r0, .bool r1, .int .i64 r2, .int .i64 r3, .int .u8 r4] 37) := heap_alloc_last w _
  have hown : ∀ g, v.ownBlock = some g → g < w.heap.size := fun g hg => (h.own.lt g hg).2
  have hS0 : Hid3 ((w.alloc (.cells #[.int .u32 r0, .bool r1, .int .i64 r2, .int .i64 r3, .int .u8 r4] 37)).drew.cell? ⟨w.heap.size, 0, none⟩ = some (.int .u32 r0) ∧ (w.alloc (.cells #[.int .u32 r0, .bool r1, .int .i64 r2, .int .i64 r3, .int .u8 r4] 37)).drew.cell? ⟨w.heap.size, 1, none⟩ = some (.bool r1) ∧ (w.alloc (.cells #[.int .u32 r0, .bool r1, .int .i64 r2, .int .i64 r3, .int .u8 r4] 37)).drew.cell? ⟨w.heap.size, 2, none⟩ = some (.int .i64 r2) ∧ (w.alloc (.cells #[.int .u32 r0, .bool r1, .int .i64 r2, .int .i64 r3, .int .u8 r4] 37)).drew.cell? ⟨w.heap.size, 3, none⟩ = some (.int .i64 r3) ∧ (w.alloc (.cells #[.int .u32 r0, .bool r1, .int .i64 r2, .int .i64 r3, .int .u8 r4] 37)).drew.cell? ⟨w.heap.size, 4, none⟩ = some (.int .u8 r4)) := ⟨b5m hbx⟩
  have hS1 : Hid3 (∀ W1, Apart (fun k => k = db ∨ some k = v.ownBlock) (w.alloc (.cells #[.int .u32 r0, .bool r1, .int .i64 r2, .int .i64 r3, .int .u8 r4] 37)).drew W1 → W1.cell? ⟨w.heap.size, 0, none⟩ = some (.int .u32 r0) ∧ W1.cell? ⟨w.heap.size, 1, none⟩ = some (.bool r1) ∧ W1.cell? ⟨w.heap.size, 2, none⟩ = some (.int .i64 r2) ∧ W1.cell? ⟨w.heap.size, 3, none⟩ = some (.int .i64 r3) ∧ W1.cell? ⟨w.heap.size, 4, none⟩ = some (.int .u8 r4)) := ⟨fun W1 ha => b5m ((ha.block w.heap.size (Array.getElem?_eq_some_iff.1 hbx).1 (fun e => by
    rcases e with e | e
    · omega
    · have := hown _ e.symm
      omega)).trans hbx)⟩
  have HB1 : Hid3 (Below w.heap.size w (w.alloc (.cells #[.int .u32 r0, .bool r1, .int .i64 r2, .int .i64 r3, .int .u8 r4] 37)).drew) := ⟨hb1⟩
  have f1 : ¬ r3 < 0 := by omega
  have f2 : ¬ (64 : Int) ≤ r3 := by omega
  clear h hb0 hb1 hbx hown
  go_enter Try.func10, Try.ntmps10
  go_wp2_with fail
  refine c1.mono ?_
  rintro e W1 ⟨rfl, rfl⟩
  clear c1
  go_wp2_with fail
  go_region_held3 (fun w' => w'.cell? ⟨w.heap.size, 0, none⟩ = some (.int .u32 r0) ∧ w'.cell? ⟨w.heap.size, 1, none⟩ = some (.bool r1) ∧ w'.cell? ⟨w.heap.size, 2, none⟩ = some (.int .i64 r2) ∧ w'.cell? ⟨w.heap.size, 3, none⟩ = some (.int .i64 r3) ∧ w'.cell? ⟨w.heap.size, 4, none⟩ = some (.int .u8 r4)) (first | exact hS0.out | exact hS1.out _ hA) ((go_at_call 25; refine (cA).mono ?_; rintro e W2 ⟨rfl, v', hD, hA, hV⟩))
  have H2 : Hid3 (Dk B W2 db sb n S v' (last + 1) (Q ++ [(last + 1, r1, r2, r3, r4)]) ∧ Apart (fun k => k = db ∨ some k = v.ownBlock) w W2 ∧ (v'.ownBlock = v.ownBlock ∨ ∃ g, w.heap.size ≤ g ∧ v'.ownBlock = some g)) := ⟨hD, (Apart.of_below HB1.out).trans hA, hV.imp id (fun ⟨g, hg, e⟩ => ⟨g, Nat.le_trans HB1.out.size hg, e⟩)⟩
  clear hD hA hV cA hS0 hS1
  go_wp2
  go_ret2
  exact ⟨rfl, _, H2.out⟩
set_option maxHeartbeats 2000000 in
theorem clone8 (g off n cap : Nat) (xs : List Int) (w : World) (hn : xs.length = n) (hcap : n ≤ cap) (hl : n ≤ 1000) (hc : ∀ j x, xs[j]? = some x → w.cell? ⟨g, off + j, none⟩ = some (.int .u8 x)) (hg : g < w.heap.size) : Calls Try.prog 63 #[.slice (some ⟨g, off, none⟩) n cap] w fun e w' => (∃ v, e = .returned v ∧ w'.ownsRow w.heap.size 5 1 v n (xs.map (Value.int .u8))) ∧ Below w.heap.size w w' := by
  obtain ⟨i0, hi0, hz0, hz1, hz2⟩ := info_parts infoU8
  have hwa : Below w.heap.size w (w.alloc (.cells #[] 5)) := (Below.refl _ w).alloc (Nat.le_refl _) _
  have hcA : ∀ j v, (xs.map (Value.int .u8))[j]? = some v → (w.alloc (.cells #[] 5)).cell? ((⟨g, off, none⟩ : Addr).add j) = some v := fun j v hj => by
    rw [List.getElem?_map] at hj
    cases hx : xs[j]? with
    | none => rw [hx] at hj; cases hj
    | some x =>
      rw [hx] at hj
      cases hj
      rw [Addr.add_mid]
      exact (hwa.cell (p := ⟨g, off + j, none⟩) hg).trans (hc j x hx)
  have HB : Hid3 (Below w.heap.size w (w.alloc (.cells #[] 5))) := ⟨hwa⟩
  have HL : Hid3 (xs.length = n) := ⟨hn⟩
  have hown := own_nil8 w w.heap.size (Nat.le_refl _)
  have hq := fun w => Lib.run_eql_slice_nil (P := Try.prog) w 32 5 (some ⟨g, off, none⟩) n cap 0 0 Try.underlying32
  clear hn hwa hc
  go_enter Try.func63, Try.ntmps63
  go_wp2_with (at_builtin; refine wpList_append_own _ rfl _ _ 32 rfl w.heap.size 5 i0 (.int .u8 0) 1 1 Try.underlying32 hi0 hz0 hz1 hz2 rfl (by decide) _ _ _ rfl hown ⟨g, off, none⟩ n cap (xs.map (Value.int .u8)) rfl (by rw [List.length_map, Nat.mul_one]; exact HL.out) hcA (by exact map_one xs) (by unfold maxLen; omega) (by omega) (by simp) ?_; intro v' w1 hown' hgrow _)
  have hb3 : Below w.heap.size w w1 := HB.out.grown hgrow (by simp) (fun j hj => (hown.lt j hj).1)
  go_ret
  refine ⟨⟨_, rfl, ?_⟩, hb3⟩
  rw [Nat.zero_add, List.nil_append] at hown'
  exact hown'
theorem Dk.byte {B : Nat} {w : World} {db sb n : Nat} {S : List Int} {v : Value} {last : Int} {Q : List Rq} (h : Dk B w db sb n S v last Q) (k : Nat) (x : Int) (hk : S[k]? = some x) : w.cell? ⟨sb, k, none⟩ = some (.int .u8 x) := by
  obtain ⟨rest, e⟩ := h.row
  have hl := (List.getElem?_eq_some_iff.1 hk).1
  rw [cell_of_row w sb k _ _ _ e, List.getElem?_toArray, List.getElem?_append_left (by rw [List.length_map]; exact hl), List.getElem?_map, hk]
  rfl
set_option maxHeartbeats 2000000 in
theorem sector_ok (B db sb n i : Nat) (S : List Int) (v : Value) (last : Int) (Q : List Rq) (w : World) (h : Dk B w db sb n S v last Q) (hi : i < n) : Calls Try.prog 37 #[.pointer (some ⟨db, 0, none⟩), .int .i64 i] w fun e w' => (∃ u, e = .returned (.tuple #[u, .int .i64 0]) ∧ w'.ownsRow w.heap.size 5 1 u 32 ((frL S i).map (Value.int .u8))) ∧ Below w.heap.size w w' := by
  have c1 := dthere_any B db sb n S v last Q i w h
  rw [show thE n i = 0 by unfold thE; rw [if_pos (by omega)]] at c1
  obtain ⟨C, hC, d0, d1, d2⟩ := h.c
  have hn := h.n64
  have hl := h.len
  have hlf : (frL S i).length = 32 := by
    unfold frL
    rw [List.length_take, List.length_drop, hl]
    omega
  have cC := clone8 sb (i * 32) 32 32 (frL S i) w hlf (by omega) (by omega) (fun j x hj => h.byte _ x (by
    unfold frL at hj
    rw [List.getElem?_take] at hj
    split at hj
    · rw [List.getElem?_drop] at hj
      exact hj
    · cases hj)) h.lts
  have hiz : (i : Int) < (n : Int) := by omega
  clear h hlf hl
  generalize frL S i = FS at *
  go_enter Try.func37, Try.ntmps37
  go_wp2_with fail
  refine c1.mono ?_
  rintro e W1 ⟨rfl, rfl⟩
  clear c1
  go_wp2_with fail
  refine cC.mono ?_
  rintro e W2 ⟨⟨u, rfl, hu⟩, hB2⟩
  clear cC
  have HU : Hid3 (W2.ownsRow W1.heap.size 5 1 u 32 (FS.map (Value.int .u8))) := ⟨hu⟩
  clear hu
  go_wp2
  go_ret2
  exact ⟨⟨_, rfl, HU.out⟩, hB2⟩
set_option maxHeartbeats 2000000 in
theorem move_w (B db sb n mb f s N : Nat) (S L : List Int) (v : Value) (last : Int) (Q : List Rq) (r0 r4 : Int) (w : World) (h : Dk B w db sb n S v last Q) (hM : Mem w mb N L) (hf : f < N) (hs : s < n) (hne : mb ≠ sb) : Calls Try.prog 30 #[.pointer (some ⟨db, 0, none⟩), .agg #[.int .u32 r0, .bool true, .int .i64 s, .int .i64 f, .int .u8 r4], .pointer (some ⟨mb, 0, none⟩)] w fun e w' => e = .returned (.int .i64 0) ∧ Dk B w' db sb n (putL S (s * 32) (frL L f)) v last Q ∧ Only sb w w' := by
  have hb0 : Below w.heap.size w (w.alloc (.cells #[.int .u32 r0, .bool true, .int .i64 s, .int .i64 f, .int .u8 r4] 37)) := (Below.refl _ w).alloc (Nat.le_refl _) _
  have c1 := frame_ok mb f N L _ (hM.below hb0) (by omega)
  have HD0 : Hid3 (Dk B (w.alloc (.cells #[.int .u32 r0, .bool true, .int .i64 s, .int .i64 f, .int .u8 r4] 37)) db sb n S v last Q) := ⟨h.below hb0⟩
  have hbx : Hid3 ((w.alloc (.cells #[.int .u32 r0, .bool true, .int .i64 s, .int .i64 f, .int .u8 r4] 37)).heap[w.heap.size]? = some (.cells #[.int .u32 r0, .bool true, .int .i64 s, .int .i64 f, .int .u8 r4] 37)) := ⟨heap_alloc_last w _⟩
  have HB0 : Hid3 (Below w.heap.size w (w.alloc (.cells #[.int .u32 r0, .bool true, .int .i64 s, .int .i64 f, .int .u8 r4] 37))) := ⟨hb0⟩
  have hlen := frL_len hM.len (f := f) (by have := hM.hi; omega)
  have HL : Hid3 ((frL L f).length = 32) := ⟨hlen⟩
  have hsb := h.lts
  rw [show (L.drop (f * 32)).take 32 = frL L f from rfl] at c1
  clear h hM hb0 hlen
  go_enter Try.func30, Try.ntmps30
  go_wp2_with fail
  refine c1.mono ?_
  rintro e W1 ⟨rfl, hx1, hB1⟩
  clear c1
  have hs1 : (w.alloc (.cells #[.int .u32 r0, .bool true, .int .i64 s, .int .i64 f, .int .u8 r4] 37)).heap.size = w.heap.size + 1 := by simp
  rw [hs1] at hx1
  have hx0 := (hB1.block w.heap.size (by omega)).trans hbx.out
  obtain ⟨y0, y1, y2, y3, y4⟩ := b5m hx0
  have c2 := dset_ok B db sb n s S (frL L f) v last Q (w.heap.size + 1) 0 32 W1 (HD0.out.below hB1) hs HL.out ⟨by omega, (Array.getElem?_eq_some_iff.1 hx1).1, fun j x hj => by
    rw [Nat.zero_add, cell_of_row W1 _ j _ _ _ hx1, List.getElem?_toArray, List.getElem?_map, hj]
    rfl⟩
  have HB1 : Hid3 (Below w.heap.size w W1) := ⟨HB0.out.trans (hB1.mono HB0.out.size)⟩
  clear hx0 hx1 hB1 hs1
  go_wp2_with fail
  refine c2.mono ?_
  rintro e W2 ⟨rfl, hD2, hO2⟩
  clear c2
  go_wp2
  go_ret
  exact ⟨rfl, hD2, (Only.of_below HB1.out).trans hO2⟩
end Go.Proofs.Ytdmahmolhdbegaa
