/- The document's cut. -/
import Derived.Test.YtojglefbmfpphaaTlbK
namespace Go.Proofs.Ytojglefbmfpphaa
open Go.RowKit Go.Maps
set_option linter.unusedVariables false
set_option maxRecDepth 100000

theorem grow_below {n : Nat} {W X Y : World} {row : Option Nat} (h : Below n W X) (hn : n ≤ X.heap.size) (hg : X.grownBy Y row) (hr : ∀ g, row = some g → n ≤ g) : Below n W Y := h.grown hg hn hr
theorem Mps.take {w : World} {g cap n : Nat} {L : List Mp} (h : RowC w g cap L) (k : Nat) (hk : k ≤ L.length) : Mps w (.slice (some ⟨g, 0, none⟩) k cap) (L.take k) := by
  have hl : (L.take k).length = k := by rw [List.length_take]; omega
  obtain ⟨cur, _, _, hc, _⟩ := id h
  refine ⟨_, cap, by rw [hl], by omega, (fun e => by cases e), fun j m hj => ⟨g, 0, rfl, ?_⟩⟩
  rw [List.getElem?_take] at hj
  split at hj
  · have := h.at j m hj
    simpa using this
  · cases hj
theorem Mps.drop {w : World} {g cap : Nat} {L : List Mp} (h : RowC w g cap L) (k : Nat) (hk : k ≤ L.length) : Mps w (.slice (some ⟨g, k * 4, none⟩) (L.length - k) (cap - k)) (L.drop k) := by
  have hl : (L.drop k).length = L.length - k := by rw [List.length_drop]
  obtain ⟨cur, _, _, hc, _⟩ := id h
  refine ⟨_, cap - k, by rw [hl], by omega, (fun e => by cases e), fun j m hj => ⟨g, k * 4, rfl, ?_⟩⟩
  rw [List.getElem?_drop] at hj
  have := h.at (k + j) m hj
  rw [show (k + j) * 4 = k * 4 + j * 4 by omega] at this
  exact this
theorem Mps.none (w : World) (ad : Addr) (cap : Nat) : Mps w (.slice (some ad) 0 cap) [] := ⟨_, cap, rfl, Nat.zero_le _, (fun e => by cases e), fun j m hj => by cases hj⟩
theorem erase_eq (L : List Mp) (k : Nat) : L.eraseIdx k = L.take k ++ L.drop (k + 1) := List.eraseIdx_eq_take_drop_succ L k

set_option maxHeartbeats 8000000 in
theorem rcut_any (B tb : Nat) (v : Value) (L : List Mp) (k : Nat) (w : World) (h : Ob B 57 w tb v L) (hL : L.length ≤ 1000) (hB : B ≤ w.heap.size) (hk : k < L.length) :
    Calls Try.prog 43 #[.pointer (some ⟨tb, 0, none⟩), .int .i64 k] w fun e w' => e = .returned (mpV L[k]) ∧ ∃ v', Stp B 57 w w' tb v v' (L.eraseIdx k) := by
  rw [erase_eq]
  obtain ⟨g, cap, rfl, hBg, hR⟩ := own_row h.row (by intro e; subst e; cases hk)
  obtain ⟨c0, c1, c2, c3⟩ := hR.at k _ (List.getElem?_eq_getElem hk)
  have hgl := hR.lt
  have hcell := h.cell
  have hlt := h.lt
  have hcap : L.length ≤ cap := by obtain ⟨cur, _, _, h, _⟩ := hR; exact h
  have HO : Hid (Ob B 57 w tb (.slice (some ⟨g, 0, none⟩) L.length cap) L) := h
  have HR : Hid (RowC w g cap L) := hR
  clear h hR
  generalize L[k] = y at *
  obtain ⟨y0, y1, y2, y3⟩ := y
  simp only at c0 c1 c2 c3
  unfold mpV
  have hkz : (k : Int) < (L.length : Int) := by omega
  have hkz1 : (k : Int) + 1 ≤ (L.length : Int) := by omega
  have hkz2 : (k : Int) ≤ (cap : Int) := by omega
  have hcz : (L.length : Int) ≤ (cap : Int) := by omega
  have n1 : tb ≠ w.heap.size := by omega
  have n2 : g ≠ w.heap.size := by omega
  have hwk : IntKind.i64.wrap ((k : Int) + 1) = (k : Int) + 1 := by rw [IntKind.wrap_i64]; omega
  have htn : ((k : Int) + 1).toNat = k + 1 := by omega
  have hk0 : (0 : Int) ≤ (k : Int) + 1 := by omega
  by_cases hc : cap = k + 1
  · subst hc
    have hk3 : (k : Int) ≤ (k : Int) + 1 := by omega
    have hk4 : (L.length : Int) ≤ (k : Int) + 1 := by omega
    go_enter Try.func43, Try.ntmps43
    go_wp2_with fail
    have hb1 : Below w.heap.size w ((w.alloc (.cells #[.int .u8 0, .int .u8 0, .int .u8 0, .bool false] 33)).alloc (.cells #[.int .u8 y0, .int .u8 y1, .int .u8 y2, .bool y3] 33)) := ((Below.refl _ w).alloc (Nat.le_refl _) _).alloc (by simp) _
    have hy : Hid (((w.alloc (.cells #[.int .u8 0, .int .u8 0, .int .u8 0, .bool false] 33)).alloc (.cells #[.int .u8 y0, .int .u8 y1, .int .u8 y2, .bool y3] 33)).heap[w.heap.size + 1]? = some (.cells #[.int .u8 y0, .int .u8 y1, .int .u8 y2, .bool y3] 33)) := by
      have := heap_alloc_new (w.alloc (.cells #[.int .u8 0, .int .u8 0, .int .u8 0, .bool false] 33)) (.cells #[.int .u8 y0, .int .u8 y1, .int .u8 y2, .bool y3] 33)
      rw [World.size_alloc] at this
      exact this
    have hz : Hid (((w.alloc (.cells #[.int .u8 0, .int .u8 0, .int .u8 0, .bool false] 33)).alloc (.cells #[.int .u8 y0, .int .u8 y1, .int .u8 y2, .bool y3] 33)).heap[w.heap.size]? = some (.cells #[.int .u8 0, .int .u8 0, .int .u8 0, .bool false] 33)) := (Below.heap_alloc _ _ _ (by simp)).trans (heap_alloc_new w _)
    have hs1 : w.heap.size + 2 ≤ ((w.alloc (.cells #[.int .u8 0, .int .u8 0, .int .u8 0, .bool false] 33)).alloc (.cells #[.int .u8 y0, .int .u8 y1, .int .u8 y2, .bool y3] 33)).heap.size := by simp
    generalize ((w.alloc (.cells #[.int .u8 0, .int .u8 0, .int .u8 0, .bool false] 33)).alloc (.cells #[.int .u8 y0, .int .u8 y1, .int .u8 y2, .bool y3] 33)) = W1 at *
    have HO1 : Hid (Ob B 57 W1 tb (.slice (some ⟨g, 0, none⟩) L.length (k + 1)) L) := HO.out.below hb1
    have HR1 : Hid (RowC W1 g (k + 1) L) := HR.out.stay (hb1.block g hgl)
    have g0 : W1.cell? ⟨tb, 0, none⟩ = some (.slice (some ⟨g, 0, none⟩) L.length (k + 1)) := HO1.out.cell
    have g1 : (W1.alloc (.cells #[] 33)).cell? ⟨tb, 0, none⟩ = some (.slice (some ⟨g, 0, none⟩) L.length (k + 1)) := Lib.cell?_alloc_some _ g0
    have hX : Below W1.heap.size W1 (W1.alloc (.cells #[] 33)).drew := ((Below.refl _ W1).alloc (Nat.le_refl _) _).drew
    have HX := hX
    have H0 : Hid ((W1.alloc (.cells #[] 33)).drew.ownsRow B 33 4 (.slice (some ⟨W1.heap.size, 0, none⟩) 0 0) ([] : List Mp).length (mpsCs [])) := own_none W1 B (by omega)
    have H1 : Hid (Mps (W1.alloc (.cells #[] 33)).drew (.slice (some ⟨g, 0, none⟩) k (k + 1)) (L.take k)) := (Mps.take (n := 0) HR1.out k (by omega)).below hX
    have H2 : Hid (Mps W1 (.slice (some ⟨g, 0, none⟩) 0 0) (L.drop (k + 1))) := by show Mps _ _ _; rw [List.drop_of_length_le (by omega)]; exact Mps.none _ _ _
    have htl : (L.take k).length ≤ 1000 := by rw [List.length_take]; omega
    have hdl : (L.drop (k + 1)).length + (L.take k).length ≤ 1000 := by rw [List.length_take, List.length_drop]; omega
    have hBx : Hid (B ≤ (W1.alloc (.cells #[] 33)).drew.heap.size) := Nat.le_trans hB (Nat.le_trans hb1.size hX.size)
    have HXs : Hid (W1.heap.size ≤ (W1.alloc (.cells #[] 33)).drew.heap.size) := hX.size
    have HXb : Hid (Below W1.heap.size W1 (W1.alloc (.cells #[] 33)).drew) := hX
    generalize hTk : L.take k = T1 at *
    generalize hDr : L.drop (k + 1) = T2 at *
    have HT1 : Hid (L.take k = T1) := hTk
    have HT2 : Hid (L.drop (k + 1) = T2) := hDr
    clear hX HX hTk hDr c0 c1 c2 c3
    go_region_law ((first
      | (refine step_app (by rfl) _ _ (by rfl) B (.slice (some ⟨W1.heap.size, 0, none⟩) 0 0) [] (.slice (some ⟨g, 0, none⟩) k (k + 1)) T1 (by rfl) (by rfl) (by exact H0.out) (by exact H1.out) (by simp only [List.length_nil]; omega) (by exact hBx.out) ?_; intro va Wa owna growa ata; have HBa : Hid (Below W1.heap.size W1 Wa) := grow_below HXb.out HXs.out growa (fun g e => Nat.le_of_eq (Option.some.inj e)); have HNa : Hid (∃ g, W1.heap.size ≤ g ∧ va.ownBlock = some g) := ata.elim (fun q => ⟨_, Nat.le_refl _, q⟩) (fun q => ⟨_, HXs.out, q⟩); have HOa : Hid (Wa.ownsRow B 33 4 va ([] ++ T1).length (mpsCs ([] ++ T1))) := owna; have g2 : Wa.cell? ⟨tb, 0, none⟩ = some (.slice (some ⟨g, 0, none⟩) L.length (k + 1)) := (HBa.out.cell (p := ⟨tb, 0, none⟩) (by show tb < _; omega)).trans g0; clear owna growa ata)
      | (refine step_app (by rfl) _ _ (by rfl) B va ([] ++ T1) (.slice (some ⟨g, 0, none⟩) 0 0) T2 (by rfl) (by rfl) (by exact HOa.out) (by exact H2.out.below HBa.out) (by simp only [List.nil_append]; omega) (by have := HBa.out.size; omega) ?_; intro vb Wb ownb growb atb; have HBb : Hid (Below W1.heap.size W1 Wb) := grow_below HBa.out HBa.out.size growb (fun g e => by { obtain ⟨g', h1, h2⟩ := HNa.out; rw [h2] at e; have e' := Option.some.inj e; omega }); have HNb : Hid (∃ g, W1.heap.size ≤ g ∧ vb.ownBlock = some g) := atb.elim (fun q => by { obtain ⟨g', h1, h2⟩ := HNa.out; exact ⟨g', h1, q.trans h2⟩ }) (fun q => ⟨_, HBa.out.size, q⟩); have HSb : Hid (Stp B 57 w (Wb.setCell ⟨tb, 0, none⟩ vb) tb (.slice (some ⟨g, 0, none⟩) L.length (k + 1)) vb (T1 ++ T2)) := Stp.of_set HO.out tR (Apart.of_below (hb1.trans (HBb.out.mono hb1.size))) ownb (.inr (by { obtain ⟨g', h1, h2⟩ := HNb.out; exact ⟨g', by omega, h2⟩ })); have HNs : Hid (vb.ownBlock ≠ some w.heap.size) := (fun e => by { obtain ⟨g', h1, h2⟩ := HNb.out; rw [h2] at e; have e' := Option.some.inj e; omega }); have c4 : Wb.cell? ⟨tb, 0, none⟩ = some (.slice (some ⟨g, 0, none⟩) L.length (k + 1)) := (HBb.out.cell (p := ⟨tb, 0, none⟩) (by show tb < _; omega)).trans g0; have f4 : Wb.frozen? ⟨tb, 0, none⟩ = false := (HBb.out.frozen (p := ⟨tb, 0, none⟩) (by show tb < _; omega)).trans HO1.out.thaw; obtain ⟨⟨u0, u1, u2, u3⟩, k0, k1, k2, k3⟩ := b4 ((HBb.out.block w.heap.size (by omega)).trans hz.out); obtain ⟨⟨z0, z1, z2, z3⟩, _⟩ := b4 ((HBb.out.block (w.heap.size + 1) (by omega)).trans hy.out); obtain ⟨a', cap', e'⟩ := HSb.out.ob.form; have e'' : vb = .slice a' (T1.length + T2.length) cap' := by { rw [e']; simp }; clear e'; subst e''; clear ownb growb atb)))
    all_goals
      clear HBa HBb HNa HNb HOa H0 H1 H2 hBx HXs HXb hy hz
      have n5 : w.heap.size ≠ tb := by omega
      have n6 : w.heap.size + 1 ≠ tb := by omega
      go_wp2
      refine bodyPost_ret (v := .agg #[.int .u8 y0, .int .u8 y1, .int .u8 y2, .bool y3]) (by simp [results, Try.results43, go_sem, u0, u1, u2, u3]) rfl ⟨rfl, .slice a' (T1.length + T2.length) cap', ?_⟩
      rw [HT1.out, HT2.out]
      exact HSb.out.far w.heap.size (Nat.le_refl _) hlt HNs.out (apart_set4 _ _ _ _ _ _)
  · have hcn : ¬ cap - (k + 1) = 0 := by omega
    have hcn2 : (k : Int) + 1 ≤ (cap : Int) := by omega
    go_enter Try.func43, Try.ntmps43
    go_wp2_with fail
    have hb1 : Below w.heap.size w ((w.alloc (.cells #[.int .u8 0, .int .u8 0, .int .u8 0, .bool false] 33)).alloc (.cells #[.int .u8 y0, .int .u8 y1, .int .u8 y2, .bool y3] 33)) := ((Below.refl _ w).alloc (Nat.le_refl _) _).alloc (by simp) _
    have hy : Hid (((w.alloc (.cells #[.int .u8 0, .int .u8 0, .int .u8 0, .bool false] 33)).alloc (.cells #[.int .u8 y0, .int .u8 y1, .int .u8 y2, .bool y3] 33)).heap[w.heap.size + 1]? = some (.cells #[.int .u8 y0, .int .u8 y1, .int .u8 y2, .bool y3] 33)) := by
      have := heap_alloc_new (w.alloc (.cells #[.int .u8 0, .int .u8 0, .int .u8 0, .bool false] 33)) (.cells #[.int .u8 y0, .int .u8 y1, .int .u8 y2, .bool y3] 33)
      rw [World.size_alloc] at this
      exact this
    have hz : Hid (((w.alloc (.cells #[.int .u8 0, .int .u8 0, .int .u8 0, .bool false] 33)).alloc (.cells #[.int .u8 y0, .int .u8 y1, .int .u8 y2, .bool y3] 33)).heap[w.heap.size]? = some (.cells #[.int .u8 0, .int .u8 0, .int .u8 0, .bool false] 33)) := (Below.heap_alloc _ _ _ (by simp)).trans (heap_alloc_new w _)
    have hs1 : w.heap.size + 2 ≤ ((w.alloc (.cells #[.int .u8 0, .int .u8 0, .int .u8 0, .bool false] 33)).alloc (.cells #[.int .u8 y0, .int .u8 y1, .int .u8 y2, .bool y3] 33)).heap.size := by simp
    generalize ((w.alloc (.cells #[.int .u8 0, .int .u8 0, .int .u8 0, .bool false] 33)).alloc (.cells #[.int .u8 y0, .int .u8 y1, .int .u8 y2, .bool y3] 33)) = W1 at *
    have HO1 : Hid (Ob B 57 W1 tb (.slice (some ⟨g, 0, none⟩) L.length cap) L) := HO.out.below hb1
    have HR1 : Hid (RowC W1 g cap L) := HR.out.stay (hb1.block g hgl)
    have g0 : W1.cell? ⟨tb, 0, none⟩ = some (.slice (some ⟨g, 0, none⟩) L.length cap) := HO1.out.cell
    have g1 : (W1.alloc (.cells #[] 33)).cell? ⟨tb, 0, none⟩ = some (.slice (some ⟨g, 0, none⟩) L.length cap) := Lib.cell?_alloc_some _ g0
    have hX : Below W1.heap.size W1 (W1.alloc (.cells #[] 33)).drew := ((Below.refl _ W1).alloc (Nat.le_refl _) _).drew
    have HX := hX
    have H0 : Hid ((W1.alloc (.cells #[] 33)).drew.ownsRow B 33 4 (.slice (some ⟨W1.heap.size, 0, none⟩) 0 0) ([] : List Mp).length (mpsCs [])) := own_none W1 B (by omega)
    have H1 : Hid (Mps (W1.alloc (.cells #[] 33)).drew (.slice (some ⟨g, 0, none⟩) k cap) (L.take k)) := (Mps.take (n := 0) HR1.out k (by omega)).below hX
    have H2 : Hid (Mps W1 (.slice (some ⟨g, (k + 1) * 4, none⟩) (L.length - (k + 1)) (cap - (k + 1))) (L.drop (k + 1))) := Mps.drop HR1.out (k + 1) (by omega)
    have htl : (L.take k).length ≤ 1000 := by rw [List.length_take]; omega
    have hdl : (L.drop (k + 1)).length + (L.take k).length ≤ 1000 := by rw [List.length_take, List.length_drop]; omega
    have hBx : Hid (B ≤ (W1.alloc (.cells #[] 33)).drew.heap.size) := Nat.le_trans hB (Nat.le_trans hb1.size hX.size)
    have HXs : Hid (W1.heap.size ≤ (W1.alloc (.cells #[] 33)).drew.heap.size) := hX.size
    have HXb : Hid (Below W1.heap.size W1 (W1.alloc (.cells #[] 33)).drew) := hX
    generalize hTk : L.take k = T1 at *
    generalize hDr : L.drop (k + 1) = T2 at *
    have HT1 : Hid (L.take k = T1) := hTk
    have HT2 : Hid (L.drop (k + 1) = T2) := hDr
    clear hX HX hTk hDr c0 c1 c2 c3
    go_region_law ((first
      | (refine step_app (by rfl) _ _ (by rfl) B (.slice (some ⟨W1.heap.size, 0, none⟩) 0 0) [] (.slice (some ⟨g, 0, none⟩) k cap) T1 (by rfl) (by rfl) (by exact H0.out) (by exact H1.out) (by simp only [List.length_nil]; omega) (by exact hBx.out) ?_; intro va Wa owna growa ata; have HBa : Hid (Below W1.heap.size W1 Wa) := grow_below HXb.out HXs.out growa (fun g e => Nat.le_of_eq (Option.some.inj e)); have HNa : Hid (∃ g, W1.heap.size ≤ g ∧ va.ownBlock = some g) := ata.elim (fun q => ⟨_, Nat.le_refl _, q⟩) (fun q => ⟨_, HXs.out, q⟩); have HOa : Hid (Wa.ownsRow B 33 4 va ([] ++ T1).length (mpsCs ([] ++ T1))) := owna; have g2 : Wa.cell? ⟨tb, 0, none⟩ = some (.slice (some ⟨g, 0, none⟩) L.length cap) := (HBa.out.cell (p := ⟨tb, 0, none⟩) (by show tb < _; omega)).trans g0; clear owna growa ata)
      | (refine step_app (by rfl) _ _ (by rfl) B va ([] ++ T1) (.slice (some ⟨g, (k + 1) * 4, none⟩) (L.length - (k + 1)) (cap - (k + 1))) T2 (by rfl) (by rfl) (by exact HOa.out) (by exact H2.out.below HBa.out) (by simp only [List.nil_append]; omega) (by have := HBa.out.size; omega) ?_; intro vb Wb ownb growb atb; have HBb : Hid (Below W1.heap.size W1 Wb) := grow_below HBa.out HBa.out.size growb (fun g e => by { obtain ⟨g', h1, h2⟩ := HNa.out; rw [h2] at e; have e' := Option.some.inj e; omega }); have HNb : Hid (∃ g, W1.heap.size ≤ g ∧ vb.ownBlock = some g) := atb.elim (fun q => by { obtain ⟨g', h1, h2⟩ := HNa.out; exact ⟨g', h1, q.trans h2⟩ }) (fun q => ⟨_, HBa.out.size, q⟩); have HSb : Hid (Stp B 57 w (Wb.setCell ⟨tb, 0, none⟩ vb) tb (.slice (some ⟨g, 0, none⟩) L.length cap) vb (T1 ++ T2)) := Stp.of_set HO.out tR (Apart.of_below (hb1.trans (HBb.out.mono hb1.size))) ownb (.inr (by { obtain ⟨g', h1, h2⟩ := HNb.out; exact ⟨g', by omega, h2⟩ })); have HNs : Hid (vb.ownBlock ≠ some w.heap.size) := (fun e => by { obtain ⟨g', h1, h2⟩ := HNb.out; rw [h2] at e; have e' := Option.some.inj e; omega }); have c4 : Wb.cell? ⟨tb, 0, none⟩ = some (.slice (some ⟨g, 0, none⟩) L.length cap) := (HBb.out.cell (p := ⟨tb, 0, none⟩) (by show tb < _; omega)).trans g0; have f4 : Wb.frozen? ⟨tb, 0, none⟩ = false := (HBb.out.frozen (p := ⟨tb, 0, none⟩) (by show tb < _; omega)).trans HO1.out.thaw; obtain ⟨⟨u0, u1, u2, u3⟩, k0, k1, k2, k3⟩ := b4 ((HBb.out.block w.heap.size (by omega)).trans hz.out); obtain ⟨⟨z0, z1, z2, z3⟩, _⟩ := b4 ((HBb.out.block (w.heap.size + 1) (by omega)).trans hy.out); obtain ⟨a', cap', e'⟩ := HSb.out.ob.form; have e'' : vb = .slice a' (T1.length + T2.length) cap' := by { rw [e']; simp }; clear e'; subst e''; clear ownb growb atb)))
    all_goals
      clear HBa HBb HNa HNb HOa H0 H1 H2 hBx HXs HXb hy hz
      have n5 : w.heap.size ≠ tb := by omega
      have n6 : w.heap.size + 1 ≠ tb := by omega
      go_wp2
      refine bodyPost_ret (v := .agg #[.int .u8 y0, .int .u8 y1, .int .u8 y2, .bool y3]) (by simp [results, Try.results43, go_sem, u0, u1, u2, u3]) rfl ⟨rfl, .slice a' (T1.length + T2.length) cap', ?_⟩
      rw [HT1.out, HT2.out]
      exact HSb.out.far w.heap.size (Nat.le_refl _) hlt HNs.out (apart_set4 _ _ _ _ _ _)
end Go.Proofs.Ytojglefbmfpphaa
