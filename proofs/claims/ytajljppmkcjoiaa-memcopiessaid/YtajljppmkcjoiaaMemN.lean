/- The document's memory: clean, the same frames, a fork. -/
import Derived.Test.YtajljppmkcjoiaaMemM
namespace Go.Proofs.Ytajljppmkcjoiaa
open Go.RowKit Go.Maps
set_option linter.unusedVariables false
set_option maxRecDepth 100000
set_option maxHeartbeats 2000000 in
theorem rclean_any (rb g K N : Nat) (f : Int) (L : List Int) (w : World) (h : RMem w rb g K L) (hK : K = 32 * N) (hL : ∀ x ∈ L, 0 ≤ x ∧ x ≤ 255) : Calls Try.prog 32 #[.pointer (some ⟨rb, 0, none⟩), .int .i64 f] w fun e w' => e = .returned (.bool (clB L N f)) ∧ Below w.heap.size w w' := by
  unfold clB
  by_cases q : inB N f 0 1 = true
  · have hi := inB_t q
    obtain ⟨F, rfl⟩ := Int.eq_ofNat_of_zero_le hi.1
    rw [q, Bool.true_and, Int.toNat_natCast]
    exact rclean_ok rb g K N F L w h hK (by omega) hL
  · have e1 : inB N f 0 1 = false := by simpa using q
    have c1 := rframe_any rb g K N f L w h hK
    unfold inE at c1
    rw [if_neg q] at c1
    rw [e1, Bool.false_and]
    clear q e1 h hK
    generalize fT L N f = T at *
    go_enter Try.func32, Try.ntmps32
    go_wp2_with fail
    refine c1.mono ?_
    rintro e W1 ⟨⟨v, rfl, hv⟩, hB⟩
    clear c1 hv
    go_wp2_with fail
    go_region
    all_goals
      go_wp2
      go_ret
      exact ⟨rfl, ⟨hB.os, hB.tape, hB.output, hB.size, hB.block⟩⟩
set_option maxHeartbeats 4000000 in
theorem rsame_ok (rb g K N F : Nat) (L : List Int) (w : World) (h : RMem w rb g K L) (hK : K = 32 * N) (hF : F < N) (hL : ∀ x ∈ L, 0 ≤ x ∧ x ≤ 255) : Calls Try.prog 34 #[.pointer (some ⟨rb, 0, none⟩), .int .i64 F] w fun e w' => (∃ v, e = .returned v ∧ Nts w' v (smL L F N)) ∧ Below w.heap.size w w' := by
  have c1 := rframe_any rb g K N F L w h hK
  have q : ∀ k : Nat, k < N → inB N k 0 1 = true := fun k hk => decide_eq_true ⟨by omega, by omega, by omega, by omega⟩
  unfold inE fT at c1
  rw [if_pos (q F hF), if_pos (q F hF), Int.toNat_natCast] at c1
  have hN : (N : Int) ≤ 64 := by have := h.hi; omega
  have HR : Hid3 (RMem w rb g K L ∧ K = 32 * N) := ⟨h, hK⟩
  have Hq : Hid3 (∀ k : Nat, k < N → inB N k 0 1 = true) := ⟨q⟩
  have HLb : Hid3 (∀ x ∈ L, 0 ≤ x ∧ x ≤ 255) := ⟨hL⟩
  obtain ⟨T, hT⟩ : ∃ T, T = strOfNums (frL L F) := ⟨_, rfl⟩
  rw [← hT] at c1
  have HT : Hid3 (T = strOfNums (frL L F)) := ⟨hT⟩
  obtain ⟨i0, hi0, hz0, hz1, hz2⟩ := info_parts infoI
  clear h hK q hL hT
  go_enter Try.func34, Try.ntmps34
  go_wp2_with fail
  refine c1.mono ?_
  rintro e W1 ⟨⟨vb, rfl, hvb⟩, hB1⟩
  clear c1
  have HV : Hid3 (Txt W1 vb T) := ⟨hvb⟩
  have HB1 : Hid3 (Below w.heap.size w W1) := ⟨hB1⟩
  have hs1 := hB1.size
  clear hvb hB1
  go_wp2_with fail
  go_loopw [5, 8] (fun v i wr => ∃ k : Nat, k ≤ N ∧ i = .int .i64 k ∧ wr.ownsRow W1.heap.size 3 1 v (smL L F k).length ((smL L F k).map (Value.int .i64)) ∧ Below W1.heap.size W1 wr) (fun _ i _ => N - (intOf i).toNat)
  case atStart => exact ⟨0, by omega, rfl, World.ownsRow_nil _ _ _ _, Below.refl _ _⟩
  case round =>
    obtain ⟨k, hk, rfl, hown, hB⟩ := hrel
    obtain ⟨a0, cap0, rfl⟩ : ∃ a cap, u5 = .slice a (smL L F k).length cap := by
      rcases hown.2 with ⟨hv, h0⟩ | ⟨g, cap, cur, hv, _⟩
      · exact ⟨none, 0, by rw [h0]; exact hv⟩
      · exact ⟨_, _, hv⟩
    have HO : Hid3 (wr.ownsRow W1.heap.size 3 1 (.slice a0 (smL L F k).length cap0) (smL L F k).length ((smL L F k).map (Value.int .i64))) := ⟨hown⟩
    have hsb := hB.size
    have hRr := (HR.out.1.below (HB1.out.trans (hB.mono hs1)))
    have cS := rsize_any rb g K N L wr hRr HR.out.2
    have HRr : Hid3 (RMem wr rb g K L) := ⟨hRr⟩
    clear hown hRr
    by_cases hlt : k < N
    · have hlt' : (k : Int) < (N : Int) := by omega
      have hL := smL_len L F k
      have cF := rframe_any rb g K N k L wr HRr.out HR.out.2
      unfold inE fT at cF
      rw [if_pos (Hq.out k hlt), if_pos (Hq.out k hlt), Int.toNat_natCast] at cF
      obtain ⟨T2, hT2⟩ : ∃ T2, T2 = strOfNums (frL L k) := ⟨_, rfl⟩
      rw [← hT2] at cF
      have hcmp : (T2.toList == T.toList) = decide (frL L k = frL L F) := by
        rw [hT2, HT.out, Bool.eq_iff_iff, decide_eq_true_iff, beq_iff_eq, Lib.toList_data, Lib.toList_data]
        exact ⟨str_inj (frL_bytes HLb.out) (frL_bytes HLb.out), fun e => by rw [e]⟩
      have HQ1 : Hid3 (k ≠ F → decide (frL L k = frL L F) = true → smL L F (k + 1) = smL L F k ++ [(k : Int)]) := ⟨fun hkf e => by rw [smL, if_pos ⟨hkf, of_decide_eq_true e⟩]⟩
      have HQ2 : Hid3 (k = F ∨ decide (frL L k = frL L F) = false → smL L F (k + 1) = smL L F k) := ⟨fun e => by
        rw [smL, if_neg]
        rintro ⟨e1, e2⟩
        rcases e with e | e
        · exact e1 e
        · exact of_decide_eq_false e e2⟩
      clear hT2 HRr
      generalize decide (frL L k = frL L F) = qq at *
      go_wp2_with fail
      refine cS.mono ?_
      rintro e W3 ⟨rfl, rfl⟩
      clear cS
      go_wp2_with fail
      refine cF.mono ?_
      rintro e W2 ⟨⟨vx, rfl, hvx⟩, hB2⟩
      clear cF
      have k1 := hvx W2 (Below.refl _ _)
      have k2 := HV.out W2 (hB.trans (hB2.mono hsb))
      have hB2' : Below W1.heap.size W1 W2 := hB.trans (hB2.mono hsb)
      have hown2 := own_below HO.out hB2
      have hsb2 := hB2'.size
      clear hvx hB2
      by_cases hkf : k = F
      · have hne : ((k : Int) != (F : Int)) = false := by subst hkf; simp
        have HL2 : Hid3 (smL L F (k + 1) = smL L F k) := ⟨HQ2.out (.inl hkf)⟩
        have HO2 : Hid3 (W2.ownsRow W1.heap.size 3 1 (.slice a0 (smL L F k).length cap0) (smL L F k).length ((smL L F k).map (Value.int .i64))) := ⟨hown2⟩
        clear hkf hown2 HQ1 HQ2
        go_wp2
        go_roundw
        case rel => exact ⟨k + 1, by omega, by go_num, by rw [HL2.out]; exact HO2.out, hB2'⟩
        case measure => simp [intOf]; omega
      · have hne : ((k : Int) != (F : Int)) = true := by simp; omega
        cases qq with
        | false =>
          have HL2 : Hid3 (smL L F (k + 1) = smL L F k) := ⟨HQ2.out (.inr rfl)⟩
          have HO2 : Hid3 (W2.ownsRow W1.heap.size 3 1 (.slice a0 (smL L F k).length cap0) (smL L F k).length ((smL L F k).map (Value.int .i64))) := ⟨hown2⟩
          clear hkf hown2 HQ1 HQ2
          go_wp2
          go_roundw
          case rel => exact ⟨k + 1, by omega, by go_num, by rw [HL2.out]; exact HO2.out, hB2'⟩
          case measure => simp [intOf]; omega
        | true =>
          have HL2 : Hid3 (smL L F (k + 1) = smL L F k ++ [(k : Int)]) := ⟨HQ1.out hkf rfl⟩
          clear hkf HQ1 HQ2 HO
          generalize smL L F k = M at *
          generalize hn : M.length = n at *
          have HN : Hid3 (M.length = n) := ⟨hn⟩
          clear hn
          go_wp2_with (at_builtin; refine wpList_append_own _ rfl _ _ 52 rfl W1.heap.size 3 i0 (.int .i64 0) 1 8 Try.underlying52 hi0 hz0 hz1 hz2 rfl (by decide) _ _ _ rfl (hown2.alloc _) ⟨W2.heap.size, 0, none⟩ 1 1 [.int .i64 (k : Int)] rfl rfl (cell_one W2 (.int .i64 (k : Int)) 3) (by simp [Value.oneCell']) (by unfold maxLen; omega) (by omega) (by simp; omega) ?_; intro v' w1 hown' hgrow _)
          have hb3 : Below W1.heap.size W1 w1 := (hB2'.alloc hB2'.size _).grown hgrow (by simp; omega) (fun j hj => (hown2.lt j hj).1)
          go_roundw
          case rel =>
            refine ⟨k + 1, by omega, by go_num, ?_, hb3⟩
            rw [HL2.out, List.length_append, List.map_append, HN.out, List.map_cons, List.map_nil]
            exact hown'
          case measure => simp [intOf]; omega
    · have hlt' : ¬ (k : Int) < (N : Int) := by omega
      have hkN : k = N := by omega
      subst hkN
      go_wp2_with fail
      refine cS.mono ?_
      rintro e W3 ⟨rfl, rfl⟩
      clear cS
      go_wp2
      go_ret
      exact ⟨⟨_, rfl, Nts.of_own HO.out⟩, HB1.out.trans (hB.mono hs1)⟩
set_option maxHeartbeats 2000000 in
theorem rsame_any (rb g K N : Nat) (f : Int) (L : List Int) (w : World) (h : RMem w rb g K L) (hK : K = 32 * N) (hL : ∀ x ∈ L, 0 ≤ x ∧ x ≤ 255) : Calls Try.prog 34 #[.pointer (some ⟨rb, 0, none⟩), .int .i64 f] w fun e w' => (∃ v, e = .returned v ∧ Nts w' v (smO L N f)) ∧ Below w.heap.size w w' := by
  unfold smO
  by_cases q : inB N f 0 1 = true
  · have hi := inB_t q
    obtain ⟨F, rfl⟩ := Int.eq_ofNat_of_zero_le hi.1
    rw [if_pos q, Int.toNat_natCast]
    exact rsame_ok rb g K N F L w h hK (by omega) hL
  · have c1 := rframe_any rb g K N f L w h hK
    unfold inE at c1
    rw [if_neg q] at c1
    rw [if_neg q]
    clear q h hK hL
    generalize fT L N f = T at *
    go_enter Try.func34, Try.ntmps34
    go_wp2_with fail
    refine c1.mono ?_
    rintro e W1 ⟨⟨v, rfl, hv⟩, hB⟩
    clear c1 hv
    go_wp2_with fail
    go_loopw [5, 8] (fun v i wr => v = .slice none 0 0 ∧ i = .int .i64 0 ∧ wr = W1) (fun _ _ _ => 0)
    case atStart => exact ⟨rfl, rfl, rfl⟩
    case round =>
      obtain ⟨rfl, rfl, rfl⟩ := hrel
      go_wp2
      go_ret
      exact ⟨⟨_, rfl, Nts.nil _⟩, hB⟩
set_option maxHeartbeats 2000000 in
theorem sameints_any (v u : Value) (xs : List Int) (w : World) (hv : Nts w v xs) (hu : Nts w u xs) (hl : xs.length ≤ 1000) : Calls Try.prog 33 #[v, u] w fun e w' => e = .returned (.bool true) ∧ Below w.heap.size w w' := by
  obtain ⟨a, cap, rfl, _, hc⟩ := hv
  obtain ⟨a2, cap2, rfl, _, hc2⟩ := hu
  have HC : Hid3 (∀ j x, xs[j]? = some x → ∃ g off, a = some ⟨g, off, none⟩ ∧ w.cell? ⟨g, off + j, none⟩ = some (.int .i64 x)) := ⟨hc⟩
  have HC2 : Hid3 (∀ j x, xs[j]? = some x → ∃ g off, a2 = some ⟨g, off, none⟩ ∧ w.cell? ⟨g, off + j, none⟩ = some (.int .i64 x)) := ⟨hc2⟩
  have hne : ((xs.length : Int) != (xs.length : Int)) = false := by simp
  clear hc hc2
  go_enter Try.func33, Try.ntmps33
  go_wp2
  go_loopw [5] (fun s5 wr => ∃ kk nq : Nat, kk ≤ xs.length ∧ s5 = .int .i64 kk ∧ wr = w.drewN nq) (fun s5 _ => xs.length - (intOf s5).toNat)
  case atStart => exact ⟨0, 0, Nat.zero_le _, rfl, rfl⟩
  case round =>
    obtain ⟨kk, nq, hkk, rfl, rfl⟩ := hrel
    by_cases hlt : kk < xs.length
    · have hltz : (kk : Int) < (xs.length : Int) := by omega
      obtain ⟨g, off, rfl, c0⟩ := HC.out kk xs[kk] (List.getElem?_eq_getElem hlt)
      obtain ⟨g', off', rfl, d0⟩ := HC2.out kk xs[kk] (List.getElem?_eq_getElem hlt)
      generalize xs[kk] = y at *
      go_wp2_with fail
      go_quiet (fail)
      go_wp2
      go_roundw
      case rel => exact ⟨kk + 1, _, by omega, by go_num, rfl⟩
      case measure => simp [intOf]; omega
    · have hltz : ¬ (kk : Int) < (xs.length : Int) := by omega
      go_wp2
      go_ret
      exact ⟨rfl, ⟨rfl, rfl, rfl, Nat.le_refl _, fun _ _ => rfl⟩⟩
theorem own_pos {w : World} {B n : Nat} {t : TypeId} {v : Value} {xs : List Value} (h : w.ownsRow B t 1 v n xs) (hn : 0 < n) : ∃ g cap, v = .slice (some ⟨g, 0, none⟩) n cap := by
  rcases h.2 with ⟨_, h0⟩ | ⟨g, cap, cur, e, _⟩
  · omega
  · exact ⟨g, cap, e⟩
set_option maxHeartbeats 2000000 in
theorem rfork_any (rb g K : Nat) (L : List Int) (w : World) (h : RMem w rb g K L) (hK : 0 < K) : Calls Try.prog 26 #[.pointer (some ⟨rb, 0, none⟩)] w fun e w' => (∃ rb2 g2, e = .returned (.pointer (some ⟨rb2, 0, none⟩)) ∧ RMem w' rb2 g2 K L ∧ w.heap.size ≤ rb2 ∧ w.heap.size ≤ g2) ∧ Below w.heap.size w w' := by
  have hh := h.hi
  have hl := h.len
  obtain ⟨C, hC, hc⟩ := h.c
  have hcell : Hid3 (∀ W, Below w.heap.size w W → ∀ j v, ((L.take K).map (Value.int .u8))[j]? = some v → W.cell? ((⟨g, 0, none⟩ : Addr).add j) = some v) := ⟨fun W hW j v hj => by
    rw [List.getElem?_map] at hj
    cases hx : (L.take K)[j]? with
    | none => rw [hx] at hj; cases hj
    | some x =>
      rw [hx] at hj
      cases hj
      have hj2 : j < K := by have := (List.getElem?_eq_some_iff.1 hx).1; rw [List.length_take] at this; omega
      have hb := h.byte j hj2
      rw [Addr.add_mid, Nat.zero_add, World.cell?_of_block (w := w) (hW.block g (World.block_lt_of_cell? w _ hb)), hb]
      rw [List.getElem?_take, if_pos hj2] at hx
      rw [List.getD_eq_getElem?_getD, hx]
      rfl⟩
  have hrl := h.lt
  have HL : Hid3 ((L.take K).length = K) := ⟨by rw [List.length_take]; omega⟩
  have HLL : Hid3 (L.length = 2048) := ⟨hl⟩
  obtain ⟨M, hM⟩ : ∃ M, M = L.take K := ⟨_, rfl⟩
  rw [← hM] at HL hcell
  have HM : Hid3 (M = L.take K) := ⟨hM⟩
  obtain ⟨i0, hi0, hz0, hz1, hz2⟩ := info_parts infoU8
  have hwa : Below w.heap.size w (w.alloc (.cells #[] 5)) := (Below.refl _ w).alloc (Nat.le_refl _) _
  have hcA := hcell.out _ hwa
  have HB : Hid3 (Below w.heap.size w (w.alloc (.cells #[] 5))) := ⟨hwa⟩
  have hown := own_nil8 w w.heap.size (Nat.le_refl _)
  clear hM hl h hwa
  go_enter Try.func26, Try.ntmps26
  go_wp2_with (at_builtin; refine wpList_append_own _ rfl _ _ 39 rfl w.heap.size 5 i0 (.int .u8 0) 1 1 Try.underlying39 hi0 hz0 hz1 hz2 rfl (by decide) _ _ _ rfl hown ⟨g, 0, none⟩ K C (M.map (Value.int .u8)) rfl (by rw [List.length_map, Nat.mul_one]; exact HL.out) hcA (by exact map_one M) (by unfold maxLen; omega) (by omega) (by simp) ?_; intro v' w1 hown' hgrow _; obtain ⟨g3, cap3, rfl⟩ := own_pos hown' (by omega))
  have hb3 : Below w.heap.size w w1 := HB.out.grown hgrow (by simp) (fun j hj => (hown.lt j hj).1)
  go_ret
  rcases hown'.2 with ⟨h0, _⟩ | ⟨g2, cap, cur, ev, hg, hblk, hk, _, hsz, htk⟩
  · cases h0
  · injection ev with ev1 ev2 ev3
    injection ev1 with ev1
    injection ev1 with ev1
    subst ev1 ev3
    have hg2 : g3 < w1.heap.size := (Array.getElem?_eq_some_iff.1 hblk).1
    refine ⟨⟨_, g3, rfl, ⟨⟨cap3, by omega, ?_⟩, ⟨cur.toList.drop K, ?_⟩, HLL.out, by omega, hh⟩, hb3.size, hg⟩, hb3.alloc hb3.size _⟩
    · exact heap_alloc_last _ _
    · rw [Lib.alloc_old _ _ _ hg2, hblk, ← HM.out]
      rw [Nat.zero_add, Nat.mul_one, List.nil_append] at htk
      rw [← htk, List.take_append_drop, Array.toArray_toList]
end Go.Proofs.Ytajljppmkcjoiaa
