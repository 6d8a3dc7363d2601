/- MemCopies: the walk. -/
import Derived.Test.YtajljppmkcjoiaaMemN
import Derived.Test.YtajljppmkcjoiaaLawMemA
namespace Go.Proofs.Ytajljppmkcjoiaa
open Go.RowKit Go.Maps
set_option linter.unusedVariables false
set_option maxRecDepth 100000
theorem fr_ext {L M : List Int} {f g : Nat} (hl : L.length = 2048) (hm : M.length = 2048) (hf : f < 64) (hg : g < 64) (h : ∀ i, i < 32 → L.getD (f * 32 + i) 0 = M.getD (g * 32 + i) 0) : frL L f = frL M g := by
  have l1 := frL_len hl hf
  have l2 := frL_len hm hg
  refine List.ext_getElem (by omega) fun i h1 h2 => ?_
  have e := h i (by omega)
  rw [← frL_get (by omega), ← frL_get (by omega), List.getD_eq_getElem?_getD, List.getD_eq_getElem?_getD, List.getElem?_eq_getElem h1, List.getElem?_eq_getElem h2] at e
  exact e
theorem cp_to {L : List Int} {t f : Nat} (hl : L.length = 2048) (ht : t < 64) (hf : f < 64) : frL (putL L (t * 32) (frL L f)) t = frL L f := by
  have lf := frL_len hl hf
  refine fr_ext (by rw [putL_length (by omega)]; exact hl) hl ht hf (fun i hi => ?_)
  rw [putL_in (by omega) (by omega), frL_get hi]
theorem cp_from {L : List Int} {t f : Nat} (hl : L.length = 2048) (ht : t < 64) (hf : f < 64) : frL (putL L (t * 32) (frL L f)) f = frL L f := by
  by_cases e : t = f
  · subst e
    exact cp_to hl ht hf
  · have lf := frL_len hl hf
    refine fr_ext (by rw [putL_length (by omega)]; exact hl) hl hf hf (fun i hi => ?_)
    rw [putL_out (by omega) (by omega)]
theorem zr_to {L : List Int} {t : Nat} (hl : L.length = 2048) (ht : t < 64) : frL (putL L (t * 32) (List.replicate 32 0)) t = zeros := by
  have l0 : (List.replicate 32 (0 : Int)).length = 32 := List.length_replicate
  have lz : (putL L (t * 32) (List.replicate 32 0)).length = 2048 := by rw [putL_length (by omega)]; exact hl
  have l1 := frL_len lz ht
  refine List.ext_getElem (by rw [l1]; rfl) fun i h1 h2 => ?_
  have e := putL_in (L := L) (vs := List.replicate 32 0) (k := t * 32) (p := i) (by omega) (by omega)
  rw [← frL_get (by omega), List.getD_eq_getElem?_getD, List.getElem?_eq_getElem h1] at e
  have ez : zeros[i] = 0 := List.eq_of_mem_replicate (n := 32) (List.getElem_mem h2)
  rw [ez]
  rw [Option.getD_some, List.getD_eq_getElem?_getD, List.getElem?_replicate, if_pos (by omega)] at e
  exact e
theorem sm_mem {L : List Int} {f t : Nat} (hne : t ≠ f) (h : frL L t = frL L f) : ∀ k, t < k → (t : Int) ∈ smL L f k
  | 0, h0 => by omega
  | k + 1, h0 => by
    unfold smL
    by_cases e : t = k
    · subst e
      rw [if_pos ⟨hne, h⟩]
      exact List.mem_append_right _ (.head _)
    · have := sm_mem hne h k (by omega)
      split
      · exact List.mem_append_left _ this
      · exact this
set_option maxHeartbeats 8000000 in
theorem copies_law (sv : Value) (l : List Dm) (p0 p1 : Int) (T G : Nat) (w : World) (hd : Dds w.heap.size w sv l) (h0 : 0 ≤ p0 ∧ p0 ≤ 255) (h1 : 0 ≤ p1 ∧ p1 ≤ 255) (hF : p0 % 5 = (T : Int)) (hO : p1 % 5 = (G : Int)) : Calls Try.prog 7 #[sv, .int .u8 p0, .int .u8 p1] w fun e w' => e = .returned (.bool true) ∧ Below w.heap.size w w' := by
  have hT5 : T < 5 := by omega
  have hG5 : G < 5 := by omega
  have cP := play_any 4 5 sv l w hd (by decide) (by decide) (by decide) (by decide)
  clear hd
  generalize playL (5 : Nat) (l.take 30) zeroL = L at *
  go_enter Try.func7, Try.ntmps7
  go_wp2_with fail
  refine cP.mono ?_
  rintro e W1 ⟨b, rb, g, rfl, hT, hB1⟩
  have cL := mlive_any W1
  clear cP
  go_wp2_with fail
  refine cL.mono ?_
  rintro e W2 ⟨rfl, hB2⟩
  clear cL
  have HM2 : Hid3 (Mem W2 b 5 L) := ⟨hT.p.below hB2⟩
  have HLb : Hid3 (∀ x ∈ L, 0 ≤ x ∧ x ≤ 255) := ⟨hT.by_⟩
  have hbb : w.heap.size ≤ b := hT.bB
  have HW2 : Hid3 (Below w.heap.size w W2) := ⟨hB1.trans (hB2.mono hB1.size)⟩
  clear hT hB1 hB2
  go_wp2_with fail
  have cSn := fun n => size_ok b 5 L (W2.drewN n) (HM2.out.below (Below.drewN (Below.refl _ W2) n))
  go_quiet ((go_at_call 16; exact Calls.quiet_of_same (cSn _)))
  rw [hF, hO]
  have HMd : Hid3 (Mem (W2.drewN nq) b 5 L) := ⟨HM2.out.below (Below.drewN (Below.refl _ W2) nq)⟩
  have HWd : Hid3 (Below w.heap.size w (W2.drewN nq)) := ⟨Below.drewN HW2.out nq⟩
  clear cSn HM2 HW2
  generalize W2.drewN nq = WD at *
  have c1 := copy_ok b T G 5 L WD HMd.out (by omega) (by omega)
  have hlen : Hid3 (L.length = 2048) := ⟨HMd.out.len⟩
  obtain ⟨L2, hL2⟩ : ∃ L2, L2 = putL L (T * 32) (frL L G) := ⟨_, rfl⟩
  have E1 : Hid3 (frL L2 T = frL L2 G) := ⟨by rw [hL2, cp_to hlen.out (by omega) (by omega), cp_from hlen.out (by omega) (by omega)]⟩
  rw [← hL2] at c1
  clear hL2
  go_wp2_with fail
  refine c1.mono ?_
  rintro e W3 ⟨rfl, hM3, hO3⟩
  clear c1
  have HW3 : Hid3 (Below w.heap.size w W3) := ⟨HWd.out.trans (hO3.below w.heap.size hbb HWd.out.size)⟩
  have HM3 : Hid3 (Mem W3 b 5 L2) := ⟨hM3⟩
  have c2 := frame_ok b T 5 L2 W3 hM3 (by omega)
  have hb3 := hM3.lt
  have HF1 : Hid3 ((L2.drop (T * 32)).take 32 = frL L2 G) := ⟨E1.out⟩
  rw [HF1.out] at c2
  clear hM3 hO3 HMd HWd
  go_wp2_with fail
  refine c2.mono ?_
  rintro e W4 ⟨rfl, hx4, hB4⟩
  clear c2
  have HW4 : Hid3 (Below w.heap.size w W4) := ⟨HW3.out.trans (hB4.mono HW3.out.size)⟩
  have HM4 : Hid3 (Mem W4 b 5 L2) := ⟨HM3.out.below hB4⟩
  have c3 := frame_ok b G 5 L2 W4 HM4.out (by omega)
  have hs4 : W3.heap.size < W4.heap.size := (Array.getElem?_eq_some_iff.1 hx4).1
  have HX4 : Hid3 (W4.heap[W3.heap.size]? = some (.cells ((frL L2 G).map (Value.int .u8)).toArray 70)) := ⟨hx4⟩
  clear hx4 hB4
  go_wp2_with fail
  refine c3.mono ?_
  rintro e W5 ⟨rfl, hx5, hB5⟩
  clear c3
  have HW5 : Hid3 (Below w.heap.size w W5) := ⟨HW4.out.trans (hB5.mono HW4.out.size)⟩
  have HM5 : Hid3 (Mem W5 b 5 L2) := ⟨HM4.out.below hB5⟩
  have c4 := same_ok b G 5 L2 W5 HM5.out hG5
  have HX5 : Hid3 (W5.heap[W3.heap.size]? = some (.cells ((frL L2 G).map (Value.int .u8)).toArray 70) ∧ W5.heap[W4.heap.size]? = some (.cells ((frL L2 G).map (Value.int .u8)).toArray 70)) := ⟨(hB5.block _ hs4).trans HX4.out, hx5⟩
  have hs5 : W4.heap.size < W5.heap.size := (Array.getElem?_eq_some_iff.1 hx5).1
  clear hx5 hB5
  go_wp2_with fail
  refine c4.mono ?_
  rintro e W6 ⟨⟨vs, rfl, hn6⟩, hB6⟩
  clear c4
  have HW6 : Hid3 (Below w.heap.size w W6) := ⟨HW5.out.trans (hB6.mono HW5.out.size)⟩
  have HM6 : Hid3 (Mem W6 b 5 L2) := ⟨HM5.out.below hB6⟩
  have HX6 : Hid3 (W6.heap[W3.heap.size]? = some (.cells ((frL L2 G).map (Value.int .u8)).toArray 70) ∧ W6.heap[W4.heap.size]? = some (.cells ((frL L2 G).map (Value.int .u8)).toArray 70)) := ⟨(hB6.block _ (by omega)).trans HX5.out.1, (hB6.block _ hs5).trans HX5.out.2⟩
  have hs6 := hB6.size
  have HE : Hid3 (T ≠ G → (T : Int) ∈ smL L2 G 5) := ⟨fun hne => sm_mem hne E1.out 5 hT5⟩
  have hsl := smL_len L2 G 5
  generalize smL L2 G 5 = M at *
  obtain ⟨ad, cap, rfl, _, hcell⟩ := hn6
  have HC : Hid3 (∀ j x, M[j]? = some x → ∃ g off, ad = some ⟨g, off, none⟩ ∧ W6.cell? ⟨g, off + j, none⟩ = some (.int .i64 x)) := ⟨hcell⟩
  clear hcell hB6 HX5 HX4 HM5 HM4 HM3 HW5 HW4 HW3
  go_wp2_with fail
  go_loopw [18, 19] (fun s18 s19 wr => ∃ i : Nat, i ≤ M.length ∧ s19 = .int .i64 i ∧ s18 = .bool (decide (T = G) || (M.take i).any (fun x => x == (T : Int))) ∧ wr = W6) (fun _ s19 _ => M.length - (intOf s19).toNat)
  case atStart =>
    refine ⟨0, Nat.zero_le _, rfl, ?_, rfl⟩
    rw [List.take_zero, List.any_nil, Bool.or_false]
    congr 1
    rw [Bool.eq_iff_iff, beq_iff_eq, decide_eq_true_iff]
    omega
  case round =>
    obtain ⟨i, hi, rfl, rfl, rfl⟩ := hrel
    by_cases hlt : i < M.length
    · have hltz : (i : Int) < (M.length : Int) := by omega
      obtain ⟨gg, off, rfl, c0⟩ := HC.out i M[i] (List.getElem?_eq_getElem hlt)
      have HS : Hid3 ((decide (T = G) || (M.take (i + 1)).any (fun x => x == (T : Int))) = ((decide (T = G) || (M.take i).any (fun x => x == (T : Int))) || (M[i] == (T : Int)))) := ⟨by rw [List.take_succ_eq_append_getElem hlt, List.any_append, Bool.or_assoc]; simp⟩
      generalize M[i] = y at *
      generalize hq : (decide (T = G) || (M.take i).any (fun x => x == (T : Int))) = q at *
      clear hq
      cases q with
      | true =>
        go_wp2
        go_roundw
        case rel => exact ⟨i + 1, by omega, by go_num, by rw [HS.out]; rfl, trivial⟩
        case measure => simp [intOf]; omega
      | false =>
        go_wp2
        go_roundw
        case rel => exact ⟨i + 1, by omega, by go_num, by rw [HS.out]; rfl, trivial⟩
        case measure => simp [intOf]; omega
    · have hltz : ¬ (i : Int) < (M.length : Int) := by omega
      have hfound : (decide (T = G) || (M.take i).any (fun x => x == (T : Int))) = true := by
        rw [List.take_of_length_le (by omega)]
        by_cases e : T = G
        · rw [decide_eq_true e, Bool.true_or]
        · rw [Bool.or_eq_true]
          exact .inr (List.any_eq_true.2 ⟨_, HE.out e, beq_self_eq_true _⟩)
      rw [hfound]
      have c5 := zero_ok b T 5 L2 wr HM6.out (by omega)
      have Ez : Hid3 (frL (putL L2 (T * 32) (List.replicate 32 0)) T = zeros) := ⟨zr_to HM6.out.len (by omega)⟩
      clear hfound HC HE
      go_wp2_with fail
      refine c5.mono ?_
      rintro e W7 ⟨rfl, hM7, hO7⟩
      clear c5
      have HW7 : Hid3 (Below w.heap.size w W7) := ⟨HW6.out.trans (hO7.below w.heap.size hbb HW6.out.size)⟩
      have hxa := (hO7.block W3.heap.size (by omega) (by omega)).trans HX6.out.1
      have hxb := (hO7.block W4.heap.size (by omega) (by omega)).trans HX6.out.2
      have tx : ∀ k, W7.heap[k]? = some (.cells ((frL L2 G).map (Value.int .u8)).toArray 70) → (convert 39 9 (.slice (some ⟨k, 0, none⟩) 32 32)).run Try.prog W7 = .ok (.string (strOfNums (frL L2 G))) W7 := fun k hk => Txt.of_cells W7 k 0 32 32 (frL L2 G) (frL_len HM6.out.len (by omega)) (fun i hi2 => by
        rw [Nat.zero_add, cell_of_row W7 _ i _ _ _ hk, List.getElem?_toArray, List.getElem?_map]
        have h3 : i < (frL L2 G).length := by rw [frL_len HM6.out.len (by omega)]; exact hi2
        rw [List.getD_eq_getElem?_getD, List.getElem?_eq_getElem h3]
        rfl) W7 (Below.refl _ _)
      have k1 := tx _ hxa
      have k2 := tx _ hxb
      have c6 := clean_ok b T 5 _ W7 hM7 (by omega)
      rw [Ez.out, decide_eq_true rfl] at c6
      generalize strOfNums (frL L2 G) = TX at *
      clear tx hxa hxb hO7 hM7 Ez HX6
      go_wp2_with fail
      refine c6.mono ?_
      rintro e W8 ⟨rfl, rfl⟩
      clear c6
      go_wp2
      go_ret
      exact ⟨rfl, HW7.out⟩
theorem copies_any (sv : Value) (l : List Dm) (p0 p1 : Int) (w : World) (hd : Dds w.heap.size w sv l) (h0 : 0 ≤ p0 ∧ p0 ≤ 255) (h1 : 0 ≤ p1 ∧ p1 ≤ 255) : Calls Try.prog 7 #[sv, .int .u8 p0, .int .u8 p1] w fun e w' => e = .returned (.bool true) ∧ Below w.heap.size w w' :=
  copies_law sv l p0 p1 (p0 % 5).toNat (p1 % 5).toNat w hd h0 h1 (by omega) (by omega)
end Go.Proofs.Ytajljppmkcjoiaa
