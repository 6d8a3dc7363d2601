/- Deeds on both pools: play. -/
import Derived.Test.YtalhlbhhgddddaaDoorPlZ
import Derived.Test.YtalhlbhhgddddaaDoorPlK
import Derived.Great.Ranges
import Derived.Great.BuildSlice
namespace Go.Proofs.YtalhlbhhgddddaaDoor
open Go.RowKit Go.Maps
set_option linter.unusedVariables false
set_option maxRecDepth 100000
theorem do_any (B b fb : Nat) (v : Value) (rb : Nat) (rv : Value) (q : Ps) (d : Dd) (hf : d.f ≤ 255) (w : World) (h : Tw B w b fb v rb rv q) (hl : q.E.length ≤ 1000) (hB : B ≤ w.heap.size) (hNT : ∀ W, Below B w W → NTabs W) : Calls Tryd.prog 26 #[.pointer (some ⟨b, 0, none⟩), .pointer (some ⟨rb, 0, none⟩), ddV d] w fun r w' => r = .returned (.bool true) ∧ Mv B w w' b fb v rb rv (doQ d q) := by
  obtain ⟨k, n, e, t, f, s, r⟩ := d
  unfold ddV doQ
  simp only at hf ⊢
  by_cases hs : 300 < s.size
  · have hc : cut3 s = s.extract 0 300 := by unfold cut3; rw [if_pos hs]
    rw [hc]
    by_cases h0 : k = 0
    · subst h0; exact do_0l B b fb v rb rv q n e t f s r hf hs w h hl hB hNT
    by_cases h1 : k = 1
    · subst h1; exact do_1l B b fb v rb rv q n e t f s r hf hs w h hl hB hNT
    by_cases h2 : k = 2
    · subst h2; exact do_2l B b fb v rb rv q n e t f s r hf hs w h hl hB hNT
    by_cases h3 : k = 3
    · subst h3; exact do_3l B b fb v rb rv q n e t f s r hf hs w h hl hB hNT
    by_cases h4 : k = 4
    · subst h4; exact do_4l B b fb v rb rv q n e t f s r hf hs w h hl hB hNT
    rw [if_neg h0, if_neg h1, if_neg h2, if_neg h3, if_neg h4]
    exact do_el B b fb v rb rv q k n h0 h1 h2 h3 h4 e t f s r hf hs w h hl hB hNT
  · have hc : cut3 s = s := by unfold cut3; rw [if_neg hs]
    rw [hc]
    by_cases h0 : k = 0
    · subst h0; exact do_0s B b fb v rb rv q n e t f s r hf hs w h hl hB hNT
    by_cases h1 : k = 1
    · subst h1; exact do_1s B b fb v rb rv q n e t f s r hf hs w h hl hB hNT
    by_cases h2 : k = 2
    · subst h2; exact do_2s B b fb v rb rv q n e t f s r hf hs w h hl hB hNT
    by_cases h3 : k = 3
    · subst h3; exact do_3s B b fb v rb rv q n e t f s r hf hs w h hl hB hNT
    by_cases h4 : k = 4
    · subst h4; exact do_4s B b fb v rb rv q n e t f s r hf hs w h hl hB hNT
    rw [if_neg h0, if_neg h1, if_neg h2, if_neg h3, if_neg h4]
    exact do_es B b fb v rb rv q k n h0 h1 h2 h3 h4 e t f s r hf hs w h hl hB hNT
/-- A state that so many deeds lead to. -/
inductive Rch : Nat → Ps → Prop
  | zero : Rch 0 (newP 8)
  | step {i : Nat} {q : Ps} (d : Dd) : Rch i q → Rch (i + 1) (doQ d q)
theorem doQ_len (d : Dd) (q : Ps) : (doQ d q).E.length ≤ q.E.length + 1 := by
  unfold doQ qtQ grQ shQ frQ rpQ giveQ takeQ
  repeat' split
  all_goals first | omega | (simp only [List.length_append, List.length_cons, List.length_nil]; omega)
theorem Rch.len {i : Nat} {q : Ps} (h : Rch i q) : q.E.length ≤ i := by
  induction h with
  | zero => exact Nat.zero_le _
  | step d _ ih => have := doQ_len d ‹Ps›; omega
/-- A slice of deeds that can be read. -/
def Dds (w : World) (v : Value) (l : List Dd) : Prop := ∃ a cap, v = .slice a l.length cap ∧ (∀ d ∈ l, d.f ≤ 255) ∧ ∀ (j : Nat) (d : Dd), l[j]? = some d → ∃ g off, a = some ⟨g, off, none⟩ ∧ w.cell? ⟨g, off + j * 7, none⟩ = some (.int .i64 d.k) ∧ w.cell? ⟨g, off + j * 7 + 1, none⟩ = some (.int .i64 d.n) ∧ w.cell? ⟨g, off + j * 7 + 2, none⟩ = some (.int .u8 d.e) ∧ w.cell? ⟨g, off + j * 7 + 3, none⟩ = some (.int .u8 d.t) ∧ w.cell? ⟨g, off + j * 7 + 4, none⟩ = some (.int .u8 d.f) ∧ w.cell? ⟨g, off + j * 7 + 5, none⟩ = some (.string d.s) ∧ w.cell? ⟨g, off + j * 7 + 6, none⟩ = some (.int .u8 d.r)
theorem Dds.below {w w' : World} {v : Value} {l : List Dd} (h : Dds w v l) (k : Below w.heap.size w w') : Dds w' v l := by
  obtain ⟨a, cap, rfl, h8, hcell⟩ := h
  refine ⟨a, cap, rfl, h8, fun j d hj => ?_⟩
  obtain ⟨g, off, rfl, c0, c1, c2, c3, c4, c5, c6⟩ := hcell j d hj
  have hb := k.block g (World.block_lt_of_cell? w _ c0)
  refine ⟨g, off, rfl, ?_, ?_, ?_, ?_, ?_, ?_, ?_⟩ <;> (rw [World.cell?_of_block (w := w) hb]; assumption)
/-- Both pools above a world. -/
structure Bo (w W : World) (b fb rb i : Nat) : Prop where
  ex : ∃ v rv q, Tw w.heap.size W b fb v rb rv q ∧ Rch i q
  bl : Below w.heap.size w W
theorem Bo.low {w W W' : World} {b fb rb i : Nat} (h : Bo w W b fb rb i) (k : Below W.heap.size W W') : Bo w W' b fb rb i := by
  obtain ⟨v, rv, q, h1, h2⟩ := h.ex
  exact ⟨⟨v, rv, q, h1.low k, h2⟩, h.bl.trans (k.mono h.bl.size)⟩
theorem Bo.step {w W W' : World} {b fb rb i : Nat} {v : Value} {rv : Value} {q : Ps} {d : Dd} (hb : Below w.heap.size w W) (h : Tw w.heap.size W b fb v rb rv q) (hr : Rch i q) (k : Mv w.heap.size W W' b fb v rb rv (doQ d q)) : Bo w W' b fb rb (i + 1) := by
  obtain ⟨v', rv', h1⟩ := k.out
  exact ⟨⟨v', rv', _, h1, hr.step d⟩, hb.trans (Mv.below (w1 := W) h k hb.size)⟩
def refG : List Value := [.string ⟨#[]⟩, .int .u8 0]
def refA : List Value := [.int .i64 8] ++ ((List.replicate 64 refG).flatten ++ (List.replicate 384 (.bool false) ++ (List.replicate 6 (.int .i64 0) ++ [.slice none 0 0])))
theorem ref_built : Tryd.prog.built 87 [(0, .int .i64 8)] = some refA.toArray := by kernel_rfl
theorem refG_len : ((List.replicate 64 refG).flatten).length = 128 := by kernel_rfl
theorem refA_len : refA.length = 520 := by kernel_rfl
theorem refA_g : ∀ f : Fin 8, refA[1 + f.1 * 2]? = some (.string ⟨#[]⟩) ∧ refA[1 + f.1 * 2 + 1]? = some (.int .u8 0)
  | 0 => ⟨by kernel_rfl, by kernel_rfl⟩ | 1 => ⟨by kernel_rfl, by kernel_rfl⟩ | 2 => ⟨by kernel_rfl, by kernel_rfl⟩ | 3 => ⟨by kernel_rfl, by kernel_rfl⟩ | 4 => ⟨by kernel_rfl, by kernel_rfl⟩ | 5 => ⟨by kernel_rfl, by kernel_rfl⟩ | 6 => ⟨by kernel_rfl, by kernel_rfl⟩ | 7 => ⟨by kernel_rfl, by kernel_rfl⟩
theorem refA_h (j : Nat) (hj : j < 384) : refA[129 + j]? = some (.bool false) := by
  unfold refA
  have e1 : ([Value.int .i64 8]).length = 1 := rfl
  rw [List.getElem?_append_right (by rw [e1]; omega), e1, List.getElem?_append_right (by rw [refG_len]; omega), refG_len, List.getElem?_append_left (by rw [List.length_replicate]; omega), List.getElem?_replicate, if_pos (by omega)]
theorem refA_m (e : Nat) (he : e < 6) : refA[513 + e]? = some (.int .i64 0) := by
  unfold refA
  have e1 : ([Value.int .i64 8]).length = 1 := rfl
  rw [List.getElem?_append_right (by rw [e1]; omega), e1, List.getElem?_append_right (by rw [refG_len]; omega), refG_len, List.getElem?_append_right (by rw [List.length_replicate]; omega), List.length_replicate, List.getElem?_append_left (by rw [List.length_replicate]; omega), List.getElem?_replicate, if_pos (by omega)]
theorem refA_v : refA[519]? = some (.slice none 0 0) := by kernel_rfl
/-- The document's pool that is being laid. -/
structure NwR (w W : World) (b k : Nat) : Prop where
  bl : Below w.heap.size w W
  g : w.heap.size ≤ b
  ex : ∃ arr : Array Value, W.heap[b]? = some (.cells arr 87 (0, 0)) ∧ arr.size = 520 ∧ arr[0]? = some (.int .i64 8) ∧ arr[519]? = some (.slice none 0 0) ∧
    (∀ f, f < 8 → arr[1 + f * 2]? = some (.string ⟨#[]⟩) ∧ arr[1 + f * 2 + 1]? = some (.int .u8 0)) ∧ (∀ j, j < 384 → arr[129 + j]? = some (.bool false)) ∧ (∀ e, e < 6 → arr[513 + e]? = some (.int .i64 (if e < k then 64 else 0)))
theorem NwR.set {w W : World} {b k : Nat} (h : NwR w W b k) (hk : k < 6) : NwR w (W.setCell ⟨b, 513 + k, none⟩ (.int .i64 64)) b (k + 1) := by
  obtain ⟨arr, h1, h2, h3, h4, h5, h6, h7⟩ := h.ex
  refine ⟨below_at b _ _ h.bl h.g, h.g, arr.setIfInBounds (513 + k) (.int .i64 64), heap_setCell_same _ _ _ _ _ _ h1, by simpa using h2, set_ne h3 (by omega), set_ne h4 (by omega), fun f hf => ⟨set_ne (h5 f hf).1 (by omega), set_ne (h5 f hf).2 (by omega)⟩, fun j hj => set_ne (h6 j hj) (by omega), fun e he => ?_⟩
  by_cases hek : e = k
  · subst hek
    rw [if_pos (by omega)]
    exact set_eq h2 (by omega)
  · have := h7 e he
    by_cases hlt : e < k
    · rw [if_pos hlt] at this
      rw [if_pos (by omega)]
      exact set_ne this (by omega)
    · rw [if_neg hlt] at this
      rw [if_neg (by omega)]
      exact set_ne this (by omega)
theorem NwR.rl {w W : World} {b : Nat} (h : NwR w W b 6) : Rl w.heap.size W b (.slice none 0 0) (newP 8) := by
  obtain ⟨arr, h1, h2, h3, h4, h5, h6, h7⟩ := h.ex
  refine ⟨h.g, fun i _ => (by show (0 : Nat) < 64; omega), .inl ⟨rfl, rfl⟩, fun k e => (by cases e), fun e => (by cases e), arr, h1, h2, h3, h4, h5, fun f hf e he => ?_, fun e he => ⟨64, ?_, .inr ⟨?_, rfl⟩⟩⟩
  · have := h6 (f * 6 + e) (by omega)
    rw [show 129 + (f * 6 + e) = 129 + f * 6 + e by omega] at this
    rw [this]
    show _ = some (Value.bool ((0 : Nat).testBit e))
    rw [Nat.zero_testBit]
  · have := h7 e he
    rw [if_pos he] at this
    exact this
  · unfold MN
    rw [dif_pos he]
    show mayK 8 6 ⟨e, he⟩ = 8
    unfold mayK
    rw [if_pos (by exact he)]
    rfl
theorem NwR.cell {w W : World} {b k : Nat} (h : NwR w W b k) (hk : k < 6) : W.cell? ⟨b, 513 + k, none⟩ = some (.int .i64 0) ∧ W.frozen? ⟨b, 513 + k, none⟩ = false ∧ b < W.heap.size := by
  obtain ⟨arr, h1, h2, h3, h4, h5, h6, h7⟩ := h.ex
  have := h7 k hk
  rw [if_neg (by omega)] at this
  exact ⟨by rw [Lib.cell_of_heap h1]; exact this, Lib.frozen_of_heap h1 _, (Array.getElem?_eq_some_iff.1 h1).1⟩
set_option maxHeartbeats 2000000 in
theorem rnew_any (w : World) : Calls Tryd.prog 28 #[.int .i64 8] w fun r w' => r = .returned (.pointer (some ⟨w.heap.size, 0, none⟩)) ∧ NwR w w' w.heap.size 6 := by
  have hbu := ref_built
  have HN0 : Hid3 (NwR w (w.alloc (.cells refA.toArray 87)) w.heap.size 0) := ⟨⟨below_new w _, Nat.le_refl _, refA.toArray, heap_new w _, by rw [List.size_toArray, refA_len], by rw [List.getElem?_toArray]; rfl, by rw [List.getElem?_toArray]; exact refA_v, fun f hf => by rw [List.getElem?_toArray, List.getElem?_toArray]; exact refA_g ⟨f, hf⟩, fun j hj => by rw [List.getElem?_toArray]; exact refA_h j hj, fun e he => by rw [List.getElem?_toArray, if_neg (Nat.not_lt_zero _)]; exact refA_m e he⟩⟩
  generalize refA.toArray = R at *
  go_enter Tryd.func28, Tryd.ntmps28
  go_wp2_with (first | (refine Go.wpList_buildTo rfl _ _ rfl _ rfl R (by simpa [Act.eval] using hbu) ?_) | (refine Go.Great.wpList_boxTo rfl _ _ rfl _ rfl _ rfl R rfl ?_) | fail)
  go_loopw [4] (fun s4 wr => ∃ k : Nat, k ≤ 6 ∧ s4 = .int .i64 k ∧ Hid3 (NwR w wr w.heap.size k)) (fun s _ => 7 - (intOf s).toNat)
  case atStart => exact ⟨0, Nat.zero_le _, rfl, HN0⟩
  case round =>
    obtain ⟨k, hk, rfl, HK⟩ := hrel
    clear HN0
    by_cases hlt : k < 6
    · have hltz : (k : Int) < 6 := by omega
      obtain ⟨x1, x2, x3⟩ := HK.out.cell hlt
      have HK2 := Hid3.mk (HK.out.set hlt)
      go_wp2
      go_roundw
      case rel => exact ⟨k + 1, by omega, by go_num, HK2⟩
      case measure => simp [intOf]; omega
    · obtain rfl : k = 6 := by omega
      go_wp2
      go_ret
      exact ⟨rfl, HK.out⟩
set_option maxHeartbeats 2000000 in
theorem play_any (v : Value) (l : List Dd) (w : World) (hd : Dds w v l) (hNT : NTabs w) : Calls Tryd.prog 9 #[v] w fun e w' => ∃ b fb rb i, e = .returned (.tuple #[.pointer (some ⟨b, 0, none⟩), .pointer (some ⟨rb, 0, none⟩), .bool true]) ∧ Bo w w' b fb rb i ∧ i ≤ 50 := by
  have cN := new_in 8 (by decide) (by decide) w
  obtain ⟨ad, cap, rfl, h8, hcell⟩ := id hd
  have HD := Hid3.mk hd
  have H8 := Hid3.mk h8
  have HNT := Hid3.mk hNT
  clear hd hcell h8 hNT
  go_enter Tryd.func9, Tryd.ntmps9
  go_wp2_with fail
  refine cN.mono ?_
  rintro e W0 ⟨b, fb, rfl, hO⟩
  have cR := rnew_any W0
  go_wp2_with fail
  refine cR.mono ?_
  rintro e W1 ⟨rfl, hO2⟩
  have HT : Hid3 (Bo w W1 b fb W0.heap.size 0) := by
    have hp := (hO.pl (by decide)).low hO2.bl
    have hr := hO2.rl
    exact ⟨⟨⟨_, _, _, ⟨hp, ⟨Nat.le_trans hO.bl.size hr.g, hr.o, hr.ev, fun k e => (by cases e), hr.nb, hr.ex⟩, fun k e => by cases e⟩, Rch.zero⟩, hO.bl.trans (hO2.bl.mono hO.bl.size)⟩⟩
  clear hO hO2 cN cR
  generalize W0.heap.size = rb at *
  go_wp2_with fail
  go_loopw [7] (fun s7 wr => ∃ (i : Nat), i ≤ l.length ∧ i ≤ 50 ∧ s7 = .int .i64 i ∧ Hid3 (Bo w wr b fb rb i)) (fun s7 _ => 50 - (intOf s7).toNat)
  case atStart => exact ⟨0, Nat.zero_le _, by omega, rfl, HT⟩
  case round =>
    obtain ⟨i, hil, hi6, rfl, HT1⟩ := hrel
    clear HT
    by_cases hlt : i < l.length
    · have hltz : (i : Int) < (l.length : Int) := by omega
      by_cases h60 : i < 50
      · have h60z : (i : Int) < 50 := by omega
        obtain ⟨_, _, e0, _, hc⟩ := HD.out.below HT1.out.bl
        injection e0 with e1 e2 e3
        obtain ⟨g, off, e4, c0, c1, c2, c3, c4, c5, c6⟩ := hc i l[i] (List.getElem?_eq_getElem hlt)
        rw [← e1] at e4
        subst e4
        obtain ⟨v1, rv1, q1, hTw, hRc⟩ := HT1.out.ex
        have hcall := do_any w.heap.size b fb v1 rb rv1 q1 l[i] (H8.out _ (List.getElem_mem hlt)) _ hTw (by have := hRc.len; omega) HT1.out.bl.size (fun W hW => HNT.out.later (HT1.out.bl.trans hW))
        have HS : Hid3 (∀ W2, Mv w.heap.size wr W2 b fb v1 rb rv1 (doQ l[i] q1) → Bo w W2 b fb rb (i + 1)) := ⟨fun W2 hM => Bo.step HT1.out.bl hTw hRc hM⟩
        unfold ddV at hcall
        clear hc e1 e2 e3 hTw hRc
        generalize l[i] = d at *
        generalize doQ d q1 = q2 at *
        obtain ⟨d0, d1, d2, d3, d4, d5, d6⟩ := d
        simp only at c0 c1 c2 c3 c4 c5 c6 hcall
        go_wp2_with fail
        refine hcall.mono ?_
        rintro e W2 ⟨rfl, hM⟩
        have HT2 : Hid3 (Bo w W2 b fb rb (i + 1)) := ⟨HS.out W2 hM⟩
        clear hM hcall c0 c1 c2 c3 c4 c5 c6 HS
        go_wp2
        go_roundw
        case rel => exact ⟨i + 1, by omega, by omega, by go_num, HT2⟩
        case measure => simp [intOf]; omega
      · have h60z : ¬ (i : Int) < 50 := by omega
        have hi : i = 50 := by omega
        subst hi
        go_wp2
        go_ret3
        exact ⟨b, fb, rb, rfl, 50, HT1.out, hi6⟩
    · have hltz : ¬ (i : Int) < (l.length : Int) := by omega
      go_wp2
      go_ret3
      exact ⟨b, fb, rb, rfl, i, HT1.out, hi6⟩
end Go.Proofs.YtalhlbhhgddddaaDoor
