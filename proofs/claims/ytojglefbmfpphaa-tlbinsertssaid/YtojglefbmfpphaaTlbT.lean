/- live, play. -/
import Derived.Test.YtojglefbmfpphaaTlbS
namespace Go.Proofs.Ytojglefbmfpphaa
open Go.RowKit Go.Maps
set_option linter.unusedVariables false
set_option maxRecDepth 100000

theorem Ob.base {B B' : Nat} {t : TypeId} {w : World} {b : Nat} {v : Value} {L : List Mp} (h : Ob B' t w b v L) (hB : B ≤ B') : Ob B t w b v L := by
  refine ⟨Nat.le_trans hB h.ge, h.blk, h.row.1, ?_⟩
  rcases h.row.2 with h0 | ⟨g, cap, cur, h1, h2, h3⟩
  · exact .inl h0
  · exact .inr ⟨g, cap, cur, h1, Nat.le_trans hB h2, h3⟩
theorem good_play : ∀ (l : List Dd) (L : List Mp), (∀ d ∈ l, DdOk d) → Good L → Good (playL l L)
  | [], L, _, h => h
  | d :: l, L, hd, h => good_play l (doL d L) (fun x hx => hd x (.tail _ hx)) (h.does d (hd d (.head _)))
/-- A slice of deeds that can be read. -/
def Dds (w : World) (v : Value) (l : List Dd) : Prop := ∃ a cap, v = .slice a l.length cap ∧ ∀ j d, l[j]? = some d → ∃ g off, a = some ⟨g, off, none⟩ ∧ w.cell? ⟨g, off + j * 5, none⟩ = some (.int .i64 d.1) ∧ w.cell? ⟨g, off + j * 5 + 1, none⟩ = some (.int .u8 d.2.1) ∧ w.cell? ⟨g, off + j * 5 + 2, none⟩ = some (.int .u8 d.2.2.1) ∧ w.cell? ⟨g, off + j * 5 + 3, none⟩ = some (.int .u8 d.2.2.2.1) ∧ w.cell? ⟨g, off + j * 5 + 4, none⟩ = some (.bool d.2.2.2.2)
theorem Dds.below {w w' : World} {v : Value} {l : List Dd} (h : Dds w v l) (k : Below w.heap.size w w') : Dds w' v l := by
  obtain ⟨a, cap, rfl, hcell⟩ := h
  refine ⟨a, cap, rfl, fun j d hj => ?_⟩
  obtain ⟨g, off, rfl, c0, c1, c2, c3, c4⟩ := hcell j d hj
  have hb := k.block g (World.block_lt_of_cell? w _ c0)
  refine ⟨g, off, rfl, ?_, ?_, ?_, ?_, ?_⟩ <;> (rw [World.cell?_of_block (w := w) hb]; assumption)

set_option maxHeartbeats 4000000 in
theorem live_any (w : World) : Calls Try.prog 10 #[] w fun e w' => e = .returned (.bool true) ∧ Below w.heap.size w w' := by
  have cN := new_any w
  have hok : MpOk (1, 1, 9, false) := ⟨by decide, by decide, by decide, by decide, by decide, by decide⟩
  have cI := fun W (hO : Ob w.heap.size 55 W w.heap.size (.slice none 0 0) []) hB => insert_any w.heap.size w.heap.size (.slice none 0 0) [] (1, 1, 9, false) W hO Good.nil hok rfl hB
  have e1 : insO (1, 1, 9, false) [] = zM := rfl
  have e2 : (insK (1, 1, 9, false) []).isSome = false := rfl
  have e3 : insL (1, 1, 9, false) [] = [(1, 1, 9, false)] := rfl
  rw [e1, e2, e3] at cI
  have cT := fun v W b (hO : Ob w.heap.size 55 W w.heap.size v [(1, 1, 9, false)]) => trans_any w.heap.size w.heap.size v [(1, 1, 9, false)] 1 37 b W hO (by decide) (fun m hm => by rw [List.mem_singleton] at hm; subst hm; exact hok) (by decide) (by decide)
  have t1 : trL 1 37 false [(1, 1, 9, false)] = (9, 5, 0) := rfl
  have t2 : trL 1 37 true [(1, 1, 9, false)] = (0, 0, 10) := rfl
  have cT1 := fun v W hO => cT v W false hO
  have cT2 := fun v W hO => cT v W true hO
  rw [t1] at cT1
  rw [t2] at cT2
  unfold mpV zM trV at *
  simp only at cI cT1 cT2
  clear e1 e2 e3 t1 t2 cT hok
  go_enter Try.func10, Try.ntmps10
  go_wp2_with fail
  refine cN.mono ?_
  rintro e W0 ⟨rfl, hO, hB0⟩
  have cI' := cI W0 hO hB0.size
  clear cI cN
  go_wp2_with fail
  refine cI'.mono ?_
  rintro e W1 ⟨rfl, v', hS⟩
  have hs0 := hB0.size
  have hb1 : Below w.heap.size w W1 := hB0.trans (hS.ap.below w.heap.size (fun k e => by
    rcases e with e | e
    · omega
    · cases e) hB0.size)
  have hb1' : Below w.heap.size w (W1.alloc (.cells #[.int .u8 0, .int .u8 0, .int .u8 0, .bool false] 33)) := hb1.alloc hb1.size _
  have hO1 := hS.ob.below ((Below.refl _ W1).alloc (Nat.le_refl _) (.cells #[.int .u8 0, .int .u8 0, .int .u8 0, .bool false] 33))
  have c1 := cT1 v' _ hO1
  clear hS cI' hB0 hO
  go_wp2_with fail
  refine c1.mono ?_
  rintro e W2 ⟨rfl, hB2⟩
  have c2 := cT2 v' _ (hO1.below hB2)
  have hb2 := hb1'.trans (hB2.mono hb1'.size)
  clear c1
  go_wp2_with fail
  refine c2.mono ?_
  rintro e W3 ⟨rfl, hB3⟩
  have hb3 := hb2.trans (hB3.mono hb2.size)
  clear c2 hO1 cT1 cT2
  go_wp2
  go_ret
  exact ⟨rfl, hb3⟩

set_option maxHeartbeats 4000000 in
theorem play_any (v : Value) (l : List Dd) (w : World) (hd : Dds w v l) (hok : ∀ d ∈ l, DdOk d) : Calls Try.prog 9 #[v] w fun e w' => ∃ tb rb x y, e = .returned (.tuple #[.pointer (some ⟨tb, 0, none⟩), .pointer (some ⟨rb, 0, none⟩), .bool true]) ∧ Two w.heap.size w' tb rb x y (playL (l.take 60) []) ∧ Below w.heap.size w w' := by
  have cN := new_any w
  obtain ⟨ad, cap, rfl, hcell⟩ := id hd
  have HD : Hid (Dds w (.slice ad l.length cap) l) := hd
  have HK : Hid (∀ d ∈ l, DdOk d) := hok
  clear hd hcell hok
  go_enter Try.func9, Try.ntmps9
  go_wp2_with fail
  refine cN.mono ?_
  rintro e W0 ⟨rfl, hO, hB0⟩
  have cR := rnew_any W0
  go_wp2_with fail
  refine cR.mono ?_
  rintro e W1 ⟨rfl, hO2, hB1⟩
  have HT : Hid (Two w.heap.size W1 w.heap.size W0.heap.size (.slice none 0 0) (.slice none 0 0) (playL (l.take 0) [])) := ⟨hO.below hB1, hO2.base hB0.size, fun g e _ => by cases e⟩
  have HB : Hid (Below w.heap.size w W1) := hB0.trans (hB1.mono hB0.size)
  clear hO hO2 hB0 hB1 cN cR
  generalize W0.heap.size = rb at *
  go_wp2_with fail
  go_loopw [7] (fun s7 wr => ∃ (i : Nat) (x y : Value), i ≤ l.length ∧ i ≤ 60 ∧ s7 = .int .i64 i ∧ Hid (Two w.heap.size wr w.heap.size rb x y (playL (l.take i) [])) ∧ Hid (Below w.heap.size w wr)) (fun s7 _ => 60 - (intOf s7).toNat)
  case atStart => exact ⟨0, _, _, Nat.zero_le _, by omega, rfl, HT.out, HB.out⟩
  case round =>
    obtain ⟨i, x, y, hil, hi6, rfl, HT1, HB1⟩ := hrel
    by_cases hlt : i < l.length
    · have hltz : (i : Int) < (l.length : Int) := by omega
      by_cases h60 : i < 60
      · have h60z : (i : Int) < 60 := by omega
        have hsz := HB1.out.size
        obtain ⟨_, _, e0, hc⟩ := HD.out.below HB1.out
        injection e0 with e1 e2 e3
        obtain ⟨g, off, e4, c0, c1, c2, c3, c4⟩ := hc i l[i] (List.getElem?_eq_getElem hlt)
        rw [← e1] at e4
        subst e4
        have hGd : Good (playL (l.take i) []) := good_play _ _ (fun d hd => HK.out d (List.mem_of_mem_take hd)) Good.nil
        have hcall := do_any w.heap.size w.heap.size rb x y _ l[i] wr HT1.out hGd (HK.out _ (List.getElem_mem hlt)) hsz
        have hpl : playL (l.take (i + 1)) [] = doL l[i] (playL (l.take i) []) := by rw [List.take_succ_eq_append_getElem hlt, playL_snoc]
        rw [← hpl] at hcall
        unfold ddV at hcall
        clear hc e1 e3 hpl hGd
        generalize l[i] = d at *
        obtain ⟨d0, d1, d2, d3, d4⟩ := d
        simp only at c0 c1 c2 c3 c4 hcall
        go_wp2_with fail
        refine hcall.mono ?_
        rintro e W2 ⟨rfl, x', y', hM⟩
        have HT2 : Hid (Two w.heap.size W2 w.heap.size rb x' y' (playL (l.take (i + 1)) [])) := hM.two
        have HB2 : Hid (Below w.heap.size w W2) := HB1.out.trans (hM.below HT1.out hsz)
        clear hM hcall c0 c1 c2 c3 c4
        go_wp2
        go_roundw
        case rel => exact ⟨i + 1, x', y', by omega, by omega, by go_num, HT2.out, HB2.out⟩
        case measure => simp [intOf]; omega
      · have h60z : ¬ (i : Int) < 60 := by omega
        have hi : i = 60 := by omega
        subst hi
        go_wp2
        go_ret3
        exact ⟨_, _, rfl, ⟨_, _, HT1.out⟩, HB1.out⟩
    · have hltz : ¬ (i : Int) < (l.length : Int) := by omega
      have HTk : Hid (l.take 60 = l.take i) := by
        show _ = _
        rw [List.take_of_length_le (by omega), List.take_of_length_le (by omega)]
      go_wp2
      go_ret3
      refine ⟨_, _, rfl, ⟨x, y, ?_⟩, HB1.out⟩
      rw [HTk.out]
      exact HT1.out
end Go.Proofs.Ytojglefbmfpphaa
