/- PoolLeast: the walk. -/
import Derived.Test.YtalhlbhhgddddaaDoorLawPlO
namespace Go.Proofs.YtalhlbhhgddddaaDoor
open Go.RowKit Go.Maps
set_option linter.unusedVariables false
set_option maxRecDepth 100000
theorem min2_any (a b : Nat) (w : World) : Calls Tryd.prog 20 #[.int .i64 a, .int .i64 b] w fun r w' => r = .returned (.int .i64 (min a b : Nat)) ∧ w' = w := by
  by_cases h : a < b
  · have hz : (a : Int) < (b : Int) := by omega
    rw [Nat.min_eq_left (by omega)]
    go_enter Tryd.func20, Tryd.ntmps20
    go_wp2
    go_ret
    exact ⟨rfl, rfl⟩
  · have hz : ¬ (a : Int) < (b : Int) := by omega
    rw [Nat.min_eq_right (by omega)]
    go_enter Tryd.func20, Tryd.ntmps20
    go_wp2
    go_ret
    exact ⟨rfl, rfl⟩
theorem clr8 : ∀ x : Nat, x < 256 → ∀ e : Nat, e < 8 → ∀ i : Nat, i < 8 → (clr x e).testBit i = (x.testBit i && decide (i ≠ e)) := by decide +kernel
theorem clr8_lt : ∀ x : Nat, x < 256 → ∀ e : Nat, e < 8 → clr x e < 256 := by decide +kernel
theorem clr8_tail : ∀ x : Nat, x < 256 → x ≠ 0 → bitsL (clr x (tz9 x)) = (bitsL x).tail ∧ tz9 x < 8 ∧ x.testBit (tz9 x) = true := by decide +kernel
theorem hi_bit (x i : Nat) (hx : x < 256) (hi : 8 ≤ i) : x.testBit i = false := Nat.testBit_lt_two_pow (Nat.lt_of_lt_of_le (show x < 2 ^ 8 by omega) (Nat.pow_le_pow_right (by omega) hi))
theorem held_take (O : Nat → Nat) (e f : Nat) (he : e < 6) (hf : f < 8) (ho : O f < 64) : heldN (updN O f (clr (O f) e)) e 8 = clr (heldN O e 8) f := by
  apply Nat.eq_of_testBit_eq
  intro i
  by_cases hi : i < 8
  · rw [clr8 _ (heldN_256 O e) f hf i hi, heldN_bit, heldN_bit, decide_eq_true hi]
    unfold updN
    by_cases h : i = f
    · subst h
      rw [if_pos rfl, clr_bit _ ho e he e he]
      simp
    · rw [if_neg h]
      simp [h]
  · rw [hi_bit _ i (heldN_256 _ e) (by omega), hi_bit _ i (clr8_lt _ (heldN_256 O e) f hf) (by omega)]
theorem own_stay {w w' : World} {B t z n : Nat} {u : Value} {xs : List Value} {X : Nat → Prop} (h : w.ownsRow B t z u n xs) (k : Apart X w w') (hx : ∀ g, u.ownBlock = some g → ¬ X g) : w'.ownsRow B t z u n xs := by
  refine ⟨h.1, ?_⟩
  rcases h.2 with h0 | ⟨g, cap, cur, h1, h2, h3, h4⟩
  · exact .inl h0
  · exact .inr ⟨g, cap, cur, h1, h2, (k.block g (Array.getElem?_eq_some_iff.1 h3).1 (hx g (by rw [h1]; rfl))).trans h3, h4⟩
theorem row_ne {B B' : Nat} {w : World} {b fb n m : Nat} {v u : Value} {q : Ps} {xs : List Value} (h : Pl B w b fb n v q) (hu : w.ownsRow B' 5 1 u m xs) : ∀ g, u.ownBlock = some g → ¬ XP b fb v g := by
  intro g hg hx
  obtain ⟨cur, h1⟩ := own_ty hu hg
  have hb : w.heap[b]? = some (.cells (poolCs fb n q.M v).toArray 70 (0, 0)) := h.c
  obtain ⟨arr, hf, _⟩ := h.f
  rcases hx with e | e | e
  · rw [e, hb] at h1
    injection h1 with h1
    injection h1 with _ h1 _
    exact absurd h1 (by decide)
  · rw [e, hf] at h1
    injection h1 with h1
    injection h1 with _ h1 _
    exact absurd h1 (by decide)
  · obtain ⟨cur2, h2⟩ := own_ty h.e e
    rw [h2] at h1
    injection h1 with h1
    injection h1 with _ h1 _
    exact absurd h1 (by decide)
/-- How far frames were taken. -/
structure Tk (w W : World) (b fb e i : Nat) (u : Value) (L : List Nat) : Prop where
  ex : ∃ v q, Lv w W b fb 8 v q ∧ bitsL (heldN q.O e 8) = L.drop (min i (L.length - 2)) ∧ q.E.length ≤ 50 + i
  row : W.ownsRow w.heap.size 5 1 u L.length (L.map u8V)
theorem drop_head {L : List Nat} {i : Nat} (h : i < L.length) : ∃ T, L.drop i = L[i] :: T ∧ T = L.drop (i + 1) := ⟨L.drop (i + 1), by rw [← List.drop_eq_getElem_cons h], rfl⟩
theorem Tk.round {w W : World} {b fb e i : Nat} {u : Value} {L : List Nat} (h : Tk w W b fb e i u L) (he : e < 6) (hi : i < L.length) (hi50 : i ≤ 9) :
    L[i] ≤ 255 ∧ Calls Tryd.prog 19 #[.pointer (some ⟨b, 0, none⟩), .int .u8 e, .int .u8 L[i]] W fun r w' => ∃ z, r = .returned (.tuple #[.bool z, .int .i64 (if 2 < L.length - i then 0 else 9)]) ∧ Tk w w' b fb e (i + 1) u L := by
  obtain ⟨v, q, hL, hB, hE⟩ := h.ex
  have h256 := heldN_256 q.O e
  have hmem : L[i] ∈ bitsL (heldN q.O e 8) := by
    rw [hB, List.mem_iff_getElem?]
    refine ⟨i - min i (L.length - 2), ?_⟩
    rw [List.getElem?_drop, show min i (L.length - 2) + (i - min i (L.length - 2)) = i by omega]
    exact List.getElem?_eq_getElem hi
  rw [mem_bitsL] at hmem
  have hf8 : L[i] < 8 := by
    have hb := hmem.2
    rw [heldN_bit] at hb
    simp only [Bool.and_eq_true, decide_eq_true_eq] at hb
    exact hb.1
  have hbit : (q.O L[i]).testBit e = true := by
    have hb := hmem.2
    rw [heldN_bit] at hb
    simp only [Bool.and_eq_true] at hb
    exact hb.2
  have hpop : pop9 (heldN q.O e 8) = L.length - min i (L.length - 2) := by
    rw [← bitsL_len _ (by omega), hB, List.length_drop]
  have hE0 : hadE 8 q e L[i] = 0 := by
    unfold hadE
    rw [if_neg (by omega), oF_at 8 q _ hf8, if_neg (by rw [hbit]; decide)]
  refine ⟨by omega, ?_⟩
  have c := repo_any _ b fb 8 v q e L[i] W hL.p (by omega) (by omega) hL.bl.size
  refine c.mono ?_
  rintro r w' ⟨hr, hS⟩
  obtain ⟨v', hL'⟩ := hL.step hS
  have hrow := own_stay h.row hS.ap (row_ne hL.p h.row)
  by_cases h2 : 2 < L.length - i
  · have hz : rpE 8 q e L[i] = 0 := by unfold rpE; rw [if_pos hE0, if_neg (by omega)]
    have hq : rpQ 8 q e L[i] = takeQ 4 e L[i] q := by unfold rpQ; rw [if_pos hz]
    rw [hz] at hr
    rw [hq] at hL'
    rw [if_pos h2]
    refine ⟨_, hr, ⟨v', _, hL', ?_, ?_⟩, hrow⟩
    · have hmin : min i (L.length - 2) = i := by omega
      have hmin2 : min (i + 1) (L.length - 2) = i + 1 := by omega
      rw [hmin] at hB
      rw [hmin2]
      obtain ⟨T, hT, hT2⟩ := drop_head hi
      have hne : heldN q.O e 8 ≠ 0 := fun x => by rw [x, bitsL_zero] at hB; rw [← hB] at hT; cases hT
      have htz : tz9 (heldN q.O e 8) = L[i] := by unfold tz9; rw [hB, hT]; rfl
      obtain ⟨k1, k2, k3⟩ := clr8_tail _ h256 hne
      show bitsL (heldN (updN q.O L[i] (clr (q.O L[i]) e)) e 8) = _
      rw [held_take q.O e L[i] he hf8 (hL.p.o _ hf8), ← htz, k1, hB, hT, ← hT2]
      rfl
    · show (q.E ++ [_]).length ≤ _
      rw [List.length_append]
      simp only [List.length_cons, List.length_nil]
      omega
  · have hz : rpE 8 q e L[i] = 9 := by unfold rpE; rw [if_pos hE0, if_pos (by omega)]
    have hq : rpQ 8 q e L[i] = q := by unfold rpQ; rw [hz, if_neg (by decide)]
    rw [hz] at hr
    rw [hq] at hL'
    rw [if_neg h2]
    refine ⟨_, hr, ⟨v', q, hL', ?_, by omega⟩, hrow⟩
    rw [hB, show min i (L.length - 2) = min (i + 1) (L.length - 2) by omega]
theorem Tk.low {w W W' : World} {b fb e i : Nat} {u : Value} {L : List Nat} (h : Tk w W b fb e i u L) (k : Below W.heap.size W W') : Tk w W' b fb e i u L := by
  obtain ⟨v, q, hL, h2⟩ := h.ex
  exact ⟨⟨v, q, hL.low k, h2⟩, own_low h.row k⟩
set_option maxHeartbeats 8000000 in
theorem least_law (v : Value) (l : List Dd) (en : Nat) (he : en ≤ 255) (w : World) (hd : Dds w v l) (hNT : NTabs w) (hT : TzTab w) : Calls Tryd.prog 6 #[v, .int .u8 en] w fun r w' => r = .returned (.bool true) ∧ Below w.heap.size w w' := by
  obtain ⟨e, he0⟩ : ∃ e : Nat, e = en % 6 := ⟨_, rfl⟩
  have he1 : (en : Int) % 6 = (e : Int) := by omega
  have he6 : e < 6 := by omega
  clear he0
  have cP := play_any v l w hd hNT
  obtain ⟨ad, cap, rfl, _⟩ := id hd
  have HT := Hid3.mk hT
  clear hd hNT hT
  go_enter Tryd.func6, Tryd.ntmps6
  go_wp2_with fail
  refine cP.mono ?_
  rintro r W1 ⟨b, fb, rb, i, rfl, hBo, hi⟩
  have cL := plive_any W1
  have HB := Hid3.mk hBo
  clear cP hBo
  go_wp2_with fail
  refine cL.mono ?_
  rintro r W2 ⟨rfl, hb⟩
  obtain ⟨pv, rv, q, hTw, hRc⟩ := (HB.out.low hb).ex
  have hlen := hRc.len
  have HP : Hid3 (Lv w W2 b fb 8 pv q) := ⟨⟨hTw.p, (HB.out.low hb).bl⟩⟩
  have ho : ∀ i, i < 8 → q.O i < 64 := hTw.p.o
  have HRC := Hid3.mk hRc
  clear cL hb hTw hRc HB
  have c1 := frames_nr _ b fb pv q e W2 HP.out.p (HT.out.low HP.out.bl)
  have h9 := own_few (heldN q.O e 8) (by have := heldN_256 q.O e; omega)
  go_wp2_with fail
  refine c1.mono ?_
  rintro r W3 ⟨u, rfl, hN⟩
  obtain ⟨ua, uc, hu, _⟩ := nr_cell hN
  have HTk : Hid3 (Tk w W3 b fb e 0 u (bitsL (heldN q.O e 8))) := ⟨⟨⟨pv, q, HP.out.low hN.bl, by rw [Nat.zero_min, List.drop_zero], by omega⟩, own_base hN.own HP.out.bl.size⟩⟩
  subst hu
  clear c1 hN HP
  generalize bitsL (heldN q.O e 8) = L at *
  go_wp2_with fail
  go_loopw [9] (fun s9 wr => ∃ k : Nat, k ≤ L.length ∧ s9 = .int .i64 k ∧ Hid3 (Tk w wr b fb e k (.slice ua L.length uc) L)) (fun s _ => L.length - (intOf s).toNat)
  case atStart => exact ⟨0, Nat.zero_le _, rfl, HTk⟩
  case round =>
    obtain ⟨k, hk, rfl, HK⟩ := hrel
    clear HTk
    by_cases hlt : k < L.length
    · have hltz : (k : Int) < (L.length : Int) := by omega
      obtain ⟨hx255, c2⟩ := HK.out.round he6 hlt (by omega)
      obtain ⟨a2, cap2, hu2, hcell⟩ := nr_cell (w := w) (W := wr) ⟨HK.out.row, by obtain ⟨_, _, h1, _⟩ := HK.out.ex; exact h1.bl⟩
      injection hu2 with hu2 hu3 hu4
      clear hu3 hu4
      obtain ⟨g, hg, cg⟩ := hcell k L[k] (List.getElem?_eq_getElem hlt)
      rw [← hu2] at hg
      subst hg
      have hgl := World.block_lt_of_cell? _ _ cg
      simp only at hgl
      clear hcell hu2
      generalize L[k] = x at *
      by_cases h2 : 2 < L.length - k
      · rw [if_pos h2] at c2
        have h2z : (2 : Int) < (L.length : Int) - (k : Int) := by omega
        go_wp2_with fail
        refine c2.mono ?_
        rintro r W4 ⟨z, rfl, hTk⟩
        have HK2 := Hid3.mk hTk
        clear c2 hTk
        go_wp2
        go_roundw
        case rel => exact ⟨k + 1, by omega, by go_num, HK2⟩
        case measure => simp [intOf]; omega
      · rw [if_neg h2] at c2
        have h2z : ¬ (2 : Int) < (L.length : Int) - (k : Int) := by omega
        go_wp2_with fail
        refine c2.mono ?_
        rintro r W4 ⟨z, rfl, hTk⟩
        have HK2 := Hid3.mk hTk
        clear c2 hTk
        go_wp2
        go_roundw
        case rel => exact ⟨k + 1, by omega, by go_num, HK2⟩
        case measure => simp [intOf]; omega
    · obtain rfl : k = L.length := by omega
      obtain ⟨v7, q7, hL7, hB7, _⟩ := HK.out.ex
      have c3 := frames_nr _ b fb v7 q7 e _ hL7.p (HT.out.low hL7.bl)
      rw [hB7] at c3
      have hln : (L.drop (min L.length (L.length - 2))).length = min L.length 2 := by rw [List.length_drop]; omega
      have HL7 := Hid3.mk hL7
      have cM := fun W => min2_any L.length 2 W
      clear hL7 hB7
      generalize L.drop (min L.length (L.length - 2)) = L7 at *
      go_wp2_with fail
      refine c3.mono ?_
      rintro r W8 ⟨u8, rfl, hN⟩
      obtain ⟨a8, cap8, hu8, _⟩ := nr_cell hN
      have HB8 := Hid3.mk (HL7.out.bl.trans (hN.bl.mono HL7.out.bl.size))
      rw [hln] at hu8
      subst hu8
      clear c3 hN
      generalize min L.length 2 = mn at *
      have hmm : ((mn : Int) == (mn : Int)) = true := by simp
      go_wp2_with fail
      refine (cM _).mono ?_
      rintro r W9 ⟨rfl, hW⟩
      rw [hW]
      clear hW
      go_wp2
      go_ret
      exact ⟨rfl, HB8.out⟩
end Go.Proofs.YtalhlbhhgddddaaDoor
