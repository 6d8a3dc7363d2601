/- The document's pool: Repossess, Share, Grant, Holds, Guard, Size. -/
import Derived.Test.YtalhlbhhgddddaaDoorPlW
namespace Go.Proofs.YtalhlbhhgddddaaDoor
open Go.RowKit Go.Maps
set_option linter.unusedVariables false
set_option maxRecDepth 100000
theorem held_list {B : Nat} {w : World} {b : Nat} {v : Value} {q : Ps} {e : Nat} (he : e < 6) (h : Rl B w b v q) : Calls Tryd.prog 33 #[.pointer (some ⟨b, 0, none⟩), .int .u8 e] w fun r w' => ∃ a cap, r = .returned (.slice a (pop9 (heldN q.O e 8)) cap) ∧ Below w.heap.size w w' := by
  refine (rframes_in B b v q e w h he).mono ?_
  rintro r W ⟨u, rfl, hN⟩
  rw [heldN_filter] at hN
  obtain ⟨a, cap, hu⟩ := slice_of hN.own
  rw [bitsL_len _ (by have := heldN_256 q.O e; omega)] at hu
  exact ⟨a, cap, by rw [hu], hN.bl⟩
theorem full_eq {M m : Int} {p : Nat} (h : MRel M m) (hp : p ≤ 7) : decide (m ≤ (p : Int)) = decide (M ≤ (p : Int)) := by
  rcases h with rfl | ⟨rfl, rfl⟩
  · rfl
  · rw [decide_eq_false (by omega), decide_eq_false (by omega)]
theorem held_few (q : Ps) (c f : Nat) (hf : f < 8) (h : (q.O f).testBit c = false) : pop9 (heldN q.O c 8) ≤ 7 := pop_room _ (heldN_256 q.O c) f hf (by rw [heldN_bit, h, Bool.and_false])
theorem or_lt6 (x e : Nat) (hx : x < 64) (he : e < 6) : x ||| 2 ^ e < 64 := Nat.or_lt_two_pow (n := 6) hx (pow6 e he)
theorem Rl.own {B : Nat} {w : World} {b : Nat} {v : Value} {q : Ps} (h : Rl B w b v q) : RStp B w w b v q := RStp.same h (Below.refl _ _)
set_option maxHeartbeats 2000000 in
theorem rrepo_any (B b : Nat) (v : Value) (q : Ps) (e f : Nat) (hf255 : f ≤ 255) (w : World) (h : Rl B w b v q) (hl : q.E.length ≤ 1000) (hB : B ≤ w.heap.size) : Calls Tryd.prog 58 #[.pointer (some ⟨b, 0, none⟩), .int .u8 e, .int .u8 f] w fun r w' => r = .returned (.tuple #[.bool (rpB 8 q e f), .int .i64 (rpE 8 q e f)]) ∧ RStp B w w' b v (rpQ 8 q e f) := by
  have cM := may_any b v q e f hf255 w h.c
  have H := Hid3.mk h
  unfold rpB rpQ
  by_cases hr : 6 ≤ e ∨ 8 ≤ f
  · have hE : rpE 8 q e f = 2 := by unfold rpE hadE; rw [if_pos hr]; rfl
    rw [thE_bad hr] at cM
    rw [hE, if_neg (by decide), if_neg (by decide)]
    clear h
    go_enter Tryd.func58, Tryd.ntmps58
    go_wp2_with fail
    refine cM.mono ?_
    rintro r W ⟨rfl, hW⟩
    rw [hW]
    clear cM hW
    go_wp2
    go_ret2
    exact ⟨rfl, H.out.own⟩
  · have he : e < 6 := by omega
    have hf : f < 8 := by omega
    rw [thE_ok he hf] at cM
    have ch := h.c.ch f hf e he
    have hb := h.c.l
    have hez : (e : Int) < 6 := by omega
    have hfz : (f : Int) < 64 := by omega
    have cF := held_list he h
    cases hz : (q.O f).testBit e with
    | false =>
      have hE : rpE 8 q e f = 7 := by
        have : hadE 8 q e f = 7 := by unfold hadE; rw [if_neg hr, oF_at 8 q f hf, if_pos hz]
        unfold rpE; rw [this]; rfl
      rw [hE, if_neg (by decide), if_neg (by decide)]
      rw [hz] at ch
      clear cF hz hE h
      go_enter Tryd.func58, Tryd.ntmps58
      go_wp2_with fail
      refine cM.mono ?_
      rintro r W ⟨rfl, hW⟩
      rw [hW]
      clear cM hW
      go_wp2
      go_ret2
      exact ⟨rfl, H.out.own⟩
    | true =>
      have hE0 : hadE 8 q e f = 0 := by unfold hadE; rw [if_neg hr, oF_at 8 q f hf, if_neg (by rw [hz]; decide)]
      rw [hz] at ch
      clear h
      by_cases hp : pop9 (heldN q.O e 8) ≤ 2
      · have hE : rpE 8 q e f = 9 := by unfold rpE; rw [if_pos hE0, if_pos hp]
        rw [hE, if_neg (by decide), if_neg (by decide)]
        have hpz : (pop9 (heldN q.O e 8) : Int) ≤ 2 := by omega
        generalize pop9 (heldN q.O e 8) = pn at *
        clear hz hE hE0
        go_enter Tryd.func58, Tryd.ntmps58
        go_wp2_with fail
        refine cM.mono ?_
        rintro r W ⟨rfl, hW⟩
        rw [hW]
        clear cM hW
        go_wp2_with fail
        refine cF.mono ?_
        rintro r W ⟨a1, c1, rfl, hb1⟩
        have HB := Hid3.mk hb1
        clear cF hb1
        go_wp2
        go_ret2
        exact ⟨rfl, RStp.same H.out HB.out⟩
      · have hE : rpE 8 q e f = 0 := by unfold rpE; rw [if_pos hE0, if_neg hp]
        rw [hE, if_pos rfl, if_pos rfl]
        have hpz : ¬ (pop9 (heldN q.O e 8) : Int) ≤ 2 := by omega
        have HG : Hid3 (∀ W, Below w.heap.size w W → Calls Tryd.prog 68 #[.pointer (some ⟨b, 0, none⟩), .int .u8 4, .int .u8 e, .int .u8 f] W fun r w' => r = .returned (.bool (decide (clr (q.O f) e = 0))) ∧ RStp B W w' b v (takeQ 4 e f q)) := ⟨fun W hW => rgone_any B b v q 4 e f he hf W (H.out.low hW) hl (Nat.le_trans hB hW.size)⟩
        generalize decide (clr (q.O f) e = 0) = dz at *
        generalize pop9 (heldN q.O e 8) = pn at *
        clear hz hE hE0
        go_enter Tryd.func58, Tryd.ntmps58
        go_wp2_with fail
        refine cM.mono ?_
        rintro r W ⟨rfl, hW⟩
        rw [hW]
        clear cM hW
        go_wp2_with fail
        refine cF.mono ?_
        rintro r W ⟨a1, c1, rfl, hb1⟩
        have HB := Hid3.mk hb1
        have cG := HG.out W hb1
        clear cF hb1 HG
        go_wp2_with fail
        refine cG.mono ?_
        rintro r W2 ⟨rfl, hS⟩
        have HS := Hid3.mk hS
        clear cG hS
        go_wp2
        go_ret2
        exact ⟨rfl, RStp.pre HB.out HS.out⟩
set_option maxHeartbeats 4000000 in
theorem rshare_any (B b : Nat) (v : Value) (q : Ps) (a c f : Nat) (hf255 : f ≤ 255) (w : World) (h : Rl B w b v q) (hl : q.E.length ≤ 1000) (hB : B ≤ w.heap.size) : Calls Tryd.prog 56 #[.pointer (some ⟨b, 0, none⟩), .int .u8 a, .int .u8 c, .int .u8 f] w fun r w' => r = .returned (.int .i64 (shE 8 q a c f)) ∧ RStp B w w' b v (shQ 8 q a c f) := by
  have cM := may_any b v q a f hf255 w h.c
  have H := Hid3.mk h
  unfold shQ
  by_cases hr : 6 ≤ a ∨ 8 ≤ f
  · have hE : shE 8 q a c f = 2 := by unfold shE; rw [if_pos (by omega)]
    rw [thE_bad hr] at cM
    rw [hE, if_neg (by decide)]
    clear h
    go_enter Tryd.func56, Tryd.ntmps56
    go_wp2_with fail
    refine cM.mono ?_
    rintro r W ⟨rfl, hW⟩
    rw [hW]
    clear cM hW
    go_wp2
    go_ret
    exact ⟨rfl, H.out.own⟩
  have ha : a < 6 := by omega
  have hf : f < 8 := by omega
  rw [thE_ok ha hf] at cM
  by_cases hc6 : 6 ≤ c
  · have hE : shE 8 q a c f = 2 := by unfold shE; rw [if_pos (by omega)]
    rw [hE, if_neg (by decide)]
    have hcz : (6 : Int) ≤ (c : Int) := by omega
    clear h
    go_enter Tryd.func56, Tryd.ntmps56
    go_wp2_with fail
    refine cM.mono ?_
    rintro r W ⟨rfl, hW⟩
    rw [hW]
    clear cM hW
    go_wp2
    go_ret
    exact ⟨rfl, H.out.own⟩
  have hc : c < 6 := by omega
  have hcz : ¬ (6 : Int) ≤ (c : Int) := by omega
  have hcz2 : (c : Int) < 6 := by omega
  have haz : (a : Int) < 6 := by omega
  have hfz : (f : Int) < 64 := by omega
  have ca := h.c.ch f hf a ha
  have cc := h.c.ch f hf c hc
  have fc := h.c.fz (129 + f * 6 + c)
  have hb := h.c.l
  cases hza : (q.O f).testBit a with
  | false =>
    have hE : shE 8 q a c f = 7 := by unfold shE; rw [if_neg (by omega), oF_at 8 q f hf, if_pos hza]
    rw [hE, if_neg (by decide)]
    rw [hza] at ca
    clear h hza hE cc
    go_enter Tryd.func56, Tryd.ntmps56
    go_wp2_with fail
    refine cM.mono ?_
    rintro r W ⟨rfl, hW⟩
    rw [hW]
    clear cM hW
    go_wp2
    go_ret
    exact ⟨rfl, H.out.own⟩
  | true =>
    rw [hza] at ca
    cases hzc : (q.O f).testBit c with
    | true =>
      have hE : shE 8 q a c f = 6 := by unfold shE; rw [if_neg (by omega), oF_at 8 q f hf, if_neg (by rw [hza]; decide), if_pos hzc]
      rw [hE, if_neg (by decide)]
      rw [hzc] at cc
      clear h hza hzc hE
      go_enter Tryd.func56, Tryd.ntmps56
      go_wp2_with fail
      refine cM.mono ?_
      rintro r W ⟨rfl, hW⟩
      rw [hW]
      clear cM hW
      go_wp2
      go_ret
      exact ⟨rfl, H.out.own⟩
    | false =>
      rw [hzc] at cc
      have hfew := held_few q c f hf hzc
      obtain ⟨m, cm, hmr⟩ := h.c.cm c hc
      have hfull := full_eq hmr hfew
      have cF := held_list hc (h.low (Below.refl _ w).drew)
      have HSm : Hid3 (∀ W, Below w.heap.size w W → W.cell? ⟨b, 513 + c, none⟩ = some (.int .i64 m)) := ⟨fun W hW => (hW.cell (p := ⟨b, 513 + c, none⟩) hb).trans cm⟩
      have hS0 := Hid3.mk (HSm.out _ (Below.refl _ w).drew)
      have hE : shE 8 q a c f = if decide (m ≤ (pop9 (heldN q.O c 8) : Int)) = true then 11 else 0 := by
        unfold shE; rw [if_neg (by omega), oF_at 8 q f hf, if_neg (by rw [hza]; decide), if_neg (by rw [hzc]; decide)]
        unfold fullN
        rw [hfull]
      have HG : Hid3 (∀ W, Below w.heap.size w W → RlC W b v q ∧ Calls Tryd.prog 67 #[.pointer (some ⟨b, 0, none⟩), .int .u8 2, .int .u8 c, .int .u8 f] (W.setCell ⟨b, 129 + f * 6 + c, none⟩ (.bool true)) fun r w' => r = .returned (.tuple #[]) ∧ RStp B W w' b v (giveQ 2 c f q)) := ⟨fun W hW => by
        have hR := H.out.low hW
        refine ⟨hR.c, ?_⟩
        have hR1 := hR.bit f c hf hc true (q.O f ||| 2 ^ c) (or_lt6 _ c (hR.o f hf) hc) (fun i _ => or_is _ c i)
        refine (rnote_any B b v _ 2 c f _ hR1 hl (by rw [size_setCell]; exact Nat.le_trans hB hW.size)).mono ?_
        rintro r w' ⟨hr, hS⟩
        exact ⟨hr, RStp.then (Rl.ap W b _ _) (fun _ e => .inl e) ⟨by
          obtain ⟨v', h1, h2⟩ := hS.out
          exact ⟨v', h1, h2⟩, hS.ap⟩⟩⟩
      generalize pop9 (heldN q.O c 8) = pn at *
      clear h hmr hfull
      by_cases hm : m ≤ (pn : Int)
      · rw [decide_eq_true hm, if_pos rfl] at hE
        rw [hE, if_neg (by decide)]
        clear hE hza hzc HG
        go_enter Tryd.func56, Tryd.ntmps56
        go_wp2_with fail
        refine cM.mono ?_
        rintro r W ⟨rfl, hW⟩
        rw [hW]
        clear cM hW
        go_wp2_with fail
        go_region_held3 (fun w' => w'.cell? ⟨b, 513 + c, none⟩ = some (.int .i64 m)) (with_reducible (first | exact hS0.out | exact hS1.out)) ((first
          | (go_at_call 33; (with_reducible refine cF.mono ?_); rintro r W1 ⟨a1, c1, rfl, hB1⟩; have HB1 : Hid3 (Below w.heap.size w W1) := ⟨((Below.refl _ w).drew).trans hB1⟩; have hS1 := Hid3.mk (HSm.out W1 HB1.out); clear hB1)))
        all_goals (
          go_wp2
          go_ret
          exact ⟨rfl, RStp.same H.out HB1.out⟩)
      · rw [decide_eq_false hm, if_neg (by decide)] at hE
        rw [hE, if_pos rfl]
        clear hE hza hzc
        go_enter Tryd.func56, Tryd.ntmps56
        go_wp2_with fail
        refine cM.mono ?_
        rintro r W ⟨rfl, hW⟩
        rw [hW]
        clear cM hW
        go_wp2_with fail
        go_region_held3 (fun w' => w'.cell? ⟨b, 513 + c, none⟩ = some (.int .i64 m)) (with_reducible (first | exact hS0.out | exact hS1.out)) ((first
          | (go_at_call 33; (with_reducible refine cF.mono ?_); rintro r W1 ⟨a1, c1, rfl, hB1⟩; have HB1 : Hid3 (Below w.heap.size w W1) := ⟨((Below.refl _ w).drew).trans hB1⟩; have hS1 := Hid3.mk (HSm.out W1 HB1.out); clear hB1)))
        all_goals (
          obtain ⟨hC1, cN⟩ := HG.out W1 HB1.out
          have cc1 := hC1.ch f hf c hc
          have fc1 := hC1.fz (129 + f * 6 + c)
          have hb1 := hC1.l
          generalize (q.O f).testBit c = tbc at cc1
          clear hC1 ca cc fc
          go_wp2_with fail
          refine cN.mono ?_
          rintro r W2 ⟨rfl, hS⟩
          have HS := Hid3.mk hS
          clear cN hS
          go_wp2
          go_ret
          exact ⟨rfl, RStp.pre HB1.out HS.out⟩)
end Go.Proofs.YtalhlbhhgddddaaDoor
