/- The document's pool: Grant. -/
import Derived.Test.YtalhlbhhgddddaaDoorPlX
namespace Go.Proofs.YtalhlbhhgddddaaDoor
open Go.RowKit Go.Maps
set_option linter.unusedVariables false
set_option maxRecDepth 100000
theorem below_drew {B : Nat} {w W : World} (h : Below B w W) : Below B w W.drew := ⟨h.os, h.tape, h.output, h.size, h.block⟩
theorem own_len {B : Nat} {w : World} {b : Nat} {v : Value} {q : Ps} {f : Nat} (hf : f < 8) (h : Rl B w b v q) : Calls Tryd.prog 32 #[.pointer (some ⟨b, 0, none⟩), .int .u8 f] w fun r w' => ∃ a cap, r = .returned (.slice a (pop9 (q.O f)) cap) ∧ Below w.heap.size w w' := by
  refine (rowners_in B b v q f w h hf).mono ?_
  rintro r W ⟨u, rfl, hN⟩
  have ho := h.o f hf
  rw [bits6 _ ho] at hN
  obtain ⟨a, cap, hu⟩ := slice_of hN.own
  rw [bitsL_len _ (by omega)] at hu
  exact ⟨a, cap, by rw [hu], hN.bl⟩
set_option maxHeartbeats 4000000 in
theorem rgrant_any (B b : Nat) (v : Value) (q : Ps) (e f : Nat) (c : ByteArray × Int) (hf255 : f ≤ 255) (w : World) (h : Rl B w b v q) (hl : q.E.length ≤ 1000) (hB : B ≤ w.heap.size)
    (cR : ∀ W, Below w.heap.size w W → Calls Tryd.prog 66 #[.agg #[.string c.1, .int .u8 c.2]] W fun r w' => r = .returned (.bool (rightB c.1.data.toList c.2)) ∧ Below W.heap.size W w') : Calls Tryd.prog 55 #[.pointer (some ⟨b, 0, none⟩), .int .u8 e, .int .u8 f, .agg #[.string c.1, .int .u8 c.2]] w fun r w' => r = .returned (.int .i64 (grE 8 q e f c)) ∧ RStp B w w' b v (grQ 8 q e f c) := by
  have hX := below_new w (.cells #[.string c.1, .int .u8 c.2] 43)
  have hbx := heap_alloc_new w (.cells #[.string c.1, .int .u8 c.2] 43)
  have cM := may_any b v q e f hf255 (w.alloc (.cells #[.string c.1, .int .u8 c.2] 43)) (h.low hX).c
  have H := Hid3.mk h
  have HX := Hid3.mk hX
  have HBX := Hid3.mk hbx
  unfold grQ
  by_cases hr : 6 ≤ e ∨ 8 ≤ f
  · have hE : grE 8 q e f c = 2 := by unfold grE; rw [if_pos hr]
    rw [thE_bad hr] at cM
    rw [hE, if_neg (by decide)]
    clear h hX hbx
    go_enter Tryd.func55, Tryd.ntmps55
    go_wp2_with fail
    refine cM.mono ?_
    rintro r W ⟨rfl, hW⟩
    rw [hW]
    clear cM hW
    go_wp2
    go_ret
    exact ⟨rfl, RStp.same H.out HX.out⟩
  have he : e < 6 := by omega
  have hf : f < 8 := by omega
  rw [thE_ok he hf] at cM
  have c1 := cR (w.alloc (.cells #[.string c.1, .int .u8 c.2] 43)) hX
  have hez : (e : Int) < 6 := by omega
  have hfz : (f : Int) < 64 := by omega
  have ho := h.o f hf
  cases hri : rightB c.1.data.toList c.2 with
  | false =>
    have hE : grE 8 q e f c = 3 := by unfold grE; rw [if_neg hr, if_pos hri]
    rw [hE, if_neg (by decide)]
    rw [hri] at c1
    clear h hX hbx hri hE cR
    go_enter Tryd.func55, Tryd.ntmps55
    go_wp2_with fail
    refine cM.mono ?_
    rintro r W ⟨rfl, hW⟩
    rw [hW]
    clear cM hW
    go_wp2_with fail
    refine c1.mono ?_
    rintro r W1 ⟨rfl, hb1⟩
    have HB1 := Hid3.mk (HX.out.trans (hb1.mono HX.out.size))
    clear c1 hb1
    go_wp2
    go_ret
    exact ⟨rfl, RStp.same H.out HB1.out⟩
  | true =>
    rw [hri] at c1
    have HO : Hid3 (∀ W, Below w.heap.size w W → Calls Tryd.prog 32 #[.pointer (some ⟨b, 0, none⟩), .int .u8 f] W fun r w' => ∃ a cap, r = .returned (.slice a (pop9 (q.O f)) cap) ∧ Below W.heap.size W w') := ⟨fun W hW => own_len hf (H.out.low hW)⟩
    have hpz := pop_zero6 _ ho
    by_cases hO : q.O f ≠ 0
    · have hE : grE 8 q e f c = 6 := by unfold grE; rw [if_neg hr, if_neg (by rw [hri]; decide), if_pos hO]
      rw [hE, if_neg (by decide)]
      have hp : (0 : Int) < (pop9 (q.O f) : Int) := by
        have : pop9 (q.O f) ≠ 0 := fun x => hO (hpz.1 x)
        omega
      generalize pop9 (q.O f) = pn at *
      clear h hX hbx hri hE cR hO hpz
      go_enter Tryd.func55, Tryd.ntmps55
      go_wp2_with fail
      refine cM.mono ?_
      rintro r W ⟨rfl, hW⟩
      rw [hW]
      clear cM hW
      go_wp2_with fail
      refine c1.mono ?_
      rintro r W1 ⟨rfl, hb1⟩
      have HB1 := Hid3.mk (HX.out.trans (hb1.mono HX.out.size))
      have c2 := HO.out W1 HB1.out
      clear c1 hb1 HO
      go_wp2_with fail
      refine c2.mono ?_
      rintro r W2 ⟨a2, cap2, rfl, hb2⟩
      have HB2 := Hid3.mk (HB1.out.trans (hb2.mono HB1.out.size))
      clear c2 hb2
      go_wp2
      go_ret
      exact ⟨rfl, RStp.same H.out HB2.out⟩
    · have hO0 : q.O f = 0 := by omega
      have hp : ¬ (0 : Int) < (pop9 (q.O f) : Int) := by
        have := hpz.2 hO0
        omega
      have hzc : (q.O f).testBit e = false := by rw [hO0]; simp
      have hfew := held_few q e f hf hzc
      obtain ⟨m, cm, hmr⟩ := h.c.cm e he
      have hfull := full_eq hmr hfew
      have hb := h.c.l
      have HF : Hid3 (∀ W, Below w.heap.size w W → Calls Tryd.prog 33 #[.pointer (some ⟨b, 0, none⟩), .int .u8 e] W fun r w' => ∃ a cap, r = .returned (.slice a (pop9 (heldN q.O e 8)) cap) ∧ Below W.heap.size W w') := ⟨fun W hW => held_list he (H.out.low hW)⟩
      have HSm : Hid3 (∀ W, Below w.heap.size w W → W.cell? ⟨b, 513 + e, none⟩ = some (.int .i64 m)) := ⟨fun W hW => (hW.cell (p := ⟨b, 513 + e, none⟩) hb).trans cm⟩
      have hE : grE 8 q e f c = if decide (m ≤ (pop9 (heldN q.O e 8) : Int)) = true then 11 else 0 := by
        unfold grE; rw [if_neg hr, if_neg (by rw [hri]; decide), if_neg hO]
        unfold fullN
        rw [hfull]
      have HG : Hid3 (∀ W W5, Below w.heap.size w W → Below W.heap.size W W5 → W5.heap.size = W.heap.size → True) := ⟨fun _ _ _ _ _ => trivial⟩
      generalize pop9 (heldN q.O e 8) = pn at *
      generalize pop9 (q.O f) = po at *
      clear h hX hbx hmr hfull cR hri hpz
      by_cases hm : m ≤ (pn : Int)
      · rw [decide_eq_true hm, if_pos rfl] at hE
        rw [hE, if_neg (by decide)]
        clear hE hzc HG
        go_enter Tryd.func55, Tryd.ntmps55
        go_wp2_with fail
        refine cM.mono ?_
        rintro r W ⟨rfl, hW⟩
        rw [hW]
        clear cM hW
        go_wp2_with fail
        refine c1.mono ?_
        rintro r W1 ⟨rfl, hb1⟩
        have HB1 := Hid3.mk (HX.out.trans (hb1.mono HX.out.size))
        have c2 := HO.out W1 HB1.out
        clear c1 hb1 HO
        go_wp2_with fail
        refine c2.mono ?_
        rintro r W2 ⟨a2, cap2, rfl, hb2⟩
        have HB2 := Hid3.mk (below_drew (HB1.out.trans (hb2.mono HB1.out.size)))
        have hS0 := Hid3.mk (HSm.out _ HB2.out)
        have cF := HF.out _ HB2.out
        clear c2 hb2
        go_wp2_with fail
        go_region_held3 (fun w' => w'.cell? ⟨b, 513 + e, none⟩ = some (.int .i64 m)) (with_reducible (first | exact hS0.out | exact hS1.out)) ((first
          | (go_at_call 33; (with_reducible refine cF.mono ?_); rintro r W3 ⟨a1, c1, rfl, hB3⟩; have HB3 : Hid3 (Below w.heap.size w W3) := ⟨HB2.out.trans (hB3.mono HB2.out.size)⟩; have hS1 := Hid3.mk (HSm.out W3 HB3.out); clear hB3)))
        all_goals (
          go_wp2
          go_ret
          exact ⟨rfl, RStp.same H.out HB3.out⟩)
      · rw [decide_eq_false hm, if_neg (by decide)] at hE
        rw [hE, if_pos rfl]
        clear hE HG
        go_enter Tryd.func55, Tryd.ntmps55
        go_wp2_with fail
        refine cM.mono ?_
        rintro r W ⟨rfl, hW⟩
        rw [hW]
        clear cM hW
        go_wp2_with fail
        refine c1.mono ?_
        rintro r W1 ⟨rfl, hb1⟩
        have HB1 := Hid3.mk (HX.out.trans (hb1.mono HX.out.size))
        have HX1 := Hid3.mk ((hb1.block w.heap.size (by simp)).trans HBX.out)
        have c2 := HO.out W1 HB1.out
        clear c1 hb1 HO
        go_wp2_with fail
        refine c2.mono ?_
        rintro r W2 ⟨a2, cap2, rfl, hb2⟩
        have HX2 := Hid3.mk ((hb2.block w.heap.size (Array.getElem?_eq_some_iff.1 HX1.out).1).trans HX1.out)
        have HB2 := Hid3.mk (below_drew (HB1.out.trans (hb2.mono HB1.out.size)))
        have hS0 := Hid3.mk (HSm.out _ HB2.out)
        have cF := HF.out _ HB2.out
        clear c2 hb2 HX1 HB1
        go_wp2_with fail
        go_region_held3 (fun w' => w'.cell? ⟨b, 513 + e, none⟩ = some (.int .i64 m)) (with_reducible (first | exact hS0.out | exact hS1.out)) ((first
          | (go_at_call 33; (with_reducible refine cF.mono ?_); rintro r W3 ⟨a1, c1, rfl, hB3⟩; have HB3 : Hid3 (Below w.heap.size w W3) := ⟨HB2.out.trans (hB3.mono HB2.out.size)⟩; have HX3 := Hid3.mk ((hB3.block w.heap.size (Array.getElem?_eq_some_iff.1 HX2.out).1).trans HX2.out); have hS1 := Hid3.mk (HSm.out W3 HB3.out); clear hB3)))
        all_goals (
          have HR3 := Hid3.mk (H.out.low HB3.out)
          have hC3 := HR3.out.c
          have cc3 := hC3.ch f hf e he
          have fc3 := hC3.fz (129 + f * 6 + e)
          have g1 := (hC3.cg f hf).1
          have g2 := (hC3.cg f hf).2
          have fg1 := hC3.fz (1 + f * 2)
          have fg2 := hC3.fz (1 + f * 2 + 1)
          have hb3 := hC3.l
          have x0 : W3.cell? ⟨w.heap.size, 0, none⟩ = some (.string c.1) := by rw [Lib.cell_of_heap HX3.out]; rfl
          have x1 : W3.cell? ⟨w.heap.size, 1, none⟩ = some (.int .u8 c.2) := by rw [Lib.cell_of_heap HX3.out]; rfl
          generalize (q.O f).testBit e = tbc at cc3
          generalize (q.G f).1 = gg1 at g1
          generalize (q.G f).2 = gg2 at g2
          clear hC3
          go_wp2_with fail
          go_region
          have hR5 := ((HR3.out.bit f e hf he true (q.O f ||| 2 ^ e) (or_lt6 _ e (HR3.out.o f hf) he) (fun i _ => or_is _ e i)).grd f hf c).low (below_drew (Below.refl _ _))
          have hA5 : Apart (fun k => k = b) W3 (((W3.setCell ⟨b, 129 + f * 6 + e, none⟩ (.bool true)).setCell ⟨b, 1 + f * 2, none⟩ (.string c.1)).setCell ⟨b, 1 + f * 2 + 1, none⟩ (.int .u8 c.2)).drew := (((Rl.ap W3 b _ _).trans (Rl.ap _ b _ _)).trans (Rl.ap _ b _ _)).drew
          have cN := rnote_any B b v _ 1 e f _ hR5 hl (Nat.le_trans hB (Nat.le_trans HB3.out.size hA5.size))
          have HA5 := Hid3.mk hA5
          clear hR5 hA5 cc3 g1 g2
          go_wp2_with fail
          refine cN.mono ?_
          rintro r W6 ⟨rfl, hS⟩
          have HS : Hid3 (RStp B W3 W6 b v (giveQ 1 e f ⟨q.O, updN q.G f c, q.M, q.E⟩)) := ⟨RStp.then HA5.out (fun _ e => .inl e) ⟨by
            obtain ⟨v', h1, h2⟩ := hS.out
            exact ⟨v', h1, h2⟩, hS.ap⟩⟩
          clear cN hS HA5
          go_wp2
          go_ret
          exact ⟨rfl, RStp.pre HB3.out HS.out⟩)
set_option maxHeartbeats 1000000 in
theorem rholds_any (B b : Nat) (v : Value) (q : Ps) (e f : Nat) (hf255 : f ≤ 255) (w : World) (h : Rl B w b v q) : Calls Tryd.prog 34 #[.pointer (some ⟨b, 0, none⟩), .int .u8 e, .int .u8 f] w fun r w' => r = .returned (.bool ((oF 8 q f).testBit e)) ∧ w' = w := by
  have cM := may_any b v q e f hf255 w h.c
  by_cases hr : 6 ≤ e ∨ 8 ≤ f
  · rw [thE_bad hr] at cM
    have hz : (oF 8 q f).testBit e = false := by
      unfold oF
      split
      · rename_i hf
        exact bit_hi _ e (h.o f hf) (by omega)
      · simp
    rw [hz]
    clear h hz
    go_enter Tryd.func34, Tryd.ntmps34
    go_wp2_with fail
    refine cM.mono ?_
    rintro r W ⟨rfl, hW⟩
    rw [hW]
    clear cM hW
    go_wp2
    go_ret
    exact ⟨rfl, rfl⟩
  · have he : e < 6 := by omega
    have hf : f < 8 := by omega
    rw [thE_ok he hf] at cM
    have ch := h.c.ch f hf e he
    have hb := h.c.l
    have hez : (e : Int) < 6 := by omega
    have hfz : (f : Int) < 64 := by omega
    rw [oF_at 8 q f hf]
    generalize (q.O f).testBit e = z at *
    clear h
    go_enter Tryd.func34, Tryd.ntmps34
    go_wp2_with fail
    refine cM.mono ?_
    rintro r W ⟨rfl, hW⟩
    rw [hW]
    clear cM hW
    go_wp2
    go_ret
    exact ⟨rfl, rfl⟩
theorem rsize_any (B b : Nat) (v : Value) (q : Ps) (w : World) (h : Rl B w b v q) : Calls Tryd.prog 29 #[.pointer (some ⟨b, 0, none⟩)] w fun r w' => r = .returned (.int .i64 8) ∧ w' = w := by
  have c0 := h.c.c0
  have hb := h.c.l
  clear h
  go_enter Tryd.func29, Tryd.ntmps29
  go_wp2
  go_ret
  exact ⟨rfl, rfl⟩
end Go.Proofs.YtalhlbhhgddddaaDoor
