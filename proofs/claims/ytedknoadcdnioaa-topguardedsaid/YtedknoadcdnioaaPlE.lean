/- The program's pool: Grant, Share. -/
import Derived.Test.YtedknoadcdnioaaPlD
namespace Go.Proofs.Ytedknoadcdnioaa
open Go.RowKit Go.Maps
set_option linter.unusedVariables false
set_option maxRecDepth 100000
def MN (q : Ps) (e : Nat) : Int := if h : e < 6 then q.M ⟨e, h⟩ else 0
def fullN (n : Nat) (q : Ps) (e : Nat) : Bool := decide (MN q e ≤ (pop9 (heldN q.O e n) : Int))
theorem fulln_any (B b fb n : Nat) (v : Value) (q : Ps) (e : Nat) (he : e < 6) (w : World) (h : Pl B w b fb n v q) : Calls Try.prog 13 #[.pointer (some ⟨b, 0, none⟩), .int .u8 e] w fun r w' => r = .returned (.bool (fullN n q e)) ∧ Below w.heap.size w w' := by
  have := full_any B b fb n v q ⟨e, he⟩ w h
  unfold fullB at this
  unfold fullN MN
  rw [dif_pos he]
  exact this
def grE (n : Nat) (q : Ps) (e f : Nat) (c : ByteArray × Int) : Int := if 6 ≤ e ∨ n ≤ f then 2 else if rightB c.1.data.toList c.2 = false then 3 else if q.O f ≠ 0 then 6 else if fullN n q e = true then 11 else 0
def grQ (n : Nat) (q : Ps) (e f : Nat) (c : ByteArray × Int) : Ps := if grE n q e f c = 0 then giveQ 1 e f ⟨q.O, updN q.G f c, q.M, q.E⟩ else q
/-- A pool beside a box that was laid behind it. -/
structure Kb (B : Nat) (w W : World) (b fb n x : Nat) (v : Value) (q : Ps) (c : ByteArray × Int) : Prop where
  p : Pl B W b fb n v q
  x : Two W x 27 (.string c.1) (.int .u8 c.2)
  bl : Below w.heap.size w W
theorem two_lt {W : World} {b : Nat} {x y : Value} {t : TypeId} (h : Two W b t x y) : b < W.heap.size := (Array.getElem?_eq_some_iff.1 h).1
theorem Kb.low {B : Nat} {w W W' : World} {b fb n x : Nat} {v : Value} {q : Ps} {c : ByteArray × Int} (h : Kb B w W b fb n x v q c) (k : Below W.heap.size W W') : Kb B w W' b fb n x v q c := ⟨h.p.low k, h.x.below k (two_lt h.x), h.bl.trans (k.mono h.bl.size)⟩
set_option maxHeartbeats 8000000 in
theorem grant_any (B b fb n : Nat) (v : Value) (q : Ps) (e f : Nat) (c : ByteArray × Int) (w : World) (h : Pl B w b fb n v q) (hf : f ≤ 255) (hc : c.1.size ≤ 1000) (hl : q.E.length ≤ 1000) (hB : B ≤ w.heap.size) : Calls Try.prog 6 #[.pointer (some ⟨b, 0, none⟩), .int .u8 e, .int .u8 f, .agg #[.string c.1, .int .u8 c.2]] w fun r w' => r = .returned (.int .i64 (grE n q e f c)) ∧ PStp B w w' b fb n v (grQ n q e f c) := by
  have hX := below_new w (.cells #[.string c.1, .int .u8 c.2] 27)
  have HK0 : Hid3 (Kb B w (w.alloc (.cells #[.string c.1, .int .u8 c.2] 27)) b fb n w.heap.size v q c) := ⟨⟨h.low hX, Two.new w _ _ _, hX⟩⟩
  have HP := Hid3.mk h
  have cT := there_any B b fb n v q e f hf _ (h.low hX)
  have cR := fun W => right_any c.1 c.2 W hc
  unfold capV at cR
  have HQ : Hid3 (∀ W, Below w.heap.size w W → PStp B w W b fb n v q) := ⟨fun W hW => PStp.same HP.out hW⟩
  unfold grQ grE
  unfold thE at cT
  have hbl := h.c.lt
  clear h hX
  by_cases hg : 6 ≤ e ∨ n ≤ f
  · rw [if_pos hg] at cT ⊢
    rw [if_neg (by decide)]
    go_enter Try.func6, Try.ntmps6
    go_wp2_with fail
    refine cT.mono ?_
    rintro r w' ⟨rfl, rfl⟩
    clear cT
    go_wp2
    go_ret
    exact ⟨rfl, HQ.out _ HK0.out.bl⟩
  · rw [if_neg hg] at cT ⊢
    have he6 : e < 6 := by omega
    have hfn : f < n := by omega
    cases hr : rightB c.1.data.toList c.2 with
    | false =>
      rw [hr] at cR
      rw [if_pos rfl, if_neg (by decide)]
      have b0 := HK0.out.x.c0
      have b1 := HK0.out.x.c1
      go_enter Try.func6, Try.ntmps6
      go_wp2_with fail
      refine cT.mono ?_
      rintro r w' ⟨rfl, rfl⟩
      clear cT
      go_wp2_with fail
      refine (cR _).mono ?_
      rintro r W1 ⟨rfl, hB1⟩
      have HK1 := Hid3.mk (HK0.out.low hB1)
      clear hB1 cR b0 b1
      go_wp2
      go_ret
      exact ⟨rfl, HQ.out _ HK1.out.bl⟩
    | true =>
      rw [hr] at cR
      rw [if_neg (by decide)]
      have b0 := HK0.out.x.c0
      have b1 := HK0.out.x.c1
      have hfz : (f : Int) < (n : Int) := by omega
      by_cases ho : q.O f = 0
      · rw [if_neg (by simpa using ho)]
        have cF := fun W (hW : Kb B w W b fb n w.heap.size v q c) => fulln_any B b fb n v q e he6 W hW.p
        cases hfu : fullN n q e with
        | true =>
          rw [hfu] at cF
          rw [if_pos rfl, if_neg (by decide)]
          go_enter Try.func6, Try.ntmps6
          go_wp2_with fail
          refine cT.mono ?_
          rintro r w' ⟨rfl, rfl⟩
          clear cT
          go_wp2_with fail
          refine (cR _).mono ?_
          rintro r W1 ⟨rfl, hB1⟩
          have HK1 := Hid3.mk (HK0.out.low hB1)
          have c0 := HK1.out.p.cells.1
          have cf := (HK1.out.p.f.at f hfn).1
          rw [ho] at cf
          have hl1 := HK1.out.p.c.lt
          have hl2 := HK1.out.p.f.lt
          clear hB1 cR b0 b1
          go_wp2_with fail
          refine (cF _ HK1.out).mono ?_
          rintro r W2 ⟨rfl, hB2⟩
          have HK2 := Hid3.mk (HK1.out.low hB2)
          clear hB2 cF c0 cf
          go_wp2
          go_ret
          exact ⟨rfl, HQ.out _ HK2.out.bl⟩
        | false =>
          rw [hfu] at cF
          rw [if_neg (by decide), if_pos rfl]
          go_enter Try.func6, Try.ntmps6
          go_wp2_with fail
          refine cT.mono ?_
          rintro r w' ⟨rfl, rfl⟩
          clear cT
          go_wp2_with fail
          refine (cR _).mono ?_
          rintro r W1 ⟨rfl, hB1⟩
          have HK1 := Hid3.mk (HK0.out.low hB1)
          have c0 := HK1.out.p.cells.1
          have cf := (HK1.out.p.f.at f hfn).1
          rw [ho] at cf
          have hl1 := HK1.out.p.c.lt
          have hl2 := HK1.out.p.f.lt
          clear hB1 cR b0 b1
          go_wp2_with fail
          refine (cF _ HK1.out).mono ?_
          rintro r W2 ⟨rfl, hB2⟩
          have HK2 := Hid3.mk (HK1.out.low hB2)
          clear hB2 cF c0 cf hl1 hl2
          go_wp2_with fail
          have hK3 := HK2.out.low (Below.refl _ W2).drew
          have c0 := hK3.p.cells.1
          obtain ⟨_, g1, g2⟩ := hK3.p.f.at f hfn
          have gf1 := hK3.p.f.f (f * 3 + 1)
          have gf2 := hK3.p.f.f (f * 3 + 1 + 1)
          have g3 : W2.cell? ⟨fb, f * 3 + 1 + 1, none⟩ = some (.int .u8 (q.G f).2) := g2
          have gf3 : W2.frozen? ⟨fb, f * 3 + 1 + 1, none⟩ = false := gf2
          have b0 := hK3.x.c0
          have b1 := hK3.x.c1
          have hl1 := HK2.out.p.c.lt
          have hl2 := HK2.out.p.f.lt
          have hl3 := two_lt HK2.out.x
          have hst : PStp B W2.drew ((W2.drew.setCell ⟨fb, f * 3 + 1, none⟩ (.string c.1)).setCell ⟨fb, f * 3 + 1 + 1, none⟩ (.int .u8 c.2)) b fb n v ⟨q.O, updN q.G f c, q.M, q.E⟩ := hK3.p.frame (q' := ⟨q.O, updN q.G f c, q.M, q.E⟩) ((Apart.at (X := fun i => i = fb) _ fb _ _ rfl).trans (Apart.at (X := fun i => i = fb) _ fb _ _ rfl)) (hK3.p.f.setG f hfn c.1 c.2) HP.out.o rfl rfl
          have HS3 : Hid3 (PStp B w ((W2.setCell ⟨fb, f * 3 + 1, none⟩ (.string c.1)).setCell ⟨fb, f * 3 + 1 + 1, none⟩ (.int .u8 c.2)).drew b fb n v ⟨q.O, updN q.G f c, q.M, q.E⟩) := ⟨PStp.pre (HK2.out.bl.drew) hst⟩
          clear hK3 hst
          generalize (q.G f).1 = og at *
          generalize (q.G f).2 = orr at *
          go_region
          clear c0 g1 g2 g3 gf1 gf2 gf3 b0 b1
          generalize ((W2.setCell ⟨fb, f * 3 + 1, none⟩ (.string c.1)).setCell ⟨fb, f * 3 + 1 + 1, none⟩ (.int .u8 c.2)).drew = W3 at *
          obtain ⟨v1, hP1, hv1⟩ := HS3.out.out
          have HP1 := Hid3.mk hP1
          have HV1 := Hid3.mk hv1
          have cG := give_any B b fb n v1 ⟨q.O, updN q.G f c, q.M, q.E⟩ 1 e f W3 hP1 he6 hfn hl (Nat.le_trans hB HS3.out.ap.size)
          clear hP1 hv1
          go_wp2_with fail
          refine cG.mono ?_
          rintro r W4 ⟨rfl, hG⟩
          have HG := Hid3.mk hG
          clear hG cG
          go_wp2
          go_ret
          exact ⟨rfl, PStp.then HS3.out.ap HV1.out HG.out⟩
      · rw [if_pos ho, if_neg (by decide)]
        have hoz : (((q.O f : Nat) : Int) != 0) = true := by simpa using ho
        go_enter Try.func6, Try.ntmps6
        go_wp2_with fail
        refine cT.mono ?_
        rintro r w' ⟨rfl, rfl⟩
        clear cT
        go_wp2_with fail
        refine (cR _).mono ?_
        rintro r W1 ⟨rfl, hB1⟩
        have HK1 := Hid3.mk (HK0.out.low hB1)
        have c0 := HK1.out.p.cells.1
        have cf := (HK1.out.p.f.at f hfn).1
        have hl1 := HK1.out.p.c.lt
        have hl2 := HK1.out.p.f.lt
        clear hB1 cR b0 b1
        generalize ((q.O f : Nat) : Int) = ov at *
        go_wp2
        go_ret
        exact ⟨rfl, HQ.out _ HK1.out.bl⟩
end Go.Proofs.Ytedknoadcdnioaa
