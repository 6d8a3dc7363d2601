/- TopGuarded: the walk. -/
import Derived.Test.YtedknoadcdnioaaCaK
import Derived.Test.YtedknoadcdnioaaPlK
namespace Go.Proofs.Ytedknoadcdnioaa
open Go.RowKit Go.Maps
set_option linter.unusedVariables false
set_option maxRecDepth 100000
def gL : Nat → List UInt8
  | 0 => []
  | n + 1 => gL n ++ [47, 103]
def gN (n : Nat) : ByteArray := ⟨(gL n).toArray⟩
def xN (n : Nat) : ByteArray := ⟨(gL n ++ [47, 120]).toArray⟩
theorem gN_g : ∀ n : Nat, n < 5 → gN n ++ ⟨#[47, 103]⟩ = gN (n + 1) := by decide +kernel
theorem gN_x : ∀ n : Nat, n < 5 → gN n ++ ⟨#[47, 120]⟩ = xN n := by decide +kernel
theorem gN_size : ∀ n : Nat, n < 5 → (gN n).size ≤ 8 := by decide +kernel
theorem xN_ok : ∀ k : Fin 4, rightB (xN (k.1 + 1)).data.toList (31#8).toNat = true ∧ (xN (k.1 + 1)).size ≤ 300 := by decide +kernel
def gc0 (k : Fin 4) : Rc := ⟨(xN (k.1 + 1), 31#8), xN_ok k⟩
theorem rt_ok : ∀ r : Fin 32, rightB (⟨#[47]⟩ : ByteArray).data.toList (BitVec.ofNat 8 r.1).toNat = true ∧ (⟨#[47]⟩ : ByteArray).size ≤ 300 := by decide +kernel
def gc1 (r : Fin 32) : Rc := ⟨(⟨#[47]⟩, BitVec.ofNat 8 r.1), rt_ok r⟩
def gs0 : Sl := fun _ => none
def gs1 (k : Fin 4) : Sl := putS gs0 0 (gc0 k)
def gs2 (k : Fin 4) (r : Fin 32) : Sl := putS (gs1 k) 1 (gc1 r)
def gs3 (k : Fin 4) (r : Fin 32) : Sl := goneS (gs2 k r) (revQ ⟨#[47]⟩ (gs2 k r)) 12
def gg (k : Fin 4) (r : Fin 32) : Cp := (gN (k.1 + 1), BitVec.ofNat 8 r.1)
theorem ge1 : ∀ k : Fin 4, putE gs0 0 = 0 := by decide +kernel
theorem ge2 : ∀ k : Fin 4, putE (gs1 k) 1 = 0 := by decide +kernel
theorem gf1 : ∀ (k : Fin 4) (r : Fin 32), ((findO (gs1 k) (gg k r)).2 == 0) = false := by decide +kernel
theorem gf2 : ∀ (k : Fin 4) (r : Fin 32), ((findO (gs2 k r) (gg k r)).2 == 0) = true := by decide +kernel
theorem gf3 : ∀ (k : Fin 4) (r : Fin 32), ((findO (gs3 k r) (gg k r)).2 == 0) = false := by decide +kernel
theorem gf4 : ∀ (k : Fin 4) (r : Fin 32), (thL (revQ ⟨#[47]⟩ (gs2 k r)) 12).length = 2 := by decide +kernel
def gq (k : Fin 4) : Ps := grQ 4 (newP 4) 0 2 (gN (k.1 + 1), 0)
theorem gp1 : ∀ k : Fin 4, grE 4 (newP 4) 0 2 (gN (k.1 + 1), 0) = 0 := by decide +kernel
theorem gp2 : ∀ k : Fin 4, (gdC 4 (gq k) 2).1 = gN (k.1 + 1) ∧ (gdC 4 (gq k) 2).2 = 0 ∧ decide (oF 4 (gq k) 2 ≠ 0) = true := by decide +kernel
theorem gr_nat : ∀ r : Fin 32, (((BitVec.ofNat 8 r.1).toNat : Nat) : Int) = (r.1 : Int) := by decide +kernel
theorem Lv.keep {w W W' : World} {b fb n : Nat} {v : Value} {q : Ps} {x : Nat} (h : Lv w W b fb n v q) (k : Apart (fun i => i = x) W W') (hn : ¬ XP b fb v x) (hx : w.heap.size ≤ x) : Lv w W' b fb n v q :=
  ⟨⟨h.p.g, h.p.gf, h.p.c.stay k (fun e => hn (.inl e.symm)), h.p.f.stay k (fun e => hn (.inr (.inl e.symm))), h.p.e.kept (⟨k.os, k.tape, k.output, k.size, fun i hi hne => k.block i hi (fun e => hne (by rw [e]))⟩ : W.grownBy W' (some x)) (.inr (fun e => hn (.inr (.inr e)))), h.p.o, h.p.n9⟩, h.bl.trans (k.below w.heap.size (fun i e => e ▸ hx) h.bl.size)⟩
/-- A pool, a table and a guard's box. -/
structure Gs (w W : World) (b fb : Nat) (q : Ps) (tb : Nat) (s : Sl) (gb : Nat) (nm : ByteArray) : Prop where
  p : ∃ v, Lv w W b fb 4 v q ∧ ¬ XP b fb v gb ∧ ¬ XP b fb v tb
  t : Tb 44 w.heap.size W tb s
  x : Two W gb 27 (.string nm) (.int .u8 0)
  gx : w.heap.size ≤ gb
  n1 : tb ≠ gb
theorem Gs.bl {w W : World} {b fb : Nat} {q : Ps} {tb : Nat} {s : Sl} {gb : Nat} {nm : ByteArray} (h : Gs w W b fb q tb s gb nm) : Below w.heap.size w W := by
  obtain ⟨v, hL, _⟩ := h.p
  exact hL.bl
theorem Gs.name {w W : World} {b fb : Nat} {q : Ps} {tb : Nat} {s : Sl} {gb : Nat} {nm : ByteArray} (h : Gs w W b fb q tb s gb nm) (m : ByteArray) : Gs w (W.setCell ⟨gb, 0, none⟩ (.string m)) b fb q tb s gb m := by
  obtain ⟨v, hL, h1, h2⟩ := h.p
  have ha := Apart.at (X := fun i => i = gb) W gb 0 (.string m) rfl
  exact ⟨⟨v, hL.keep ha h1 h.gx, h1, h2⟩, h.t.stay ha h.n1, h.x.set0 _, h.gx, h.n1⟩
theorem Gs.grant {w W W' : World} {b fb : Nat} {q q' : Ps} {tb : Nat} {s : Sl} {gb : Nat} {nm : ByteArray} {v : Value} (h : Gs w W b fb q tb s gb nm) (hL : Lv w W b fb 4 v q) (h1 : ¬ XP b fb v gb) (h2 : ¬ XP b fb v tb) (k : PStp w.heap.size W W' b fb 4 v q') : Gs w W' b fb q' tb s gb nm := by
  obtain ⟨v', hp, hv⟩ := k.out
  obtain ⟨_, hL'⟩ := hL.step k
  have hgl := two_lt h.x
  have htl := h.t.c.lt
  refine ⟨⟨v', ⟨hp, hL'.bl⟩, fun e => ?_, fun e => ?_⟩, h.t.stay k.ap h2, (k.ap.block gb hgl h1).trans h.x, h.gx, h.n1⟩
  · rcases e with e | e | e
    · exact h1 (.inl e)
    · exact h1 (.inr (.inl e))
    · rcases hv _ e with e | e
      · exact h1 (.inr (.inr e))
      · omega
  · rcases e with e | e | e
    · exact h2 (.inl e)
    · exact h2 (.inr (.inl e))
    · rcases hv _ e with e | e
      · exact h2 (.inr (.inr e))
      · omega
theorem Gs.put {w W W' : World} {b fb : Nat} {q : Ps} {tb : Nat} {s s' : Sl} {gb : Nat} {nm : ByteArray} (h : Gs w W b fb q tb s gb nm) (k : TStp 44 w.heap.size W W' tb s') : Gs w W' b fb q tb s' gb nm := by
  obtain ⟨v, hL, h1, h2⟩ := h.p
  exact ⟨⟨v, hL.keep k.ap h2 h.t.g, h1, h2⟩, k.tb, (k.ap.block gb (two_lt h.x) (fun e => h.n1 e.symm)).trans h.x, h.gx, h.n1⟩
theorem Gs.low {w W W' : World} {b fb : Nat} {q : Ps} {tb : Nat} {s : Sl} {gb : Nat} {nm : ByteArray} (h : Gs w W b fb q tb s gb nm) (k : Below W.heap.size W W') : Gs w W' b fb q tb s gb nm := by
  obtain ⟨v, hL, h1, h2⟩ := h.p
  exact ⟨⟨v, hL.low k, h1, h2⟩, h.t.below k, h.x.below k (two_lt h.x), h.gx, h.n1⟩
/-- A table and a box. -/
structure Gt (w W : World) (tb : Nat) (s : Sl) (gb : Nat) (nm : ByteArray) (r : Int) : Prop where
  t : Tb 44 w.heap.size W tb s
  x : Two W gb 27 (.string nm) (.int .u8 r)
  n1 : tb ≠ gb
  bl : Below w.heap.size w W
theorem Gt.low {w W W' : World} {tb : Nat} {s : Sl} {gb : Nat} {nm : ByteArray} {r : Int} (h : Gt w W tb s gb nm r) (k : Below W.heap.size W W') : Gt w W' tb s gb nm r := ⟨h.t.below k, h.x.below k (two_lt h.x), h.n1, h.bl.trans (k.mono h.bl.size)⟩
theorem Gt.put {w W W' : World} {tb : Nat} {s s' : Sl} {gb : Nat} {nm : ByteArray} {r : Int} (h : Gt w W tb s gb nm r) (k : TStp 44 w.heap.size W W' tb s') : Gt w W' tb s' gb nm r := ⟨k.tb, (k.ap.block gb (two_lt h.x) (fun e => h.n1 e.symm)).trans h.x, h.n1, h.bl.trans (k.belowB h.t h.bl.size)⟩
theorem Gs.box {w W : World} {b fb : Nat} {q : Ps} {tb : Nat} {s : Sl} {gb : Nat} {nm : ByteArray} (h : Gs w W b fb q tb s gb nm) (m : ByteArray) (r : Int) : Gt w (W.alloc (.cells #[.string m, .int .u8 r] 27)) tb s W.heap.size m r := by
  have hX := below_new W (.cells #[.string m, .int .u8 r] 27)
  have htl := h.t.c.lt
  exact ⟨h.t.below hX, Two.new W _ _ _, by omega, h.bl.trans (hX.mono h.bl.size)⟩
set_option maxHeartbeats 8000000 in
theorem guarded_law (rights : Nat) (hr : rights ≤ 255) (deep : Nat) (hd : deep ≤ 255) (w : World) : Calls Try.prog 3 #[.int .u8 rights, .int .u8 deep] w fun r w' => r = .returned (.bool true) ∧ Below w.heap.size w w' := by
  obtain ⟨k, hk⟩ : ∃ k : Fin 4, (deep : Int) % 4 + 1 = ((k.1 + 1 : Nat) : Int) := ⟨⟨deep % 4, by omega⟩, by simp⟩
  obtain ⟨rr, hrr⟩ : ∃ r : Fin 32, (rights : Int) % 32 = (r.1 : Int) := ⟨⟨rights % 32, by omega⟩, by simp⟩
  obtain ⟨n, hn⟩ : ∃ n : Nat, n = k.1 + 1 := ⟨_, rfl⟩
  rw [← hn] at hk
  have hn4 : n ≤ 4 := by omega
  have HNk := Hid3.mk hn
  have hsn := gN_size n (by omega)
  clear hn
  obtain ⟨ri, hri⟩ : ∃ r : Int, (rr.1 : Int) = r := ⟨_, rfl⟩
  rw [hri] at hrr
  have HR : Hid3 ((((BitVec.ofNat 8 rr.1).toNat : Nat) : Int) = ri) := ⟨(gr_nat rr).trans hri⟩
  clear hri
  have cN := new_in 4 (by omega) (by omega) w
  go_enter Try.func3, Try.ntmps3
  go_wp2_with fail
  refine cN.mono ?_
  rintro r W1 ⟨b, fb, rfl, hN⟩
  have H1 : Hid3 (Lv w W1 b fb 4 (.slice none 0 0) (newP 4)) := ⟨⟨hN.pl (by omega), hN.bl⟩⟩
  have cC := new_any W1 w.heap.size H1.out.bl.size
  clear cN hN
  go_wp2_with fail
  refine cC.mono ?_
  rintro r W2 ⟨rfl, hT, hB⟩
  have hX := below_new W2 (.cells #[.string ⟨#[]⟩, .int .u8 0] 27)
  have HG : Hid3 (Gs w (W2.alloc (.cells #[.string ⟨#[]⟩, .int .u8 0] 27)) b fb (newP 4) W1.heap.size gs0 W2.heap.size (gN 0)) := by
    have hL2 := (H1.out.low hB).low hX
    have hb1 := H1.out.p.c.lt
    have hb2 : fb < W1.heap.size := by obtain ⟨arr, hf, _⟩ := H1.out.p.f; exact (Array.getElem?_eq_some_iff.1 hf).1
    have hs := hB.size
    have htl := hT.c.lt
    refine ⟨⟨⟨_, hL2, ?_, ?_⟩, hT.below hX, Two.new W2 _ _ _, Nat.le_trans H1.out.bl.size hs, by omega⟩⟩
    · rintro (e | e | e)
      · omega
      · omega
      · cases e
    · rintro (e | e | e)
      · omega
      · omega
      · cases e
  clear cC hT hB hX H1
  generalize W1.heap.size = tb at *
  go_wp2_with fail
  go_loopw [9] (fun s9 wr => ∃ i : Nat, i ≤ n ∧ s9 = .int .i64 i ∧ Hid3 (Gs w wr b fb (newP 4) tb gs0 W2.heap.size (gN i))) (fun s _ => 5 - (intOf s).toNat)
  case atStart => exact ⟨0, Nat.zero_le _, rfl, HG⟩
  case round =>
    obtain ⟨i, hi, rfl, HQ⟩ := hrel
    clear HG
    generalize W2.heap.size = gb at *
    have x0 := HQ.out.x.c0
    have x1 := HQ.out.x.c1
    have xf := HQ.out.x.f 0
    have hgl := two_lt HQ.out.x
    by_cases hlt : i < n
    · have hltz : (i : Int) < (n : Int) := by omega
      have hsz := gN_size i (by omega)
      have HE := Hid3.mk (gN_g i (by omega))
      generalize gN i = gi at *
      go_wp2
      go_roundw
      case rel => exact ⟨i + 1, by omega, by go_num, ⟨by rw [← HE.out]; exact HQ.out.name _⟩⟩
      case measure => simp [intOf]; omega
    · obtain rfl : i = n := by omega
      have hltz : ¬ (i : Int) < (i : Int) := by omega
      obtain ⟨v, hL, h1, h2⟩ := HQ.out.p
      have c1 := grant_any w.heap.size b fb 4 v (newP 4) 0 2 (gN i, 0) wr hL.p (by omega) (Nat.le_trans hsn (by omega)) (by rw [show (newP 4).E.length = 0 from rfl]; omega) hL.bl.size
      have e1 := gp1 k
      rw [← HNk.out] at e1
      rw [e1] at c1
      have HS : Hid3 (∀ W', PStp w.heap.size wr W' b fb 4 v (grQ 4 (newP 4) 0 2 (gN i, 0)) → Gs w W' b fb (gq k) tb gs0 gb (gN i)) := ⟨fun W' hp => by
        have e : gq k = grQ 4 (newP 4) 0 2 (gN i, 0) := by unfold gq; rw [← HNk.out]
        rw [e]
        exact HQ.out.grant hL h1 h2 hp⟩
      have HX := Hid3.mk (gN_x i (by omega))
      have HP2 := Hid3.mk (gp2 k)
      rw [← HNk.out] at HP2
      have HF1 := Hid3.mk (gf1 k rr)
      have HF2 := Hid3.mk (gf2 k rr)
      have HF3 := Hid3.mk (gf3 k rr)
      have HGG : Hid3 (gg k rr = (gN i, BitVec.ofNat 8 rr.1)) := ⟨by unfold gg; rw [← HNk.out]⟩
      have HC0 : Hid3 ((gc0 k).1 = (xN i, 31#8)) := ⟨by show (xN (k.1 + 1), 31#8) = (xN i, 31#8); rw [← HNk.out]⟩
      clear e1 hL h1 h2
      go_wp2_with fail
      refine c1.mono ?_
      rintro r W3 ⟨rfl, hS⟩
      have H2 := Hid3.mk (HS.out _ hS)
      have y0 := H2.out.x.c0
      have hyl := two_lt H2.out.x
      have c2 := put_right w.heap.size tb gs0 0 (gc0 k) W3 H2.out.t
      rw [ge1 k, HC0.out, ← HX.out] at c2
      change Calls _ _ #[_, .int .i64 0, .agg #[.string _, .int .u8 31]] _ _ at c2
      clear c1 hS HS x0 x1 xf hgl HQ
      go_wp2_with fail
      refine c2.mono ?_
      rintro r W4 ⟨rfl, hS⟩
      have H3 : Hid3 (Gs w W4 b fb (gq k) tb (gs1 k) gb (gN i)) := ⟨H2.out.put hS⟩
      obtain ⟨v4, hL4, _⟩ := H3.out.p
      have c3 := guard_any w.heap.size b fb 4 v4 (gq k) 2 (by omega) W4 hL4.p
      rw [HP2.out.1, HP2.out.2.1, HP2.out.2.2] at c3
      clear c2 hS y0 hyl H2 hL4
      go_wp2_with fail
      refine c3.mono ?_
      rintro r W5 ⟨rfl, hB⟩
      have H4 := Hid3.mk ((H3.out.low hB).box (gN i) ri)
      have c4 := topens_any w.heap.size tb (gs1 k) (gg k rr) (by rw [HGG.out]; exact Nat.le_trans hsn (by omega)) _ H4.out.t
      rw [HF1.out, HGG.out] at c4
      simp only [HR.out] at c4
      clear c3 hB H3
      go_wp2_with fail
      generalize W5.alloc (.cells #[.string (gN i), .int .u8 ri] 27) = W5' at *
      generalize W5.heap.size = xb at *
      refine c4.mono ?_
      rintro r W6 ⟨rfl, hB⟩
      have H5 := Hid3.mk (H4.out.low hB)
      have z0 := H5.out.x.c0
      have z1 := H5.out.x.c1
      have c5 := put_right w.heap.size tb (gs1 k) 1 (gc1 rr) W6 H5.out.t
      rw [ge2 k] at c5
      change Calls _ _ #[_, .int .i64 1, .agg #[.string ⟨#[47]⟩, .int .u8 ((BitVec.ofNat 8 rr.1).toNat : Nat)]] _ _ at c5
      simp only [HR.out] at c5
      clear c4 hB H4 z0 z1
      go_wp2_with fail
      refine c5.mono ?_
      rintro r W7 ⟨rfl, hS⟩
      have H6 : Hid3 (Gt w W7 tb (gs2 k rr) xb (gN i) ri) := ⟨H5.out.put hS⟩
      have z0 := H6.out.x.c0
      have z1 := H6.out.x.c1
      have hzl := two_lt H6.out.x
      have c6 := topens_any w.heap.size tb (gs2 k rr) (gg k rr) (by rw [HGG.out]; exact Nat.le_trans hsn (by omega)) W7 H6.out.t
      rw [HF2.out, HGG.out] at c6
      simp only [HR.out] at c6
      clear c5 hS H5
      go_wp2_with fail
      refine c6.mono ?_
      rintro r W8 ⟨rfl, hB⟩
      have H7 := Hid3.mk (H6.out.low hB)
      have c7 := revoke_any w.heap.size tb (gs2 k rr) ⟨#[47]⟩ W8 H7.out.t (by decide)
      rw [gf4 k rr] at c7
      clear c6 hB H6 z0 z1 hzl
      go_wp2_with fail
      refine c7.mono ?_
      rintro r W9 ⟨ov, rfl, hrow, hS⟩
      have H8 : Hid3 (Gt w W9 tb (gs3 k rr) xb (gN i) ri) := ⟨H7.out.put hS⟩
      obtain ⟨oa, oc, ho⟩ : ∃ a c, ov = .slice a (2 : Nat) c := by
        rcases hrow.2 with ⟨_, h0⟩ | ⟨g, cap, cur, hv, _⟩
        · exact absurd h0 (by decide)
        · exact ⟨_, _, hv⟩
      subst ho
      have z0 := H8.out.x.c0
      have z1 := H8.out.x.c1
      have hzl := two_lt H8.out.x
      have c8 := topens_any w.heap.size tb (gs3 k rr) (gg k rr) (by rw [HGG.out]; exact Nat.le_trans hsn (by omega)) W9 H8.out.t
      rw [HF3.out, HGG.out] at c8
      simp only [HR.out] at c8
      clear c7 hS hrow H7
      go_wp2_with fail
      refine c8.mono ?_
      rintro r W10 ⟨rfl, hB⟩
      have H9 := Hid3.mk (H8.out.low hB)
      clear c8 hB H8 z0 z1 hzl
      go_wp2
      go_ret
      exact ⟨rfl, H9.out.bl⟩
end Go.Proofs.Ytedknoadcdnioaa
