/- The document's pool: gone, Quota, Free, Repossess, Holds, Guard, Size. -/
import Derived.Test.YtalhlbhhgddddaaDoorPlV
namespace Go.Proofs.YtalhlbhhgddddaaDoor
open Go.RowKit Go.Maps
set_option linter.unusedVariables false
set_option maxRecDepth 100000
/-- The document's Owners and Frames at any number. -/
theorem RStp.low {B : Nat} {w w1 w2 : World} {b : Nat} {v : Value} {q : Ps} (h : RStp B w w1 b v q) (k : Below w1.heap.size w1 w2) : RStp B w w2 b v q := by
  obtain ⟨v', h1, h2⟩ := h.out
  exact ⟨⟨v', h1.low k, h2⟩, h.ap.trans (Apart.of_below k)⟩
theorem clr_is (x e : Nat) (hx : x < 64) (he : e < 6) : ∀ i, i < 6 → (clr x e).testBit i = if i = e then false else x.testBit i := fun i hi => by
  rw [clr_bit x hx e he i hi]
  by_cases h : i = e <;> simp [h]
theorem or_is (x e : Nat) : ∀ i, (x ||| 2 ^ e).testBit i = if i = e then true else x.testBit i := fun i => by
  rw [Nat.testBit_or, Nat.testBit_two_pow]
  by_cases h : i = e
  · subst h; simp
  · simp [h, show ¬ e = i from fun x => h x.symm]
set_option maxHeartbeats 4000000 in
theorem rgone_any (B b : Nat) (v : Value) (q : Ps) (k : Int) (e f : Nat) (he : e < 6) (hf : f < 8) (w : World) (h : Rl B w b v q) (hl : q.E.length ≤ 1000) (hB : B ≤ w.heap.size) : Calls Tryd.prog 68 #[.pointer (some ⟨b, 0, none⟩), .int .u8 k, .int .u8 e, .int .u8 f] w fun r w' => r = .returned (.bool (decide (clr (q.O f) e = 0))) ∧ RStp B w w' b v (takeQ k e f q) := by
  have ho := h.o f hf
  have hclt := (clr_all (q.O f) ho e he).2
  have c1 := h.c.ch f hf e he
  have f1 := h.c.fz (129 + f * 6 + e)
  have hb := h.c.l
  have hR1 := h.bit f e hf he false (clr (q.O f) e) hclt (clr_is _ e ho he)
  have hA1 := Rl.ap w b (129 + f * 6 + e) (.bool false)
  have hB1 : B ≤ (w.setCell ⟨b, 129 + f * 6 + e, none⟩ (.bool false)).heap.size := by rw [size_setCell]; exact hB
  have cN := rnote_any B b v _ k e f _ hR1 hl hB1
  have hez : (e : Int) < 6 := by omega
  have hfz : (f : Int) < 64 := by omega
  have HA1 := Hid3.mk hA1
  generalize (q.O f).testBit e = tb at *
  clear h hR1 hA1
  go_enter Tryd.func68, Tryd.ntmps68
  go_wp2_with fail
  refine cN.mono ?_
  rintro r W2 ⟨rfl, hS⟩
  obtain ⟨v2, hR2, hv2⟩ := hS.out
  have HA2 := Hid3.mk (HA1.out.trans hS.ap)
  have HV2 : Hid3 (∀ k, v2.ownBlock = some k → v.ownBlock = some k ∨ w.heap.size ≤ k) := ⟨fun k e => (hv2 k e).imp id (fun x => by rw [size_setCell] at x; exact x)⟩
  have HR2 := Hid3.mk hR2
  have hpl : (bitsL (clr (q.O f) e)).length = pop9 (clr (q.O f) e) := bitsL_len _ (by omega)
  have hpz := pop_zero6 _ hclt
  have hp9 := pop_le (clr (q.O f) e) (by omega)
  have cO := rowners_in B b v2 _ f W2 hR2 hf
  have eO : updN q.O f (clr (q.O f) e) f = clr (q.O f) e := by unfold updN; rw [if_pos rfl]
  simp only [eO] at cO
  rw [bits6 _ hclt] at cO
  clear cN hS hR2 hv2 c1 f1
  generalize bitsL (clr (q.O f) e) = BL at *
  go_wp2_with fail
  refine cO.mono ?_
  rintro r W3 ⟨u, rfl, hNR⟩
  obtain ⟨ua, uc, huf⟩ := slice_of hNR.own
  subst huf
  have HR3 := Hid3.mk (HR2.out.low hNR.bl)
  have HA3 := Hid3.mk (HA2.out.trans (Apart.of_below hNR.bl))
  clear cO hNR HR2 HA2
  by_cases hz : clr (q.O f) e = 0
  · have hB0 : (BL.length : Int) = 0 := by have := hpz.2 hz; omega
    have HZ := Hid3.mk hz
    have c2 := (HR3.out.c.cg f hf).1
    have c3 := (HR3.out.c.cg f hf).2
    have f2 := HR3.out.c.fz (1 + f * 2)
    have f3 := HR3.out.c.fz (1 + f * 2 + 1)
    have hb3 := HR3.out.c.l
    have HR4 := Hid3.mk (HR3.out.grd f hf (.empty, 0))
    have HA4 := Hid3.mk ((HA3.out.trans (Rl.ap W3 b (1 + f * 2) (.string .empty))).trans (Rl.ap _ b (1 + f * 2 + 1) (.int .u8 0)))
    simp only at c2 c3
    generalize (q.G f).1 = g1 at *
    generalize (q.G f).2 = g2 at *
    clear HR3 HA3 hz
    go_wp2
    go_ret
    refine ⟨by simp [HZ.out], ⟨v2, ?_, HV2.out⟩, HA4.out⟩
    unfold takeQ
    rw [if_pos HZ.out]
    exact HR4.out
  · have hB0 : (0 : Int) < (BL.length : Int) := by
      have : ¬ BL.length = 0 := fun h => hz (hpz.1 (by omega))
      omega
    have HZ := Hid3.mk hz
    clear hz
    go_wp2
    go_ret
    refine ⟨by simp [HZ.out], ⟨v2, ?_, HV2.out⟩, HA3.out⟩
    unfold takeQ
    rw [if_neg HZ.out]
    exact HR3.out
set_option maxHeartbeats 2000000 in
theorem rquota_any (B b : Nat) (v : Value) (q : Ps) (e : Nat) (m : Int) (w : World) (h : Rl B w b v q) : Calls Tryd.prog 54 #[.pointer (some ⟨b, 0, none⟩), .int .u8 e, .int .i64 m] w fun r w' => r = .returned (.int .i64 (qtE e m)) ∧ RStp B w w' b v (qtQ q e m) := by
  have cM := may_any b v q e 0 (by omega) w h.c
  have H := Hid3.mk h
  unfold qtE qtQ
  by_cases he : e < 6
  · rw [thE_ok he (by decide)] at cM
    rw [dif_pos he]
    obtain ⟨m0, cm, _⟩ := h.c.cm e he
    have fm := h.c.fz (513 + e)
    have hb := h.c.l
    have hez : (e : Int) < 6 := by omega
    have HS : Hid3 (RStp B w (w.setCell ⟨b, 513 + e, none⟩ (.int .i64 m)) b v ⟨q.O, q.G, upd q.M ⟨e, he⟩ m, q.E⟩) := ⟨⟨⟨v, h.quo e he m, fun _ e => .inl e⟩, Rl.ap w b _ _⟩⟩
    clear h
    by_cases h1 : m < 0
    · rw [if_pos (.inr (.inl h1)), if_pos (.inl h1)]
      go_enter Tryd.func54, Tryd.ntmps54
      go_wp2_with fail
      refine cM.mono ?_
      rintro r W ⟨rfl, hW⟩
      rw [hW]
      clear cM hW
      go_wp2
      go_ret
      exact ⟨rfl, RStp.same H.out (Below.refl _ _)⟩
    · by_cases h2 : 64 < m
      · rw [if_pos (.inr (.inr h2)), if_pos (.inr h2)]
        go_enter Tryd.func54, Tryd.ntmps54
        go_wp2_with fail
        refine cM.mono ?_
        rintro r W ⟨rfl, hW⟩
        rw [hW]
        clear cM hW
        go_wp2
        go_ret
        exact ⟨rfl, RStp.same H.out (Below.refl _ _)⟩
      · rw [if_neg (by omega), if_neg (by omega)]
        go_enter Tryd.func54, Tryd.ntmps54
        go_wp2_with fail
        refine cM.mono ?_
        rintro r W ⟨rfl, hW⟩
        rw [hW]
        clear cM hW
        go_wp2
        go_ret
        exact ⟨rfl, HS.out⟩
  · rw [thE_bad (.inl (by omega))] at cM
    rw [dif_neg he, if_pos (.inl (by omega))]
    clear h
    go_enter Tryd.func54, Tryd.ntmps54
    go_wp2_with fail
    refine cM.mono ?_
    rintro r W ⟨rfl, hW⟩
    rw [hW]
    clear cM hW
    go_wp2
    go_ret
    exact ⟨rfl, RStp.same H.out (Below.refl _ _)⟩
set_option maxHeartbeats 2000000 in
theorem rfree_any (B b : Nat) (v : Value) (q : Ps) (e f : Nat) (hf255 : f ≤ 255) (w : World) (h : Rl B w b v q) (hl : q.E.length ≤ 1000) (hB : B ≤ w.heap.size) : Calls Tryd.prog 57 #[.pointer (some ⟨b, 0, none⟩), .int .u8 e, .int .u8 f] w fun r w' => r = .returned (.tuple #[.bool (frB 8 q e f), .int .i64 (hadE 8 q e f)]) ∧ RStp B w w' b v (frQ 8 q e f) := by
  have cM := may_any b v q e f hf255 w h.c
  have H := Hid3.mk h
  unfold frB frQ
  by_cases hr : 6 ≤ e ∨ 8 ≤ f
  · have hE : hadE 8 q e f = 2 := by unfold hadE; rw [if_pos hr]
    rw [thE_bad hr] at cM
    rw [hE, if_neg (by decide), if_neg (by decide)]
    clear h
    go_enter Tryd.func57, Tryd.ntmps57
    go_wp2_with fail
    refine cM.mono ?_
    rintro r W ⟨rfl, hW⟩
    rw [hW]
    clear cM hW
    go_wp2
    go_ret2
    exact ⟨rfl, RStp.same H.out (Below.refl _ _)⟩
  · have he : e < 6 := by omega
    have hf : f < 8 := by omega
    rw [thE_ok he hf] at cM
    have ch := h.c.ch f hf e he
    have hb := h.c.l
    have hez : (e : Int) < 6 := by omega
    have hfz : (f : Int) < 64 := by omega
    have cG := rgone_any B b v q 3 e f he hf w h hl hB
    clear h
    cases hz : (q.O f).testBit e with
    | false =>
      have hE : hadE 8 q e f = 7 := by unfold hadE; rw [if_neg hr, oF_at 8 q f hf, if_pos hz]
      rw [hE, if_neg (by decide), if_neg (by decide)]
      rw [hz] at ch
      clear cG hz hE
      go_enter Tryd.func57, Tryd.ntmps57
      go_wp2_with fail
      refine cM.mono ?_
      rintro r W ⟨rfl, hW⟩
      rw [hW]
      clear cM hW
      go_wp2
      go_ret2
      exact ⟨rfl, RStp.same H.out (Below.refl _ _)⟩
    | true =>
      have hE : hadE 8 q e f = 0 := by unfold hadE; rw [if_neg hr, oF_at 8 q f hf, if_neg (by rw [hz]; decide)]
      rw [hE, if_pos rfl, if_pos rfl]
      rw [hz] at ch
      generalize decide (clr (q.O f) e = 0) = dz at *
      clear hz hE
      go_enter Tryd.func57, Tryd.ntmps57
      go_wp2_with fail
      refine cM.mono ?_
      rintro r W ⟨rfl, hW⟩
      rw [hW]
      clear cM hW
      go_wp2_with fail
      refine cG.mono ?_
      rintro r W ⟨rfl, hS⟩
      have HS := Hid3.mk hS
      clear cG hS
      go_wp2
      go_ret2
      exact ⟨rfl, HS.out⟩
end Go.Proofs.YtalhlbhhgddddaaDoor
