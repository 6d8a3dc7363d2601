/- The program's out. -/
import Derived.Test.YtpmndhbcohjboaaRvF
namespace Go.Proofs.Ytpmndhbcohjboaa
open Go.RowKit Go.Maps
set_option linter.unusedVariables false
set_option maxRecDepth 100000
/-- What out comes to. -/
structure OutR (B : Nat) (w w' : World) (b m : Nat) (vs : Fin 6 → Value) (q : Rs) (p : Dm → Bool) (r : Value) : Prop where
  row : RowO w' w.heap.size 39 3 r (q.d.filter p).length (aCs (q.d.filter p))
  bk : ∃ v', Bk B w' b m v' vs ⟨q.d.filter (fun d => !p d), q.v⟩ ∧ ∀ g, v'.ownBlock = some g → w.heap.size ≤ g
  ap : Apart (fun k => k = b ∨ k = m) w w'
theorem ap_m {b m : Nat} {w w' : World} (h : Apart (XB m) w w') : Apart (fun k => k = b ∨ k = m) w w' := h.wide (fun _ _ e => .inr e)
theorem outR_of {B : Nat} {w W2 wr : World} {b m : Nat} {av v2 r : Value} {vs : Fin 6 → Value} {q : Rs} {p : Dm → Bool} (h : Bk B w b m av vs q) (hK : KeysD q.d) (h2 : Below w.heap.size w W2) (hr : RowO W2 w.heap.size 39 3 r (q.d.filter p).length (aCs (q.d.filter p))) (hv : RowO W2 w.heap.size 63 2 v2 (q.d.filter (fun d => !p d)).length (dCs (q.d.filter (fun d => !p d)))) (ha : Apart (XB m) W2 wr) (hm : Mq wr m (q.d.filter (fun d => !p d))) : OutR B w (wr.setCell ⟨b, 0, none⟩ v2) b m vs q p r := by
  have hs : Apart (fun k => k = b) wr (wr.setCell ⟨b, 0, none⟩ v2) := Apart.at wr b 0 v2 rfl
  have hk2 := (h.below h2).k
  have hkr : Cl wr b 60 (bCs av m vs) := hk2.stay ha h.nm
  have hall : Apart (fun k => k = b ∨ k = m) W2 (wr.setCell ⟨b, 0, none⟩ v2) := (ap_m ha).trans (hs.wide (fun _ _ e => .inl e))
  have hm2 := h.m.below h2
  have h2s := h2.size
  refine ⟨hr.stay hall (fun g hg e => ?_), ⟨v2, ⟨h.g, h.gm, hkr.set 0 v2, ?_, hm.stay hs (fun e => h.nm e.symm), fun e => ?_, h.ap⟩, fun g hg => (hv.lt g hg).1⟩, (Apart.of_below h2).trans hall⟩
  · have := (hr.lt g hg).1
    have := h.k.lt
    have := h.m.lt
    rcases e with e | e <;> omega
  · have hB : B ≤ w.heap.size := Nat.le_trans h.g (Nat.le_of_lt h.k.lt)
    refine (hv.stay hall (fun g hg e => ?_)).base hB
    have := (hv.lt g hg).1
    have := h.k.lt
    have := h.m.lt
    rcases e with e | e <;> omega
  · refine ((h.v e).below h2).stay hall (fun g hg i => ?_)
    rcases i with i | i
    · subst i
      exact ((h.v e).below h2).ne_cl hk2 (by decide) hg
    · exact hm2.ne_row ((h.v e).below h2) hg i
set_option maxHeartbeats 4000000 in
theorem out_any (F : Nat) (cs : Array Value) (p : Dm → Bool) (eF : ∀ args w, (callFunc F args).run Try.prog w = .ok (.enter F args) w) (B b m : Nat) (av : Value) (vs : Fin 6 → Value) (q : Rs) (N : Nat) (w : World) (h : Bk B w b m av vs q) (hO : q.Ok N) (hP : PredD F cs p q.d w) :
    Calls Try.prog 29 #[.pointer (some ⟨b, 0, none⟩), .func (.func F) #[] cs] w fun e w' => ∃ r, e = .returned r ∧ OutR B w w' b m vs q p r := by
  have hfew := hO.few
  have cP := part_any F cs p eF B av q.d w h.a hP (by omega)
  have H := Hid3.mk h
  have HK := Hid3.mk hO.keys
  have hc0 := h.c.c0
  have hbl := h.c.l
  obtain ⟨a0, k0, rfl⟩ := h.a.sl
  clear h hO hP eF
  go_enter Try.func29, Try.ntmps29
  go_wp2_with fail
  refine cP.mono ?_
  rintro e W1 ⟨v1, v2, rfl, hR⟩
  obtain ⟨a1, k1, rfl⟩ := hR.a.sl
  obtain ⟨a2, k2, rfl⟩ := hR.b.sl
  have HR := Hid3.mk hR
  have hfl : (q.d.filter p).length ≤ 8 := Nat.le_trans (List.length_filter_le _ _) hfew
  have cL := list_d b w.heap.size (.slice a1 (q.d.filter p).length k1) (q.d.filter p) W1 hR.a (fun W d hd hb => by
    have hb2 := hR.c.trans (hb.mono hR.c.size)
    have ht := told_any b m q.d d.1 d.2.1 W ((hb2.cell H.out.c.l).trans H.out.c.c1) (H.out.m.below hb2)
    rw [dget_mem HK.out d ((List.mem_filter.1 hd).1)] at ht
    exact ht) (by omega)
  clear cP hR hc0
  go_wp2_with fail
  refine cL.mono ?_
  rintro e W2 ⟨r, rfl, hr, hb2⟩
  obtain ⟨ar, kr, rfl⟩ := hr.sl
  have HB2 := Hid3.mk (HR.out.c.trans (hb2.mono HR.out.c.size))
  have hW2 := HB2.out.size
  have HRr := Hid3.mk (hr.base HR.out.c.size)
  have HV1 := Hid3.mk (HR.out.a.below hb2)
  have HV2 := Hid3.mk (HR.out.b.below hb2)
  have HM2 := Hid3.mk (H.out.m.below HB2.out)
  have hml := H.out.m.lt
  have hnm := H.out.nm
  clear cL hb2 hr HR
  go_wp2
  go_loopw [9, 25] (fun _ s25 wr => ∃ kk : Nat, kk ≤ (q.d.filter p).length ∧ s25 = .int .i64 kk ∧ Hid3 (Mq wr m (lft q.d ((q.d.filter p).take kk)) ∧ Apart (XB m) W2 wr)) (fun _ s25 _ => (q.d.filter p).length - (intOf s25).toNat)
  case atStart => exact ⟨0, Nat.zero_le _, rfl, ⟨by rw [List.take_zero, lft_nil]; exact HM2.out, Apart.refl _ _⟩⟩
  case round =>
    obtain ⟨kk, hkk, rfl, HI⟩ := hrel
    clear HM2
    have hCb : Cl wr b 60 (bCs (.slice a0 q.d.length k0) m vs) := (H.out.below HB2.out).k.stay HI.out.2 hnm
    have hwrs := HI.out.2.size
    by_cases hlt : kk < (q.d.filter p).length
    · have hltz : (kk : Int) < ((q.d.filter p).length : Int) := by omega
      obtain ⟨g, off, rfl, c0, c1⟩ : ∃ g off, a1 = some ⟨g, off, none⟩ ∧ wr.cell? ⟨g, off + kk * 2, none⟩ = some (.int .u8 (q.d.filter p)[kk].1) ∧ wr.cell? ⟨g, off + kk * 2 + 1, none⟩ = some (.int .u8 (q.d.filter p)[kk].2.1) := by
        have hrow := HV1.out.stay HI.out.2 (fun g hg e => by
          have := (HV1.out.lt g hg).1
          have e : g = m := e
          omega)
        rcases hrow.form with ⟨_, h, _⟩ | ⟨g, off, cap, h, _, _, hg, hc⟩
        · omega
        · injection h with h _ _
          obtain ⟨d1, d2⟩ := dCs_at _ kk _ (List.getElem?_eq_getElem hlt)
          exact ⟨g, off, h, hc _ _ d1, hc _ _ d2⟩
      have hgl : g < wr.heap.size := World.block_lt_of_cell? wr _ c0
      have hX := below_newd wr (.cells #[.int .u8 (q.d.filter p)[kk].1, .int .u8 (q.d.filter p)[kk].2.1] 63)
      have hml2 := HI.out.1.below hX
      obtain ⟨W3, hd1, hd2, hd3⟩ := ddel_run hml2 (by unfold lft; exact HK.out.sub _) 0 (q.d.filter p)[kk].1 (q.d.filter p)[kk].2.1
      have HJ := Hid3.mk (show Mq W3 m (lft q.d ((q.d.filter p).take (kk + 1))) ∧ Apart (XB m) W2 W3 from ⟨by rw [List.take_succ_eq_append_getElem hlt, lft_snoc]; exact hd2, HI.out.2.trans ((Apart.of_below hX).trans hd3)⟩)
      have U := Hid3.mk hd1
      unfold dkV at U
      have y1 : wr.cell? ⟨b, 1, none⟩ = some (.map (some m)) := hCb.cell 1
      have hbr := hCb.lt
      clear hX hml2 hd1 hd2 hd3 HI hCb
      generalize (q.d.filter p)[kk].1 = x at *
      generalize (q.d.filter p)[kk].2.1 = y at *
      go_wp2_with fail
      refine still_tail 5 (by kernel_rfl) (by kernel_rfl) ?_
      simp only [List.take_succ_cons, List.take_zero, List.drop_succ_cons, List.drop_zero]
      repeat still_step
      refine wpStill_nil ?_
      refine wpList_del rfl 57 _ _ _ rfl _ _ rfl rfl U.out ?_
      clear U y1 c0 c1
      go_wp2
      go_roundw
      case rel => exact ⟨kk + 1, by omega, by go_num, HJ⟩
      case measure => simp [intOf]; omega
    · have hltz : ¬ (kk : Int) < ((q.d.filter p).length : Int) := by omega
      obtain rfl : kk = (q.d.filter p).length := by omega
      have hm := HI.out.1
      rw [List.take_length, lft_all HK.out] at hm
      have HF := Hid3.mk (outR_of H.out HK.out HB2.out HRr.out HV2.out HI.out.2 hm)
      have y0 : wr.cell? ⟨b, 0, none⟩ = some (.slice a0 q.d.length k0) := hCb.cell 0
      have f0 := hCb.thaw 0
      have hbr := hCb.lt
      clear hm HI HV2 HRr HB2 hCb
      go_wp2
      go_ret
      exact ⟨_, rfl, HF.out⟩
end Go.Proofs.Ytpmndhbcohjboaa
