/- The program's table: End. -/
import Derived.Test.YtbkpkcndmlapfaaFdH
namespace Go.Proofs.Ytbkpkcndmlapfaa
open Go.RowKit Go.Maps
set_option linter.unusedVariables false
set_option maxRecDepth 100000
/-- What stands ahead of each round of End. -/
structure EndI (B : Nat) (W1 W : World) (L : Lo) (s : Fs) (p : Fin 6) (K : Nat) (v : Value) : Prop where
  b : Fb B W L (endK s p K).1
  t : Cl W L.t 73 (tCs s.has L.r)
  ap : Apart (XF L s) W1 W
  own : W.ownsRow W1.heap.size 32 3 v (endK s p K).2.length (opCs (endK s p K).2)
theorem EndI.own2 {B : Nat} {w W1 W W2 : World} {L : Lo} {s : Fs} {p : Fin 6} {k : Nat} {v : Value} (h : Ft B w L s) (hW : w.heap.size ≤ W1.heap.size) (hp : s.has p = true) (I : EndI B W1 W L s p k v) (hk : k < 8) (hne : s.fd p ⟨k, hk⟩ ≠ 0) (d : Drp B W W2 L (endK s p k).1 p ⟨k, hk⟩) :
    W2.ownsRow W1.heap.size 32 3 v (endK s p k).2.length (opCs (endK s p k).2) := by
  refine own_stay I.own d.ap (fun g hg e => ?_)
  rw [endK_at s p k hk] at e
  rcases e with e | e
  · have := (h.b.rg p hp).2.lt
    omega
  · have := (h.b.og _ (Lv.of_fd hne)).2.lt
    omega
theorem EndI.next {B : Nat} {w W1 W W2 W3 : World} {L : Lo} {s : Fs} {p : Fin 6} {k : Nat} {v v' : Value} (h : Ft B w L s) (hW : w.heap.size ≤ W1.heap.size) (hp : s.has p = true) (I : EndI B W1 W L s p k v) (hk : k < 8) (hne : s.fd p ⟨k, hk⟩ ≠ 0) (d : Drp B W W2 L (endK s p k).1 p ⟨k, hk⟩)
    (hb : Below W1.heap.size W2 W3) (own : W3.ownsRow W1.heap.size 32 3 v' (endK s p (k + 1)).2.length (opCs (endK s p (k + 1)).2)) : EndI B W1 W3 L s p (k + 1) v' := by
  have hat := endK_at s p k hk
  have e1 : (endK s p (k + 1)).1 = setFd (endK s p k).1 p ⟨k, hk⟩ 0 := by
    rw [endK_succ s p k hk]
    unfold endStep
    rw [if_neg (by rw [hat]; exact hne)]
  obtain ⟨f1, f2, f3, f4⟩ := endK_facts s p (k + 1) (by omega)
  have hr : ∀ q, s.has q = true → L.r q < W1.heap.size := fun q hq => Nat.lt_of_lt_of_le (h.b.rg q hq).2.lt hW
  have ho : ∀ m, Lv s m → L.o m < W1.heap.size := fun m hm => Nat.lt_of_lt_of_le (h.b.og m hm).2.lt hW
  have hap : Apart (XF L s) W W2 := d.ap.wide (fun i _ e => by
    rw [hat] at e
    rcases e with e | e
    · rw [e]; exact XF.row hp
    · rw [e]; exact XF.obj (Lv.of_fd hne))
  refine ⟨?_, ?_, ?_, own⟩
  · have hb1 := d.b
    rw [← e1] at hb1
    exact hb1.lo hb (fun q hq => hr q (by rw [← f1]; exact hq)) (fun m hm => ho m (endK_lv (p := p) (k := k + 1) (by omega) hm))
  · have ht1 : Cl W2 L.t 73 (tCs s.has L.r) := I.t.stay d.ap (fun e => by
      rw [hat] at e
      rcases e with e | e
      · exact h.t.ne (h.b.rg p hp).2 (by decide) e
      · exact h.t.ne (h.b.og _ (Lv.of_fd hne)).2 (by decide) e)
    exact (hb.block L.t (Nat.lt_of_lt_of_le h.lt hW)).trans ht1
  · exact (I.ap.trans hap).then (Y := fun i => W1.heap.size ≤ i) ⟨hb.os, hb.tape, hb.output, hb.size, fun i hi hx => hb.block i (by omega)⟩ (fun i hi hy => absurd hi (by omega))
set_option maxHeartbeats 1000000 in
theorem end_ok (B : Nat) (L : Lo) (s : Fs) (p : Fin 6) (w : World) (h : Ft B w L s) (hp : s.has p = true) : Calls Try.prog 20 #[.pointer (some ⟨L.t, 0, none⟩), .int .i64 p.1] w fun r w' => ∃ v, r = .returned (.tuple #[v, .int .i64 0]) ∧ w'.ownsRow w.heap.size 32 3 v (endG s p).length (opCs (endG s p)) ∧ FStp B w w' L s (endS s p) := by
  have cO := of_ok B L s p w h hp
  have cL := list_any (L.r p) (s.fd p) L.o w (h.b.rg p hp).2
  obtain ⟨i0, hi, hz0, hz1, hz2⟩ := info_parts infoO
  have HT := Hid3.mk h
  have HP := Hid3.mk hp
  have hlt := h.lt
  clear h hp
  go_enter Try.func20, Try.ntmps20
  go_wp2_with fail
  refine cO.mono ?_
  rintro r W ⟨rfl, rfl⟩
  clear cO
  go_wp2_with fail
  refine cL.mono ?_
  rintro r W1 ⟨v, rfl, hown, hB1⟩
  have HB1 := Hid3.mk hB1
  have hs1 := hB1.size
  obtain ⟨a, cap, rfl⟩ := slice_of hown
  have HL : Hid3 (∀ i k : Nat, (lsL (s.fd p) 8)[i]? = some k → ∃ g, a = some ⟨g, 0, none⟩ ∧ W.heap.size ≤ g ∧ g < W1.heap.size ∧ W1.cell? ⟨g, i, none⟩ = some (.int .i64 (k : Int))) := ⟨fun i k hk => by
    obtain ⟨g, cap', e, h1, h2, h3⟩ := own_cell hown i (.int .i64 (k : Int)) (by rw [iVs, List.getElem?_map, hk]; rfl)
    injection e with e
    exact ⟨g, e, h1, h2, h3⟩⟩
  have HI0 : Hid3 (EndI B W1 W1 L s p 0 (.slice none 0 0)) := ⟨⟨HT.out.b.below hB1, HT.out.t.below hB1, Apart.refl _ _, World.ownsRow_nil _ _ _ _⟩⟩
  obtain ⟨N, hN⟩ : ∃ N, (lsL (s.fd p) 8).length = N := ⟨_, rfl⟩
  have HN := Hid3.mk hN
  have hN8 : N ≤ 8 := by rw [← hN]; exact lsL_len (s.fd p) 8
  rw [hN]
  clear cL hown hB1 hN
  go_wp2
  go_loopw [8, 25] (fun v i wr => ∃ K m : Nat, K ≤ 8 ∧ i = .int .i64 (m : Int) ∧ m ≤ N ∧ Hid3 (m = (lsL (s.fd p) K).length) ∧ Hid3 (EndI B W1 wr L s p K v)) (fun _ i _ => N - (intOf i).toNat)
  case atStart => exact ⟨0, 0, by omega, rfl, by omega, ⟨rfl⟩, HI0⟩
  case round =>
    obtain ⟨K, m, hK, rfl, hmN, HM, HI⟩ := hrel
    obtain ⟨a8, cap8, rfl⟩ := slice_of HI.out.own
    by_cases hlt2 : m < N
    · have hltz : (m : Int) < (N : Int) := by omega
      obtain ⟨k, hk, hKk, hf, hget, hlen, hzero⟩ := lsL_next (s.fd p) (8 - K) K (by omega) (by rw [← HM.out, HN.out]; exact hlt2)
      rw [← HM.out] at hget hlen
      have hsk := endK_skips s p K k hKk (by omega) hzero
      obtain ⟨g, rfl, hg1, hg2, hg3⟩ := HL.out m k hget
      have c0 := cell_stay hg3 HI.out.ap (fun e => by have := (HT.out.x e).2.1; omega)
      have HIk : Hid3 (EndI B W1 wr L s p k (.slice a8 (endK s p K).2.length cap8)) := ⟨by
        have hI := HI.out
        exact ⟨by rw [hsk]; exact hI.b, hI.t, hI.ap, by rw [hsk]; exact hI.own⟩⟩
      have hat := endK_at s p k hk
      have cD := drop_ok B L (endK s p k).1 p ⟨k, hk⟩ wr HIk.out.b (by rw [(endK_facts s p k (by omega)).1]; exact HP.out) (by rw [hat]; exact hf)
      have HE : Hid3 ((endK s p (k + 1)).2 = if cntN (endK s p k).1.fd ((endK s p k).1.fd p ⟨k, hk⟩) = 1 then (endK s p k).2 ++ [getO (endK s p k).1 ((endK s p k).1.fd p ⟨k, hk⟩)] else (endK s p k).2) := ⟨by
        rw [endK_succ s p k hk]
        unfold endStep
        rw [if_neg (by rw [hat]; exact hf)]⟩
      have hl8 := (endK_facts s p k (by omega)).2.2.2
      have HLn := Hid3.mk hlen
      rw [hsk] at hl8
      have HSK := Hid3.mk hsk
      have HF := Hid3.mk hf
      clear hget hlen hzero hsk hat hf HL HI HM
      by_cases hq : cntN (endK s p k).1.fd ((endK s p k).1.fd p ⟨k, hk⟩) = 1
      · have HE2 : Hid3 ((endK s p (k + 1)).2 = (endK s p k).2 ++ [getO (endK s p k).1 ((endK s p k).1.fd p ⟨k, hk⟩)]) := ⟨by rw [HE.out, if_pos hq]⟩
        rw [decide_eq_true hq] at cD
        clear HE hq
        generalize getO (endK s p k).1 ((endK s p k).1.fd p ⟨k, hk⟩) = o at *
        unfold opC at cD
        go_wp2_with fail
        refine cD.mono ?_
        rintro r W2 ⟨rfl, hD⟩
        have hown := HIk.out.own2 HT.out hs1 HP.out hk HF.out hD
        rw [HSK.out] at hown
        have hs2 : W1.heap.size ≤ W2.heap.size := Nat.le_trans HIk.out.ap.size hD.ap.size
        have HD := Hid3.mk hD
        clear cD hD c0
        generalize (endK s p K).2.length = n8 at *
        have hnw := new_op (W2.alloc (.cells #[.int .u8 o.k, .int .i64 o.r, .int .i64 o.p] 32)) o
        rw [World.size_alloc] at hnw
        go_wp2_with (at_builtin; refine wpList_append_own _ rfl _ _ 50 rfl W1.heap.size 32 i0 (.agg #[.int .u8 0, .int .i64 0, .int .i64 0]) 3 24 Try.underlying50 hi hz0 hz1 hz2 rfl (by decide) _ _ _ rfl ((hown.alloc _).alloc _) ⟨W2.heap.size + 1, 0, none⟩ 1 1 (opC o) rfl rfl hnw (by simp [opC, Value.oneCell']) (by unfold maxLen; omega) (by omega) (by simp; omega) ?_; intro v' w1 hown' hgrow _; have HG := Hid3.mk (And.intro hown' hgrow); clear hown' hgrow)
        go_roundw
        case rel =>
          refine ⟨k + 1, m + 1, by omega, by go_num, by omega, ⟨HLn.out.symm⟩, ⟨HIk.out.next HT.out hs1 HP.out hk HF.out HD.out (((Below.refl _ _).alloc (by omega) _ |>.alloc (by simp; omega) _).grown HG.out.2 (by simp; omega) (fun j hj => (hown.lt j hj).1)) ?_⟩⟩
          rw [HE2.out, opCs_app, List.length_append, List.length_singleton, HSK.out]
          have h9 := HG.out.1
          have e9 : (endK s p K).2.length = n8 := by
            have := hown.1
            rw [opCs_len] at this
            omega
          rw [e9]
          exact h9
        case measure => simp [intOf]; omega
      · have HE2 : Hid3 ((endK s p (k + 1)).2 = (endK s p k).2) := ⟨by rw [HE.out, if_neg hq]⟩
        rw [decide_eq_false hq] at cD
        clear HE hq
        generalize getO (endK s p k).1 ((endK s p k).1.fd p ⟨k, hk⟩) = o at *
        unfold opC at cD
        go_wp2_with fail
        refine cD.mono ?_
        rintro r W2 ⟨rfl, hD⟩
        have hown := HIk.out.own2 HT.out hs1 HP.out hk HF.out hD
        have hs2 : W1.heap.size ≤ W2.heap.size := Nat.le_trans HIk.out.ap.size hD.ap.size
        have HD := Hid3.mk hD
        have HO := Hid3.mk hown
        clear cD hD c0 hown
        go_wp2
        go_roundw
        case rel =>
          refine ⟨k + 1, m + 1, by omega, by go_num, by omega, ⟨HLn.out.symm⟩, ⟨HIk.out.next HT.out hs1 HP.out hk HF.out HD.out ((Below.refl _ _).alloc (by omega) _) ?_⟩⟩
          rw [HE2.out]
          exact HO.out.alloc _
        case measure => simp [intOf]; omega
    · have hltz : ¬ (m : Int) < (N : Int) := by omega
      have hmN2 : (lsL (s.fd p) K).length = (lsL (s.fd p) 8).length := by rw [← HM.out, HN.out]; omega
      have hsk := endK_skips s p K 8 hK (Nat.le_refl _) (fun j hj a b => lsL_done (s.fd p) K hK hmN2 j hj a)
      have hI := HI.out
      have HG : Hid3 (wr.ownsRow W1.heap.size 32 3 (.slice a8 (endK s p K).2.length cap8) (endG s p).length (opCs (endG s p))) := ⟨by unfold endG; rw [hsk]; exact hI.own⟩
      have HS : Hid3 (FStp B W (wr.setCell ⟨L.t, p.1, none⟩ (.pointer none)) L s (endS s p)) := ⟨end_stp HT.out (by rw [hsk]; exact hI.b) ((Apart.of_below HB1.out).trans hI.ap) hI.t⟩
      have f0 := hI.t.thaw p.1
      have c0 := hI.t.cell p.1
      rw [tCs_at] at c0
      have htl := hI.t.lt
      have HNe : Hid3 (∀ g, W1.heap.size ≤ g → ¬ (fun k => k = L.t) g) := ⟨fun g hg e => by have e' : g = L.t := e; omega⟩
      generalize ptr (s.has p) (L.r p) = u at *
      generalize (endK s p K).2.length = n8 at *
      clear hI hsk hmN2 HI HM
      obtain ⟨p, hp6⟩ := p
      have h6 : (p : Int) < 6 := by omega
      simp only at *
      go_wp2
      go_ret2
      refine ⟨_, rfl, ?_, HS.out⟩
      have hst := own_stay HG.out (Apart.at (X := fun k => k = L.t) wr L.t p (.pointer none) rfl) HNe.out
      exact ⟨hst.1, hst.2.imp id (fun ⟨g, cap, cur, e1, e2, e3⟩ => ⟨g, cap, cur, e1, Nat.le_trans hs1 e2, e3⟩)⟩
end Go.Proofs.Ytbkpkcndmlapfaa
