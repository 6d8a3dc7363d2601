/- The document's disk: without, Cancel, Drop; SameIds, SameRequests. -/
import Derived.Test.YtlnjpgcaciemnaaDevU
namespace Go.Proofs.Ytlnjpgcaciemnaa
open Go.RowKit Go.Maps
set_option linter.unusedVariables false
set_option maxRecDepth 100000
set_option maxHeartbeats 4000000 in
theorem rwithout_f (B : Nat) (X : Nat → Prop) (rb og n : Nat) (S : List Int) (u : Value) (last : Int) (Q : List Rq) (f ow : Int) (w : World) (h : Rk B X w rb og n S u last Q) (hX : ∀ g, X g → g < w.heap.size) (h0 : 0 ≤ f) (p : Rq → Bool) (hpd : p = fun r => if 0 ≤ f then decide (r.2.2.2.1 = f) else decide (r.2.2.2.2 = ow)) : Calls Try.prog 59 #[.pointer (some ⟨rb, 0, none⟩), .int .i64 f, .int .u8 ow] w fun e w' => (∃ v, e = .returned v ∧ w'.ownsRow w.heap.size 43 1 v (outI p Q).length (idCs (outI p Q))) ∧ ∃ u', Rk B X w' rb og n S u' last (outQ p Q) ∧ Apart (fun k => k = rb) w w' := by
  obtain ⟨i0, hi0, hz0, hz1, hz2⟩ := info_parts infoU32
  obtain ⟨i5, hi5, hz5, hs5, hb5⟩ := info_parts infoR
  obtain ⟨a, cap, rfl, _⟩ := h.form
  have hdl := h.lt
  have HS := Hid3.mk (h.req.change (Y := fun _ => False) (fun _ _ e => e.elim))
  have HK := Hid3.mk h
  have HXX := Hid3.mk hX
  have HPd := Hid3.mk hpd
  have hfew := h.few
  clear h hX hpd
  go_enter Try.func59, Try.ntmps59
  go_wp2_with fail
  go_loopw [9, 7, 8] (fun s9 s7 s8 wr => ∃ (i : Nat) (a7 a8 : Value), i ≤ Q.length ∧ s9 = .int .i64 i ∧ a7 = s7 ∧ a8 = s8 ∧ Hid3 (wr.ownsRow w.heap.size 43 1 a7 (outI p (Q.take i)).length (idCs (outI p (Q.take i)))) ∧ Hid3 (wr.ownsRow w.heap.size 45 5 a8 (outQ p (Q.take i)).length (rqsCs (outQ p (Q.take i)))) ∧ Hid3 (Below w.heap.size w wr)) (fun s9 _ _ _ => Q.length - (intOf s9).toNat)
  case atStart => exact ⟨0, _, _, Nat.zero_le _, rfl, rfl, rfl, ⟨World.ownsRow_nil _ _ _ _⟩, ⟨World.ownsRow_nil _ _ _ _⟩, ⟨Below.refl _ _⟩⟩
  case round =>
    obtain ⟨i, a7, a8, hil, rfl, rfl, rfl, HI, HR, HB⟩ := hrel
    have hsz := HB.out.size
    have HKr := Hid3.mk (HK.out.below HB.out)
    obtain ⟨C, hC, c0, c1, c2, fz⟩ := HKr.out.c
    by_cases hlt : i < Q.length
    · have hltz : (i : Int) < (Q.length : Int) := by omega
      have hiz : (0 : Int) ≤ (i : Int) := by omega
      have hm : Q[i]? = some Q[i] := List.getElem?_eq_getElem hlt
      obtain ⟨g, rfl, _, d0, d1, d2, d3, d4⟩ := (HS.out.below HB.out).at i _ hm
      obtain ⟨hI, hR⟩ := out_snoc p Q i _ hm
      have lI := Nat.le_trans (outI_len p (Q.take i)) (List.length_take_le _ _)
      have lR := Nat.le_trans (outQ_len p (Q.take i)) (List.length_take_le _ _)
      generalize Q[i] = y at *
      obtain ⟨y0, y1, y2, y3, y4⟩ := y
      simp only at d0 d1 d2 d3 d4 hI
      have hnw := id_new wr y0
      have hone : ∀ u ∈ idCs [y0], u.oneCell' = true := by intro u hu; simp [idCs] at hu; subst hu; rfl
      have hnw5 := rq_one wr (y0, y1, y2, y3, y4)
      simp only at hnw5
      have hone5 := rqsCs_one [((y0, y1, y2, y3, y4) : Rq)]
      clear hm
      by_cases hq : y3 = f
      ·
        have hpt : p (y0, y1, y2, y3, y4) = true := by rw [HPd.out]; simp only [if_pos h0]; exact decide_eq_true hq
        rw [hpt] at hI hR
        have hIR := Hid3.mk hI
        have hRR := Hid3.mk hR
        simp only [if_true] at hIR hRR
        clear hI hR hpt
        have q0 : (0 : Int) ≤ f := h0
        subst hq
        go_wp2_with (at_builtin; refine wpList_append_own_at _ rfl _ _ 41 rfl w.heap.size 43 i0 (.int .u32 0) 1 4 Try.underlying41 hi0 hz0 hz1 hz2 rfl (by decide) _ _ _ rfl (HI.out.alloc _) ⟨wr.heap.size, 0, none⟩ 1 1 (idCs [y0]) rfl rfl hnw hone (by unfold maxLen; omega) (by omega) (by simp; omega) ?_; intro v' w3 hown' hgrow _ hat)
        have HI3 := Hid3.mk hown'
        have hne : ∀ k, a7.ownBlock = some k → a8.ownBlock ≠ some k := fun k e1 e2 => by
          obtain ⟨_, q1⟩ := own_kind HI.out k e1
          obtain ⟨_, q2⟩ := own_kind HR.out k e2
          rw [q1] at q2
          injection q2 with q2
          injection q2 with _ q2
          exact absurd q2 (by decide)
        have hA3 : Apart (fun k => some k = a7.ownBlock) wr w3 := (Apart.of_below ((Below.refl _ wr).alloc (Nat.le_refl _) _)).trans (Apart.of_grown hgrow (fun k _ e => e))
        have HR3 : Hid3 (w3.ownsRow w.heap.size 45 5 a8 (outQ p (Q.take i)).length (rqsCs (outQ p (Q.take i)))) := ⟨Apart.own HR.out hA3 (fun k e1 e2 => hne k e2.symm e1)⟩
        have HB3 : Hid3 (Below w.heap.size w w3) := ⟨HB.out.trans (hA3.below w.heap.size (fun k e => (HI.out.lt k e.symm).1) hsz)⟩
        clear hown' hgrow hat hA3 hne hnw
        go_roundw
        case rel =>
          refine ⟨i + 1, _, _, by omega, by go_num, rfl, rfl, ⟨?_⟩, ⟨?_⟩, HB3⟩
          · rw [hIR.out, List.length_append, idCs, List.map_append]
            exact HI3.out
          · rw [hRR.out, List.append_nil]
            exact HR3.out
        case measure => simp [intOf]; omega
      ·
        have hpt : p (y0, y1, y2, y3, y4) = false := by rw [HPd.out]; simp only [if_pos h0]; exact decide_eq_false hq
        rw [hpt] at hI hR
        have hIR := Hid3.mk hI
        have hRR := Hid3.mk hR
        simp only [Bool.false_eq_true, if_false] at hIR hRR
        clear hI hR hpt
        have q0 : (0 : Int) ≤ f := h0
        have q1 : (y3 == f) = false := beq_eq_false_iff_ne.2 hq
        have q2 : ¬ f < 0 := by omega
        go_wp2_with (at_builtin; refine wpList_append_own_at _ rfl _ _ 39 rfl w.heap.size 45 i5 (.agg #[.int .u32 0, .bool false, .int .i64 0, .int .i64 0, .int .u8 0]) 5 32 Try.underlying39 hi5 hz5 hs5 hb5 rfl (by decide) _ _ _ rfl (HR.out.alloc _) ⟨wr.heap.size, 0, none⟩ 1 1 (rqsCs [((y0, y1, y2, y3, y4) : Rq)]) rfl rfl hnw5 hone5 (by unfold maxLen; omega) (by omega) (by simp; omega) ?_; intro v' w3 hown' hgrow _ hat)
        have HR3 := Hid3.mk hown'
        have hne : ∀ k, a8.ownBlock = some k → a7.ownBlock ≠ some k := fun k e2 e1 => by
          obtain ⟨_, q1⟩ := own_kind HI.out k e1
          obtain ⟨_, q2⟩ := own_kind HR.out k e2
          rw [q1] at q2
          injection q2 with q2
          injection q2 with _ q2
          exact absurd q2 (by decide)
        have hA3 : Apart (fun k => some k = a8.ownBlock) wr w3 := (Apart.of_below ((Below.refl _ wr).alloc (Nat.le_refl _) _)).trans (Apart.of_grown hgrow (fun k _ e => e))
        have HI3 : Hid3 (w3.ownsRow w.heap.size 43 1 a7 (outI p (Q.take i)).length (idCs (outI p (Q.take i)))) := ⟨Apart.own HI.out hA3 (fun k e1 e2 => hne k e2.symm e1)⟩
        have HB3 : Hid3 (Below w.heap.size w w3) := ⟨HB.out.trans (hA3.below w.heap.size (fun k e => (HR.out.lt k e.symm).1) hsz)⟩
        clear hown' hgrow hat hA3 hne hnw5
        go_roundw
        case rel =>
          refine ⟨i + 1, _, _, by omega, by go_num, rfl, rfl, ⟨?_⟩, ⟨?_⟩, HB3⟩
          · rw [hIR.out, List.append_nil]
            exact HI3.out
          · rw [hRR.out, List.length_append, rqsCs_append]
            exact HR3.out
        case measure => simp [intOf]; omega
    · have hltz : ¬ (i : Int) < (Q.length : Int) := by omega
      have hi : i = Q.length := by omega
      subst hi
      rw [List.take_length] at HI HR
      obtain ⟨x6, c6, rfl⟩ := form5 HR.out
      have hrq := HK.out.setq HXX.out HB.out HR.out (Nat.le_trans (outQ_len p _) (by omega))
      have HRQ := Hid3.mk hrq
      have f1 := fz 1
      have hI4 : Hid3 ((wr.setCell ⟨rb, 1, none⟩ (.slice x6 (outQ p Q).length c6)).ownsRow w.heap.size 43 1 a7 (outI p Q).length (idCs (outI p Q))) := ⟨Apart.own HI.out (Apart.set wr ⟨rb, 1, none⟩ (.slice x6 (outQ p Q).length c6)) (fun k e1 e2 => by have := (HI.out.lt k e1).1; simp only at e2; omega)⟩
      clear hrq HI HR
      go_wp2
      go_ret
      exact ⟨⟨_, rfl, hI4.out⟩, ⟨_, HRQ.out.1⟩, HRQ.out.2⟩
set_option maxHeartbeats 4000000 in
theorem rwithout_o (B : Nat) (X : Nat → Prop) (rb og n : Nat) (S : List Int) (u : Value) (last : Int) (Q : List Rq) (f ow : Int) (w : World) (h : Rk B X w rb og n S u last Q) (hX : ∀ g, X g → g < w.heap.size) (h0 : ¬ 0 ≤ f) (p : Rq → Bool) (hpd : p = fun r => if 0 ≤ f then decide (r.2.2.2.1 = f) else decide (r.2.2.2.2 = ow)) : Calls Try.prog 59 #[.pointer (some ⟨rb, 0, none⟩), .int .i64 f, .int .u8 ow] w fun e w' => (∃ v, e = .returned v ∧ w'.ownsRow w.heap.size 43 1 v (outI p Q).length (idCs (outI p Q))) ∧ ∃ u', Rk B X w' rb og n S u' last (outQ p Q) ∧ Apart (fun k => k = rb) w w' := by
  obtain ⟨i0, hi0, hz0, hz1, hz2⟩ := info_parts infoU32
  obtain ⟨i5, hi5, hz5, hs5, hb5⟩ := info_parts infoR
  obtain ⟨a, cap, rfl, _⟩ := h.form
  have hdl := h.lt
  have HS := Hid3.mk (h.req.change (Y := fun _ => False) (fun _ _ e => e.elim))
  have HK := Hid3.mk h
  have HXX := Hid3.mk hX
  have HPd := Hid3.mk hpd
  have hfew := h.few
  clear h hX hpd
  go_enter Try.func59, Try.ntmps59
  go_wp2_with fail
  go_loopw [9, 7, 8] (fun s9 s7 s8 wr => ∃ (i : Nat) (a7 a8 : Value), i ≤ Q.length ∧ s9 = .int .i64 i ∧ a7 = s7 ∧ a8 = s8 ∧ Hid3 (wr.ownsRow w.heap.size 43 1 a7 (outI p (Q.take i)).length (idCs (outI p (Q.take i)))) ∧ Hid3 (wr.ownsRow w.heap.size 45 5 a8 (outQ p (Q.take i)).length (rqsCs (outQ p (Q.take i)))) ∧ Hid3 (Below w.heap.size w wr)) (fun s9 _ _ _ => Q.length - (intOf s9).toNat)
  case atStart => exact ⟨0, _, _, Nat.zero_le _, rfl, rfl, rfl, ⟨World.ownsRow_nil _ _ _ _⟩, ⟨World.ownsRow_nil _ _ _ _⟩, ⟨Below.refl _ _⟩⟩
  case round =>
    obtain ⟨i, a7, a8, hil, rfl, rfl, rfl, HI, HR, HB⟩ := hrel
    have hsz := HB.out.size
    have HKr := Hid3.mk (HK.out.below HB.out)
    obtain ⟨C, hC, c0, c1, c2, fz⟩ := HKr.out.c
    by_cases hlt : i < Q.length
    · have hltz : (i : Int) < (Q.length : Int) := by omega
      have hiz : (0 : Int) ≤ (i : Int) := by omega
      have hm : Q[i]? = some Q[i] := List.getElem?_eq_getElem hlt
      obtain ⟨g, rfl, _, d0, d1, d2, d3, d4⟩ := (HS.out.below HB.out).at i _ hm
      obtain ⟨hI, hR⟩ := out_snoc p Q i _ hm
      have lI := Nat.le_trans (outI_len p (Q.take i)) (List.length_take_le _ _)
      have lR := Nat.le_trans (outQ_len p (Q.take i)) (List.length_take_le _ _)
      generalize Q[i] = y at *
      obtain ⟨y0, y1, y2, y3, y4⟩ := y
      simp only at d0 d1 d2 d3 d4 hI
      have hnw := id_new wr y0
      have hone : ∀ u ∈ idCs [y0], u.oneCell' = true := by intro u hu; simp [idCs] at hu; subst hu; rfl
      have hnw5 := rq_one wr (y0, y1, y2, y3, y4)
      simp only at hnw5
      have hone5 := rqsCs_one [((y0, y1, y2, y3, y4) : Rq)]
      clear hm
      by_cases hq : y4 = ow
      ·
        have hpt : p (y0, y1, y2, y3, y4) = true := by rw [HPd.out]; simp only [if_neg (show ¬ (0 : Int) ≤ f by omega)]; exact decide_eq_true hq
        rw [hpt] at hI hR
        have hIR := Hid3.mk hI
        have hRR := Hid3.mk hR
        simp only [if_true] at hIR hRR
        clear hI hR hpt
        have q0 : ¬ (0 : Int) ≤ f := by omega
        have q2 : f < 0 := by omega
        subst hq
        go_wp2_with (at_builtin; refine wpList_append_own_at _ rfl _ _ 41 rfl w.heap.size 43 i0 (.int .u32 0) 1 4 Try.underlying41 hi0 hz0 hz1 hz2 rfl (by decide) _ _ _ rfl (HI.out.alloc _) ⟨wr.heap.size, 0, none⟩ 1 1 (idCs [y0]) rfl rfl hnw hone (by unfold maxLen; omega) (by omega) (by simp; omega) ?_; intro v' w3 hown' hgrow _ hat)
        have HI3 := Hid3.mk hown'
        have hne : ∀ k, a7.ownBlock = some k → a8.ownBlock ≠ some k := fun k e1 e2 => by
          obtain ⟨_, q1⟩ := own_kind HI.out k e1
          obtain ⟨_, q2⟩ := own_kind HR.out k e2
          rw [q1] at q2
          injection q2 with q2
          injection q2 with _ q2
          exact absurd q2 (by decide)
        have hA3 : Apart (fun k => some k = a7.ownBlock) wr w3 := (Apart.of_below ((Below.refl _ wr).alloc (Nat.le_refl _) _)).trans (Apart.of_grown hgrow (fun k _ e => e))
        have HR3 : Hid3 (w3.ownsRow w.heap.size 45 5 a8 (outQ p (Q.take i)).length (rqsCs (outQ p (Q.take i)))) := ⟨Apart.own HR.out hA3 (fun k e1 e2 => hne k e2.symm e1)⟩
        have HB3 : Hid3 (Below w.heap.size w w3) := ⟨HB.out.trans (hA3.below w.heap.size (fun k e => (HI.out.lt k e.symm).1) hsz)⟩
        clear hown' hgrow hat hA3 hne hnw
        go_roundw
        case rel =>
          refine ⟨i + 1, _, _, by omega, by go_num, rfl, rfl, ⟨?_⟩, ⟨?_⟩, HB3⟩
          · rw [hIR.out, List.length_append, idCs, List.map_append]
            exact HI3.out
          · rw [hRR.out, List.append_nil]
            exact HR3.out
        case measure => simp [intOf]; omega
      ·
        have hpt : p (y0, y1, y2, y3, y4) = false := by rw [HPd.out]; simp only [if_neg (show ¬ (0 : Int) ≤ f by omega)]; exact decide_eq_false hq
        rw [hpt] at hI hR
        have hIR := Hid3.mk hI
        have hRR := Hid3.mk hR
        simp only [Bool.false_eq_true, if_false] at hIR hRR
        clear hI hR hpt
        have q0 : ¬ (0 : Int) ≤ f := by omega
        have q2 : f < 0 := by omega
        have q1 : (y4 == ow) = false := beq_eq_false_iff_ne.2 hq
        go_wp2_with (at_builtin; refine wpList_append_own_at _ rfl _ _ 39 rfl w.heap.size 45 i5 (.agg #[.int .u32 0, .bool false, .int .i64 0, .int .i64 0, .int .u8 0]) 5 32 Try.underlying39 hi5 hz5 hs5 hb5 rfl (by decide) _ _ _ rfl (HR.out.alloc _) ⟨wr.heap.size, 0, none⟩ 1 1 (rqsCs [((y0, y1, y2, y3, y4) : Rq)]) rfl rfl hnw5 hone5 (by unfold maxLen; omega) (by omega) (by simp; omega) ?_; intro v' w3 hown' hgrow _ hat)
        have HR3 := Hid3.mk hown'
        have hne : ∀ k, a8.ownBlock = some k → a7.ownBlock ≠ some k := fun k e2 e1 => by
          obtain ⟨_, q1⟩ := own_kind HI.out k e1
          obtain ⟨_, q2⟩ := own_kind HR.out k e2
          rw [q1] at q2
          injection q2 with q2
          injection q2 with _ q2
          exact absurd q2 (by decide)
        have hA3 : Apart (fun k => some k = a8.ownBlock) wr w3 := (Apart.of_below ((Below.refl _ wr).alloc (Nat.le_refl _) _)).trans (Apart.of_grown hgrow (fun k _ e => e))
        have HI3 : Hid3 (w3.ownsRow w.heap.size 43 1 a7 (outI p (Q.take i)).length (idCs (outI p (Q.take i)))) := ⟨Apart.own HI.out hA3 (fun k e1 e2 => hne k e2.symm e1)⟩
        have HB3 : Hid3 (Below w.heap.size w w3) := ⟨HB.out.trans (hA3.below w.heap.size (fun k e => (HR.out.lt k e.symm).1) hsz)⟩
        clear hown' hgrow hat hA3 hne hnw5
        go_roundw
        case rel =>
          refine ⟨i + 1, _, _, by omega, by go_num, rfl, rfl, ⟨?_⟩, ⟨?_⟩, HB3⟩
          · rw [hIR.out, List.append_nil]
            exact HI3.out
          · rw [hRR.out, List.length_append, rqsCs_append]
            exact HR3.out
        case measure => simp [intOf]; omega
    · have hltz : ¬ (i : Int) < (Q.length : Int) := by omega
      have hi : i = Q.length := by omega
      subst hi
      rw [List.take_length] at HI HR
      obtain ⟨x6, c6, rfl⟩ := form5 HR.out
      have hrq := HK.out.setq HXX.out HB.out HR.out (Nat.le_trans (outQ_len p _) (by omega))
      have HRQ := Hid3.mk hrq
      have f1 := fz 1
      have hI4 : Hid3 ((wr.setCell ⟨rb, 1, none⟩ (.slice x6 (outQ p Q).length c6)).ownsRow w.heap.size 43 1 a7 (outI p Q).length (idCs (outI p Q))) := ⟨Apart.own HI.out (Apart.set wr ⟨rb, 1, none⟩ (.slice x6 (outQ p Q).length c6)) (fun k e1 e2 => by have := (HI.out.lt k e1).1; simp only at e2; omega)⟩
      clear hrq HI HR
      go_wp2
      go_ret
      exact ⟨⟨_, rfl, hI4.out⟩, ⟨_, HRQ.out.1⟩, HRQ.out.2⟩
set_option maxHeartbeats 1000000 in
theorem rcancel_any (B : Nat) (X : Nat → Prop) (rb og n : Nat) (S : List Int) (u : Value) (last : Int) (Q : List Rq) (f : Int) (w : World) (h : Rk B X w rb og n S u last Q) (hX : ∀ g, X g → g < w.heap.size) (hW : Wq n last Q) : Calls Try.prog 51 #[.pointer (some ⟨rb, 0, none⟩), .int .i64 f] w fun e w' => (∃ v, e = .returned v ∧ w'.ownsRow w.heap.size 43 1 v (outI (fun r => decide (r.2.2.2.1 = f)) Q).length (idCs (outI (fun r => decide (r.2.2.2.1 = f)) Q))) ∧ ∃ u', Rk B X w' rb og n S u' last (outQ (fun r => decide (r.2.2.2.1 = f)) Q) ∧ Apart (fun k => k = rb) w w' := by
  by_cases h0 : 0 ≤ f
  · have hc := rwithout_f B X rb og n S u last Q f 0 w h hX h0 (fun r => decide (r.2.2.2.1 = f)) (by funext r; rw [if_pos h0])
    have hf : ¬ f < 0 := by omega
    clear h hX hW
    generalize (fun r : Rq => decide (r.2.2.2.1 = f)) = p at *
    go_enter Try.func51, Try.ntmps51
    go_wp2_with fail
    refine hc.mono ?_
    rintro e W1 ⟨⟨v, rfl, hv⟩, hk⟩
    have HV := Hid3.mk hv
    have HK := Hid3.mk hk
    clear hc hv hk
    go_wp2
    go_ret
    exact ⟨⟨_, rfl, HV.out⟩, HK.out⟩
  · have hf : f < 0 := by omega
    have e1 : outI (fun r => decide (r.2.2.2.1 = f)) Q = [] := by
      unfold outI
      rw [List.filter_eq_nil_iff.2 (fun r hr => by have := (hW.f r hr).1; simp; omega)]
      rfl
    have e2 : outQ (fun r => decide (r.2.2.2.1 = f)) Q = Q := by
      unfold outQ
      exact List.filter_eq_self.2 (fun r hr => by have := (hW.f r hr).1; simp; omega)
    rw [e1, e2]
    have HK := Hid3.mk h
    clear h hX hW e1 e2
    go_enter Try.func51, Try.ntmps51
    go_wp2
    go_ret
    first
    | exact ⟨⟨_, rfl, World.ownsRow_nil _ _ _ _⟩, _, HK.out, Apart.refl _ _⟩
    | exact ⟨⟨_, rfl, World.ownsRow_nil _ _ _ _⟩, ⟨_, HK.out⟩, Apart.refl _ _⟩
set_option maxHeartbeats 1000000 in
theorem rdrop_any (B : Nat) (X : Nat → Prop) (rb og n : Nat) (S : List Int) (u : Value) (last : Int) (Q : List Rq) (f : Int) (w : World) (h : Rk B X w rb og n S u last Q) (hX : ∀ g, X g → g < w.heap.size) : Calls Try.prog 52 #[.pointer (some ⟨rb, 0, none⟩), .int .u8 f] w fun e w' => (∃ v, e = .returned v ∧ w'.ownsRow w.heap.size 43 1 v (outI (fun r => decide (r.2.2.2.2 = f)) Q).length (idCs (outI (fun r => decide (r.2.2.2.2 = f)) Q))) ∧ ∃ u', Rk B X w' rb og n S u' last (outQ (fun r => decide (r.2.2.2.2 = f)) Q) ∧ Apart (fun k => k = rb) w w' := by
  have hc := rwithout_o B X rb og n S u last Q (-1) f w h hX (by omega) (fun r => decide (r.2.2.2.2 = f)) (by funext r; rw [if_neg (by omega)])
  clear h hX
  generalize (fun r : Rq => decide (r.2.2.2.2 = f)) = p at *
  go_enter Try.func52, Try.ntmps52
  go_wp2_with fail
  refine hc.mono ?_
  rintro e W1 ⟨⟨v, rfl, hv⟩, hk⟩
  have HV := Hid3.mk hv
  have HK := Hid3.mk hk
  clear hc hv hk
  go_wp2
  go_ret
  exact ⟨⟨_, rfl, HV.out⟩, HK.out⟩
def IdS (w : World) (v : Value) (l : List Int) : Prop := ∃ a cap, v = .slice a l.length cap ∧ ∀ j x, l[j]? = some x → ∃ g, a = some ⟨g, 0, none⟩ ∧ w.cell? ⟨g, j, none⟩ = some (.int .u32 x)
theorem IdS.of_own {B : Nat} {w : World} {v : Value} {l : List Int} (h : w.ownsRow B 43 1 v l.length (idCs l)) : IdS w v l := by
  rcases h.2 with ⟨hv, h0⟩ | ⟨g, cap, cur, rfl, hg, hblk, hk, hmx, hsz, htk⟩
  · obtain rfl : l = [] := List.eq_nil_of_length_eq_zero h0
    exact ⟨none, 0, hv, fun j x hj => by cases hj⟩
  · refine ⟨_, cap, rfl, fun j x hj => ⟨g, rfl, ?_⟩⟩
    have hj2 := (List.getElem?_eq_some_iff.1 hj).1
    have h1 : (idCs l)[j]? = some (.int .u32 x) := by unfold idCs; rw [List.getElem?_map, hj]; rfl
    rw [← htk, List.getElem?_take, if_pos (by omega)] at h1
    rw [cell_of_row w g j _ _ _ hblk]
    simpa using h1
set_option maxHeartbeats 2000000 in
theorem sameids_any (v u : Value) (xs : List Int) (w : World) (hv : IdS w v xs) (hu : IdS w u xs) (hl : xs.length ≤ 1000) : Calls Try.prog 50 #[v, u] w fun e w' => e = .returned (.bool true) ∧ Below w.heap.size w w' := by
  obtain ⟨a, cap, rfl, hc⟩ := hv
  obtain ⟨a2, cap2, rfl, hc2⟩ := hu
  have HC := Hid3.mk hc
  have HC2 := Hid3.mk hc2
  have hne : ((xs.length : Int) != (xs.length : Int)) = false := by simp
  clear hc hc2
  go_enter Try.func50, Try.ntmps50
  go_wp2
  go_loopw [5] (fun s5 wr => ∃ kk nq : Nat, kk ≤ xs.length ∧ s5 = .int .i64 kk ∧ wr = w.drewN nq) (fun s5 _ => xs.length - (intOf s5).toNat)
  case atStart => exact ⟨0, 0, Nat.zero_le _, rfl, rfl⟩
  case round =>
    obtain ⟨kk, nq, hkk, rfl, rfl⟩ := hrel
    by_cases hlt : kk < xs.length
    · have hltz : (kk : Int) < (xs.length : Int) := by omega
      obtain ⟨g, rfl, c0⟩ := HC.out kk xs[kk] (List.getElem?_eq_getElem hlt)
      obtain ⟨g', rfl, d0⟩ := HC2.out kk xs[kk] (List.getElem?_eq_getElem hlt)
      generalize xs[kk] = y at *
      go_wp2_with fail
      go_quiet (fail)
      go_wp2
      go_roundw
      case rel => exact ⟨kk + 1, _, by omega, by go_num, rfl⟩
      case measure => simp [intOf]; omega
    · have hltz : ¬ (kk : Int) < (xs.length : Int) := by omega
      go_wp2
      go_ret
      exact ⟨rfl, ⟨rfl, rfl, rfl, Nat.le_refl _, fun _ _ => rfl⟩⟩
theorem eqGuardR : Try.prog.eqGuardType Try.prog.depth 45 = false := by kernel_rfl
set_option maxHeartbeats 2000000 in
theorem eqRq (w : World) (a0 a2 a3 a4 : Int) (a1 : Bool) : (Op.equalIn 10000 45 (.agg #[.int .u32 a0, .bool a1, .int .i64 a2, .int .i64 a3, .int .u8 a4]) (.agg #[.int .u32 a0, .bool a1, .int .i64 a2, .int .i64 a3, .int .u8 a4])).run Try.prog w = .ok true w := by
  show (Op.equalIn (9998 + 1 + 1) 45 _ _).run Try.prog w = _
  rw [Op.equalIn]
  simp only [Sem.run_bind, run_underlying Try.underlying45, Result.andThen_ok]
  simp [go_sem]
set_option maxHeartbeats 4000000 in
theorem samereqs_any (v u : Value) (Q : List Rq) (w : World) (hv : RqS (fun _ => False) w v Q) (hu : RqS (fun _ => False) w u Q) (hl : Q.length ≤ 1000) : Calls Try.prog 32 #[v, u] w fun e w' => e = .returned (.bool true) ∧ Below w.heap.size w w' := by
  have HC := Hid3.mk hv
  have HC2 := Hid3.mk hu
  obtain ⟨a, cap, rfl, _⟩ := hv
  obtain ⟨a2, cap2, rfl, _⟩ := hu
  have hne : ((Q.length : Int) != (Q.length : Int)) = false := by simp
  have eG := eqGuardR
  go_enter Try.func32, Try.ntmps32
  go_wp2
  go_loopw [5] (fun s5 wr => ∃ kk nq : Nat, kk ≤ Q.length ∧ s5 = .int .i64 kk ∧ wr = w.drewN nq) (fun s5 _ => Q.length - (intOf s5).toNat)
  case atStart => exact ⟨0, 0, Nat.zero_le _, rfl, rfl⟩
  case round =>
    obtain ⟨kk, nq, hkk, rfl, rfl⟩ := hrel
    by_cases hlt : kk < Q.length
    · have hltz : (kk : Int) < (Q.length : Int) := by omega
      have hk0 : (0 : Int) ≤ (kk : Int) := by omega
      have hm : Q[kk]? = some Q[kk] := List.getElem?_eq_getElem hlt
      obtain ⟨g, rfl, _, c0, c1, c2, c3, c4⟩ := HC.out.at kk _ hm
      obtain ⟨g', rfl, _, d0, d1, d2, d3, d4⟩ := HC2.out.at kk _ hm
      clear hm
      generalize Q[kk] = y at *
      obtain ⟨y0, y1, y2, y3, y4⟩ := y
      simp only at c0 c1 c2 c3 c4 d0 d1 d2 d3 d4
      have eM := fun w => eqRq w y0 y2 y3 y4 y1
      go_wp2_with fail
      go_quiet (fail)
      go_wp2
      go_roundw
      case rel => exact ⟨kk + 1, _, by omega, by go_num, rfl⟩
      case measure => simp [intOf]; omega
    · have hltz : ¬ (kk : Int) < (Q.length : Int) := by omega
      go_wp2
      go_ret
      exact ⟨rfl, ⟨rfl, rfl, rfl, Nat.le_refl _, fun _ _ => rfl⟩⟩
end Go.Proofs.Ytlnjpgcaciemnaa
