/- The document's table: Open's errors, End, Copy; SameInts. -/
import Derived.Test.YtbkpkcndmlapfaaFdV
namespace Go.Proofs.Ytbkpkcndmlapfaa
open Go.RowKit Go.Maps
set_option linter.unusedVariables false
set_option maxRecDepth 100000
set_option maxHeartbeats 1000000 in
theorem ropen_nop (B b : Nat) (s : Fs) (pid : Int) (o : Opn) (w : World) (h : Rt B w b s) (hp : NoP s pid) : Calls Try.prog 46 #[.pointer (some ⟨b, 0, none⟩), .int .i64 pid, .agg (opC o).toArray] w fun r w' => r = .returned (.tuple #[.int .i64 0, .int .i64 5]) ∧ Below w.heap.size w w' := by
  have hX : Below w.heap.size w (w.alloc (.cells #[.int .u8 o.k, .int .i64 o.r, .int .i64 o.p] 32)) := below_new w _
  have cM := may_bad b s pid _ (h.below hX).c hp
  have HX := Hid3.mk hX
  unfold opC
  clear h hX hp
  go_enter Try.func46, Try.ntmps46
  go_wp2_with fail
  refine cM.mono ?_
  rintro r W ⟨rfl, hW⟩
  rw [hW]
  clear cM hW
  go_wp2
  go_ret2
  exact ⟨rfl, HX.out⟩
set_option maxHeartbeats 1000000 in
theorem ropen_kind (B b : Nat) (s : Fs) (p : Fin 6) (o : Opn) (w : World) (h : Rt B w b s) (hp : s.has p = true) (h0 : 0 ≤ o.k) (hk : ¬ kindOk o.k) : Calls Try.prog 46 #[.pointer (some ⟨b, 0, none⟩), .int .i64 p.1, .agg (opC o).toArray] w fun r w' => r = .returned (.tuple #[.int .i64 0, .int .i64 2]) ∧ Below w.heap.size w w' := by
  have hX : Below w.heap.size w (w.alloc (.cells #[.int .u8 o.k, .int .i64 o.r, .int .i64 o.p] 32)) := below_new w _
  have cM := may_ok b s p _ (h.below hX).c hp
  have HX := Hid3.mk hX
  unfold opC
  clear h hX hp
  obtain ⟨o0, o1, o2⟩ := o
  simp only at *
  by_cases e0 : o0 = 0
  · subst e0
    clear hk h0
    go_enter Try.func46, Try.ntmps46
    go_wp2_with fail
    refine cM.mono ?_
    rintro r W ⟨rfl, hW⟩
    rw [hW]
    clear cM hW
    go_wp2
    go_ret2
    exact ⟨rfl, HX.out⟩
  · have h3 : (3 : Int) < o0 := by unfold kindOk at hk; omega
    have k0 : (o0 == 0) = false := by simpa using e0
    clear hk h0 e0
    go_enter Try.func46, Try.ntmps46
    go_wp2_with fail
    refine cM.mono ?_
    rintro r W ⟨rfl, hW⟩
    rw [hW]
    clear cM hW
    go_wp2
    go_ret2
    exact ⟨rfl, HX.out⟩
theorem lsL_full (f : Fin 8 → Nat) (h : ∀ k, f k ≠ 0) : ∀ K, K ≤ 8 → (lsL f K).length = K
  | 0, _ => rfl
  | K + 1, hK => by rw [lsL_yes f K (by omega) (h _), List.length_append, lsL_full f h K (by omega)]; rfl
set_option maxHeartbeats 1000000 in
theorem ropen_full (B b : Nat) (s : Fs) (p : Fin 6) (o : Opn) (w : World) (h : Rt B w b s) (hp : s.has p = true) (ho : kindOk o.k) (hf : ∀ k, s.fd p k ≠ 0) : Calls Try.prog 46 #[.pointer (some ⟨b, 0, none⟩), .int .i64 p.1, .agg (opC o).toArray] w fun r w' => r = .returned (.tuple #[.int .i64 0, .int .i64 11]) ∧ Below w.heap.size w w' := by
  have hX : Below w.heap.size w (w.alloc (.cells #[.int .u8 o.k, .int .i64 o.r, .int .i64 o.p] 32)) := below_new w _
  have cM := may_ok b s p _ (h.below hX).c hp
  have cR := rroom_ok b s p _ (h.below hX).c hp
  have hr : roomN s p = 0 := by unfold roomN; rw [lsL_full _ hf 8 (Nat.le_refl _)]
  rw [hr] at cR
  have HX := Hid3.mk hX
  obtain ⟨o0, o1, o2⟩ := o
  unfold opC
  simp only at *
  have k0 : (o0 == 0) = false := by rw [beq_eq_false_iff_ne]; rcases ho with e | e | e <;> (rw [e]; decide)
  have k3' : ¬ (3 : Int) < o0 := by rcases ho with e | e | e <;> (rw [e]; decide)
  clear h hX hp hf hr ho
  go_enter Try.func46, Try.ntmps46
  go_wp2_with fail
  refine cM.mono ?_
  rintro r W ⟨rfl, hW⟩
  rw [hW]
  clear cM hW
  go_wp2_with fail
  refine cR.mono ?_
  rintro r W ⟨rfl, hB⟩
  have HB := Hid3.mk (HX.out.trans (hB.mono (by simp)))
  clear cR hB
  go_wp2
  go_ret2
  exact ⟨rfl, HB.out⟩
set_option maxHeartbeats 1000000 in
theorem rend_bad (B b : Nat) (s : Fs) (pid : Int) (w : World) (h : Rt B w b s) (hp : NoP s pid) : Calls Try.prog 43 #[.pointer (some ⟨b, 0, none⟩), .int .i64 pid] w fun r w' => r = .returned (.tuple #[.slice none 0 0, .int .i64 5]) ∧ w' = w := by
  have cO := may_bad b s pid w h.c hp
  clear h hp
  go_enter Try.func43, Try.ntmps43
  go_wp2_with fail
  refine cO.mono ?_
  rintro r W ⟨rfl, rfl⟩
  clear cO
  go_wp2
  go_ret2
  exact ⟨rfl, rfl⟩
theorem endS_ok {s : Fs} {p : Fin 6} (h : (endK s p 8).1.Ok) : (endS s p).Ok := by
  have hz : ∀ k, (endK s p 8).1.fd p k = 0 := fun k => by rw [(endK_facts s p 8 (Nat.le_refl _)).2.2.1, if_pos ⟨rfl, k.2⟩]
  unfold endS
  generalize (endK s p 8).1 = t at *
  refine ⟨h.le, fun q hq k => ?_⟩
  by_cases e : q = p
  · rw [e]; exact hz k
  · have hq' : upd t.has p false q = false := hq
    rw [upd_other _ _ _ _ e] at hq'
    exact h.no q hq' k
/-- What stands ahead of each round of the document's End. -/
structure REndI (B : Nat) (w W : World) (b : Nat) (s : Fs) (p : Fin 6) (K : Nat) (v : Value) : Prop where
  st : RStp B w W b (endK s p K).1
  c : W.cell? ⟨b, 54, none⟩ = w.cell? ⟨b, 54, none⟩
  own : W.ownsRow w.heap.size 32 3 v (endK s p K).2.length (opCs (endK s p K).2)
theorem rend_fin {B : Nat} {w W : World} {b : Nat} {s : Fs} {p : Fin 6} (h : RStp B w W b (endK s p 8).1) : RStp B w (W.setCell ⟨b, p.1, none⟩ (.bool false)) b (endS s p) := by
  have hk := endS_ok (p := p) h.r.ok
  have e : endS s p = unHas (endK s p 8).1 p := by unfold endS; exact Eq.refl _
  rw [e] at hk ⊢
  exact h.trans (RStp.hset h.r p false hk)
set_option maxHeartbeats 1000000 in
theorem rend_ok (B b : Nat) (s : Fs) (p : Fin 6) (w : World) (h : Rt B w b s) (hp : s.has p = true) (hl : s.all.length ≤ 1000) : Calls Try.prog 43 #[.pointer (some ⟨b, 0, none⟩), .int .i64 p.1] w fun r w' => ∃ v, r = .returned (.tuple #[v, .int .i64 0]) ∧ w'.ownsRow w.heap.size 32 3 v (endG s p).length (opCs (endG s p)) ∧ RStp B w w' b (endS s p) := by
  have cM := may_ok b s p w h.c hp
  obtain ⟨i0, hi, hz0, hz1, hz2⟩ := info_parts infoO
  have HI0 : Hid3 (REndI B w w b s p 0 (.slice none 0 0)) := ⟨⟨RStp.same h (Below.refl _ _), rfl, World.ownsRow_nil _ _ _ _⟩⟩
  have HR0 := Hid3.mk h
  have hlt := h.lt
  have HC : Hid3 (∀ K (hK : K < 8) W v, REndI B w W b s p K v → (s.fd p ⟨K, hK⟩ = 0 → endK s p (K + 1) = endK s p K ∧ Calls Try.prog 48 #[.pointer (some ⟨b, 0, none⟩), .int .i64 p.1, .int .i64 (K : Int)] W fun r w' => r = .returned (.tuple #[.agg #[.int .u8 0, .int .i64 0, .int .i64 0], .bool false, .int .i64 3]) ∧ Below W.heap.size W w') ∧ (s.fd p ⟨K, hK⟩ ≠ 0 → ∃ o q, (endK s p (K + 1)).2 = (if q = true then (endK s p K).2 ++ [o] else (endK s p K).2) ∧ Calls Try.prog 48 #[.pointer (some ⟨b, 0, none⟩), .int .i64 p.1, .int .i64 (K : Int)] W fun r w' => r = .returned (.tuple #[.agg #[.int .u8 o.k, .int .i64 o.r, .int .i64 o.p], .bool q, .int .i64 0]) ∧ RStp B w w' b (endK s p (K + 1)).1 ∧ w'.cell? ⟨b, 54, none⟩ = w.cell? ⟨b, 54, none⟩ ∧ w'.ownsRow w.heap.size 32 3 v (endK s p K).2.length (opCs (endK s p K).2))) := ⟨fun K hK W v I => by
    obtain ⟨f1, f2, f3, f4⟩ := endK_facts s p K (by omega)
    have hat := endK_at s p K hK
    have hpK : (endK s p K).1.has p = true := by rw [f1]; exact hp
    refine ⟨fun h0 => ⟨endK_skip s p K hK h0, ?_⟩, fun hf => ?_⟩
    · refine rclose_err 3 (by decide) b _ _ W (fun W' hW => rat_nof b (endK s p K).1 p (K : Int) W' (I.st.r.below hW).c hpK (.inr (.inr ⟨⟨K, hK⟩, rfl, by rw [hat]; exact h0⟩)))
    · refine ⟨getO (endK s p K).1 ((endK s p K).1.fd p ⟨K, hK⟩), decide (cntN (endK s p K).1.fd ((endK s p K).1.fd p ⟨K, hK⟩) = 1), ?_, ?_⟩
      · rw [endK_succ s p K hK]
        unfold endStep
        rw [if_neg (by rw [hat]; exact hf)]
        simp only [decide_eq_true_eq]
      · have e1 : (endK s p (K + 1)).1 = setFd (endK s p K).1 p ⟨K, hK⟩ 0 := by
          rw [endK_succ s p K hK]
          unfold endStep
          rw [if_neg (by rw [hat]; exact hf)]
        rw [e1]
        refine (rclose_ok54 B b (endK s p K).1 p ⟨K, hK⟩ W I.st.r hpK (by rw [hat]; exact hf) (by rw [f2]; exact hl)).mono ?_
        rintro r w' ⟨rfl, hS, hc⟩
        exact ⟨rfl, I.st.trans hS, hc.trans I.c, own_stay I.own hS.ap (fun g hg e => by have e' : g = b := e; omega)⟩⟩
  clear h hp hl
  go_enter Try.func43, Try.ntmps43
  go_wp2_with fail
  refine cM.mono ?_
  rintro r W ⟨rfl, rfl⟩
  clear cM
  go_wp2
  go_loopw [7, 8] (fun v i wr => ∃ K : Nat, K ≤ 8 ∧ i = .int .i64 (K : Int) ∧ Hid3 (REndI B W wr b s p K v)) (fun _ i _ => 8 - (intOf i).toNat)
  case atStart => exact ⟨0, by omega, rfl, HI0⟩
  case round =>
    obtain ⟨K, hK, rfl, HI⟩ := hrel
    obtain ⟨a8, cap8, rfl⟩ := slice_of HI.out.own
    have hl8 := (endK_facts s p K (by omega)).2.2.2
    have hsz := HI.out.st.ap.size
    by_cases hK8 : K < 8
    · have hKz : (K : Int) < 8 := by omega
      obtain ⟨hno, hyes⟩ := HC.out K hK8 wr _ HI.out
      by_cases hf : s.fd p ⟨K, hK8⟩ = 0
      · obtain ⟨e1, cE⟩ := hno hf
        have HE := Hid3.mk e1
        clear hno hyes hf e1
        go_wp2_with fail
        refine cE.mono ?_
        rintro r W2 ⟨rfl, hB⟩
        have HB := Hid3.mk (hB.trans ((below_new W2 _).mono hB.size) : Below wr.heap.size wr (W2.alloc (.cells #[.int .u8 0, .int .i64 0, .int .i64 0] 32)))
        clear cE hB
        go_wp2
        go_roundw
        case rel =>
          refine ⟨K + 1, by omega, by go_num, ⟨⟨?_, ?_, ?_⟩⟩⟩
          · rw [HE.out]; exact HI.out.st.post HB.out
          · exact (HB.out.cell (p := ⟨b, 54, none⟩) HI.out.st.r.lt).trans HI.out.c
          · rw [HE.out]; exact own_stay HI.out.own (Apart.of_below (X := fun _ => False) HB.out) (fun _ _ => id)
        case measure => simp [intOf]; omega
      · obtain ⟨o, q, e1, cE⟩ := hyes hf
        clear hno hyes hf
        cases q with
        | false =>
          have HE : Hid3 ((endK s p (K + 1)).2 = (endK s p K).2) := ⟨by rw [e1]; rfl⟩
          clear e1
          go_wp2_with fail
          refine cE.mono ?_
          rintro r W2 ⟨rfl, hS, hc, hO⟩
          have HS := Hid3.mk (And.intro hS hO)
          have HC54 := Hid3.mk hc
          clear hc
          clear cE hS hO
          go_wp2
          go_roundw
          case rel =>
            refine ⟨K + 1, by omega, by go_num, ⟨⟨HS.out.1.post (below_new W2 _), ((below_new W2 _).cell (p := ⟨b, 54, none⟩) HS.out.1.r.lt).trans HC54.out, ?_⟩⟩⟩
            rw [HE.out]; exact HS.out.2.alloc _
          case measure => simp [intOf]; omega
        | true =>
          have HE : Hid3 ((endK s p (K + 1)).2 = (endK s p K).2 ++ [o]) := ⟨by rw [e1]; rfl⟩
          clear e1
          generalize hn8 : (endK s p K).2.length = n8 at *
          have HN := Hid3.mk hn8
          clear hn8
          go_wp2_with fail
          refine cE.mono ?_
          rintro r W2 ⟨rfl, hS, hc, hown⟩
          have HC54 := Hid3.mk hc
          clear hc
          have HS := Hid3.mk hS
          have hs2 := hS.ap.size
          clear cE hS
          have hnw := new_op (W2.alloc (.cells #[.int .u8 o.k, .int .i64 o.r, .int .i64 o.p] 32)) o
          rw [World.size_alloc] at hnw
          go_wp2_with (at_builtin; refine wpList_append_own _ rfl _ _ 50 rfl W.heap.size 32 i0 (.agg #[.int .u8 0, .int .i64 0, .int .i64 0]) 3 24 Try.underlying50 hi hz0 hz1 hz2 rfl (by decide) _ _ _ rfl ((hown.alloc _).alloc _) ⟨W2.heap.size + 1, 0, none⟩ 1 1 (opC o) rfl rfl hnw (by simp [opC, Value.oneCell']) (by unfold maxLen; omega) (by omega) (by simp; omega) ?_; intro v' w1 hown' hgrow _; have HG := Hid3.mk (And.intro hown' hgrow); clear hown' hgrow)
          go_roundw
          case rel =>
            have hb3 : Below W.heap.size W2 w1 := ((Below.refl _ _).alloc (by omega) _ |>.alloc (by simp; omega) _).grown HG.out.2 (by simp; omega) (fun j hj => (hown.lt j hj).1)
            refine ⟨K + 1, by omega, by go_num, ⟨⟨⟨?_, ?_⟩, (hb3.cell (p := ⟨b, 54, none⟩) hlt).trans HC54.out, ?_⟩⟩⟩
            · exact HR0.out.lo HS.out.r (endK_facts s p (K + 1) (by omega)).2.1 HC54.out HS.out.ap hb3
            · exact HS.out.ap.then (Y := fun i => W.heap.size ≤ i) ⟨hb3.os, hb3.tape, hb3.output, hb3.size, fun i hi hx => hb3.block i (by omega)⟩ (fun i hi hy => absurd hi (by omega))
            · rw [HE.out, opCs_app, List.length_append, List.length_singleton, HN.out]
              exact HG.out.1
          case measure => simp [intOf]; omega
    · have hKz : ¬ (K : Int) < 8 := by omega
      obtain rfl : K = 8 := by omega
      have HG : Hid3 (wr.ownsRow W.heap.size 32 3 (.slice a8 (endK s p 8).2.length cap8) (endG s p).length (opCs (endG s p))) := ⟨by unfold endG; exact HI.out.own⟩
      have HS : Hid3 (RStp B W (wr.setCell ⟨b, p.1, none⟩ (.bool false)) b (endS s p)) := ⟨rend_fin HI.out.st⟩
      have hC := HI.out.st.r.c
      have c0 := hC.h p
      have f0 := hC.f p.1
      have hbl := hC.l
      have HNe : Hid3 (∀ g, W.heap.size ≤ g → ¬ (fun k => k = b) g) := ⟨fun g hg e => by have e' : g = b := e; omega⟩
      generalize (endK s p 8).1.has p = u at *
      generalize (endK s p 8).2.length = n8 at *
      clear hC HI
      obtain ⟨p, hp6⟩ := p
      have h6 : (p : Int) < 6 := by omega
      simp only at *
      go_wp2
      go_ret2
      refine ⟨_, rfl, ?_, HS.out⟩
      exact own_stay HG.out (Apart.at (X := fun k => k = b) wr b p (.bool false) rfl) HNe.out
/-- Numbers that can be read. -/
def Ints (w : World) (v : Value) (L : List Nat) : Prop := ∃ ad cap, v = .slice ad L.length cap ∧ ∀ (j n : Nat), L[j]? = some n → ∃ g off, ad = some ⟨g, off, none⟩ ∧ w.cell? ⟨g, off + j, none⟩ = some (.int .i64 n)
theorem Ints.of_own {w : World} {B : Nat} {v : Value} {L : List Nat} (h : w.ownsRow B 3 1 v L.length (iVs L)) : Ints w v L := by
  obtain ⟨a, cap, rfl⟩ := slice_of h
  refine ⟨a, cap, rfl, fun j n hj => ?_⟩
  obtain ⟨g, cap', e, _, _, h3⟩ := own_cell h j (.int .i64 (n : Int)) (by rw [iVs, List.getElem?_map, hj]; rfl)
  injection e with e
  exact ⟨g, 0, e, by rw [Nat.zero_add]; exact h3⟩
theorem Ints.below {w w' : World} {v : Value} {L : List Nat} (h : Ints w v L) (k : Below w.heap.size w w') : Ints w' v L := by
  obtain ⟨a, cap, h1, h2⟩ := h
  refine ⟨a, cap, h1, fun j n hj => ?_⟩
  obtain ⟨g, off, e, hc⟩ := h2 j n hj
  exact ⟨g, off, e, (k.cell (p := ⟨g, off + j, none⟩) (World.block_lt_of_cell? w _ hc)).trans hc⟩
set_option maxHeartbeats 1000000 in
theorem sameints_any (v u : Value) (L : List Nat) (w : World) (hv : Ints w v L) (hu : Ints w u L) (hL : L.length ≤ 1000) :
    Calls Try.prog 28 #[v, u] w fun e w' => e = .returned (.bool true) ∧ Below w.heap.size w w' := by
  obtain ⟨ad, cap, rfl, hcell⟩ := hv
  obtain ⟨ad2, cap2, rfl, hcell2⟩ := hu
  have HC := Hid3.mk hcell
  have HC2 := Hid3.mk hcell2
  clear hcell hcell2
  have hne : ((L.length : Int) != (L.length : Int)) = false := by simp
  go_enter Try.func28, Try.ntmps28
  go_wp2
  go_loopw [5] (fun s5 wr => ∃ kk nq : Nat, kk ≤ L.length ∧ s5 = .int .i64 kk ∧ wr = w.drewN nq) (fun s5 _ => L.length - (intOf s5).toNat)
  case atStart => exact ⟨0, 0, Nat.zero_le _, rfl, rfl⟩
  case round =>
    obtain ⟨kk, nq, hkk, rfl, rfl⟩ := hrel
    by_cases hlt : kk < L.length
    · have hltz : (kk : Int) < (L.length : Int) := by omega
      obtain ⟨g, off, rfl, c0⟩ := HC.out kk L[kk] (List.getElem?_eq_getElem hlt)
      obtain ⟨g', off', rfl, d0⟩ := HC2.out kk L[kk] (List.getElem?_eq_getElem hlt)
      generalize ((L[kk] : Nat) : Int) = y at *
      have hyy : (y != y) = false := by simp
      go_wp2_with fail
      go_quiet (fail)
      go_wp2
      go_roundw
      case rel => exact ⟨kk + 1, _, by omega, by go_num, rfl⟩
      case measure => simp [intOf]; omega
    · have hltz : ¬ (kk : Int) < (L.length : Int) := by omega
      go_wp2
      go_ret
      exact ⟨rfl, ⟨rfl, rfl, rfl, Nat.le_refl _, fun _ _ => rfl⟩⟩
end Go.Proofs.Ytbkpkcndmlapfaa
