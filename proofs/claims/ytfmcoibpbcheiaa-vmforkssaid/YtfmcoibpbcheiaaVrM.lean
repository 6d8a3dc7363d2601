/- The document's vm: End. The document's vm: Fork. -/
import Derived.Test.YtfmcoibpbcheiaaVrK
import Derived.Test.YtfmcoibpbcheiaaVmYa
namespace Go.Proofs.Ytfmcoibpbcheiaa
open Go.RowKit Go.Maps
set_option linter.unusedVariables false
set_option maxRecDepth 100000
def clF (f : Int → Option Int) (k : Nat) : Int → Option Int := fun z => if 0 ≤ z ∧ z < (k : Int) then none else f z
def eS (s : Vs) (p : Fin 6) (k : Nat) : Vs := { s with has := upF s.has p false, pg := upF s.pg p (clF (s.pg p) k) }
theorem eS_zero (s : Vs) (p : Fin 6) : eS s p 0 = { s with has := upF s.has p false } := by
  have e : upF s.pg p (clF (s.pg p) 0) = s.pg := by
    funext q
    by_cases c : q = p
    · subst c
      rw [upF_same]
      funext z
      exact if_neg (by omega)
    · rw [upF_other _ _ _ _ c]
  unfold eS
  rw [e]
theorem eS_succ (s : Vs) (p : Fin 6) (k : Nat) : ({ eS s p k with pg := upF (eS s p k).pg p (upI ((eS s p k).pg p) k none) } : Vs) = eS s p (k + 1) := by
  have e : upF (eS s p k).pg p (upI ((eS s p k).pg p) k none) = upF s.pg p (clF (s.pg p) (k + 1)) := by
    funext q
    by_cases c : q = p
    · subst c
      rw [upF_same, upF_same]
      funext z
      show upI (upF s.pg q (clF (s.pg q) k) q) k none z = _
      rw [upF_same]
      unfold upI clF
      by_cases d : z = (k : Int)
      · rw [if_pos d, if_pos (by omega)]
      · rw [if_neg d]
        by_cases g : 0 ≤ z ∧ z < (k : Int)
        · rw [if_pos g, if_pos (by omega)]
        · rw [if_neg g, if_neg (by omega)]
    · rw [upF_other _ _ _ _ c, upF_other _ _ _ _ c]
      show upF s.pg p _ q = _
      rw [upF_other _ _ _ _ c]
  rw [e]
  rfl
theorem eS_all {N : Nat} {s : Vs} (h : Fr N s) (p : Fin 6) : clF (s.pg p) 16 = fun _ => none := by
  funext z
  unfold clF
  by_cases g : 0 ≤ z ∧ z < ((16 : Nat) : Int)
  · rw [if_pos g]
  · rw [if_neg g]
    cases e : s.pg p z with
    | none => rfl
    | some v => exact absurd (h.pgs p z v e).1 (by omega)
set_option maxHeartbeats 1000000 in
theorem rend_bad (B : Nat) (o : Ro) (N : Nat) (s : Vs) (L : List Int) (pid : Int) (w : World) (h : Rb B w o N s L) (he : prc s pid = none) : Calls Try.prog 47 #[.pointer (some ⟨o.b, 0, none⟩), .int .i64 pid] w fun r w' => r = .returned (.int .i64 5) ∧ w' = w := by
  have cF := rmay_any B o N s L pid w h
  unfold mayE at cF
  rw [he] at cF
  simp only at cF
  clear h he
  go_enter Try.func47, Try.ntmps47
  go_wp2_with fail
  refine cF.mono ?_
  rintro r0 W ⟨rfl, hW⟩
  rw [hW]
  clear cF hW
  go_wp2
  go_ret
  exact ⟨rfl, rfl⟩
set_option maxHeartbeats 2000000 in
theorem rend_ok (B : Nat) (o : Ro) (N : Nat) (s : Vs) (L : List Int) (p : Fin 6) (w : World) (h : Rb B w o N s L) (hF : Fr N s) (hp : s.has p = true) : Calls Try.prog 47 #[.pointer (some ⟨o.b, 0, none⟩), .int .i64 p.1] w fun r w' => r = .returned (.int .i64 0) ∧ Rb B w' o N { s with has := upF s.has p false, pg := upF s.pg p (fun _ => none) } L ∧ Apart (XR o) w w' := by
  have cF := rmay_any B o N s L p.1 w h
  have em : mayE s p.1 = 0 := by unfold mayE; rw [prc_has0 s p hp]
  rw [em] at cF
  obtain ⟨c0, f0⟩ := h.hs p
  have HF0 : Hid3 (Rb B (w.setCell ⟨o.b, 1 + p.1, none⟩ (.bool false)) o N (eS s p 0) L ∧ Apart (XR o) w (w.setCell ⟨o.b, 1 + p.1, none⟩ (.bool false))) := ⟨by rw [eS_zero]; exact h.seth p false, Apart.at w o.b _ _ (.inl rfl)⟩
  have HE : Hid3 (({ s with has := upF s.has p false, pg := upF s.pg p (fun _ => none) } : Vs) = eS s p 16) := ⟨by unfold eS; rw [eS_all hF p]⟩
  have HC : Hid3 (∀ W (k : Nat), k < 16 → Rb B W o N (eS s p k) L → (∃ b x, W.cell? ⟨o.b, 7 + p.1 * 32 + k * 2, none⟩ = some (.bool b) ∧ W.cell? ⟨o.b, 7 + p.1 * 32 + k * 2 + 1, none⟩ = some (.int .i64 x)) ∧ W.frozen? ⟨o.b, 7 + p.1 * 32 + k * 2, none⟩ = false ∧ W.frozen? ⟨o.b, 7 + p.1 * 32 + k * 2 + 1, none⟩ = false ∧ Rb B ((W.setCell ⟨o.b, 7 + p.1 * 32 + k * 2, none⟩ (.bool false)).setCell ⟨o.b, 7 + p.1 * 32 + k * 2 + 1, none⟩ (.int .i64 0)) o N (eS s p (k + 1)) L ∧ Apart (XR o) W ((W.setCell ⟨o.b, 7 + p.1 * 32 + k * 2, none⟩ (.bool false)).setCell ⟨o.b, 7 + p.1 * 32 + k * 2 + 1, none⟩ (.int .i64 0))) := ⟨fun W k hk hR => by
    obtain ⟨a, b, c⟩ := hR.pg p k hk
    refine ⟨⟨_, _, a, b⟩, c _, c _, ?_, (Apart.at (X := XR o) W o.b _ _ (.inl rfl)).trans (Apart.at (X := XR o) _ o.b _ _ (.inl rfl))⟩
    have := hR.setpg p k hk none
    rw [eS_succ] at this
    exact this⟩
  rw [hp] at c0
  clear h hF hp em
  rw [HE.out]
  obtain ⟨p, hp⟩ := p
  have h5 : (p : Int) < 6 := by omega
  generalize hs : eS s ⟨p, hp⟩ = S at *
  simp only at *
  clear hs
  go_enter Try.func47, Try.ntmps47
  go_wp2_with fail
  refine cF.mono ?_
  rintro r0 W ⟨rfl, hW⟩
  rw [hW]
  clear cF hW
  go_wp2_with fail
  clear c0 f0
  generalize w.setCell ⟨o.b, 1 + p, none⟩ (.bool false) = W1 at *
  go_loopw [6] (fun i W => ∃ k : Nat, k ≤ 16 ∧ i = .int .i64 (k : Int) ∧ Hid3 (Rb B W o N (S k) L ∧ Apart (XR o) w W)) (fun i _ => 17 - (intOf i).toNat)
  case atStart => exact ⟨0, by omega, rfl, HF0⟩
  case round =>
    obtain ⟨k, hk, rfl, HK⟩ := hrel
    clear HF0
    by_cases hk16 : k < 16
    · have hkz : (k : Int) < 16 := by omega
      obtain ⟨⟨b, x, d1, d2⟩, d3, d4, d5, d6⟩ := HC.out wr k hk16 HK.out.1
      have HK2 : Hid3 (Rb B ((wr.setCell ⟨o.b, 7 + p * 32 + k * 2, none⟩ (.bool false)).setCell ⟨o.b, 7 + p * 32 + k * 2 + 1, none⟩ (.int .i64 0)) o N (S (k + 1)) L ∧ Apart (XR o) w ((wr.setCell ⟨o.b, 7 + p * 32 + k * 2, none⟩ (.bool false)).setCell ⟨o.b, 7 + p * 32 + k * 2 + 1, none⟩ (.int .i64 0))) := ⟨d5, HK.out.2.trans d6⟩
      have hw1 : IntKind.i64.wrap ((k : Int) + 1) = ((k + 1 : Nat) : Int) := by rw [IntKind.wrap_i64]; omega
      clear d5 d6 HK
      go_wp2
      go_roundw
      case rel => exact ⟨k + 1, by omega, by first | rfl | trivial, HK2⟩
      case measure => simp [intOf]; omega
    · have hkz : ¬ (k : Int) < 16 := by omega
      have e : k = 16 := by omega
      have HK2 : Hid3 (Rb B wr o N (S 16) L ∧ Apart (XR o) w wr) := ⟨by rw [← e]; exact HK.out.1, HK.out.2⟩
      clear HK e hk hk16
      generalize (k : Int) = kk at *
      go_wp2
      go_ret
      exact ⟨rfl, HK2.out⟩
end Go.Proofs.Ytfmcoibpbcheiaa
namespace Go.Proofs.Ytfmcoibpbcheiaa
open Go.RowKit Go.Maps
set_option linter.unusedVariables false
set_option maxRecDepth 100000
/-- A row of cells is stored: told by lookups. -/
theorem cl_rowV {w : World} {b : Nat} {t : TypeId} : ∀ (vs : List Value) (c : List Value) (k : Nat), Cl w b t c → k + vs.length ≤ c.length → ∃ c', Cl (w.setCells b k vs) b t c' ∧ c'.length = c.length ∧ ∀ j, c'[j]? = if k ≤ j ∧ j < k + vs.length then vs[j - k]? else c[j]?
  | [], c, k, h, _ => ⟨c, h, rfl, fun j => by rw [if_neg (by simp only [List.length_nil]; omega)]⟩
  | v :: vs, c, k, h, hk => by
    rw [List.length_cons] at hk
    obtain ⟨c', h1, h2, h3⟩ := cl_rowV vs (c.set k v) (k + 1) (h.set k v) (by rw [List.length_set]; omega)
    refine ⟨c', h1, by rw [h2, List.length_set], fun j => ?_⟩
    rw [h3, List.length_cons]
    by_cases e : j = k
    · subst e
      rw [if_neg (by omega), if_pos (by omega), List.getElem?_set_self (by omega), Nat.sub_self]
      rfl
    · by_cases d : k + 1 ≤ j ∧ j < k + 1 + vs.length
      · rw [if_pos d, if_pos (by omega)]
        have e2 : j - k = j - (k + 1) + 1 := by omega
        rw [e2, List.getElem?_cons_succ]
      · rw [if_neg d, if_neg (by omega), List.getElem?_set_ne (fun x => e x.symm)]
theorem rcs_low (m : Nat) (h : Fin 6 → Bool) (P Q : List Value) (cp : Int) : ∀ j, j < 7 → (rcs m h P cp)[j]? = (rcs m h Q cp)[j]?
  | 0, _ => rfl
  | 1, _ => rfl
  | 2, _ => rfl
  | 3, _ => rfl
  | 4, _ => rfl
  | 5, _ => rfl
  | 6, _ => rfl
theorem rcs_len (m : Nat) (h : Fin 6 → Bool) (P : List Value) (cp : Int) : (rcs m h P cp).length = P.length + 8 := by
  simp [rcs, hsL]
theorem row_apart0 (b : Nat) : ∀ (vs : List Value) (w : World) (k : Nat) (X : Nat → Prop), X b → Apart X w (w.setCells b k vs)
  | [], w, k, X, _ => Apart.refl _ _
  | v :: vs, w, k, X, h => (Apart.at w b k v h).trans (row_apart0 b vs _ (k + 1) X h)
/-- The pages of one are the pages of the other, too. -/
theorem Rb.setrow {B : Nat} {w : World} {o : Ro} {N : Nat} {s : Vs} {L : List Int} (h : Rb B w o N s L) (p q : Fin 6) : ∃ ROW : List Value, ROW.length = 32 ∧ (∀ v ∈ ROW, v.oneCell' = true) ∧ w.rangeAt o.b (7 + p.1 * 32) ROW ∧ Rb B (w.setCells o.b (7 + q.1 * 32) ROW) o N { s with pg := upF s.pg q (s.pg p) } L := by
  obtain ⟨P, c, hl, hP⟩ := h.c
  have hp := p.2
  have hq := q.2
  have hrow : ∀ j, j < 32 → ((P.drop (p.1 * 32)).take 32)[j]? = P[p.1 * 32 + j]? := fun j hj => by rw [List.getElem?_take, if_pos hj, List.getElem?_drop]
  have hlen : ((P.drop (p.1 * 32)).take 32).length = 32 := by rw [List.length_take, List.length_drop]; omega
  have hone : ∀ j, j < 192 → ∃ v, P[j]? = some v ∧ v.oneCell' = true := fun j hj => by
    obtain ⟨a, b⟩ := hP ⟨j / 32, by omega⟩ (j % 32 / 2) (by omega)
    by_cases e : j % 2 = 0
    · rw [show (⟨j / 32, by omega⟩ : Fin 6).1 * 32 + j % 32 / 2 * 2 = j by show j / 32 * 32 + j % 32 / 2 * 2 = j; omega] at a
      exact ⟨_, a, rfl⟩
    · rw [show (⟨j / 32, by omega⟩ : Fin 6).1 * 32 + j % 32 / 2 * 2 + 1 = j by show j / 32 * 32 + j % 32 / 2 * 2 + 1 = j; omega] at b
      exact ⟨_, b, rfl⟩
  refine ⟨(P.drop (p.1 * 32)).take 32, hlen, fun v hv => ?_, fun j v hv => ?_, ?_⟩
  · obtain ⟨j, hj, e⟩ := List.getElem_of_mem hv
    have hj' : j < 32 := by omega
    obtain ⟨x, hx, ho⟩ := hone (p.1 * 32 + j) (by omega)
    have := hrow j hj'
    rw [List.getElem?_eq_getElem hj, e, hx] at this
    injection this with this
    rw [this]
    exact ho
  · have hj : j < 32 := by have := (List.getElem?_eq_some_iff.1 hv).1; omega
    rw [hrow j hj] at hv
    rw [Nat.add_assoc]
    exact (c.cell _).trans ((rcs_P _ _ _ _ _ (by omega)).trans hv)
  · obtain ⟨c', c1, c2, c3⟩ := cl_rowV ((P.drop (p.1 * 32)).take 32) _ (7 + q.1 * 32) c (by rw [rcs_len, hlen]; omega)
    rw [hlen] at c3
    have ap : Apart (XB o.b) w (w.setCells o.b (7 + q.1 * 32) ((P.drop (p.1 * 32)).take 32)) := row_apart0 o.b _ w _ (XB o.b) rfl
    have hP' : ∀ j, j < 192 → ((c'.drop 7).take 192)[j]? = if q.1 * 32 ≤ j ∧ j < q.1 * 32 + 32 then P[p.1 * 32 + (j - q.1 * 32)]? else P[j]? := fun j hj => by
      rw [List.getElem?_take, if_pos hj, List.getElem?_drop, c3]
      by_cases e : q.1 * 32 ≤ j ∧ j < q.1 * 32 + 32
      · rw [if_pos (by omega), if_pos e, show 7 + j - (7 + q.1 * 32) = j - q.1 * 32 by omega, hrow _ (by omega)]
      · rw [if_neg (by omega), if_neg e, rcs_P _ _ _ _ _ (by omega)]
    have hl' : ((c'.drop 7).take 192).length = 192 := by rw [List.length_take, List.length_drop, c2, rcs_len, hl]; rfl
    have e : c' = rcs o.m s.has ((c'.drop 7).take 192) s.cp := by
      apply List.ext_getElem?
      intro j
      by_cases j7 : j < 7
      · rw [c3, if_neg (by omega)]
        exact rcs_low _ _ _ _ _ j j7
      · by_cases j9 : j < 199
        · obtain ⟨i, rfl⟩ : ∃ i, j = 7 + i := ⟨j - 7, by omega⟩
          rw [rcs_P _ _ _ _ _ (by omega), List.getElem?_take, if_pos (by omega), List.getElem?_drop]
        · rw [c3, if_neg (by omega)]
          by_cases j8 : j = 199
          · rw [j8, rcs_cp _ _ _ _ hl, rcs_cp _ _ _ _ hl']
          · rw [List.getElem?_eq_none (by rw [rcs_len, hl]; omega), List.getElem?_eq_none (by rw [rcs_len, hl']; omega)]
    rw [e] at c1
    refine ⟨h.g, h.gm, h.gg, ⟨_, c1, hl', fun r k hk => ?_⟩, XB.rm h ap⟩
    have hr := r.2
    show ((c'.drop 7).take 192)[r.1 * 32 + k * 2]? = some (.bool (upF s.pg q (s.pg p) r k).isSome) ∧ ((c'.drop 7).take 192)[r.1 * 32 + k * 2 + 1]? = some (.int .i64 (pgC (upF s.pg q (s.pg p) r k)))
    rw [hP' _ (by omega), hP' _ (by omega)]
    by_cases e2 : r = q
    · subst e2
      obtain ⟨a, b⟩ := hP p k hk
      rw [upF_same, if_pos (by omega), if_pos (by omega), show p.1 * 32 + (r.1 * 32 + k * 2 - r.1 * 32) = p.1 * 32 + k * 2 by omega, show p.1 * 32 + (r.1 * 32 + k * 2 + 1 - r.1 * 32) = p.1 * 32 + k * 2 + 1 by omega]
      exact ⟨a, b⟩
    · have hne : r.1 ≠ q.1 := fun x => e2 (by ext; exact x)
      rw [upF_other _ _ _ _ e2, if_neg (by omega), if_neg (by omega)]
      exact hP r k hk
set_option maxHeartbeats 1000000 in
theorem rfork_bad (B : Nat) (o : Ro) (N : Nat) (s : Vs) (L : List Int) (pid to : Int) (w : World) (h : Rb B w o N s L) (he : forkE s pid to ≠ 0) : Calls Try.prog 48 #[.pointer (some ⟨o.b, 0, none⟩), .int .i64 pid, .int .i64 to] w fun r w' => r = .returned (.int .i64 (forkE s pid to)) ∧ w' = w := by
  have cM := rmay_any B o N s L pid w h
  have cF := rfresh_any B o N s L to w h
  unfold forkE mayE at *
  cases hp : prc s pid with
  | none =>
    rw [hp] at cM
    simp only at cM ⊢
    clear h he cF
    go_enter Try.func48, Try.ntmps48
    go_wp2_with fail
    refine cM.mono ?_
    rintro r0 W ⟨rfl, hW⟩
    rw [hW]
    clear cM hW
    go_wp2
    go_ret
    exact ⟨rfl, rfl⟩
  | some p =>
    rw [hp] at cM he
    simp only at cM he ⊢
    generalize freshE s to = e at *
    clear h
    go_enter Try.func48, Try.ntmps48
    go_wp2_with fail
    refine cM.mono ?_
    rintro r0 W ⟨rfl, hW⟩
    rw [hW]
    clear cM hW
    go_wp2_with fail
    refine cF.mono ?_
    rintro r0 W ⟨rfl, hW⟩
    rw [hW]
    clear cF hW
    go_wp2
    go_ret
    exact ⟨rfl, rfl⟩
end Go.Proofs.Ytfmcoibpbcheiaa
