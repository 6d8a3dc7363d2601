/- Copy, of both tables. -/
import Derived.Test.YtbkpkcndmlapfaaFdTd
import Derived.Test.YtbkpkcndmlapfaaFdX
namespace Go.Proofs.Ytbkpkcndmlapfaa
open Go.RowKit Go.Maps
set_option linter.unusedVariables false
set_option maxRecDepth 100000
set_option maxHeartbeats 1000000 in
theorem twins_any (w : World) : Calls Try.prog 41 #[] w fun r w' => r = .returned (.func (.func 53) #[] #[.pointer (some ⟨w.heap.size, 0, none⟩), .pointer (some ⟨w.heap.size + 1, 0, none⟩)]) ∧ w' = (w.alloc (.cells #[.slice none 0 0] 88)).alloc (.cells #[.slice none 0 0] 88) := by
  go_enter Try.func41, Try.ntmps41
  go_wp2
  go_ret
  exact ⟨rfl, rfl⟩
theorem twins_tw (L : Lo) (s : Fs) (w : World) : Tw w.heap.size L s ((w.alloc (.cells #[.slice none 0 0] 88)).alloc (.cells #[.slice none 0 0] 88)) w.heap.size (w.heap.size + 1) [] := by
  refine ⟨⟨.slice none 0 0, .slice none 0 0, Cl.alloc (Cl.new w _ _) _, ?_, World.ownsRow_nil _ _ _ _, World.ownsRow_nil _ _ _ _, .inl rfl⟩, by omega, Nat.le_refl _, by omega, fun x hx => (by cases hx), List.nodup_nil, List.nodup_nil, Nat.zero_le _⟩
  have := Cl.new (w.alloc (.cells #[.slice none 0 0] 88)) 88 [.slice none 0 0]
  rw [World.size_alloc] at this
  exact this
def hasP (s : Fs) (P : Nat) (q : Fin 6) : Bool := if q.1 < P then s.has q else false
theorem hasP_yes (s : Fs) (P : Nat) (h : P < 6) : upd (hasP s P) ⟨P, h⟩ (s.has ⟨P, h⟩) = hasP s (P + 1) := by
  funext j
  unfold upd hasP
  by_cases e : j = ⟨P, h⟩
  · rw [if_pos e, if_pos (by rw [e]; exact Nat.lt_succ_self _), e]
  · have : j.1 ≠ P := fun x => e (Fin.ext x)
    rw [if_neg e]
    by_cases hj : j.1 < P
    · rw [if_pos hj, if_pos (by omega)]
    · rw [if_neg hj, if_neg (by omega)]
/-- What stands ahead of each round of Copy. -/
structure CcI (N : Nat) (L : Lo) (s : Fs) (w V : World) (tb b1 b2 : Nat) (r2 : Fin 6 → Nat) (ps : List (Nat × Nat)) (P : Nat) : Prop where
  tw : Tw N L s V b1 b2 ps
  t : Cl V tb 73 (tCs (hasP s P) r2)
  gt : N ≤ tb
  row : ∀ q : Fin 6, q.1 < P → s.has q = true → N ≤ r2 q ∧ Cl V (r2 q) 75 (rCs (s.fd q) (o2 ps)) ∧ Sn (s.fd q) 8 ps
  ri : ∀ q q' : Fin 6, q.1 < P → q'.1 < P → s.has q = true → s.has q' = true → r2 q = r2 q' → q = q'
  bl : Below N w V
  len : ps.length ≤ 8 * P
theorem preF_8 (f : Fin 8 → Nat) : preF f 8 = f := by
  funext j
  exact if_pos j.2
theorem CcI.next {N : Nat} {L : Lo} {s : Fs} {w V V' : World} {tb b1 b2 : Nat} {r2 : Fin 6 → Nat} {ps ps' : List (Nat × Nat)} {P : Nat} (hN : N ≤ w.heap.size) (I : CcI N L s w V tb b1 b2 r2 ps P) (hP : P < 6) (hp : s.has ⟨P, hP⟩ = true) (hb : tb ≠ b1 ∧ tb ≠ b2) (T : CtI N L s ⟨P, hP⟩ V V' b1 b2 ps ps' 8) :
    Cl V' tb 73 (tCs (hasP s P) r2) ∧ CcI N L s w (V'.setCell ⟨tb, P, none⟩ (.pointer (some ⟨V.heap.size, 0, none⟩))) tb b1 b2 (upd r2 ⟨P, hP⟩ V.heap.size) ps' (P + 1) := by
  have hd := T.tw.d1
  have norow : ∀ {b : Nat} {t : TypeId} {c : List Value}, Cl V b t c → t ≠ 67 → ∀ cur, V.heap[b]? ≠ some (.cells cur 67 (0, 0)) := fun {b t c} hc ht cur e => by
    have := hc.symm.trans e
    injection this with this
    injection this with _ this
    exact ht this
  obtain ⟨_, _, kb1, kb2, _⟩ := I.tw.rows
  have ht : Cl V' tb 73 (tCs (hasP s P) r2) := (T.kp tb I.t.lt (norow I.t (by decide)) hb.1 hb.2).trans I.t
  have ap : Apart (fun i => i = tb) V' (V'.setCell ⟨tb, P, none⟩ (.pointer (some ⟨V.heap.size, 0, none⟩))) := Apart.at _ _ _ _ rfl
  have hNV : N ≤ V.heap.size := Nat.le_trans hN I.bl.size
  have hnew := T.row
  rw [preF_8] at hnew
  refine ⟨ht, ⟨?_, ?_, I.gt, fun q hq hh => ?_, fun q q' hq hq' hh hh' e => ?_, (I.bl.trans T.bl).trans (ap.below N (fun k e => by rw [e]; exact I.gt) (Nat.le_trans hNV T.bl.size)), by have := T.len; have := I.len; omega⟩⟩
  · obtain ⟨sv, mv, h1, h2, h3, h4, h5⟩ := T.tw.rows
    have hrow : ∀ {v : Value} {n' : Nat} {xs : List Value}, V'.ownsRow N 67 1 v n' xs → (V'.setCell ⟨tb, P, none⟩ (.pointer (some ⟨V.heap.size, 0, none⟩))).ownsRow N 67 1 v n' xs := fun {v n' xs} ho => by
      refine ⟨ho.1, ?_⟩
      rcases ho.2 with h0 | ⟨g', cap, cur, e1, e2, e3, e4⟩
      · exact .inl h0
      · refine .inr ⟨g', cap, cur, e1, e2, (ap.block g' (Array.getElem?_eq_some_iff.1 e3).1 (fun e => ?_)).trans e3, e4⟩
        have e' : g' = tb := e
        subst e'
        have := ht.symm.trans e3
        injection this with this
        injection this with _ this
        exact absurd this (by decide)
    exact ⟨⟨sv, mv, h1.other hb.1.symm _ _, h2.other hb.2.symm _ _, hrow h3, hrow h4, h5⟩, T.tw.nb, T.tw.g1, T.tw.g2, fun x hx => ⟨(T.tw.ob x hx).1, (T.tw.ob x hx).2.1, (T.tw.ob x hx).2.2.other ((T.tw.ob x hx).2.2.ne ht (by decide)) _ _⟩, T.tw.d1, T.tw.d2, T.tw.len⟩
  · have := ht.set P (.pointer (some ⟨V.heap.size, 0, none⟩))
    have e1 := tCs_set (hasP s P) r2 true V.heap.size ⟨P, hP⟩
    rw [show ptr true V.heap.size = .pointer (some ⟨V.heap.size, 0, none⟩) from rfl] at e1
    simp only at e1
    rw [e1] at this
    have e2 := hasP_yes s P hP
    rw [hp] at e2
    rw [e2] at this
    exact this
  · by_cases e : q = ⟨P, hP⟩
    · subst e
      rw [upd_same]
      exact ⟨hNV, hnew.other (hnew.ne ht (by decide)) _ _, T.sn⟩
    · have hq' : q.1 < P := by
        have : q.1 ≠ P := fun x => e (Fin.ext x)
        omega
      rw [upd_other _ _ _ _ e]
      obtain ⟨a1, a2, a3⟩ := I.row q hq' hh
      refine ⟨a1, ?_, a3.pre T.pre⟩
      have hne1 : r2 q ≠ b1 := a2.ne kb1 (by decide)
      have hne2 : r2 q ≠ b2 := a2.ne kb2 (by decide)
      have k := (T.kp (r2 q) a2.lt (norow a2 (by decide)) hne1 hne2).trans a2
      have eg := rCs_grow (f := s.fd q) (K := 8) a3 T.pre hd
      rw [preF_8] at eg
      rw [← eg] at k
      exact Cl.other k (Cl.ne k ht (by decide)) _ _
  · by_cases e1 : q = ⟨P, hP⟩
    · by_cases e2 : q' = ⟨P, hP⟩
      · rw [e1, e2]
      · exfalso
        have : q'.1 ≠ P := fun x => e2 (Fin.ext x)
        rw [e1, upd_same, upd_other _ _ _ _ e2] at e
        have := (I.row q' (by omega) hh').2.1.lt
        omega
    · have hq2 : q.1 ≠ P := fun x => e1 (Fin.ext x)
      by_cases e2 : q' = ⟨P, hP⟩
      · exfalso
        rw [e2, upd_same, upd_other _ _ _ _ e1] at e
        have := (I.row q (by omega) hh).2.1.lt
        omega
      · have : q'.1 ≠ P := fun x => e2 (Fin.ext x)
        rw [upd_other _ _ _ _ e1, upd_other _ _ _ _ e2] at e
        exact I.ri q q' (by omega) (by omega) hh hh' e
theorem CcI.skip {N : Nat} {L : Lo} {s : Fs} {w V : World} {tb b1 b2 : Nat} {r2 : Fin 6 → Nat} {ps : List (Nat × Nat)} {P : Nat} (I : CcI N L s w V tb b1 b2 r2 ps P) (hP : P < 6) (hp : s.has ⟨P, hP⟩ = false) : CcI N L s w V tb b1 b2 r2 ps (P + 1) := by
  have e2 := hasP_yes s P hP
  rw [hp] at e2
  have e3 : upd (hasP s P) ⟨P, hP⟩ false = hasP s P := by
    funext j
    unfold upd
    by_cases e : j = ⟨P, hP⟩
    · rw [if_pos e, e]; exact (if_neg (Nat.lt_irrefl _)).symm
    · rw [if_neg e]
  rw [e3] at e2
  have hlt : ∀ q : Fin 6, q.1 < P + 1 → s.has q = true → q.1 < P := fun q hq hh => by
    by_cases e : q = ⟨P, hP⟩
    · rw [e, hp] at hh; cases hh
    · have : q.1 ≠ P := fun x => e (Fin.ext x)
      omega
  exact ⟨I.tw, by rw [← e2]; exact I.t, I.gt, fun q hq hh => I.row q (hlt q hq hh) hh, fun q q' hq hq' hh hh' => I.ri q q' (hlt q hq hh) (hlt q' hq' hh') hh hh', I.bl, by have := I.len; omega⟩
theorem snd_inj : ∀ (ps : List (Nat × Nat)), (ps.map Prod.snd).Nodup → ∀ {n m a : Nat}, (n, a) ∈ ps → (m, a) ∈ ps → n = m
  | [], _, n, m, a, h, _ => by cases h
  | x :: r, hd, n, m, a, h, h' => by
    rw [List.map_cons, List.nodup_cons] at hd
    rcases List.mem_cons.1 h with e | h
    · rcases List.mem_cons.1 h' with e' | h'
      · have := e.trans e'.symm
        exact (Prod.mk.inj this).1
      · exact absurd (List.mem_map.2 ⟨(m, a), h', rfl⟩) (by rw [← e] at hd; exact hd.1)
    · rcases List.mem_cons.1 h' with e' | h'
      · exact absurd (List.mem_map.2 ⟨(n, a), h, rfl⟩) (by rw [← e'] at hd; exact hd.1)
      · exact snd_inj r hd.2 h h'
theorem CcI.fin {N : Nat} {L : Lo} {s : Fs} {w V : World} {tb b1 b2 : Nat} {r2 : Fin 6 → Nat} {ps : List (Nat × Nat)} (I : CcI N L s w V tb b1 b2 r2 ps 6) (hOk : s.Ok) : Ft N V ⟨tb, r2, o2 ps⟩ s ∧ ∀ k, XF ⟨tb, r2, o2 ps⟩ s k → N ≤ k := by
  have e6 : hasP s 6 = s.has := by
    funext q
    exact if_pos q.2
  have hlive : ∀ n, Lv s n → ∃ a, (n, a) ∈ ps ∧ o2 ps n = a := fun n hn => by
    by_cases hc : ∃ q j, s.fd q j = n
    · obtain ⟨q, j, e⟩ := hc
      have hq : s.has q = true := by
        cases hh : s.has q with
        | true => rfl
        | false => exact absurd (hOk.no q hh j) (by rw [e]; exact hn.1)
      obtain ⟨a, ha⟩ := (I.row q q.2 hq).2.2 j j.2 (by rw [e]; exact hn.1)
      rw [e] at ha
      exact ⟨a, ha, o2_mem ps n a I.tw.d1 ha⟩
    · have h2 := hn.2
      rw [cntN_no _ n (fun p k e => hc ⟨p, k, e⟩)] at h2
      omega
  have hF : Ft N V ⟨tb, r2, o2 ps⟩ s := by
    refine ⟨I.gt, by have := I.t; rw [e6] at this; exact this, ⟨fun q hq => ⟨(I.row q q.2 hq).1, (I.row q q.2 hq).2.1⟩, fun q q' hq hq' e => I.ri q q' q.2 q'.2 hq hq' e, fun n hn => ?_, fun n m hn hm e => ?_, hOk⟩⟩
    · obtain ⟨a, h1, h2⟩ := hlive n hn
      show N ≤ o2 ps n ∧ Cl V (o2 ps n) _ _
      rw [h2]
      exact ⟨(I.tw.ob _ h1).2.1, (I.tw.ob _ h1).2.2⟩
    · obtain ⟨a, h1, h2⟩ := hlive n hn
      obtain ⟨a', h3, h4⟩ := hlive m hm
      have e' : o2 ps n = o2 ps m := e
      rw [h2, h4] at e'
      subst e'
      exact snd_inj ps I.tw.d2 h1 h3
  exact ⟨hF, fun k hk => (hF.x hk).1⟩
end Go.Proofs.Ytbkpkcndmlapfaa
