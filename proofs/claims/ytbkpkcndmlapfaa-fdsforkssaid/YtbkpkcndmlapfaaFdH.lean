/- The program's table: End. -/
import Derived.Test.YtbkpkcndmlapfaaFdG
namespace Go.Proofs.Ytbkpkcndmlapfaa
open Go.RowKit Go.Maps
set_option linter.unusedVariables false
set_option maxRecDepth 100000
def opCs (l : List Opn) : List Value := l.flatMap opC
def endStep (x : Fs × List Opn) (p : Fin 6) (k : Fin 8) : Fs × List Opn := if x.1.fd p k = 0 then x else (setFd x.1 p k 0, if cntN x.1.fd (x.1.fd p k) = 1 then x.2 ++ [getO x.1 (x.1.fd p k)] else x.2)
/-- A process' descriptors below k are closed: the table, and what nobody has any more. -/
def endK (s : Fs) (p : Fin 6) : Nat → Fs × List Opn
  | 0 => (s, [])
  | k + 1 => if h : k < 8 then endStep (endK s p k) p ⟨k, h⟩ else endK s p k
theorem endK_succ (s : Fs) (p : Fin 6) (k : Nat) (h : k < 8) : endK s p (k + 1) = endStep (endK s p k) p ⟨k, h⟩ := by rw [endK, dif_pos h]
theorem endStep_has (x : Fs × List Opn) (p : Fin 6) (k : Fin 8) : (endStep x p k).1.has = x.1.has := by unfold endStep; split <;> rfl
theorem endStep_all (x : Fs × List Opn) (p : Fin 6) (k : Fin 8) : (endStep x p k).1.all = x.1.all := by unfold endStep; split <;> rfl
theorem endStep_fd (x : Fs × List Opn) (p : Fin 6) (k : Fin 8) (q : Fin 6) (j : Fin 8) : (endStep x p k).1.fd q j = if q = p ∧ j = k then 0 else x.1.fd q j := by
  unfold endStep
  split
  · rename_i h
    by_cases hc : q = p ∧ j = k
    · rw [if_pos hc, hc.1, hc.2, h]
    · rw [if_neg hc]
  · exact setFd_fd x.1 p k 0 q j
theorem endStep_len (x : Fs × List Opn) (p : Fin 6) (k : Fin 8) : (endStep x p k).2.length ≤ x.2.length + 1 := by
  unfold endStep
  split
  · omega
  · simp only
    split
    · simp
    · omega
theorem endK_facts (s : Fs) (p : Fin 6) : ∀ k, k ≤ 8 → (endK s p k).1.has = s.has ∧ (endK s p k).1.all = s.all ∧ (∀ q j, (endK s p k).1.fd q j = if q = p ∧ j.1 < k then 0 else s.fd q j) ∧ (endK s p k).2.length ≤ k
  | 0, _ => ⟨rfl, rfl, fun q j => by rw [if_neg (by omega)]; rfl, Nat.le_refl _⟩
  | k + 1, h => by
    obtain ⟨h1, h2, h3, h4⟩ := endK_facts s p k (by omega)
    rw [endK_succ s p k (by omega)]
    refine ⟨(endStep_has _ _ _).trans h1, (endStep_all _ _ _).trans h2, fun q j => ?_, by have := endStep_len (endK s p k) p ⟨k, by omega⟩; omega⟩
    rw [endStep_fd, h3]
    by_cases hq : q = p
    · by_cases hj : j.1 < k
      · rw [if_neg (fun e => by have e2 := congrArg Fin.val e.2; simp only at e2; omega), if_pos ⟨hq, hj⟩, if_pos ⟨hq, by omega⟩]
      · by_cases hj2 : j.1 = k
        · rw [if_pos ⟨hq, by ext; exact hj2⟩, if_pos ⟨hq, by omega⟩]
        · rw [if_neg (fun e => hj2 (by rw [e.2])), if_neg (fun e => hj e.2), if_neg (fun e => by have := e.2; omega)]
    · rw [if_neg (fun e => hq e.1), if_neg (fun e => hq e.1), if_neg (fun e => hq e.1)]
theorem endK_at (s : Fs) (p : Fin 6) (k : Nat) (h : k < 8) : (endK s p k).1.fd p ⟨k, h⟩ = s.fd p ⟨k, h⟩ := by
  rw [(endK_facts s p k (by omega)).2.2.1, if_neg (by simp)]
theorem endK_skip (s : Fs) (p : Fin 6) (k : Nat) (h : k < 8) (h0 : s.fd p ⟨k, h⟩ = 0) : endK s p (k + 1) = endK s p k := by
  rw [endK_succ s p k h]
  unfold endStep
  rw [if_pos (by rw [endK_at s p k h]; exact h0)]
theorem endK_skips (s : Fs) (p : Fin 6) (K : Nat) : ∀ k, K ≤ k → k ≤ 8 → (∀ j (hj : j < 8), K ≤ j → j < k → s.fd p ⟨j, hj⟩ = 0) → endK s p k = endK s p K
  | 0, h1, _, _ => by rw [show K = 0 by omega]
  | k + 1, h1, h2, h3 => by
    by_cases e : K = k + 1
    · rw [e]
    · rw [endK_skip s p k (by omega) (h3 k (by omega) (by omega) (by omega))]
      exact endK_skips s p K k (by omega) (by omega) (fun j hj a b => h3 j hj a (by omega))
theorem lsL_pre (f : Fin 8 → Nat) (a : Nat) : ∀ b, a ≤ b → lsL f a <+: lsL f b
  | 0, h => by rw [show a = 0 by omega]; exact List.prefix_refl _
  | b + 1, h => by
    by_cases e : a = b + 1
    · rw [e]; exact List.prefix_refl _
    · refine (lsL_pre f a b (by omega)).trans ?_
      rw [lsL]
      split
      · split
        · exact List.prefix_refl _
        · exact List.prefix_append _ _
      · exact List.prefix_refl _
theorem lsL_next (f : Fin 8 → Nat) : ∀ n K, K + n = 8 → (lsL f K).length < (lsL f 8).length → ∃ (k : Nat) (h : k < 8), K ≤ k ∧ f ⟨k, h⟩ ≠ 0 ∧ (lsL f 8)[(lsL f K).length]? = some k ∧ (lsL f (k + 1)).length = (lsL f K).length + 1 ∧ ∀ j (hj : j < 8), K ≤ j → j < k → f ⟨j, hj⟩ = 0
  | 0, K, hn, h => by rw [show K = 8 by omega] at h; omega
  | n + 1, K, hn, h => by
    have hK : K < 8 := by omega
    by_cases h0 : f ⟨K, hK⟩ = 0
    · have e := lsL_no f K hK h0
      rw [← e] at h
      obtain ⟨k, hk, h1, h2, h3, h4, h5⟩ := lsL_next f n (K + 1) (by omega) h
      rw [e] at h3 h4
      refine ⟨k, hk, by omega, h2, h3, h4, fun j hj a b => ?_⟩
      by_cases ej : j = K
      · subst ej; exact h0
      · exact h5 j hj (by omega) b
    · have e := lsL_yes f K hK h0
      refine ⟨K, hK, Nat.le_refl _, h0, ?_, by rw [e, List.length_append]; rfl, fun j hj a b => by omega⟩
      obtain ⟨r, hr⟩ := lsL_pre f (K + 1) 8 (by omega)
      rw [← hr, e, List.append_assoc, List.getElem?_append_right (Nat.le_refl _)]
      simp
theorem lsL_done (f : Fin 8 → Nat) (K : Nat) (hK : K ≤ 8) (h : (lsL f K).length = (lsL f 8).length) (j : Nat) (hj : j < 8) (hKj : K ≤ j) : f ⟨j, hj⟩ = 0 := by
  by_cases h0 : f ⟨j, hj⟩ = 0
  · exact h0
  · have e := lsL_yes f j hj h0
    have h1 := (lsL_pre f (j + 1) 8 (by omega)).length_le
    have h2 := (lsL_pre f K j hKj).length_le
    rw [e, List.length_append, List.length_singleton] at h1
    omega
def unHas (t : Fs) (p : Fin 6) : Fs := { t with has := upd t.has p false }
theorem unHas_fd (t : Fs) (p : Fin 6) : (unHas t p).fd = t.fd := rfl
theorem unHas_has (t : Fs) (p : Fin 6) : (unHas t p).has = upd t.has p false := rfl
def endS (s : Fs) (p : Fin 6) : Fs := unHas (endK s p 8).1 p
theorem endS_fd (s : Fs) (p : Fin 6) : (endS s p).fd = (endK s p 8).1.fd := by unfold endS; exact unHas_fd _ _
theorem endS_has (s : Fs) (p : Fin 6) : (endS s p).has = upd s.has p false := by unfold endS; rw [unHas_has, (endK_facts s p 8 (Nat.le_refl _)).1]
def endG (s : Fs) (p : Fin 6) : List Opn := (endK s p 8).2
theorem endK_lv {s : Fs} {p : Fin 6} {k m : Nat} (hk : k ≤ 8) (h : Lv (endK s p k).1 m) : Lv s m := by
  by_cases hc : ∃ q j, s.fd q j = m
  · obtain ⟨q, j, e⟩ := hc
    exact ⟨h.1, by rw [← e]; exact cntN_has s.fd q j⟩
  · exfalso
    have h2 := h.2
    rw [cntN_no _ m (fun q j e => ?_)] at h2
    · omega
    · rw [(endK_facts s p k hk).2.2.1] at e
      split at e
      · exact h.1 e.symm
      · exact hc ⟨q, j, e⟩
/-- A process is no more. -/
theorem Fb.gone {B : Nat} {w : World} {L : Lo} {t : Fs} (h : Fb B w L t) (p : Fin 6) (hz : ∀ k, t.fd p k = 0) : Fb B w L (unHas t p) := by
  have hh : ∀ q, upd t.has p false q = true → t.has q = true := fun q hq => by
    by_cases e : q = p
    · rw [e, upd_same] at hq; cases hq
    · rw [upd_other _ _ _ _ e] at hq; exact hq
  refine ⟨fun q hq => h.rg q (hh q hq), fun q q' hq hq' => h.ri q q' (hh q hq) (hh q' hq'), h.og, h.oi, ⟨h.ok.le, fun q hq k => ?_⟩⟩
  by_cases e : q = p
  · rw [e]; exact hz k
  · have hq' : upd t.has p false q = false := hq
    rw [upd_other _ _ _ _ e] at hq'
    exact h.ok.no q hq' k
theorem Fb.cellset {B : Nat} {w : World} {L : Lo} {t : Fs} (h : Fb B w L t) (b j : Nat) (v : Value) (ty : TypeId) (c : List Value) (hc : Cl w b ty c) (h1 : ty ≠ 75) (h2 : ty ≠ 69) : Fb B (w.setCell ⟨b, j, none⟩ v) L t :=
  ⟨fun p hp => ⟨(h.rg p hp).1, (h.rg p hp).2.other ((h.rg p hp).2.ne hc h1.symm) _ _⟩, h.ri, fun n hn => ⟨(h.og n hn).1, (h.og n hn).2.other ((h.og n hn).2.ne hc h2.symm) _ _⟩, h.oi, h.ok⟩
theorem end_stp {B : Nat} {w W : World} {L : Lo} {s : Fs} {p : Fin 6} (h : Ft B w L s) (hb : Fb B W L (endK s p 8).1) (ap : Apart (XF L s) w W) (ht : Cl W L.t 73 (tCs s.has L.r)) : FStp B w (W.setCell ⟨L.t, p.1, none⟩ (.pointer none)) L s (endS s p) := by
  obtain ⟨e1, e2, e3, _⟩ := endK_facts s p 8 (Nat.le_refl _)
  have hz : ∀ k, (endK s p 8).1.fd p k = 0 := fun k => by rw [e3, if_pos ⟨rfl, k.2⟩]
  have hb2 := (hb.gone p hz).cellset L.t p.1 (.pointer none) _ _ ht (by decide) (by decide)
  have es : unHas (endK s p 8).1 p = endS s p := by unfold endS; exact Eq.refl _
  rw [es] at hb2
  have hh : ∀ q, (endS s p).has q = true → s.has q = true := fun q hq => by
    rw [endS_has] at hq
    by_cases e : q = p
    · rw [e, upd_same] at hq; cases hq
    · rw [upd_other _ _ _ _ e] at hq; exact hq
  have ht2 := ht.set p.1 (.pointer none)
  have e4 := tCs_set s.has L.r false (L.r p) p
  rw [show ptr false (L.r p) = .pointer none from rfl] at e4
  rw [e4] at ht2
  have e5 : upd L.r p (L.r p) = L.r := by
    funext q
    by_cases e : q = p
    · rw [e, upd_same]
    · rw [upd_other _ _ _ _ e]
  rw [e5, ← endS_has] at ht2
  refine ⟨⟨L, rfl, ⟨h.g, ht2, hb2⟩, fun k hk => .inl ?_⟩, ap.trans (Apart.at _ _ _ _ (.inl rfl))⟩
  rcases hk with hk | ⟨q, hq, hk⟩ | ⟨n, hn, hk⟩
  · exact .inl hk
  · exact .inr (.inl ⟨q, hh q hq, hk⟩)
  · have hn2 := hn.2
    rw [endS_fd] at hn2
    exact .inr (.inr ⟨n, endK_lv (p := p) (Nat.le_refl 8) ⟨hn.1, hn2⟩, hk⟩)
theorem own_stay {w w' : World} {B t size n : Nat} {v : Value} {xs : List Value} {X : Nat → Prop} (h : w.ownsRow B t size v n xs) (k : Apart X w w') (hx : ∀ g, B ≤ g → ¬ X g) : w'.ownsRow B t size v n xs := by
  refine ⟨h.1, ?_⟩
  rcases h.2 with h0 | ⟨g, cap, cur, h1, h2, h3, h4⟩
  · exact .inl h0
  · refine .inr ⟨g, cap, cur, h1, h2, ?_, h4⟩
    rw [k.block g (Array.getElem?_eq_some_iff.1 h3).1 (hx g h2)]
    exact h3
theorem own_cell {w : World} {B t n : Nat} {v : Value} {xs : List Value} (h : w.ownsRow B t 1 v n xs) (j : Nat) (x : Value) (hx : xs[j]? = some x) : ∃ g cap, v = .slice (some ⟨g, 0, none⟩) n cap ∧ B ≤ g ∧ g < w.heap.size ∧ w.cell? ⟨g, j, none⟩ = some x := by
  have hj : j < xs.length := (List.getElem?_eq_some_iff.1 hx).1
  have hn := h.1
  rcases h.2 with ⟨rfl, h0⟩ | ⟨g, cap, cur, rfl, h1, hb, hk, _, _, htk⟩
  · omega
  · refine ⟨g, cap, rfl, h1, (Array.getElem?_eq_some_iff.1 hb).1, ?_⟩
    rw [← htk, List.getElem?_take] at hx
    split at hx
    · rw [Lib.cell_of_heap hb]
      simpa using hx
    · cases hx
theorem cell_stay {w w' : World} {X : Nat → Prop} {g j : Nat} {v : Value} (h : w.cell? ⟨g, j, none⟩ = some v) (k : Apart X w w') (hx : ¬ X g) : w'.cell? ⟨g, j, none⟩ = some v := by
  rw [World.cell?_of_block (w := w) (k.block g (World.block_lt_of_cell? w _ h) hx)]
  exact h
theorem opCs_app (l : List Opn) (x : Opn) : opCs (l ++ [x]) = opCs l ++ opC x := by unfold opCs; simp
theorem opCs_len (l : List Opn) : (opCs l).length = l.length * 3 := by
  induction l with
  | nil => rfl
  | cons x l ih =>
    show (opC x ++ opCs l).length = _
    rw [List.length_append, ih, List.length_cons]
    show 3 + _ = _
    omega
theorem opCs_one (l : List Opn) : ∀ y ∈ opCs l, y.oneCell' = true := by
  intro y hy
  obtain ⟨x, _, hx⟩ := List.mem_flatMap.1 hy
  simp only [opC, List.mem_cons, List.not_mem_nil, or_false] at hx
  rcases hx with rfl | rfl | rfl <;> rfl
theorem infoO : (Try.prog.info? 32).map (fun i => (i.zero, i.size, i.bytes)) = some (some (.agg #[.int .u8 0, .int .i64 0, .int .i64 0]), 3, 24) := by kernel_rfl
theorem new_op (w : World) (o : Opn) : ∀ j u, (opC o)[j]? = some u → (w.alloc (.cells #[.int .u8 o.k, .int .i64 o.r, .int .i64 o.p] 32)).cell? ((⟨w.heap.size, 0, none⟩ : Addr).add j) = some u := by
  intro j u h
  have e : (⟨w.heap.size, 0, none⟩ : Addr).add j = ⟨w.heap.size, j, none⟩ := by
    by_cases hj : j = 0
    · subst hj; rfl
    · simp [Addr.add, hj]
  rw [e, Lib.cell_of_heap (heap_alloc_new w _)]
  show (opC o).toArray[j]? = some u
  simpa using h
set_option maxHeartbeats 1000000 in
theorem end_bad (B : Nat) (L : Lo) (s : Fs) (pid : Int) (w : World) (h : Ft B w L s) (hp : NoP s pid) : Calls Try.prog 20 #[.pointer (some ⟨L.t, 0, none⟩), .int .i64 pid] w fun r w' => r = .returned (.tuple #[.slice none 0 0, .int .i64 5]) ∧ w' = w := by
  have cO := of_bad B L s pid w h hp
  clear h hp
  go_enter Try.func20, Try.ntmps20
  go_wp2_with fail
  refine cO.mono ?_
  rintro r W ⟨rfl, rfl⟩
  clear cO
  go_wp2
  go_ret2
  exact ⟨rfl, rfl⟩
end Go.Proofs.Ytbkpkcndmlapfaa
