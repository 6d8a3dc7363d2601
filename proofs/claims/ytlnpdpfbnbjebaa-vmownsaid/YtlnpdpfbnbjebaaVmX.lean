/- VmOwn: a vm and what each process should see, beside each other. -/
import Derived.Test.YtlnpdpfbnbjebaaVmW
namespace Go.Proofs.Ytlnpdpfbnbjebaa
open Go.RowKit Go.Maps
set_option linter.unusedVariables false
set_option maxRecDepth 100000
def X2 (a b : Nat) (k : Nat) : Prop := k = a ∨ k = b
theorem prc_has (s : Vs) (p : Fin 6) (h : s.has p = true) : prc s p.1 = some p := by
  rcases prc_cases s p.1 with ⟨_, h2⟩ | ⟨q, h1, h2, _⟩
  · rcases h2 with h2 | h2 | ⟨q, h2, h3⟩
    · omega
    · omega
    · have : p = q := by ext; omega
      rw [← this, h] at h3
      cases h3
  · rw [h1]
    congr 1
    ext
    omega
theorem prc_no (s : Vs) (p : Fin 6) (h : s.has p = false) : prc s p.1 = none := by
  rcases prc_cases s p.1 with ⟨h1, _⟩ | ⟨q, _, h2, h3⟩
  · exact h1
  · have : p = q := by ext; omega
    rw [← this, h] at h3
    cases h3
structure Ow (w W : World) (vb ab ob N : Nat) (HL : List Bool) (OL : List Int) (c : Nat) : Prop where
  v : ∃ l s V, Va w.heap.size W vb N l s V c ∧ ¬ XV l s ab ∧ ¬ XV l s ob ∧ (∀ p : Fin 6, s.has p = HL.getD p.1 false) ∧ ∀ p : Fin 6, s.has p = true → (∀ k : Nat, k < 4 → s.pg p k ≠ none) ∧ ∀ a, a < 128 → V p a = OL.getD (p.1 * 128 + a) 0
  ha : Cl W ab 31 (HL.map Value.bool)
  ho : Cl W ob 33 (OL.map (Value.int .u8))
  hl : HL.length = 6
  ol : OL.length = 768
  k : Below w.heap.size w W
  la : w.heap.size ≤ ab
  lo : w.heap.size ≤ ob
  ne : ab ≠ ob
theorem Ow.up {w W W1 : World} {vb ab ob N c : Nat} {HL : List Bool} {OL : List Int} (h : Ow w W vb ab ob N HL OL c) (k : Below W.heap.size W W1) : Ow w W1 vb ab ob N HL OL c := by
  obtain ⟨l, s, V, hv, r⟩ := h.v
  exact ⟨⟨l, s, V, ⟨hv.e, hv.v.below k, hv.i, hv.cp⟩, r⟩, h.ha.below k, h.ho.below k, h.hl, h.ol, h.k.trans (k.mono h.k.size), h.la, h.lo, h.ne⟩
theorem ow_next {w W w' W' : World} {vb ab ob N c c' : Nat} {HL HL' : List Bool} {OL OL' : List Int} (h : Ow w W vb ab ob N HL OL c) {l : Lo} {s s' : Vs} {V V' : Fin 6 → Nat → Int} (hv : Va w.heap.size W vb N l s V c) (hxa : ¬ XV l s ab) (hxo : ¬ XV l s ob) (ht : Vt w.heap.size W w' vb N l s s' V' c') (hc : c' ≤ c + 16) (ap : Apart (X2 ab ob) w' W') (ha : Cl W' ab 31 (HL'.map Value.bool)) (ho : Cl W' ob 33 (OL'.map (Value.int .u8))) (hl : HL'.length = 6) (ol : OL'.length = 768)
    (r1 : ∀ p : Fin 6, s'.has p = HL'.getD p.1 false) (r2 : ∀ p : Fin 6, s'.has p = true → (∀ k : Nat, k < 4 → s'.pg p k ≠ none) ∧ ∀ a, a < 128 → V' p a = OL'.getD (p.1 * 128 + a) 0) : Ow w W' vb ab ob N HL' OL' (c + 16) := by
  obtain ⟨⟨l', hv', hx'⟩, hap⟩ := ht
  have hab := h.ha.lt
  have hob := h.ho.lt
  have na : ¬ XV l' s' ab := fun e => (hx' _ e).elim hxa (fun e => by omega)
  have no : ¬ XV l' s' ob := fun e => (hx' _ e).elim hxo (fun e => by omega)
  refine ⟨⟨l', s', V', ⟨hv'.e, hv'.v.stay ap (fun j hj e => ?_), hv'.i, hv'.cp.1, by have := hv'.cp.2; omega⟩, na, no, r1, r2⟩, ha, ho, hl, ol, ?_, h.la, h.lo, h.ne⟩
  · rcases e with e | e
    · rw [e] at hj; exact na hj
    · rw [e] at hj; exact no hj
  · have h1 := hap.below w.heap.size (fun _ hi => hv.v.ge hi) h.k.size
    refine (h.k.trans h1).trans (ap.below w.heap.size (fun k e => ?_) (Nat.le_trans h.k.size hap.size))
    rcases e with e | e
    · rw [e]; exact h.la
    · rw [e]; exact h.lo
/-- What a call leaves, for what is written behind it. -/
def OwK (w w' : World) (vb ab ob N c : Nat) (HL : List Bool) (OL : List Int) : Prop := ∀ W', Apart (X2 ab ob) w' W' → Cl W' ab 31 (HL.map Value.bool) → Cl W' ob 33 (OL.map (Value.int .u8)) → Ow w W' vb ab ob N HL OL (c + 16)
theorem flag_at (L : List Bool) (k j : Nat) (b : Bool) (hk : k < L.length) : (L.set k b).getD j false = if j = k then b else L.getD j false := by
  by_cases e : j = k
  · subst e
    rw [if_pos rfl, List.getD_eq_getElem?_getD, List.getElem?_set_self hk]
    rfl
  · rw [if_neg e, List.getD_eq_getElem?_getD, List.getElem?_set_ne (fun x => e x.symm), ← List.getD_eq_getElem?_getD]
theorem ow_end (w W0 W : World) (kB : Below W0.heap.size W0 W) (vb ab ob N c : Nat) (HL : List Bool) (OL : List Int) (pid : Int) (h0 : Ow w W0 vb ab ob N HL OL c) : Calls Try.prog 15 #[.pointer (some ⟨vb, 0, none⟩), .int .i64 pid] W fun r w' => ∃ e : Int, r = .returned (.int .i64 e) ∧ Cl w' ab 31 (HL.map Value.bool) ∧ Cl w' ob 33 (OL.map (Value.int .u8)) ∧ (∀ g, W0.heap.size ≤ g → g < W.heap.size → w'.heap[g]? = W.heap[g]?) ∧ (e ≠ 0 ∧ OwK w w' vb ab ob N c HL OL ∨ e = 0 ∧ ∃ p : Fin 6, pid = p.1 ∧ OwK w w' vb ab ob N c (HL.set p.1 false) OL) := by
  have h := h0.up kB
  obtain ⟨l, s, V, hv0, hxa, hxo, r1, r2⟩ := h0.v
  have hv : Va w.heap.size W vb N l s V c := ⟨hv0.e, hv0.v.below kB, hv0.i, hv0.cp⟩
  have hst : ∀ {w' : World}, Apart (XV l s) W w' → ∀ g, W0.heap.size ≤ g → g < W.heap.size → w'.heap[g]? = W.heap[g]? := fun ap g g1 g2 => ap.block g g2 (fun e => absurd (hv0.v.lts g e) (by omega))
  refine (va_end w.heap.size l s V vb N c pid W hv).mono ?_
  rintro r w' ⟨rfl, s', ht, hs⟩
  refine ⟨_, rfl, h.ha.stay ht.ap hxa, h.ho.stay ht.ap hxo, hst ht.ap, ?_⟩
  unfold endE
  rcases hs with ⟨e, rfl⟩ | ⟨p, e, k2⟩
  · rw [e]
    exact .inl ⟨by simp, fun W' ap ha ho => ow_next h hv hxa hxo ht (by omega) ap ha ho h.hl h.ol r1 r2⟩
  · rw [e]
    have hpid : pid = p.1 := by
      rcases prc_cases s pid with ⟨e2, _⟩ | ⟨q, e2, e3, _⟩
      · rw [e] at e2; cases e2
      · rw [e] at e2
        injection e2 with e2
        rw [e2]; exact e3
    refine .inr ⟨rfl, p, hpid, fun W' ap ha ho => ow_next h hv hxa hxo ht (by omega) ap ha ho (by rw [List.length_set]; exact h.hl) h.ol (fun q => ?_) (fun q hq => ?_)⟩
    · rw [k2.has, flag_at _ _ _ _ (by rw [h.hl]; omega)]
      by_cases c : q = p
      · subst c
        rw [upF_same, if_pos rfl]
      · rw [upF_other _ _ _ _ c, if_neg (fun x => c (by ext; exact x))]
        exact r1 q
    · rw [k2.has] at hq
      by_cases c : q = p
      · subst c
        rw [upF_same] at hq
        cases hq
      · rw [upF_other _ _ _ _ c] at hq
        rw [k2.pg, upF_other _ _ _ _ c]
        exact r2 q hq
/-- A row of one's own. -/
def rwL (OL : List Int) (p : Nat) : List Int := (OL.drop (p * 128)).take 128
theorem rwL_len {OL : List Int} (h : OL.length = 768) {p : Nat} (hp : p < 6) : (rwL OL p).length = 128 := by
  unfold rwL
  rw [List.length_take, List.length_drop]
  omega
theorem rwL_at {OL : List Int} {p a : Nat} (ha : a < 128) : (rwL OL p).getD a 0 = OL.getD (p * 128 + a) 0 := by
  rw [rwL, List.getD_eq_getElem?_getD, List.getD_eq_getElem?_getD, List.getElem?_take, if_pos ha, List.getElem?_drop]
theorem row_at {OL : List Int} (h : OL.length = 768) {p q r a : Nat} (hp : p < 6) (hq : q < 6) (hr : r < 6) (ha : a < 128) : (putL OL (q * 128) (rwL OL p)).getD (r * 128 + a) 0 = if r = q then OL.getD (p * 128 + a) 0 else OL.getD (r * 128 + a) 0 := by
  have hl := rwL_len h hp
  by_cases e : r = q
  · subst e
    rw [if_pos rfl, putL_in (by rw [hl]; omega) (by rw [hl]; exact ha), rwL_at ha]
  · rw [if_neg e, putL_out (by rw [hl]; omega) (by rw [hl]; omega)]
theorem ow_fork (w W0 W : World) (kB : Below W0.heap.size W0 W) (vb ab ob N c : Nat) (HL : List Bool) (OL : List Int) (pid to : Int) (h0 : Ow w W0 vb ab ob N HL OL c) : Calls Try.prog 16 #[.pointer (some ⟨vb, 0, none⟩), .int .i64 pid, .int .i64 to] W fun r w' => ∃ e : Int, r = .returned (.int .i64 e) ∧ Cl w' ab 31 (HL.map Value.bool) ∧ Cl w' ob 33 (OL.map (Value.int .u8)) ∧ (∀ g, W0.heap.size ≤ g → g < W.heap.size → w'.heap[g]? = W.heap[g]?) ∧ (e ≠ 0 ∧ OwK w w' vb ab ob N c HL OL ∨ e = 0 ∧ ∃ p q : Fin 6, pid = p.1 ∧ to = q.1 ∧ p.1 ≠ q.1 ∧ OwK w w' vb ab ob N c (HL.set q.1 true) (putL OL (q.1 * 128) (rwL OL p.1))) := by
  have h := h0.up kB
  obtain ⟨l, s, V, hv0, hxa, hxo, r1, r2⟩ := h0.v
  have hv : Va w.heap.size W vb N l s V c := ⟨hv0.e, hv0.v.below kB, hv0.i, hv0.cp⟩
  have hst : ∀ {w' : World}, Apart (XV l s) W w' → ∀ g, W0.heap.size ≤ g → g < W.heap.size → w'.heap[g]? = W.heap[g]? := fun ap g g1 g2 => ap.block g g2 (fun e => absurd (hv0.v.lts g e) (by omega))
  refine (va_fork w.heap.size l s V vb N c pid to W hv h.k.size).mono ?_
  rintro r w' ⟨rfl, hs⟩
  rcases hs with ⟨he, ht⟩ | ⟨p, q, he, hp, hpid, hto, hhp, hhq, ht⟩
  · exact ⟨_, rfl, h.ha.stay ht.ap hxa, h.ho.stay ht.ap hxo, hst ht.ap, .inl ⟨he, fun W' ap ha ho => ow_next h hv hxa hxo ht (by omega) ap ha ho h.hl h.ol r1 r2⟩⟩
  · have hpq : p ≠ q := fun e => by rw [e, hhq] at hhp; cases hhp
    refine ⟨_, rfl, h.ha.stay ht.ap hxa, h.ho.stay ht.ap hxo, hst ht.ap, .inr ⟨he, p, q, hpid, hto, fun e => hpq (by ext; exact e), fun W' ap ha ho => ow_next h hv hxa hxo ht (by omega) ap ha ho (by rw [List.length_set]; exact h.hl) (by rw [putL_length (by rw [rwL_len h.ol p.2, h.ol]; omega)]; exact h.ol) (fun r => ?_) (fun r hr => ?_)⟩⟩
    · show upF s.has q true r = _
      rw [flag_at _ _ _ _ (by rw [h.hl]; omega)]
      by_cases c : r = q
      · subst c
        rw [upF_same, if_pos rfl]
      · rw [upF_other _ _ _ _ c, if_neg (fun x => c (by ext; exact x))]
        exact r1 r
    · have hr' : upF s.has q true r = true := hr
      show (∀ k : Nat, k < 4 → upF s.pg q (s.pg p) r k ≠ none) ∧ ∀ a, a < 128 → (if r = q then V p else V r) a = _
      by_cases c : r = q
      · subst c
        rw [upF_same, if_pos rfl]
        refine ⟨(r2 p hhp).1, fun a ha => ?_⟩
        rw [row_at h.ol p.2 r.2 r.2 ha, if_pos rfl]
        exact (r2 p hhp).2 a ha
      · rw [upF_other _ _ _ _ c] at hr'
        rw [upF_other _ _ _ _ c, if_neg c]
        refine ⟨(r2 r hr').1, fun a ha => ?_⟩
        rw [row_at h.ol p.2 q.2 r.2 ha, if_neg (fun x => c (by ext; exact x))]
        exact (r2 r hr').2 a ha
theorem ow_poke (w W0 W : World) (kB : Below W0.heap.size W0 W) (vb ab ob N c : Nat) (HL : List Bool) (OL : List Int) (pid b : Int) (a : Nat) (ha1 : a < 128) (hc : c ≤ 90000) (h0 : Ow w W0 vb ab ob N HL OL c) : Calls Try.prog 17 #[.pointer (some ⟨vb, 0, none⟩), .int .i64 pid, .int .i64 a, .int .u8 b] W fun r w' => ∃ e : Int, r = .returned (.int .i64 e) ∧ Cl w' ab 31 (HL.map Value.bool) ∧ Cl w' ob 33 (OL.map (Value.int .u8)) ∧ (∀ g, W0.heap.size ≤ g → g < W.heap.size → w'.heap[g]? = W.heap[g]?) ∧ (e ≠ 0 ∧ OwK w w' vb ab ob N c HL OL ∨ e = 0 ∧ ∃ p : Fin 6, pid = p.1 ∧ OwK w w' vb ab ob N c HL (OL.set (p.1 * 128 + a) b)) := by
  have h := h0.up kB
  obtain ⟨l, s, V, hv0, hxa, hxo, r1, r2⟩ := h0.v
  have hv : Va w.heap.size W vb N l s V c := ⟨hv0.e, hv0.v.below kB, hv0.i, hv0.cp⟩
  have hst : ∀ {w' : World}, Apart (XV l s) W w' → ∀ g, W0.heap.size ≤ g → g < W.heap.size → w'.heap[g]? = W.heap[g]? := fun ap g g1 g2 => ap.block g g2 (fun e => absurd (hv0.v.lts g e) (by omega))
  refine (va_poke w.heap.size l s V vb N c pid a b W hv hc).mono ?_
  rintro r w' ⟨rfl, ht⟩
  refine ⟨_, rfl, h.ha.stay ht.ap hxa, h.ho.stay ht.ap hxo, hst ht.ap, ?_⟩
  obtain ⟨i1, i2, i3, i4, i5⟩ := fill_iv hv.i pid a 1 (fun _ => b)
  have hpg : ∀ q (k : Nat), s.pg q k ≠ none → (fillS N s pid a 1 (fun _ => b)).pg q k ≠ none := fun q k hn e => hn ((i5 q k).2 e)
  rcases prc_cases s pid with ⟨h1, h2⟩ | ⟨p, h1, h3, h2⟩
  · have e : fillE N s pid a 1 = 5 := by unfold fillE; rw [h1]
    have eV : fillV N s V pid a 1 (fun _ => b) = V := by unfold fillV; rw [h1]
    rw [eV] at ht
    rw [e]
    exact .inl ⟨by omega, fun W' ap ha ho => ow_next h hv hxa hxo ht (by omega) ap ha ho h.hl h.ol (fun q => by rw [i2]; exact r1 q) (fun q hq => ⟨fun k hk => hpg q k ((r2 q (by rw [← i2]; exact hq)).1 k hk), (r2 q (by rw [← i2]; exact hq)).2⟩)⟩
  · by_cases he : fillE N s pid a 1 = 0
    · have eV : fillV N s V pid a 1 (fun _ => b) = upV V p a b := by
        unfold fillV
        rw [h1]
        simp only [Int.toNat_natCast]
        rw [if_pos ⟨he, by omega⟩]
        rfl
      rw [eV] at ht
      refine .inr ⟨he, p, h3, fun W' ap ha ho => ow_next h hv hxa hxo ht (by omega) ap ha ho h.hl (by rw [List.length_set]; exact h.ol) (fun q => by rw [i2]; exact r1 q) (fun q hq => ?_)⟩
      rw [i2] at hq
      refine ⟨fun k hk => hpg q k ((r2 q hq).1 k hk), fun x hx => ?_⟩
      rw [set_at _ _ _ _ (by rw [h.ol]; have := p.2; omega)]
      unfold upV
      by_cases c : q = p ∧ x = a
      · obtain ⟨rfl, rfl⟩ := c
        rw [if_pos ⟨rfl, rfl⟩, if_pos rfl]
      · rw [if_neg c, if_neg (fun e => c ⟨by ext; omega, by omega⟩)]
        exact (r2 q hq).2 x hx
    · have eV : fillV N s V pid a 1 (fun _ => b) = V := by
        unfold fillV
        rw [h1]
        simp only
        rw [if_neg (fun x => he x.1)]
      rw [eV] at ht
      exact .inl ⟨he, fun W' ap ha ho => ow_next h hv hxa hxo ht (by omega) ap ha ho h.hl h.ol (fun q => by rw [i2]; exact r1 q) (fun q hq => ⟨fun k hk => hpg q k ((r2 q (by rw [← i2]; exact hq)).1 k hk), (r2 q (by rw [← i2]; exact hq)).2⟩)⟩
theorem ow_peek (w W : World) (vb ab ob N c : Nat) (HL : List Bool) (OL : List Int) (p a : Nat) (hp : p < 6) (ha : a < 128) (h : Ow w W vb ab ob N HL OL c) : Calls Try.prog 18 #[.pointer (some ⟨vb, 0, none⟩), .int .i64 (p : Nat), .int .i64 (a : Nat)] W fun r w' => r = .returned (.tuple #[.int .u8 (if HL.getD p false = true then OL.getD (p * 128 + a) 0 else 0), .int .i64 (if HL.getD p false = true then 0 else 5)]) ∧ w' = W := by
  obtain ⟨l, s, V, hv, hxa, hxo, r1, r2⟩ := h.v
  have c := va_peek w.heap.size l s V vb N c (p : Nat) (a : Nat) W hv
  have r := r1 ⟨p, hp⟩
  cases hh : s.has ⟨p, hp⟩ with
  | false =>
    have e : peekV s V (p : Nat) (a : Nat) = (0, 5) := by unfold peekV; rw [show ((p : Nat) : Int) = ((⟨p, hp⟩ : Fin 6).1 : Int) from rfl, prc_no s ⟨p, hp⟩ hh]
    rw [e] at c
    rw [hh] at r
    rw [← r]
    exact c
  | true =>
    have e : peekV s V (p : Nat) (a : Nat) = (OL.getD (p * 128 + a) 0, 0) := by
      unfold peekV
      rw [show ((p : Nat) : Int) = ((⟨p, hp⟩ : Fin 6).1 : Int) from rfl, prc_has s ⟨p, hp⟩ hh]
      have e1 : inA (a : Nat) 1 = true := by
        unfold inA
        rw [decide_eq_true (by omega), decide_eq_true (by omega), decide_eq_true (by omega)]
        rfl
      simp only [e1, Bool.true_eq_false, if_false, Int.toNat_natCast]
      rw [if_neg ((r2 ⟨p, hp⟩ hh).1 (a / 32) (by omega)), (r2 ⟨p, hp⟩ hh).2 a ha]
    rw [e] at c
    rw [hh] at r
    rw [← r]
    exact c
end Go.Proofs.Ytlnpdpfbnbjebaa
