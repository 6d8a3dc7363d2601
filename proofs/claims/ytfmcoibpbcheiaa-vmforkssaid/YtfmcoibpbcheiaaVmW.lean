/- The program's vm: End, Fork, Peek, whatever they are asked; what each process sees then. -/
import Derived.Test.YtfmcoibpbcheiaaVmV
namespace Go.Proofs.Ytfmcoibpbcheiaa
open Go.RowKit Go.Maps
set_option linter.unusedVariables false
set_option maxRecDepth 100000
theorem fkR_at (rf : List Int) (f : Int → Option Int) (j : Nat) (hj : j < 64) : (fkR rf f).getD j 0 = rf.getD j 0 + (pk1 f (j : Int) : Int) := by
  rw [fkR, List.getD_eq_getElem?_getD, List.getElem?_map, List.getElem?_range hj]
  rfl
def fkV (V : Fin 6 → Nat → Int) (p q : Fin 6) : Fin 6 → Nat → Int := fun r => if r = q then V p else V r
theorem fork_iv {N : Nat} {s : Vs} {V : Fin 6 → Nat → Int} (h : Iv N s V) {p q : Fin 6} (hp : s.has p = true) (hq : s.has q = false) : Iv N (fkS s p q) (fkV V p q) := by
  have hN := h.fr.hi
  have hpq : p ≠ q := fun e => by rw [e, hq] at hp; cases hp
  have hqn := h.fr.no q hq
  have hpg : ∀ r z v, (fkS s p q).pg r z = some v → (r = q ∧ s.pg p z = some v) ∨ (r ≠ q ∧ s.pg r z = some v) := fun r z v hv => by
    have hv' : upF s.pg q (s.pg p) r z = some v := hv
    by_cases e : r = q
    · subst e
      rw [upF_same] at hv'
      exact .inl ⟨rfl, hv'⟩
    · rw [upF_other _ _ _ _ e] at hv'
      exact .inr ⟨e, hv'⟩
  have hrf : ∀ j : Nat, j < 64 → (fkS s p q).rf.getD j 0 = (cnt (fkS s p q).pg (j : Int) : Int) := fun j hj => by
    show (fkR s.rf (s.pg p)).getD j 0 = (cnt (upF s.pg q (s.pg p)) (j : Int) : Int)
    rw [fkR_at _ _ _ hj, h.fr.rf j hj]
    have := cnt_up s.pg (s.pg p) (j : Int) q
    rw [hqn, pk1_none] at this
    omega
  refine ⟨⟨h.fr.n, h.fr.lo, hN, by show (fkR s.rf (s.pg p)).length = 64; simp [fkR], fun r hr => ?_, fun r z v hv => ?_, hrf⟩, h.L, fun r k f hf i hi => ?_, fun j hj hr i hi => ?_⟩
  · have hr' : upF s.has q true r = false := hr
    have e : r ≠ q := fun e => by
      subst e
      rw [upF_same] at hr'
      cases hr'
    rw [upF_other _ _ _ _ e] at hr'
    show upF s.pg q (s.pg p) r = _
    rw [upF_other _ _ _ _ e]
    exact h.fr.no r hr'
  · rcases hpg r z v hv with ⟨_, hs⟩ | ⟨_, hs⟩
    · exact h.fr.pgs p z v hs
    · exact h.fr.pgs r z v hs
  · show (if f = -1 then 0 else s.L.getD (f.toNat * 32 + i) 0) = (if r = q then V p else V r) (k * 32 + i)
    rcases hpg r k f hf with ⟨e, hs⟩ | ⟨e, hs⟩
    · rw [if_pos e]
      exact h.vw p k f hs i hi
    · rw [if_neg e]
      exact h.vw r k f hs i hi
  · have h1 : (fkR s.rf (s.pg p)).getD j 0 = 0 := hr
    rw [fkR_at _ _ _ (by omega)] at h1
    have := h.fr.bnd j (by omega)
    exact h.z j hj (by omega) i hi
def forkE (s : Vs) (pid to : Int) : Int := match prc s pid with | none => 5 | some _ => freshE s to
def endE (s : Vs) (pid : Int) : Int := match prc s pid with | none => 5 | some _ => 0
set_option maxHeartbeats 2000000 in
theorem vfork_noent (B : Nat) (l : Lo) (s : Vs) (pid to : Int) (w : World) (h : Vb B w l s) (hp : NoP s pid) : Calls Try.prog 24 #[.pointer (some ⟨l.b, 0, none⟩), .int .i64 pid, .int .i64 to] w fun r w' => r = .returned (.int .i64 5) ∧ w' = w := by
  have cO := of_bad B l s pid w h hp
  clear h hp
  go_enter Try.func24, Try.ntmps24
  go_wp2_with fail
  refine cO.mono ?_
  rintro r0 W ⟨rfl, hW⟩
  rw [hW]
  clear cO hW
  go_wp2
  go_ret
  exact ⟨rfl, rfl⟩
set_option maxHeartbeats 2000000 in
theorem vfork_bad (B : Nat) (l : Lo) (s : Vs) (p : Fin 6) (to : Int) (w : World) (h : Vb B w l s) (hp : s.has p = true) (he : freshE s to ≠ 0) : Calls Try.prog 24 #[.pointer (some ⟨l.b, 0, none⟩), .int .i64 p.1, .int .i64 to] w fun r w' => r = .returned (.int .i64 (freshE s to)) ∧ w' = w := by
  have cO := of_ok B l s p w h hp
  have cV := vacant_any B l s to w h
  clear h hp
  generalize freshE s to = e at *
  go_enter Try.func24, Try.ntmps24
  go_wp2_with fail
  refine cO.mono ?_
  rintro r0 W ⟨rfl, hW⟩
  rw [hW]
  clear cO hW
  go_wp2_with fail
  refine cV.mono ?_
  rintro r0 W ⟨rfl, hW⟩
  rw [hW]
  clear cV hW
  go_wp2
  go_ret
  exact ⟨rfl, rfl⟩
set_option maxHeartbeats 2000000 in
theorem vend_noent (B : Nat) (l : Lo) (s : Vs) (pid : Int) (w : World) (h : Vb B w l s) (hp : NoP s pid) : Calls Try.prog 11 #[.pointer (some ⟨l.b, 0, none⟩), .int .i64 pid] w fun r w' => r = .returned (.int .i64 5) ∧ w' = w := by
  have cO := of_bad B l s pid w h hp
  clear h hp
  go_enter Try.func11, Try.ntmps11
  go_wp2_with fail
  refine cO.mono ?_
  rintro r0 W ⟨rfl, hW⟩
  rw [hW]
  clear cO hW
  go_wp2
  go_ret
  exact ⟨rfl, rfl⟩
/-- A vm with what is known of it, what each process sees, and how often at most one was copied. -/
structure Va (B : Nat) (w : World) (vb N : Nat) (l : Lo) (s : Vs) (V : Fin 6 → Nat → Int) (c : Nat) : Prop where
  e : l.b = vb
  v : Vb B w l s
  i : Iv N s V
  cp : 0 ≤ s.cp ∧ s.cp ≤ c
/-- What a call comes to: the same, or more, in the same place or in new ones. -/
structure Vt (B : Nat) (w w' : World) (vb N : Nat) (l : Lo) (s s' : Vs) (V' : Fin 6 → Nat → Int) (c : Nat) : Prop where
  out : ∃ l', Va B w' vb N l' s' V' c ∧ ∀ k, XV l' s' k → XV l s k ∨ w.heap.size ≤ k
  ap : Apart (XV l s) w w'
theorem Vt.same {B : Nat} {w w' : World} {vb N : Nat} {l : Lo} {s : Vs} {V : Fin 6 → Nat → Int} {c : Nat} (h : Va B w vb N l s V c) (k : Below w.heap.size w w') : Vt B w w' vb N l s s V c := ⟨⟨l, ⟨h.e, h.v.below k, h.i, h.cp⟩, fun _ => .inl⟩, Apart.of_below k⟩
theorem va_end (B : Nat) (l : Lo) (s : Vs) (V : Fin 6 → Nat → Int) (vb N c : Nat) (pid : Int) (w : World) (h : Va B w vb N l s V c) : Calls Try.prog 11 #[.pointer (some ⟨vb, 0, none⟩), .int .i64 pid] w fun r w' => r = .returned (.int .i64 (endE s pid)) ∧ ∃ s', Vt B w w' vb N l s s' V c ∧ ((prc s pid = none ∧ s' = s) ∨ ∃ p, prc s pid = some p ∧ EndR N s p s') := by
  obtain ⟨rfl, hv, hi, hc⟩ := h
  unfold endE
  rcases prc_cases s pid with ⟨h1, h2⟩ | ⟨p, h1, rfl, h2⟩
  · refine (vend_noent B l s pid w hv h2).mono ?_
    rintro r w' ⟨rfl, rfl⟩
    rw [h1]
    exact ⟨rfl, s, Vt.same ⟨rfl, hv, hi, hc⟩ (Below.refl _ _), .inl ⟨rfl, rfl⟩⟩
  · refine (vend_ok B l s N p w hv hi.fr hi.L h2).mono ?_
    rintro r w' ⟨rfl, ⟨t, k1, k2⟩, k3⟩
    rw [h1]
    refine ⟨rfl, t, ⟨⟨l, ⟨rfl, k1, k2.iv hi, by rw [k2.cp]; exact hc⟩, fun k hk => .inl ?_⟩, k3⟩, .inr ⟨p, rfl, k2⟩⟩
    rcases hk with e | e | ⟨q, hq, e⟩
    · exact .inl e
    · exact .inr (.inl e)
    · rw [k2.has] at hq
      by_cases c : q = p
      · subst c
        rw [upF_same] at hq
        cases hq
      · rw [upF_other _ _ _ _ c] at hq
        exact .inr (.inr ⟨q, hq, e⟩)
theorem va_fork (B : Nat) (l : Lo) (s : Vs) (V : Fin 6 → Nat → Int) (vb N c : Nat) (pid to : Int) (w : World) (h : Va B w vb N l s V c) (hB : B ≤ w.heap.size) : Calls Try.prog 24 #[.pointer (some ⟨vb, 0, none⟩), .int .i64 pid, .int .i64 to] w fun r w' => r = .returned (.int .i64 (forkE s pid to)) ∧ ((forkE s pid to ≠ 0 ∧ Vt B w w' vb N l s s V c) ∨ ∃ p q : Fin 6, forkE s pid to = 0 ∧ prc s pid = some p ∧ pid = p.1 ∧ to = q.1 ∧ s.has p = true ∧ s.has q = false ∧ Vt B w w' vb N l s (fkS s p q) (fkV V p q) c) := by
  obtain ⟨rfl, hv, hi, hc⟩ := h
  unfold forkE
  rcases prc_cases s pid with ⟨h1, h2⟩ | ⟨p, h1, rfl, h2⟩
  · refine (vfork_noent B l s pid to w hv h2).mono ?_
    rintro r w' ⟨rfl, rfl⟩
    rw [h1]
    exact ⟨rfl, .inl ⟨by simp, Vt.same ⟨rfl, hv, hi, hc⟩ (Below.refl _ _)⟩⟩
  · rw [h1]
    by_cases he : freshE s to = 0
    · obtain ⟨q, rfl, hq⟩ := freshE_ok s to he
      refine (vfork_ok B l s p q w hv hB h2 hq (hi.fr.pgsO p) (fun j hj => by have := hi.fr.bnd j hj; omega)).mono ?_
      rintro r w' ⟨rfl, k1, k2⟩
      refine ⟨by simp only [he], .inr ⟨p, q, he, rfl, rfl, rfl, h2, hq, ⟨⟨⟨l.b, l.m, upF l.r q w.heap.size⟩, ⟨rfl, k1, fork_iv hi h2 hq, hc⟩, fun k hk => ?_⟩, k2⟩⟩⟩
      rcases hk with e | e | ⟨r, hr, e⟩
      · exact .inl (.inl e)
      · exact .inl (.inr (.inl e))
      · have hr' : upF s.has q true r = true := hr
        have e' : k = upF l.r q w.heap.size r := e
        by_cases c : r = q
        · subst c
          rw [upF_same] at e'
          exact .inr (by omega)
        · rw [upF_other _ _ _ _ c] at hr' e'
          exact .inl (.inr (.inr ⟨r, hr', e'⟩))
    · refine (vfork_bad B l s p to w hv h2 he).mono ?_
      rintro r w' ⟨rfl, rfl⟩
      exact ⟨rfl, .inl ⟨he, Vt.same ⟨rfl, hv, hi, hc⟩ (Below.refl _ _)⟩⟩
/-- What is seen when bytes were written. -/
def fillV (N : Nat) (s : Vs) (V : Fin 6 → Nat → Int) (pid addr : Int) (m : Nat) (b : Nat → Int) : Fin 6 → Nat → Int :=
  match prc s pid with
  | none => V
  | some p => if fillE N s pid addr m = 0 ∧ m ≠ 0 then upVs V p addr.toNat b m else V
theorem fillE_ok {N : Nat} {s : Vs} {p : Fin 6} {pid addr : Int} {m : Nat} (h1 : prc s pid = some p) (h : fillE N s pid addr m = 0) (hm : m ≠ 0) : 0 ≤ addr ∧ addr.toNat + m ≤ 512 ∧ gap s p (addr.toNat / 32) (pcs addr.toNat m) = false ∧ ndT s p (addr.toNat / 32) (pcs addr.toNat m) ≤ zr N s := by
  unfold fillE at h
  rw [h1] at h
  simp only at h
  by_cases c1 : inA addr m = false
  · rw [if_pos c1] at h; cases h
  · rw [if_neg c1, if_neg hm] at h
    by_cases c2 : gap s p (addr.toNat / 32) (pcs addr.toNat m) = true
    · rw [if_pos c2] at h; cases h
    · rw [if_neg c2] at h
      by_cases c3 : (zr N s : Int) < ndT s p (addr.toNat / 32) (pcs addr.toNat m)
      · rw [if_pos c3] at h; cases h
      · have : (decide (0 ≤ addr) && decide (addr < 512) && decide ((m : Int) ≤ 512 - addr)) = true := by
          cases e : inA addr m with
          | false => exact absurd e c1
          | true => exact e
        simp only [Bool.and_eq_true, decide_eq_true_eq] at this
        exact ⟨this.1.1, by omega, by simpa using c2, by omega⟩
theorem fill_iv {N : Nat} {s : Vs} {V : Fin 6 → Nat → Int} (h : Iv N s V) (pid addr : Int) (m : Nat) (b : Nat → Int) : Iv N (fillS N s pid addr m b) (fillV N s V pid addr m b) ∧ (fillS N s pid addr m b).has = s.has ∧ s.cp ≤ (fillS N s pid addr m b).cp ∧ (fillS N s pid addr m b).cp ≤ s.cp + 16 ∧ ∀ q (i : Nat), (s.pg q i = none ↔ (fillS N s pid addr m b).pg q i = none) := by
  unfold fillS fillV
  cases h1 : prc s pid with
  | none => exact ⟨h, rfl, Int.le_refl _, by show s.cp ≤ s.cp + 16; omega, fun _ _ => Iff.rfl⟩
  | some p =>
    simp only
    by_cases hc : fillE N s pid addr m = 0 ∧ m ≠ 0
    · rw [if_pos hc, if_pos hc]
      obtain ⟨e1, e2, e3, e4⟩ := fillE_ok h1 hc.1 hc.2
      obtain ⟨z1, z2, z3⟩ := pcs_ar (by omega : 1 ≤ m) e2
      have K := alN_ok h.fr z1 (gap_no e3) e4 (pcs addr.toNat m) (Nat.le_refl _)
      have I := alN_iv h z1 (gap_no e3) e4 (pcs addr.toNat m) (Nat.le_refl _)
      have hg : ∀ i, i < m → ∃ g : Nat, (alN N s p (addr.toNat / 32) (pcs addr.toNat m)).pg p (((addr.toNat + i) / 32 : Nat) : Int) = some (g : Int) ∧ cnt (alN N s p (addr.toNat / 32) (pcs addr.toNat m)).pg (g : Int) = 1 := fun i hi => by
        obtain ⟨g, g1, g2, g3⟩ := K.done ((addr.toNat + i) / 32 - addr.toNat / 32) (by omega)
        rw [show addr.toNat / 32 + ((addr.toNat + i) / 32 - addr.toNat / 32) = (addr.toNat + i) / 32 by omega] at g2
        exact ⟨g, g2, g3⟩
      have Kcp := K.cp
      refine ⟨wr_ok I b e2 hg m (Nat.le_refl _), K.has, Kcp.1, by show (alN N s p (addr.toNat / 32) (pcs addr.toNat m)).cp ≤ _; omega, fun q i => ?_⟩
      show s.pg q i = none ↔ (alN N s p (addr.toNat / 32) (pcs addr.toNat m)).pg q i = none
      by_cases c : q = p ∧ addr.toNat / 32 ≤ i ∧ i < addr.toNat / 32 + pcs addr.toNat m
      · obtain ⟨rfl, c1, c2⟩ := c
        have n1 := gap_no e3 (i - addr.toNat / 32) (by omega)
        obtain ⟨g, _, g2, _⟩ := K.done (i - addr.toNat / 32) (by omega)
        rw [show addr.toNat / 32 + (i - addr.toNat / 32) = i by omega] at n1 g2
        rw [g2]
        exact ⟨fun x => absurd x n1, fun x => by cases x⟩
      · rw [K.oth q i c]
    · rw [if_neg hc, if_neg hc]
      exact ⟨h, rfl, Int.le_refl _, by omega, fun _ _ => Iff.rfl⟩
theorem va_poke (B : Nat) (l : Lo) (s : Vs) (V : Fin 6 → Nat → Int) (vb N c : Nat) (pid addr b : Int) (w : World) (h : Va B w vb N l s V c) (hc : c ≤ 90000) : Calls Try.prog 23 #[.pointer (some ⟨vb, 0, none⟩), .int .i64 pid, .int .i64 addr, .int .u8 b] w fun r w' => r = .returned (.int .i64 (fillE N s pid addr 1)) ∧ Vt B w w' vb N l s (fillS N s pid addr 1 (fun _ => b)) (fillV N s V pid addr 1 (fun _ => b)) (c + 16) := by
  obtain ⟨rfl, hv, hi, hcp⟩ := h
  refine (vpoke_any B l s N pid addr b w hv hi.fr (by omega)).mono ?_
  rintro r w' ⟨rfl, k1, k2⟩
  obtain ⟨i1, i2, i3, i4, _⟩ := fill_iv hi pid addr 1 (fun _ => b)
  exact ⟨rfl, ⟨⟨l, ⟨rfl, k1, i1, by omega⟩, fun k hk => .inl (by rw [Vb.hasr i2] at hk; exact hk)⟩, k2⟩⟩
set_option maxHeartbeats 2000000 in
theorem peek_noent (B : Nat) (l : Lo) (s : Vs) (pid addr : Int) (w : World) (h : Vb B w l s) (hp : NoP s pid) : Calls Try.prog 16 #[.pointer (some ⟨l.b, 0, none⟩), .int .i64 pid, .int .i64 addr] w fun r w' => r = .returned (.tuple #[.int .u8 0, .int .i64 5]) ∧ w' = w := by
  have cO := of_bad B l s pid w h hp
  clear h hp
  go_enter Try.func16, Try.ntmps16
  go_wp2_with fail
  refine cO.mono ?_
  rintro r0 W ⟨rfl, hW⟩
  rw [hW]
  clear cO hW
  go_wp2
  go_ret2
  exact ⟨rfl, rfl⟩
set_option maxHeartbeats 2000000 in
theorem peek_range (B : Nat) (l : Lo) (s : Vs) (p : Fin 6) (addr : Int) (w : World) (h : Vb B w l s) (hp : s.has p = true) (ha : inA addr 1 = false) : Calls Try.prog 16 #[.pointer (some ⟨l.b, 0, none⟩), .int .i64 p.1, .int .i64 addr] w fun r w' => r = .returned (.tuple #[.int .u8 0, .int .i64 2]) ∧ w' = w := by
  have cO := of_ok B l s p w h hp
  have cP := addressed_any addr 1 w
  have ha' : (decide (0 ≤ addr) && decide (addr < 512) && decide (((1 : Nat) : Int) ≤ 512 - addr)) = false := ha
  have e1 : ((1 : Nat) : Int) = 1 := rfl
  rw [e1] at ha'
  rw [ha'] at cP
  clear h hp ha ha' e1
  go_enter Try.func16, Try.ntmps16
  go_wp2_with fail
  refine cO.mono ?_
  rintro r0 W ⟨rfl, hW⟩
  rw [hW]
  clear cO hW
  go_wp2_with fail
  refine cP.mono ?_
  rintro r0 W ⟨rfl, hW⟩
  rw [hW]
  clear cP hW
  go_wp2
  go_ret2
  exact ⟨rfl, rfl⟩
set_option maxHeartbeats 2000000 in
theorem peek_in (B : Nat) (l : Lo) (s : Vs) (p : Fin 6) (a : Nat) (x : Option Int) (w : World) (h : Vb B w l s) (hp : s.has p = true) (ha : a < 512) (hx : s.pg p ((a / 32 : Nat) : Int) = x) (hn : x = none ∨ x = some (-1)) : Calls Try.prog 16 #[.pointer (some ⟨l.b, 0, none⟩), .int .i64 p.1, .int .i64 a] w fun r w' => r = .returned (.tuple #[.int .u8 0, .int .i64 (if x = none then 10 else 0)]) ∧ w' = w := by
  have cO := of_ok B l s p w h hp
  have cP := addressed_any a 1 w
  rw [decide_eq_true (by omega : (0 : Int) ≤ (a : Int)), decide_eq_true (by omega : (a : Int) < 512), decide_eq_true (by omega : (1 : Int) ≤ 512 - (a : Int))] at cP
  have hL := lookP (h.sp p hp).2 ((a / 32 : Nat) : Int)
  rw [hx] at hL
  obtain ⟨e2, _, e1, _⟩ := arith512 a ha
  generalize l.r p = r at *
  generalize ((a / 32 : Nat) : Int) = d at *
  generalize (a : Int) = aa at *
  clear h hp ha hx
  rcases hn with rfl | rfl
  · simp only [Option.getD_none, Option.isSome_none, if_true] at *
    go_enter Try.func16, Try.ntmps16
    go_wp2_with fail
    refine cO.mono ?_
    rintro r0 W ⟨rfl, hW⟩
    rw [hW]
    clear cO hW
    go_wp2_with fail
    refine cP.mono ?_
    rintro r0 W ⟨rfl, hW⟩
    rw [hW]
    clear cP hW
    go_wp2_with (refine wpList_look rfl 60 _ _ rfl _ _ _ rfl rfl hL ?_)
    go_ret2
    exact ⟨rfl, rfl⟩
  · simp only [Option.getD_some, Option.isSome_some, reduceCtorEq, if_false] at *
    go_enter Try.func16, Try.ntmps16
    go_wp2_with fail
    refine cO.mono ?_
    rintro r0 W ⟨rfl, hW⟩
    rw [hW]
    clear cO hW
    go_wp2_with fail
    refine cP.mono ?_
    rintro r0 W ⟨rfl, hW⟩
    rw [hW]
    clear cP hW
    go_wp2_with (refine wpList_look rfl 60 _ _ rfl _ _ _ rfl rfl hL ?_)
    go_ret2
    exact ⟨rfl, rfl⟩
/-- What Peek answers. -/
def peekV (s : Vs) (V : Fin 6 → Nat → Int) (pid addr : Int) : Int × Int :=
  match prc s pid with
  | none => (0, 5)
  | some p => if inA addr 1 = false then (0, 2) else if s.pg p ((addr.toNat / 32 : Nat) : Int) = none then (0, 10) else (V p addr.toNat, 0)
theorem va_peek (B : Nat) (l : Lo) (s : Vs) (V : Fin 6 → Nat → Int) (vb N c : Nat) (pid addr : Int) (w : World) (h : Va B w vb N l s V c) : Calls Try.prog 16 #[.pointer (some ⟨vb, 0, none⟩), .int .i64 pid, .int .i64 addr] w fun r w' => r = .returned (.tuple #[.int .u8 (peekV s V pid addr).1, .int .i64 (peekV s V pid addr).2]) ∧ w' = w := by
  obtain ⟨rfl, hv, hi, hcp⟩ := h
  unfold peekV
  rcases prc_cases s pid with ⟨h1, h2⟩ | ⟨p, h1, rfl, h2⟩
  · rw [h1]
    exact peek_noent B l s pid addr w hv h2
  · rw [h1]
    simp only
    cases ha : inA addr 1 with
    | false => exact peek_range B l s p addr w hv h2 ha
    | true =>
      have ha' : 0 ≤ addr ∧ addr < 512 := by
        have : (decide (0 ≤ addr) && decide (addr < 512) && decide (((1 : Nat) : Int) ≤ 512 - addr)) = true := ha
        simp only [Bool.and_eq_true, decide_eq_true_eq] at this
        exact this.1
      obtain ⟨a, rfl⟩ := Int.eq_ofNat_of_zero_le ha'.1
      rw [if_neg (by simp), Int.toNat_natCast]
      have ha5 : a < 512 := by omega
      cases hx : s.pg p ((a / 32 : Nat) : Int) with
      | none =>
        rw [if_pos rfl]
        exact peek_in B l s p a none w hv h2 ha5 hx (.inl rfl)
      | some f =>
        rw [if_neg (by simp)]
        have hvw := hi.vw p (a / 32) f hx (a % 32) (by omega)
        rw [show a / 32 * 32 + a % 32 = a by omega] at hvw
        have hb := hi.fr.pgs p _ f hx
        by_cases c : f = -1
        · subst c
          rw [if_pos rfl] at hvw
          rw [← hvw]
          exact peek_in B l s p a (some (-1)) w hv h2 ha5 hx (.inr rfl)
        · rw [if_neg c] at hvw
          obtain ⟨g, rfl⟩ := Int.eq_ofNat_of_zero_le (by omega : 0 ≤ f)
          rw [Int.toNat_natCast] at hvw
          rw [← hvw]
          exact peek_ok B l s p a g w hv h2 ha5 hx (by rw [hi.fr.n]; omega)
end Go.Proofs.Ytfmcoibpbcheiaa
