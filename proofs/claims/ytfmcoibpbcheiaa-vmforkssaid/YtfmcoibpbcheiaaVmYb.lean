/- The program's vm: Map and Unmap, whatever they are asked; Refs. vm: Begin, Map, Unmap, Fill: what is seen then. -/
import Derived.Test.YtfmcoibpbcheiaaVrB
namespace Go.Proofs.Ytfmcoibpbcheiaa
open Go.RowKit Go.Maps
set_option linter.unusedVariables false
set_option maxRecDepth 100000
theorem wpList_del {ops : Array Oper} {rest : List Oper} {o : Oper} {a : Act} {w w' : World} {Q : Exit → Act → World → Prop} (hgd : o.guard = none) (t ts : TypeId) (x i : Operand) (ho : o.op = .call { callee := .builtin .delete, args := #[x, i], argTypes := #[t, ts] }) (xv iv : Value) (hx : a.eval x = xv) (hi : a.eval i = iv) (hL : (Builtin.delete_ #[t, ts] o.type #[xv, iv]).run Try.prog w = .ok (.tuple #[]) w')
    (h : wpList Try.prog ops Q rest (a.put o.dst (.tuple #[])) w') : wpList Try.prog ops Q (o :: rest) a w :=
  wpList_plain hgd fun K hK => by
    unfold Oper.wp execOp
    simp only [ho, resolve, invoke, builtin, Sem.run_bind, Sem.run_pure, Result.andThen_ok, List.map_toArray, List.map_cons, List.map_nil, hx, hi, hL]
    exact hK _ _ h
theorem delP {w : World} {r : Nat} {f : Int → Option Int} (h : Sp w r f) (ty : TypeId) (k : Int) : ∃ w', (Builtin.delete_ #[60, 3] ty #[.map (some r), .int .i64 k]).run Try.prog w = .ok (.tuple #[]) w' ∧ Sp w' r (upI f k none) ∧ Apart (XB r) w w' := by
  obtain ⟨es, hm, hn, hl⟩ := h
  obtain ⟨w', h1, h2, h3⟩ := del_run hm (t := 60) (ts := 3) (ty := ty) Try.underlying60 Try.underlying3 k
  exact ⟨w', h1, ⟨_, h2, nodup_del _ _ hn, fun j => by rw [lk_del _ _ _ hn, hl, upI]; split <;> rfl⟩, h3⟩
def umS1 (s : Vs) (p : Fin 6) (k : Int) : Vs := { s with pg := upF s.pg p (upI (s.pg p) k none) }
set_option maxHeartbeats 2000000 in
theorem vunmap_ok (B : Nat) (l : Lo) (s : Vs) (N : Nat) (p : Fin 6) (k : Nat) (v : Int) (w : World) (h : Vb B w l s) (hF : Fr N s) (hp : s.has p = true) (hk : k < 16) (hn : s.pg p (k : Int) = some v) : Calls Try.prog 50 #[.pointer (some ⟨l.b, 0, none⟩), .int .i64 p.1, .int .i64 k] w fun r w' => r = .returned (.int .i64 0) ∧ Vb B w' l (umS1 (lvA s v) p k) ∧ Apart (XV l s) w w' := by
  have cO := of_ok B l s p w h hp
  have cP := paged_any (k : Int) w
  rw [decide_eq_true (by omega : (0 : Int) ≤ (k : Int)), decide_eq_true (by omega : (k : Int) < 16)] at cP
  have hL := lookP (h.sp p hp).2 (k : Int)
  rw [hn] at hL
  have hb := hF.pgs p _ v hn
  have hN := hF.hi
  have hlv : v ≠ -1 → 0 ≤ v ∧ v < 64 ∧ 1 ≤ s.rf.getD v.toNat 0 ∧ s.rf.getD v.toNat 0 ≤ 1000 := fun c => by
    have h1 := cnt_pos hk hn
    have h2 := hF.rf v.toNat (by omega)
    have e : ((v.toNat : Nat) : Int) = v := by omega
    rw [e] at h2
    have := cnt_le s.pg v
    omega
  have cJ := leave_any B l s v hlv w h
  have hsame : (lvA s v).has = s.has ∧ (lvA s v).pg = s.pg := by
    unfold lvA
    split <;> exact ⟨rfl, rfl⟩
  have HD : Hid3 (∀ W ty, Vb B W l (lvA s v) → ∃ W', (Builtin.delete_ #[60, 3] ty #[.map (some (l.r p)), .int .i64 (k : Int)]).run Try.prog W = .ok (.tuple #[]) W' ∧ Vb B W' l (umS1 (lvA s v) p k) ∧ Apart (XV l s) W W') := ⟨fun W ty hW => by
    obtain ⟨W', u1, u2, u3⟩ := delP (hW.sp p (by rw [hsame.1]; exact hp)).2 ty (k : Int)
    exact ⟨W', u1, hW.respace p (by rw [hsame.1]; exact hp) _ u3 u2, XB.v hp u3⟩⟩
  generalize l.r p = r at *
  simp only [Option.getD_some, Option.isSome_some, Bool.and_true] at *
  clear h hF hn hb hlv hsame
  obtain ⟨p, hp6⟩ := p
  simp only at *
  go_enter Try.func50, Try.ntmps50
  go_wp2_with fail
  refine cO.mono ?_
  rintro r0 W ⟨rfl, hW⟩
  rw [hW]
  clear cO hW
  go_wp2_with fail
  refine cP.mono ?_
  rintro r0 W ⟨rfl, hW⟩
  rw [hW]
  clear cP hW
  go_wp2_with (refine wpList_look rfl 60 _ _ rfl _ _ _ rfl rfl hL ?_)
  refine cJ.mono ?_
  rintro r0 W2 ⟨rfl, hV2, hA2⟩
  have HA2 := Hid3.mk hA2
  obtain ⟨W3, d1, d2, d3⟩ := HD.out W2 0 hV2
  have HV3 := Hid3.mk d2
  have HA3 := Hid3.mk d3
  clear cJ hV2 hA2 d2 d3 HD
  go_wp2_with (refine wpList_del rfl 60 3 _ _ rfl _ _ rfl rfl d1 ?_)
  go_ret
  exact ⟨rfl, HV3.out, (XS.v HA2.out).trans HA3.out⟩
set_option maxHeartbeats 2000000 in
theorem vmap_bad (B : Nat) (l : Lo) (s : Vs) (pid k : Int) (w : World) (h : Vb B w l s) (he : mapE s pid k ≠ 0) : Calls Try.prog 22 #[.pointer (some ⟨l.b, 0, none⟩), .int .i64 pid, .int .i64 k] w fun r w' => r = .returned (.int .i64 (mapE s pid k)) ∧ w' = w := by
  unfold mapE at *
  rcases prc_cases s pid with ⟨h1, h2⟩ | ⟨p, h1, rfl, h2⟩
  · rw [h1]
    simp only
    have cO := of_bad B l s pid w h h2
    clear h he h1 h2
    go_enter Try.func22, Try.ntmps22
    go_wp2_with fail
    refine cO.mono ?_
    rintro r0 W ⟨rfl, hW⟩
    rw [hW]
    clear cO hW
    go_wp2
    go_ret
    exact ⟨rfl, rfl⟩
  · rw [h1] at he ⊢
    simp only at he ⊢
    have cO := of_ok B l s p w h h2
    have cP := paged_any k w
    have hL := lookP (h.sp p h2).2 k
    by_cases hk : 0 ≤ k ∧ k < 16
    · rw [if_pos hk] at he ⊢
      rw [decide_eq_true hk.1, decide_eq_true hk.2] at cP
      cases hn : s.pg p k with
      | none =>
        rw [hn] at hL he
        exact absurd (if_pos rfl) he
      | some v =>
        rw [hn] at hL he
        rw [if_neg (by simp)]
        generalize l.r p = r at *
        simp only [Option.getD_some, Option.isSome_some, Bool.and_true] at *
        clear h he hk hn
        go_enter Try.func22, Try.ntmps22
        go_wp2_with fail
        refine cO.mono ?_
        rintro r0 W ⟨rfl, hW⟩
        rw [hW]
        clear cO hW
        go_wp2_with fail
        refine cP.mono ?_
        rintro r0 W ⟨rfl, hW⟩
        rw [hW]
        clear cP hW
        go_wp2_with (refine wpList_look rfl 60 _ _ rfl _ _ _ rfl rfl hL ?_)
        go_ret
        exact ⟨rfl, rfl⟩
    · rw [if_neg hk]
      have hk2 : (decide (0 ≤ k) && decide (k < 16)) = false := by
        by_cases c : 0 ≤ k
        · rw [decide_eq_false (by omega : ¬ k < 16), Bool.and_false]
        · rw [decide_eq_false c, Bool.false_and]
      rw [hk2] at cP
      clear h he hL hk hk2
      go_enter Try.func22, Try.ntmps22
      go_wp2_with fail
      refine cO.mono ?_
      rintro r0 W ⟨rfl, hW⟩
      rw [hW]
      clear cO hW
      go_wp2_with fail
      refine cP.mono ?_
      rintro r0 W ⟨rfl, hW⟩
      rw [hW]
      clear cP hW
      go_wp2
      go_ret
      exact ⟨rfl, rfl⟩
set_option maxHeartbeats 2000000 in
theorem vunmap_bad (B : Nat) (l : Lo) (s : Vs) (pid k : Int) (w : World) (h : Vb B w l s) (he : unmapE s pid k ≠ 0) : Calls Try.prog 50 #[.pointer (some ⟨l.b, 0, none⟩), .int .i64 pid, .int .i64 k] w fun r w' => r = .returned (.int .i64 (unmapE s pid k)) ∧ w' = w := by
  unfold unmapE at *
  rcases prc_cases s pid with ⟨h1, h2⟩ | ⟨p, h1, rfl, h2⟩
  · rw [h1]
    simp only
    have cO := of_bad B l s pid w h h2
    clear h he h1 h2
    go_enter Try.func50, Try.ntmps50
    go_wp2_with fail
    refine cO.mono ?_
    rintro r0 W ⟨rfl, hW⟩
    rw [hW]
    clear cO hW
    go_wp2
    go_ret
    exact ⟨rfl, rfl⟩
  · rw [h1] at he ⊢
    simp only at he ⊢
    have cO := of_ok B l s p w h h2
    have cP := paged_any k w
    have hL := lookP (h.sp p h2).2 k
    by_cases hk : 0 ≤ k ∧ k < 16
    · rw [if_pos hk] at he ⊢
      rw [decide_eq_true hk.1, decide_eq_true hk.2] at cP
      cases hn : s.pg p k with
      | none =>
        rw [hn] at hL he
        rw [if_pos rfl]
        generalize l.r p = r at *
        simp only [Option.getD_none, Option.isSome_none, Bool.and_true] at *
        clear h he hk hn
        go_enter Try.func50, Try.ntmps50
        go_wp2_with fail
        refine cO.mono ?_
        rintro r0 W ⟨rfl, hW⟩
        rw [hW]
        clear cO hW
        go_wp2_with fail
        refine cP.mono ?_
        rintro r0 W ⟨rfl, hW⟩
        rw [hW]
        clear cP hW
        go_wp2_with (refine wpList_look rfl 60 _ _ rfl _ _ _ rfl rfl hL ?_)
        go_ret
        exact ⟨rfl, rfl⟩
      | some v =>
        rw [hn] at hL he
        exact absurd (if_neg (by simp)) he
    · rw [if_neg hk]
      have hk2 : (decide (0 ≤ k) && decide (k < 16)) = false := by
        by_cases c : 0 ≤ k
        · rw [decide_eq_false (by omega : ¬ k < 16), Bool.and_false]
        · rw [decide_eq_false c, Bool.false_and]
      rw [hk2] at cP
      clear h he hL hk hk2
      go_enter Try.func50, Try.ntmps50
      go_wp2_with fail
      refine cO.mono ?_
      rintro r0 W ⟨rfl, hW⟩
      rw [hW]
      clear cO hW
      go_wp2_with fail
      refine cP.mono ?_
      rintro r0 W ⟨rfl, hW⟩
      rw [hW]
      clear cP hW
      go_wp2
      go_ret
      exact ⟨rfl, rfl⟩
end Go.Proofs.Ytfmcoibpbcheiaa
namespace Go.Proofs.Ytfmcoibpbcheiaa
open Go.RowKit Go.Maps
set_option linter.unusedVariables false
set_option maxRecDepth 100000
theorem begin_iv {N : Nat} {s : Vs} {V : Fin 6 → Nat → Int} (h : Iv N s V) {p : Fin 6} (hp : s.has p = false) : Iv N (bgS s p) V := by
  have e : bgS s p = { s with has := upF s.has p true } := by unfold bgS; rw [bg_same h.fr hp]
  rw [e]
  refine ⟨⟨h.fr.n, h.fr.lo, h.fr.hi, h.fr.len, fun q hq => ?_, h.fr.pgs, h.fr.rf⟩, h.L, h.vw, h.z⟩
  have hq' : upF s.has p true q = false := hq
  by_cases c : q = p
  · subst c
    rw [upF_same] at hq'
    cases hq'
  · rw [upF_other _ _ _ _ c] at hq'
    exact h.fr.no q hq'
/-- A page that is mapped is 0. -/
def mpV0 (V : Fin 6 → Nat → Int) (p : Fin 6) (k : Nat) : Fin 6 → Nat → Int := fun q x => if q = p ∧ x / 32 = k then 0 else V q x
theorem upI_same (f : Int → Option Int) (k : Int) (v : Option Int) : upI f k v k = v := if_pos rfl
theorem upI_other (f : Int → Option Int) (k z : Int) (v : Option Int) (h : z ≠ k) : upI f k v z = f z := if_neg h
theorem pg_up {pg : Fin 6 → Int → Option Int} {p q : Fin 6} {k z : Int} {v x : Option Int} (h : upF pg p (upI (pg p) k v) q z = x) : (q = p ∧ z = k ∧ x = v) ∨ (¬ (q = p ∧ z = k) ∧ pg q z = x) := by
  by_cases c : q = p
  · subst c
    rw [upF_same] at h
    by_cases d : z = k
    · subst d
      rw [upI_same] at h
      exact .inl ⟨rfl, rfl, h.symm⟩
    · rw [upI_other _ _ _ _ d] at h
      exact .inr ⟨fun e => d e.2, h⟩
  · rw [upF_other _ _ _ _ c] at h
    exact .inr ⟨fun e => c e.1, h⟩
theorem map_iv {N : Nat} {s : Vs} {V : Fin 6 → Nat → Int} (h : Iv N s V) {p : Fin 6} {k : Nat} (hk : k < 16) (hp : s.has p = true) (hn : s.pg p (k : Int) = none) : Iv N (mpS s p k) (mpV0 V p k) := by
  refine ⟨⟨h.fr.n, h.fr.lo, h.fr.hi, h.fr.len, fun q hq => ?_, fun q z v hv => ?_, fun j hj => ?_⟩, h.L, fun q i f hf j hj => ?_, h.z⟩
  · have c : q ≠ p := fun e => by rw [e] at hq; have hq' : s.has p = false := hq; rw [hp] at hq'; cases hq'
    show upF s.pg p _ q = _
    rw [upF_other _ _ _ _ c]
    exact h.fr.no q hq
  · rcases pg_up hv with ⟨_, e, e2⟩ | ⟨_, e⟩
    · injection e2 with e2
      exact ⟨by omega, .inl e2⟩
    · exact h.fr.pgs q z v e
  · have h1 := cnt_move s.pg p k hk (some (-1)) (j : Int)
    have h2 : is (s.pg p) (j : Int) (k : Int) = 0 := by unfold is; rw [hn]; rfl
    rw [h2, if_neg (fun e => by injection e; omega)] at h1
    show s.rf.getD j 0 = ((cnt (upF s.pg p (upI (s.pg p) (k : Int) (some (-1)))) (j : Int) : Nat) : Int)
    rw [h.fr.rf j hj]
    omega
  · rcases pg_up hf with ⟨e0, e, e2⟩ | ⟨hne, e⟩
    · injection e2 with e2
      rw [if_pos e2]
      unfold mpV0
      rw [if_pos ⟨e0, by omega⟩]
    · have := h.vw q i f e j hj
      show (if f = -1 then 0 else s.L.getD (f.toNat * 32 + j) 0) = mpV0 V p k q (i * 32 + j)
      rw [this]
      unfold mpV0
      rw [if_neg (fun x => hne ⟨x.1, by omega⟩)]
theorem unmap_iv {N : Nat} {s : Vs} {V : Fin 6 → Nat → Int} (h : Iv N s V) {p : Fin 6} {k : Nat} {v : Int} (hk : k < 16) (hn : s.pg p (k : Int) = some v) : Iv N (umS1 (lvA s v) p k) V ∧ (lvA s v).cp = s.cp ∧ (lvA s v).has = s.has ∧ (lvA s v).pg = s.pg := by
  have hN := h.fr.hi
  obtain ⟨S, _⟩ := (Lv1.start h.fr h.L (s.pg p)).step h.fr hn (by simp) (fun x hx => by
    have e : x = (k : Int) := by simpa using hx
    rw [e, hn]
    simp)
  have hrf : ∀ j : Nat, j < 64 → (lvA s v).rf.getD j 0 = s.rf.getD j 0 - if v = (j : Int) then 1 else 0 := fun j hj => by
    rw [S.rf j hj]
    simp only [List.nil_append, List.filter_cons, List.filter_nil, hn]
    by_cases c : v = (j : Int)
    · rw [if_pos c, c]; simp
    · rw [if_neg c, if_neg (by simpa using c)]; rfl
  obtain ⟨s1, s2, s3, s4⟩ := S.same
  have hcnt : ∀ j : Nat, cnt (upF s.pg p (upI (s.pg p) (k : Int) none)) (j : Int) + (if v = (j : Int) then 1 else 0) = cnt s.pg (j : Int) := fun j => by
    have h1 := cnt_move s.pg p k hk none (j : Int)
    have h2 : is (s.pg p) (j : Int) (k : Int) = if v = (j : Int) then 1 else 0 := by
      unfold is
      rw [hn]
      by_cases c : v = (j : Int)
      · rw [if_pos c, if_pos (by rw [c])]
      · rw [if_neg c, if_neg (fun e => c (by injection e))]
    rw [h2, if_neg (show ¬ ((none : Option Int) = some (j : Int)) by simp)] at h1
    omega
  have hnew : ∀ j : Nat, j < 64 → (lvA s v).rf.getD j 0 = ((cnt (upF s.pg p (upI (s.pg p) (k : Int) none)) (j : Int) : Nat) : Int) := fun j hj => by
    have := hcnt j
    rw [hrf j hj, h.fr.rf j hj]
    split at this <;> omega
  have epg : (umS1 (lvA s v) p k).pg = upF s.pg p (upI (s.pg p) (k : Int) none) := by
    show upF (lvA s v).pg p (upI ((lvA s v).pg p) (k : Int) none) = _
    rw [s2]
  refine ⟨⟨⟨s3.trans h.fr.n, h.fr.lo, hN, S.len, fun q hq => ?_, fun q z f hf => ?_, fun j hj => ?_⟩, S.L, fun q i f hf j hj => ?_, fun j hj hr i hi => ?_⟩, s4, s1, s2⟩
  · have hq' : s.has q = false := by rw [← s1]; exact hq
    rw [epg]
    have c : q ≠ p := fun e => by
      have := h.fr.no q hq'
      rw [e] at this
      rw [this] at hn
      cases hn
    rw [upF_other _ _ _ _ c]
    exact h.fr.no q hq'
  · rw [epg] at hf
    rcases pg_up hf with ⟨_, _, e2⟩ | ⟨_, e⟩
    · cases e2
    · exact h.fr.pgs q z f e
  · rw [epg]
    exact hnew j hj
  · rw [epg] at hf
    rcases pg_up hf with ⟨_, _, e2⟩ | ⟨hne, e⟩
    · cases e2
    · have hv := h.vw q i f e j hj
      have hb := h.fr.pgs q i f e
      show (if f = -1 then 0 else (lvA s v).L.getD (f.toNat * 32 + j) 0) = V q (i * 32 + j)
      by_cases c : f = -1
      · rw [if_pos c] at hv ⊢
        exact hv
      · rw [if_neg c] at hv ⊢
        have h1 := cnt_pos (by omega : i < 16) hf
        have h2 := hnew f.toNat (by omega)
        have e3 : ((f.toNat : Nat) : Int) = f := by omega
        rw [e3] at h2
        rw [S.z f.toNat j (by omega) hj, if_neg (fun x => by omega)]
        exact hv
  · show (lvA s v).L.getD (j * 32 + i) 0 = 0
    have hr' : (lvA s v).rf.getD j 0 = 0 := hr
    rw [S.z j i hj hi]
    by_cases c : s.rf.getD j 0 = 0
    · rw [if_neg (fun x => x.2 c)]
      exact h.z j hj c i hi
    · rw [if_pos ⟨hr', c⟩]
set_option maxHeartbeats 1000000 in
theorem vbegin_bad (B : Nat) (l : Lo) (s : Vs) (pid : Int) (w : World) (h : Vb B w l s) (he : freshE s pid ≠ 0) : Calls Try.prog 21 #[.pointer (some ⟨l.b, 0, none⟩), .int .i64 pid] w fun r w' => r = .returned (.int .i64 (freshE s pid)) ∧ w' = w := by
  have cV := vacant_any B l s pid w h
  clear h
  generalize freshE s pid = e at *
  go_enter Try.func21, Try.ntmps21
  go_wp2_with fail
  refine cV.mono ?_
  rintro r0 W ⟨rfl, hW⟩
  rw [hW]
  clear cV hW
  go_wp2
  go_ret
  exact ⟨rfl, rfl⟩
theorem va_begin (B : Nat) (l : Lo) (s : Vs) (V : Fin 6 → Nat → Int) (vb N c : Nat) (pid : Int) (w : World) (h : Va B w vb N l s V c) (hB : B ≤ w.heap.size) : Calls Try.prog 21 #[.pointer (some ⟨vb, 0, none⟩), .int .i64 pid] w fun r w' => r = .returned (.int .i64 (freshE s pid)) ∧ ((freshE s pid ≠ 0 ∧ Vt B w w' vb N l s s V c) ∨ ∃ p : Fin 6, freshE s pid = 0 ∧ pid = p.1 ∧ s.has p = false ∧ Vt B w w' vb N l s (bgS s p) V c) := by
  obtain ⟨rfl, hv, hi, hc⟩ := h
  by_cases he : freshE s pid = 0
  · obtain ⟨p, rfl, hp⟩ := freshE_ok s pid he
    refine (begin_ok B l s p w hv hB hp).mono ?_
    rintro r w' ⟨rfl, k1, k2⟩
    refine ⟨by rw [he], .inr ⟨p, he, rfl, hp, ⟨⟨⟨l.b, l.m, upF l.r p w.heap.size⟩, ⟨rfl, k1, begin_iv hi hp, hc⟩, fun k hk => ?_⟩, ⟨k2.os, k2.tape, k2.output, k2.size, fun k hk hx => k2.block k hk (fun e => hx (.inl e))⟩⟩⟩⟩
    rcases hk with e | e | ⟨r, hr, e⟩
    · exact .inl (.inl e)
    · exact .inl (.inr (.inl e))
    · have hr' : upF s.has p true r = true := hr
      have e' : k = upF l.r p w.heap.size r := e
      by_cases c : r = p
      · subst c
        rw [upF_same] at e'
        exact .inr (by omega)
      · rw [upF_other _ _ _ _ c] at hr' e'
        exact .inl (.inr (.inr ⟨r, hr', e'⟩))
  · refine (vbegin_bad B l s pid w hv he).mono ?_
    rintro r w' ⟨rfl, rfl⟩
    exact ⟨rfl, .inl ⟨he, Vt.same ⟨rfl, hv, hi, hc⟩ (Below.refl _ _)⟩⟩
theorem mapE_ok {s : Vs} {pid k : Int} (h : mapE s pid k = 0) : ∃ (p : Fin 6) (n : Nat), pid = p.1 ∧ k = (n : Int) ∧ n < 16 ∧ s.has p = true ∧ s.pg p (n : Int) = none := by
  unfold mapE at h
  rcases prc_cases s pid with ⟨h1, h2⟩ | ⟨p, h1, h3, h2⟩
  · rw [h1] at h; cases h
  · rw [h1] at h
    simp only at h
    by_cases hk : 0 ≤ k ∧ k < 16
    · rw [if_pos hk] at h
      obtain ⟨n, rfl⟩ := Int.eq_ofNat_of_zero_le hk.1
      cases hn : s.pg p (n : Int) with
      | none => exact ⟨p, n, h3, rfl, by omega, h2, hn⟩
      | some v => rw [hn, if_neg (by simp)] at h; cases h
    · rw [if_neg hk] at h; cases h
theorem unmapE_ok {s : Vs} {pid k : Int} (h : unmapE s pid k = 0) : ∃ (p : Fin 6) (n : Nat) (v : Int), pid = p.1 ∧ k = (n : Int) ∧ n < 16 ∧ s.has p = true ∧ s.pg p (n : Int) = some v := by
  unfold unmapE at h
  rcases prc_cases s pid with ⟨h1, h2⟩ | ⟨p, h1, h3, h2⟩
  · rw [h1] at h; cases h
  · rw [h1] at h
    simp only at h
    by_cases hk : 0 ≤ k ∧ k < 16
    · rw [if_pos hk] at h
      obtain ⟨n, rfl⟩ := Int.eq_ofNat_of_zero_le hk.1
      cases hn : s.pg p (n : Int) with
      | none => rw [hn, if_pos rfl] at h; cases h
      | some v => exact ⟨p, n, v, h3, rfl, by omega, h2, hn⟩
    · rw [if_neg hk] at h; cases h
theorem va_map (B : Nat) (l : Lo) (s : Vs) (V : Fin 6 → Nat → Int) (vb N c : Nat) (pid k : Int) (w : World) (h : Va B w vb N l s V c) : Calls Try.prog 22 #[.pointer (some ⟨vb, 0, none⟩), .int .i64 pid, .int .i64 k] w fun r w' => r = .returned (.int .i64 (mapE s pid k)) ∧ ((mapE s pid k ≠ 0 ∧ Vt B w w' vb N l s s V c) ∨ ∃ (p : Fin 6) (n : Nat), mapE s pid k = 0 ∧ pid = p.1 ∧ k = (n : Int) ∧ n < 16 ∧ s.has p = true ∧ s.pg p (n : Int) = none ∧ Vt B w w' vb N l s (mpS s p n) (mpV0 V p n) c) := by
  obtain ⟨rfl, hv, hi, hc⟩ := h
  by_cases he : mapE s pid k = 0
  · obtain ⟨p, n, rfl, rfl, hn, hp, hg⟩ := mapE_ok he
    refine (map_ok B l s p (n : Int) w hv hp (by omega) hg).mono ?_
    rintro r w' ⟨rfl, k1, k2⟩
    exact ⟨by rw [he], .inr ⟨p, n, he, rfl, rfl, hn, hp, hg, ⟨⟨l, ⟨rfl, k1, map_iv hi hn hp hg, hc⟩, fun k hk => .inl hk⟩, XB.v hp k2⟩⟩⟩
  · refine (vmap_bad B l s pid k w hv he).mono ?_
    rintro r w' ⟨rfl, rfl⟩
    exact ⟨rfl, .inl ⟨he, Vt.same ⟨rfl, hv, hi, hc⟩ (Below.refl _ _)⟩⟩
theorem va_unmap (B : Nat) (l : Lo) (s : Vs) (V : Fin 6 → Nat → Int) (vb N c : Nat) (pid k : Int) (w : World) (h : Va B w vb N l s V c) : Calls Try.prog 50 #[.pointer (some ⟨vb, 0, none⟩), .int .i64 pid, .int .i64 k] w fun r w' => r = .returned (.int .i64 (unmapE s pid k)) ∧ ((unmapE s pid k ≠ 0 ∧ Vt B w w' vb N l s s V c) ∨ ∃ (p : Fin 6) (n : Nat) (v : Int), unmapE s pid k = 0 ∧ pid = p.1 ∧ k = (n : Int) ∧ n < 16 ∧ s.has p = true ∧ s.pg p (n : Int) = some v ∧ Vt B w w' vb N l s (umS1 (lvA s v) p n) V c) := by
  obtain ⟨rfl, hv, hi, hc⟩ := h
  by_cases he : unmapE s pid k = 0
  · obtain ⟨p, n, v, rfl, rfl, hn, hp, hg⟩ := unmapE_ok he
    refine (vunmap_ok B l s N p n v w hv hi.fr hp hn hg).mono ?_
    rintro r w' ⟨rfl, k1, k2⟩
    obtain ⟨i1, i2, i3, _⟩ := unmap_iv hi hn hg
    exact ⟨by rw [he], .inr ⟨p, n, v, he, rfl, rfl, hn, hp, hg, ⟨⟨l, ⟨rfl, k1, i1, by show 0 ≤ (lvA s v).cp ∧ (lvA s v).cp ≤ c; rw [i2]; exact hc⟩, fun k hk => .inl (by rw [Vb.hasr (s := s) (t := umS1 (lvA s v) p n) i3] at hk; exact hk)⟩, k2⟩⟩⟩
  · refine (vunmap_bad B l s pid k w hv he).mono ?_
    rintro r w' ⟨rfl, rfl⟩
    exact ⟨rfl, .inl ⟨he, Vt.same ⟨rfl, hv, hi, hc⟩ (Below.refl _ _)⟩⟩
theorem va_fill (B : Nat) (l : Lo) (s : Vs) (V : Fin 6 → Nat → Int) (vb N c : Nat) (pid addr : Int) (m cap : Nat) (x : Option Addr) (b : Nat → Int) (w : World) (h : Va B w vb N l s V c) (hc : c ≤ 80000) (hb : Bts w x m b (XV l s)) : Calls Try.prog 15 #[.pointer (some ⟨vb, 0, none⟩), .int .i64 pid, .int .i64 addr, .slice x m cap] w fun r w' => r = .returned (.int .i64 (fillE N s pid addr m)) ∧ Vt B w w' vb N l s (fillS N s pid addr m b) (fillV N s V pid addr m b) (c + 16) := by
  obtain ⟨rfl, hv, hi, hcp⟩ := h
  refine (vfill_any B l s N pid addr m cap x b w hv hi.fr (by omega) hb).mono ?_
  rintro r w' ⟨rfl, k1, k2⟩
  obtain ⟨i1, i2, i3, i4, _⟩ := fill_iv hi pid addr m b
  exact ⟨rfl, ⟨⟨l, ⟨rfl, k1, i1, by omega⟩, fun k hk => .inl (by rw [Vb.hasr i2] at hk; exact hk)⟩, k2⟩⟩
end Go.Proofs.Ytfmcoibpbcheiaa
