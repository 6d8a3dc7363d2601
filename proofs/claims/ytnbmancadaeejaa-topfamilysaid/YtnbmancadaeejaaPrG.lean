/- Steps as plain data; what always holds; the program's Fork, Kill, Running, Copy. -/
import Derived.Test.YtnbmancadaeejaaPrBa
namespace Go.Proofs.Ytnbmancadaeejaa
open Go.RowKit Go.Maps
set_option linter.unusedVariables false
set_option maxRecDepth 100000
def par : Pr → Option (Fin 6)
  | .no => none
  | .run q => some q
  | .zom q _ => some q
/-- Parents run, and lead to 0. -/
structure Ok (s : Pt) : Prop where
  z : s 0 = .run 0
  d : ∃ d : Fin 6 → Nat, d 0 = 0 ∧ ∀ i q : Fin 6, i ≠ 0 → par (s i) = some q → runs (s q) = true ∧ d q < d i
theorem ok0 : Ok pt0 := ⟨rfl, fun _ => 0, rfl, fun i q hi h => by
  have : pt0 i = .no := if_neg hi
  rw [this] at h
  cases h⟩
theorem par_pa (x : Pr) (q : Fin 6) : par x = some q ↔ paI x = q.1 := by
  cases x with
  | no => simp [par, paI]
  | run p => simp only [par, paI, Option.some.injEq, Fin.ext_iff]; omega
  | zom p n => simp only [par, paI, Option.some.injEq, Fin.ext_iff]; omega
theorem Ok.self {s : Pt} (h : Ok s) (p : Fin 6) (hp : p ≠ 0) : paI (s p) ≠ p.1 := fun e => by
  obtain ⟨d, _, hd⟩ := h.d
  have := (hd p p hp ((par_pa _ _).2 e)).2
  omega
theorem paI_lft (x : Pr) (h : x ≠ .no) : par (lft x) = some 0 := by cases x <;> simp_all [lft, par]
theorem runs_lft (x : Pr) : runs (lft x) = runs x := by cases x <;> rfl
def forkS (s : Pt) (p k : Fin 6) : Pt := upd s k (.run p)
theorem Ok.fork {s : Pt} (h : Ok s) (p k : Fin 6) (hp : runs (s p) = true) (hk : s k = .no) : Ok (forkS s p k) := by
  obtain ⟨d, h0, hd⟩ := h.d
  have hk0 : k ≠ 0 := fun e => by rw [e, h.z] at hk; cases hk
  have hpk : p ≠ k := fun e => by rw [e, hk] at hp; cases hp
  refine ⟨by unfold forkS; rw [upd_other _ _ _ _ (Ne.symm hk0)]; exact h.z, upd d k (d p + 1), by rw [upd_other _ _ _ _ (Ne.symm hk0)]; exact h0, fun i q hi hq => ?_⟩
  unfold forkS at hq ⊢
  by_cases e : i = k
  · subst e
    rw [upd_same] at hq
    simp only [par, Option.some.injEq] at hq
    subst hq
    rw [upd_other _ _ _ _ hpk, upd_other _ _ _ _ hpk, upd_same]
    exact ⟨hp, by omega⟩
  · rw [upd_other _ _ _ _ e] at hq
    obtain ⟨h1, h2⟩ := hd i q hi hq
    have hqk : q ≠ k := fun e => by rw [e, hk] at h1; cases h1
    rw [upd_other _ _ _ _ hqk, upd_other _ _ _ _ hqk, upd_other _ _ _ _ e]
    exact ⟨h1, h2⟩
def exitS (s : Pt) (p q : Fin 6) (n : Int) : Pt := fun i => if i = p then .zom q n else if qCh s p i then lft (s i) else s i
theorem Ok.exit {s : Pt} (h : Ok s) (p q : Fin 6) (n : Int) (hp0 : p ≠ 0) (hp : s p = .run q) : Ok (exitS s p q n) := by
  obtain ⟨d, h0, hd⟩ := h.d
  have hz : exitS s p q n 0 = .run 0 := by
    unfold exitS
    rw [if_neg (Ne.symm hp0), if_neg (by simp [qCh])]
    exact h.z
  have hru : ∀ j, j ≠ p → runs (exitS s p q n j) = runs (s j) := fun j hj => by
    unfold exitS
    rw [if_neg hj]
    split
    · exact runs_lft _
    · rfl
  refine ⟨hz, d, h0, fun i j hi hq => ?_⟩
  by_cases e : i = p
  · subst e
    have : exitS s i q n i = .zom q n := if_pos rfl
    rw [this] at hq
    simp only [par, Option.some.injEq] at hq
    subst hq
    obtain ⟨h1, h2⟩ := hd i q hi (by rw [hp]; rfl)
    have hne : q ≠ i := fun e => by rw [e] at h2; omega
    rw [hru q hne]
    exact ⟨h1, h2⟩
  · by_cases hc : qCh s p i = true
    · have : exitS s p q n i = lft (s i) := by unfold exitS; rw [if_neg e, if_pos hc]
      have hpi : par (s i) = some p := (par_pa _ _).2 (by simpa [qCh, hi] using hc)
      rw [this, paI_lft (s i) (fun e => by rw [e] at hpi; cases hpi)] at hq
      simp only [Option.some.injEq] at hq
      subst hq
      obtain ⟨h1, h2⟩ := hd i p hi hpi
      rw [hz]
      exact ⟨rfl, by omega⟩
    · have : exitS s p q n i = s i := by unfold exitS; rw [if_neg e, if_neg hc]
      rw [this] at hq
      obtain ⟨h1, h2⟩ := hd i j hi hq
      have hne : j ≠ p := fun e => hc (by subst e; simp [qCh, hi, (par_pa _ _).1 hq])
      rw [hru j hne]
      exact ⟨h1, h2⟩
theorem run_zomb (x : Pr) (h1 : runs x = true) (h2 : zomb x = true) : False := by cases x <;> simp [runs, zomb] at h1 h2
theorem Ok.wait {s : Pt} (h : Ok s) (k : Fin 6) (hk : zomb (s k) = true) : Ok (upd s k .no) := by
  obtain ⟨d, h0, hd⟩ := h.d
  have hk0 : k ≠ 0 := fun e => by rw [e, h.z] at hk; cases hk
  refine ⟨by rw [upd_other _ _ _ _ (Ne.symm hk0)]; exact h.z, d, h0, fun i q hi hq => ?_⟩
  by_cases e : i = k
  · subst e
    rw [upd_same] at hq
    cases hq
  · rw [upd_other _ _ _ _ e] at hq
    obtain ⟨h1, h2⟩ := hd i q hi hq
    have hqk : q ≠ k := fun e => by subst e; exact run_zomb _ h1 hk
    rw [upd_other _ _ _ _ hqk]
    exact ⟨h1, h2⟩
/-- The least that is none. -/
theorem least_cases (s : Pt) : (∀ j, s j ≠ .no) ∨ ∃ k, s k = .no ∧ ∀ j : Fin 6, j.1 < k.1 → s j ≠ .no := by
  by_cases h : ∃ k, s k = .no
  · obtain ⟨k, hk⟩ := h
    have : ∀ n : Nat, ∀ k : Fin 6, k.1 = n → s k = .no → ∃ k : Fin 6, s k = .no ∧ ∀ j : Fin 6, j.1 < k.1 → s j ≠ .no := by
      intro n
      induction n using Nat.strongRecOn with
      | ind n ih =>
        intro k hn hk
        by_cases hc : ∃ j : Fin 6, j.1 < k.1 ∧ s j = .no
        · obtain ⟨j, hj, hj0⟩ := hc
          exact ih j.1 (by omega) j rfl hj0
        · exact ⟨k, hk, fun j hj e => hc ⟨j, hj, e⟩⟩
    exact .inr (this k.1 k rfl hk)
  · exact .inl fun k e => h ⟨k, e⟩
theorem wpList_loads {ops : Array Oper} {rest : List Oper} {o : Oper} {a : Act} {w : World} {Q : Exit → Act → World → Prop} (hgd : o.guard = none) (ty : TypeId) (x : Operand) (ho : o.op = .load ty x) (v u : Value) (hx : a.eval x = v) (hL : (Instr.loadAt ty v).run Try.prog w = .ok u w)
    (h : wpList Try.prog ops Q rest (a.put o.dst u) w) : wpList Try.prog ops Q (o :: rest) a w :=
  wpList_plain hgd fun K hK => by
    unfold Oper.wp execOp
    simp only [ho, hx, Sem.run_bind, hL, Result.andThen_ok, Sem.run_pure]
    exact hK _ _ h
theorem load6 {w : World} {b : Nat} {s : Pt} (h : Cl w b 37 (tCs s)) : (Instr.loadAt 35 (.pointer (some ⟨b, 0, none⟩))).run Try.prog w = .ok (.agg (tCs s).toArray) w := by
  simp only [Instr.loadAt, Instr.sureAddr, Sem.run_bind, Sem.run_pure, Result.andThen_ok, run_loadVar_row w b 37 35 (tCs s).toArray (0, 0) _ h Try.underlying35 rfl (by kernel_rfl)]
theorem idx6 (s : Pt) (k : Fin 6) (w : World) : (Instr.index 35 (.agg (tCs s).toArray) (.int .i64 k.1)).run Try.prog w = .ok (prV (s k)) w := by
  revert k
  refine all6 ?_ ?_ ?_ ?_ ?_ ?_ <;> simp [go_sem, Instr.index, tCs] <;> rfl
theorem prV_if (x : Pr) (h : x ≠ .no) : ∃ t v, prV x = .iface t v := by
  cases x with
  | no => exact absurd rfl h
  | run p => exact ⟨_, _, rfl⟩
  | zom p n => exact ⟨_, _, rfl⟩
set_option maxHeartbeats 2000000 in
theorem fork_err (B b : Nat) (s : Pt) (pid : Int) (w : World) (h : Tp B w b s) (hp : runs (gt s pid) = false) : Calls Try.prog 5 #[.pointer (some ⟨b, 0, none⟩), .int .i64 pid] w fun r w' => r = .returned (.tuple #[.int .i64 0, .int .i64 5]) ∧ Below w.heap.size w w' := by
  have cR := runs_any B b s pid w h
  have he : ruE (gt s pid) = 5 := by cases hx : gt s pid <;> rw [hx] at hp <;> first | rfl | cases hp
  rw [he] at cR
  generalize ruP (gt s pid) = q at *
  clear h hp he
  go_enter Try.func5, Try.ntmps5
  go_wp2_with fail
  refine cR.mono ?_
  rintro r W ⟨rfl, hb⟩
  have HB := Hid3.mk (hb.trans ((below_new W (.cells #[.int .i64 q] 39)).mono hb.size))
  clear cR hb
  go_wp2
  go_ret2
  exact ⟨rfl, HB.out⟩
set_option maxHeartbeats 2000000 in
theorem fork_any (B b : Nat) (s : Pt) (p : Fin 6) (w : World) (h : Tp B w b s) (hp : runs (s p) = true) (K : Nat) (hK : K ≤ 6) (hl : ∀ j : Fin 6, j.1 < K → s j ≠ .no) (hk : ∀ h : K < 6, s ⟨K, h⟩ = .no) (x e : Int) (s' : Pt) (hx1 : ∀ h : K < 6, x = (K : Int) ∧ e = 0 ∧ s' = forkS s p ⟨K, h⟩) (hx2 : ¬ K < 6 → x = 0 ∧ e = 12 ∧ s' = s) : Calls Try.prog 5 #[.pointer (some ⟨b, 0, none⟩), .int .i64 p.1] w fun r w' => r = .returned (.tuple #[.int .i64 x, .int .i64 e]) ∧ TS B w w' b s' := by
  have cR := runs_any B b s p.1 w h
  rw [gt_in] at cR
  have he : ruE (s p) = 0 := by cases hx : s p <;> rw [hx] at hp <;> first | rfl | cases hp
  rw [he] at cR
  have HI := Hid3.mk (fun (k : Fin 6) w => idx6 s k w)
  have HT := Hid3.mk h
  have HL := Hid3.mk hl
  have HK := Hid3.mk hk
  have H1 := Hid3.mk hx1
  have H2 := Hid3.mk hx2
  have hbl := h.c.lt
  generalize ruP (s p) = q at *
  clear h hp he hl hk hx1 hx2
  go_enter Try.func5, Try.ntmps5
  go_wp2_with fail
  refine cR.mono ?_
  rintro r W ⟨rfl, hb⟩
  have hb1 := hb.trans ((below_new W (.cells #[.int .i64 q] 39)).mono hb.size)
  have HB := Hid3.mk hb1
  have hT := HT.out.below hb1
  have HT1 := Hid3.mk hT
  have hL := load6 hT.c
  generalize (tCs s).toArray = C at *
  clear cR hb hb1 hT
  go_wp2_with (refine wpList_loads rfl 35 _ rfl _ (.agg C) rfl hL ?_)
  generalize W.alloc (.cells #[.int .i64 q] 39) = W1 at *
  clear hL
  go_loopw [23] (fun i wr => ∃ k : Nat, k ≤ K ∧ i = .int .i64 k ∧ wr = W1) (fun i _ => 6 - (intOf i).toNat)
  case atStart => exact ⟨0, by omega, rfl, rfl⟩
  case round =>
    obtain ⟨k, hkK, rfl, rfl⟩ := hrel
    by_cases hk6 : k < 6
    · have hkz : (k : Int) < 6 := by omega
      have hi := HI.out ⟨k, hk6⟩
      simp only at hi
      by_cases hlt : k < K
      · obtain ⟨t, v, hx⟩ := prV_if _ (HL.out ⟨k, hk6⟩ hlt)
        rw [hx] at hi
        clear hx
        go_wp2
        go_roundw
        case rel => exact ⟨k + 1, by omega, by go_num, trivial⟩
        case measure => simp [intOf]; omega
      · obtain rfl : k = K := by omega
        rw [HK.out hk6] at hi
        simp only [prV] at hi
        have hS : Hid3 (TS B w (wr.setCell ⟨b, k, none⟩ (.iface 39 (.agg #[.int .i64 p.1]))) b (forkS s p ⟨k, hk6⟩)) := ⟨TS.pre HB.out (TS.slot HT1.out ⟨k, hk6⟩ (.run p))⟩
        have c0 := HT1.out.at ⟨k, hk6⟩
        have f0 := HT1.out.c.thaw k
        simp only at c0
        generalize prV (s ⟨k, hk6⟩) = ov at *
        obtain ⟨rfl, rfl, rfl⟩ := H1.out hk6
        go_wp2
        go_ret2
        exact ⟨rfl, hS.out⟩
    · have hkz : ¬ (k : Int) < 6 := by omega
      obtain rfl : k = 6 := by omega
      obtain rfl : K = 6 := by omega
      obtain ⟨rfl, rfl, rfl⟩ := H2.out (by omega)
      go_wp2
      go_ret2
      exact ⟨rfl, TS.same HT.out HB.out⟩
set_option maxHeartbeats 2000000 in
theorem running_any (B b : Nat) (s : Pt) (w : World) (h : Tp B w b s) : Calls Try.prog 8 #[.pointer (some ⟨b, 0, none⟩)] w fun r w' => ∃ v, r = .returned v ∧ w'.ownsRow w.heap.size 3 1 v (thL (fun i => runs (s i)) 6).length ((thL (fun i => runs (s i)) 6).map slI) ∧ Below w.heap.size w w' := by
  have HM : Hid3 (∀ (k : Nat) W, Below w.heap.size w W → Calls Try.prog 12 #[.pointer (some ⟨b, 0, none⟩), .int .i64 (k : Int)] W fun r w' => r = .returned (.int .u8 (stI (gt s k))) ∧ Below W.heap.size W w') := ⟨fun k W hW => st_of _ k (gt s k) W (at_any B b s k W (h.below hW))⟩
  obtain ⟨i0, hi0, hz0, hz1, hz2⟩ := iparts infoI
  have hru : Hid3 (∀ x : Pr, runs x = decide (stI x = 1)) := ⟨fun x => by cases x <;> rfl⟩
  clear h
  go_enter Try.func8, Try.ntmps8
  go_wp2
  go_loopw [3, 5] (fun v i wr => ∃ k : Nat, k ≤ 6 ∧ i = .int .i64 k ∧ wr.ownsRow w.heap.size 3 1 v (thL (fun i => runs (s i)) k).length ((thL (fun i => runs (s i)) k).map slI) ∧ Below w.heap.size w wr) (fun _ i _ => 6 - (intOf i).toNat)
  case atStart => exact ⟨0, by omega, rfl, World.ownsRow_nil _ _ _ _, Below.refl _ _⟩
  case round =>
    obtain ⟨k, hk, rfl, hown, hB⟩ := hrel
    obtain ⟨a0, cap0, rfl⟩ := slice_of hown
    have hsb := hB.size
    have HO := Hid3.mk hown
    have cM := HM.out k wr hB
    have HB := Hid3.mk hB
    by_cases hk6 : k < 6
    · have hkz : (k : Int) < 6 := by omega
      have hsn := thL_snoc (fun i => runs (s i)) k hk6
      have hg : gt s k = s ⟨k, hk6⟩ := gt_in s ⟨k, hk6⟩
      rw [hg] at cM
      have hL := thL_len (fun i => runs (s i)) k
      rw [hru.out] at hsn
      by_cases hf : stI (s ⟨k, hk6⟩) = 1
      · rw [decide_eq_true hf] at hsn
        rw [hf] at cM
        have HL : Hid3 (thL (fun i => runs (s i)) (k + 1) = thL (fun i => runs (s i)) k ++ [⟨k, hk6⟩]) := ⟨by rw [hsn]; simp⟩
        clear hf hB hsn hg hown
        go_wp2_with fail
        refine cM.mono ?_
        rintro r W ⟨rfl, hbW⟩
        have hown : W.ownsRow w.heap.size 3 1 (.slice a0 (thL (fun i => runs (s i)) k).length cap0) (thL (fun i => runs (s i)) k).length ((thL (fun i => runs (s i)) k).map slI) := HO.out.kept ⟨hbW.os, hbW.tape, hbW.output, hbW.size, fun j hj _ => hbW.block j hj⟩ (Classical.em _)
        have HBW : Hid3 (Below w.heap.size w W) := ⟨HB.out.trans (hbW.mono HB.out.size)⟩
        have hsW := hbW.size
        clear cM hbW
        go_wp2_with (at_builtin; refine wpList_append_own _ rfl _ _ 31 rfl w.heap.size 3 i0 (.int .i64 0) 1 8 Try.underlying31 hi0 hz0 hz1 hz2 rfl (by decide) _ _ _ rfl (hown.alloc _) ⟨W.heap.size, 0, none⟩ 1 1 [.int .i64 (k : Int)] rfl rfl (cell_one W (.int .i64 (k : Int)) 3) (by simp [Value.oneCell']) (by unfold maxLen; omega) (by omega) (by simp; omega) ?_; intro v' w1 hown' hgrow _)
        have hb3 : Below w.heap.size w w1 := (HBW.out.alloc HBW.out.size _).grown hgrow (by simp; omega) (fun j hj => (hown.lt j hj).1)
        go_roundw
        case rel =>
          refine ⟨k + 1, by omega, by go_num, ?_, hb3⟩
          rw [HL.out, List.length_append, List.map_append]
          exact hown'
        case measure => simp [intOf]; omega
      · rw [decide_eq_false hf] at hsn
        have hb : (stI (s ⟨k, hk6⟩) == 1) = false := by rw [beq_eq_false_iff_ne]; exact hf
        have HL : Hid3 (thL (fun i => runs (s i)) (k + 1) = thL (fun i => runs (s i)) k) := ⟨by rw [hsn]; simp⟩
        generalize stI (s ⟨k, hk6⟩) = x at *
        clear hf hB hsn hg hown
        go_wp2_with fail
        refine cM.mono ?_
        rintro r W ⟨rfl, hbW⟩
        have HO2 : Hid3 (W.ownsRow w.heap.size 3 1 (.slice a0 (thL (fun i => runs (s i)) k).length cap0) (thL (fun i => runs (s i)) k).length ((thL (fun i => runs (s i)) k).map slI)) := ⟨HO.out.kept ⟨hbW.os, hbW.tape, hbW.output, hbW.size, fun j hj _ => hbW.block j hj⟩ (Classical.em _)⟩
        have HBW : Hid3 (Below w.heap.size w W) := ⟨HB.out.trans (hbW.mono HB.out.size)⟩
        clear cM hbW
        go_wp2
        go_roundw
        case rel => exact ⟨k + 1, by omega, by go_num, by rw [HL.out]; exact HO2.out, HBW.out⟩
        case measure => simp [intOf]; omega
    · have hkz : ¬ (k : Int) < 6 := by omega
      obtain rfl : k = 6 := by omega
      clear cM
      go_wp2
      go_ret
      exact ⟨_, rfl, HO.out, HB.out⟩
theorem wpList_stores {ops : Array Oper} {rest : List Oper} {o : Oper} {a : Act} {w w' : World} {Q : Exit → Act → World → Prop} (hgd : o.guard = none) (ty : TypeId) (p x : Operand) (ho : o.op = .store ty p x) (v u : Value) (hp : a.eval p = v) (hx : a.eval x = u) (hL : (Instr.storeAt ty v u).run Try.prog w = .ok () w')
    (h : wpList Try.prog ops Q rest (a.put o.dst undef) w') : wpList Try.prog ops Q (o :: rest) a w :=
  wpList_plain hgd fun K hK => by
    unfold Oper.wp execOp
    simp only [ho, hp, hx, Sem.run_bind, hL, Result.andThen_ok, Sem.run_pure]
    exact hK _ _ h
theorem prV_one (x : Pr) : (prV x).oneCell' = true := by cases x <;> rfl
end Go.Proofs.Ytnbmancadaeejaa
