/- The document's vector: its calls but Out, Turn, Places. -/
import Derived.Test.YtgfiliodbggahaaQuG
namespace Go.Proofs.Ytgfiliodbggahaa
open Go.RowKit Go.Maps
set_option linter.unusedVariables false
set_option maxRecDepth 100000
theorem rmay_ok (rb : Nat) (e : Fin 6) (k : Fin 8) (w : World) : Calls Try.prog 41 #[.pointer (some ⟨rb, 0, none⟩), .int .u8 e.1, .int .i64 k.1] w fun r w' => r = .returned (.int .i64 0) ∧ w' = w := by
  have h1 : ¬ (6 : Int) ≤ (e.1 : Int) := by omega
  have h2 : ¬ (k.1 : Int) < 0 := by omega
  have h3 : ¬ (8 : Int) ≤ (k.1 : Int) := by omega
  go_enter Try.func41, Try.ntmps41
  go_wp2
  go_ret
  exact ⟨rfl, rfl⟩
theorem rmay_bad (rb : Nat) (e k : Int) (w : World) (hb : Bad e k) : Calls Try.prog 41 #[.pointer (some ⟨rb, 0, none⟩), .int .u8 e, .int .i64 k] w fun r w' => r = .returned (.int .i64 2) ∧ w' = w := by
  unfold Bad at hb
  by_cases h1 : (6 : Int) ≤ e
  · clear hb
    go_enter Try.func41, Try.ntmps41
    go_wp2
    go_ret
    exact ⟨rfl, rfl⟩
  by_cases h2 : k < 0
  · clear hb
    go_enter Try.func41, Try.ntmps41
    go_wp2
    go_ret
    exact ⟨rfl, rfl⟩
  · have h3 : (8 : Int) ≤ k := by omega
    clear hb
    go_enter Try.func41, Try.ntmps41
    go_wp2
    go_ret
    exact ⟨rfl, rfl⟩
theorem refV_zero (o : Option (Fin 6)) : (refV o == 0) = !o.isSome := by
  cases o with
  | none => rfl
  | some e => simp [refV]; omega
theorem refV_some (o : Option (Fin 6)) (e : Fin 6) : (refV o == ((e.1 : Int) + 1)) = decide (o = some e) := by
  cases o with
  | none =>
    have : ¬ (0 : Int) = (e.1 : Int) + 1 := by omega
    simp [refV, this]
  | some x =>
    by_cases h : x = e
    · subst h; simp [refV]
    · have : ¬ (x.1 : Int) = (e.1 : Int) := fun h2 => h (Fin.ext (by omega))
      simp [refV, h, this]
set_option maxHeartbeats 1000000 in
theorem rtake_ok (B rb : Nat) (q : Qs) (e : Fin 6) (k : Fin 8) (w : World) (h : Rv B w rb q) : Calls Try.prog 35 #[.pointer (some ⟨rb, 0, none⟩), .int .u8 e.1, .int .i64 k.1] w fun r w' => r = .returned (.int .i64 (takeE e k q)) ∧ RStp B w w' rb (takeQ e k q) := by
  have cT := rmay_ok rb e k w
  have HS : Hid (RStp B w (w.setCell ⟨rb, k.1, none⟩ (.int .i64 ((e.1 : Int) + 1))) rb { q with pl := upd q.pl k (some e) }) := RStp.place h k (some e)
  have HV : Hid (Rv B w rb q) := h
  have c0 := h.c.cl k
  have f0 := h.c.f k.1
  have z0 := refV_zero (q.pl k)
  have h2 : (k.1 : Int) < 8 := by have := k.2; omega
  unfold takeE takeQ
  generalize (q.pl k).isSome = b at *
  generalize refV (q.pl k) = z at *
  clear h
  cases b with
  | true =>
    have z1 : (z != 0) = true := by rw [bne, z0]; rfl
    go_enter Try.func35, Try.ntmps35
    go_wp2_with fail
    refine cT.mono ?_
    rintro r W ⟨rfl, rfl⟩
    go_wp2
    go_ret
    exact ⟨rfl, RStp.same HV.out (Below.refl _ _)⟩
  | false =>
    have z1 : (z != 0) = false := by rw [bne, z0]; rfl
    go_enter Try.func35, Try.ntmps35
    go_wp2_with fail
    refine cT.mono ?_
    rintro r W ⟨rfl, rfl⟩
    go_wp2
    go_ret
    exact ⟨rfl, HS.out⟩
set_option maxHeartbeats 1000000 in
theorem rtake_bad (rb : Nat) (e k : Int) (w : World) (hb : Bad e k) : Calls Try.prog 35 #[.pointer (some ⟨rb, 0, none⟩), .int .u8 e, .int .i64 k] w fun r w' => r = .returned (.int .i64 2) ∧ w' = w := by
  have cT := rmay_bad rb e k w hb
  clear hb
  go_enter Try.func35, Try.ntmps35
  go_wp2_with fail
  refine cT.mono ?_
  rintro r W ⟨rfl, rfl⟩
  go_wp2
  go_ret
  exact ⟨rfl, rfl⟩
set_option maxHeartbeats 1000000 in
theorem rgive_ok (B rb : Nat) (q : Qs) (e t : Fin 6) (k : Fin 8) (w : World) (h : Rv B w rb q) : Calls Try.prog 36 #[.pointer (some ⟨rb, 0, none⟩), .int .u8 e.1, .int .i64 k.1, .int .u8 t.1] w fun r w' => r = .returned (.int .i64 (handE e k q)) ∧ RStp B w w' rb (handQ e k (some t) q) := by
  have cT := rmay_ok rb e k w
  have HS : Hid (RStp B w (w.setCell ⟨rb, k.1, none⟩ (.int .i64 ((t.1 : Int) + 1))) rb { q with pl := upd q.pl k (some t) }) := RStp.place h k (some t)
  have HV : Hid (Rv B w rb q) := h
  have c0 := h.c.cl k
  have f0 := h.c.f k.1
  have z0 := refV_some (q.pl k) e
  have h2 : (k.1 : Int) < 8 := by have := k.2; omega
  have h3 : ¬ (6 : Int) ≤ (t.1 : Int) := by have := t.2; omega
  unfold handE handQ
  generalize refV (q.pl k) = z at *
  clear h
  by_cases hs : q.pl k = some e
  · rw [if_pos hs, if_pos hs]
    rw [hs, decide_eq_true rfl] at z0
    have z1 : (z != (e.1 : Int) + 1) = false := by rw [bne, z0]; rfl
    clear hs
    go_enter Try.func36, Try.ntmps36
    go_wp2_with fail
    refine cT.mono ?_
    rintro r W ⟨rfl, rfl⟩
    go_wp2
    go_ret
    exact ⟨rfl, HS.out⟩
  · rw [if_neg hs, if_neg hs]
    rw [decide_eq_false hs] at z0
    have z1 : (z != (e.1 : Int) + 1) = true := by rw [bne, z0]; rfl
    clear hs
    go_enter Try.func36, Try.ntmps36
    go_wp2_with fail
    refine cT.mono ?_
    rintro r W ⟨rfl, rfl⟩
    go_wp2
    go_ret
    exact ⟨rfl, RStp.same HV.out (Below.refl _ _)⟩
set_option maxHeartbeats 1000000 in
theorem rgive_bad (rb : Nat) (e k t : Int) (w : World) (he0 : 0 ≤ e) (hb : Bad e k ∨ 6 ≤ t) : Calls Try.prog 36 #[.pointer (some ⟨rb, 0, none⟩), .int .u8 e, .int .i64 k, .int .u8 t] w fun r w' => r = .returned (.int .i64 2) ∧ w' = w := by
  by_cases hh : Bad e k
  · have cT := rmay_bad rb e k w hh
    clear hb hh
    go_enter Try.func36, Try.ntmps36
    go_wp2_with fail
    refine cT.mono ?_
    rintro r W ⟨rfl, rfl⟩
    go_wp2
    go_ret
    exact ⟨rfl, rfl⟩
  · have ht : 6 ≤ t := hb.resolve_left hh
    unfold Bad at hh
    have e1 : (((e.toNat : Nat) : Int)) = e := by omega
    have k1 : (((k.toNat : Nat) : Int)) = k := by omega
    have cT := rmay_ok rb ⟨e.toNat, by omega⟩ ⟨k.toNat, by omega⟩ w
    rw [e1, k1] at cT
    clear hb hh e1 k1
    go_enter Try.func36, Try.ntmps36
    go_wp2_with fail
    refine cT.mono ?_
    rintro r W ⟨rfl, rfl⟩
    go_wp2
    go_ret
    exact ⟨rfl, rfl⟩
set_option maxHeartbeats 1000000 in
theorem rdrop_ok (B rb : Nat) (q : Qs) (e : Fin 6) (k : Fin 8) (w : World) (h : Rv B w rb q) : Calls Try.prog 37 #[.pointer (some ⟨rb, 0, none⟩), .int .u8 e.1, .int .i64 k.1] w fun r w' => r = .returned (.int .i64 (handE e k q)) ∧ RStp B w w' rb (handQ e k none q) := by
  have cT := rmay_ok rb e k w
  have HS : Hid (RStp B w (w.setCell ⟨rb, k.1, none⟩ (.int .i64 0)) rb { q with pl := upd q.pl k none }) := RStp.place h k none
  have HV : Hid (Rv B w rb q) := h
  have c0 := h.c.cl k
  have f0 := h.c.f k.1
  have z0 := refV_some (q.pl k) e
  have h2 : (k.1 : Int) < 8 := by have := k.2; omega
  unfold handE handQ
  generalize refV (q.pl k) = z at *
  clear h
  by_cases hs : q.pl k = some e
  · rw [if_pos hs, if_pos hs]
    rw [hs, decide_eq_true rfl] at z0
    have z1 : (z != (e.1 : Int) + 1) = false := by rw [bne, z0]; rfl
    clear hs
    go_enter Try.func37, Try.ntmps37
    go_wp2_with fail
    refine cT.mono ?_
    rintro r W ⟨rfl, rfl⟩
    go_wp2
    go_ret
    exact ⟨rfl, HS.out⟩
  · rw [if_neg hs, if_neg hs]
    rw [decide_eq_false hs] at z0
    have z1 : (z != (e.1 : Int) + 1) = true := by rw [bne, z0]; rfl
    clear hs
    go_enter Try.func37, Try.ntmps37
    go_wp2_with fail
    refine cT.mono ?_
    rintro r W ⟨rfl, rfl⟩
    go_wp2
    go_ret
    exact ⟨rfl, RStp.same HV.out (Below.refl _ _)⟩
set_option maxHeartbeats 1000000 in
theorem rdrop_bad (rb : Nat) (e k : Int) (w : World) (hb : Bad e k) : Calls Try.prog 37 #[.pointer (some ⟨rb, 0, none⟩), .int .u8 e, .int .i64 k] w fun r w' => r = .returned (.int .i64 2) ∧ w' = w := by
  have cT := rmay_bad rb e k w hb
  clear hb
  go_enter Try.func37, Try.ntmps37
  go_wp2_with fail
  refine cT.mono ?_
  rintro r W ⟨rfl, rfl⟩
  go_wp2
  go_ret
  exact ⟨rfl, rfl⟩
set_option maxHeartbeats 1000000 in
theorem rover_ok (B rb : Nat) (q : Qs) (e : Fin 6) (s : Nat) (w : World) (h : Rv B w rb q) (hq : q.Ok) (hs : s ≤ 1000) : Calls Try.prog 39 #[.pointer (some ⟨rb, 0, none⟩), .int .u8 e.1, .int .i64 s] w fun r w' => r = .returned (.int .i64 0) ∧ RStp B w w' rb (overQ e s q) := by
  have cT := rmay_ok rb e 0 w
  change Calls _ _ #[_, _, .int .i64 0] _ _ at cT
  have c0 := h.c.cp e
  have f0 := h.c.f (8 + e.1)
  have HV : Hid (Rv B w rb q) := h
  have HS1 := fun v => (RStp.pen h e v).drew
  have HS2 := fun v u => (HS1 v).trans (RStp.pen (HS1 v).rv e u)
  have HQ := hq e
  have hu : ∀ a b : Nat, upd (upd q.pen e a) e b = upd q.pen e b := fun a b => by
    funext i; unfold upd; split <;> rfl
  have h2 : (e.1 : Int) < 6 := by have := e.2; omega
  have h3 : ¬ (s : Int) < 0 := by omega
  have h4 : ¬ 1000 < (s : Int) := by omega
  have hself : ∀ x, x = q.pen e → upd q.pen e x = q.pen := fun x hx => by
    funext i; unfold upd; split
    · rename_i e2; subst e2; exact hx
    · rfl
  unfold overQ
  generalize hx : q.pen e = x at *
  clear h hq
  by_cases h5 : 4 < (s : Int)
  · by_cases h6 : 1000 < (x : Int) + ((s : Int) - 4)
    · have e1 : min 1000 (x + (s - 4)) = 1000 := by omega
      rw [e1]
      have HS := HS2 (x + (s - 4)) 1000
      simp only [hu] at HS
      have e2 : ((x + (s - 4) : Nat) : Int) = (x : Int) + ((s : Int) - 4) := by omega
      rw [e2] at HS
      have c1 : (w.setCell ⟨rb, 8 + e.1, none⟩ (.int .i64 ((x : Int) + ((s : Int) - 4)))).drew.cell? ⟨rb, 8 + e.1, none⟩ = some (.int .i64 ((x : Int) + ((s : Int) - 4))) := by
        have := (HS1 (x + (s - 4))).rv.c.cp e
        simp only [upd_same, e2] at this
        exact this
      have HS' : Hid (RStp B w ((w.setCell ⟨rb, 8 + e.1, none⟩ (.int .i64 ((x : Int) + ((s : Int) - 4)))).drew.setCell ⟨rb, 8 + e.1, none⟩ (.int .i64 1000)) rb { q with pen := upd q.pen e 1000 }) := HS
      clear HS e1 e2 HS1 HS2 hu hself hx
      go_enter Try.func39, Try.ntmps39
      go_wp2_with fail
      refine cT.mono ?_
      rintro r W ⟨rfl, rfl⟩
      go_wp2
      go_region
      go_wp2
      go_ret
      exact ⟨rfl, HS'.out⟩
    · have e1 : min 1000 (x + (s - 4)) = x + (s - 4) := by omega
      rw [e1]
      have HS := HS1 (x + (s - 4))
      have e2 : ((x + (s - 4) : Nat) : Int) = (x : Int) + ((s : Int) - 4) := by omega
      rw [e2] at HS
      have HS' : Hid (RStp B w (w.setCell ⟨rb, 8 + e.1, none⟩ (.int .i64 ((x : Int) + ((s : Int) - 4)))).drew rb { q with pen := upd q.pen e (x + (s - 4)) }) := HS
      clear HS e1 e2 HS1 HS2 hu hself hx
      go_enter Try.func39, Try.ntmps39
      go_wp2_with fail
      refine cT.mono ?_
      rintro r W ⟨rfl, rfl⟩
      go_wp2
      go_region
      go_wp2
      go_ret
      exact ⟨rfl, HS'.out⟩
  · have e1 : min 1000 (x + (s - 4)) = x := by omega
    rw [e1, hself x rfl]
    have h6 : ¬ 1000 < (x : Int) := by omega
    clear e1 HS1 HS2 hu hself hx
    go_enter Try.func39, Try.ntmps39
    go_wp2_with fail
    refine cT.mono ?_
    rintro r W ⟨rfl, rfl⟩
    go_wp2
    go_ret
    exact ⟨rfl, RStp.same HV.out (Below.refl _ _)⟩
set_option maxHeartbeats 1000000 in
theorem rover_bad (rb : Nat) (e s : Int) (w : World) (he0 : 0 ≤ e) (hb : 6 ≤ e ∨ s < 0 ∨ 1000 < s) : Calls Try.prog 39 #[.pointer (some ⟨rb, 0, none⟩), .int .u8 e, .int .i64 s] w fun r w' => r = .returned (.int .i64 2) ∧ w' = w := by
  by_cases h1 : (6 : Int) ≤ e
  · have cT := rmay_bad rb e 0 w (.inl h1)
    clear hb
    go_enter Try.func39, Try.ntmps39
    go_wp2_with fail
    refine cT.mono ?_
    rintro r W ⟨rfl, rfl⟩
    go_wp2
    go_ret
    exact ⟨rfl, rfl⟩
  have e1 : (((e.toNat : Nat) : Int)) = e := by omega
  have cT := rmay_ok rb ⟨e.toNat, by omega⟩ 0 w
  rw [e1] at cT
  change Calls _ _ #[_, _, .int .i64 0] _ _ at cT
  clear e1
  by_cases h2 : s < 0
  · clear hb
    go_enter Try.func39, Try.ntmps39
    go_wp2_with fail
    refine cT.mono ?_
    rintro r W ⟨rfl, rfl⟩
    go_wp2
    go_ret
    exact ⟨rfl, rfl⟩
  · have h3 : 1000 < s := by omega
    clear hb
    go_enter Try.func39, Try.ntmps39
    go_wp2_with fail
    refine cT.mono ?_
    rintro r W ⟨rfl, rfl⟩
    go_wp2
    go_ret
    exact ⟨rfl, rfl⟩
set_option maxHeartbeats 1000000 in
theorem rnow_any (B rb : Nat) (q : Qs) (w : World) (h : Rv B w rb q) : Calls Try.prog 31 #[.pointer (some ⟨rb, 0, none⟩)] w fun r w' => r = .returned (.int .i64 q.now.1) ∧ w' = w := by
  have c0 := h.c.cn
  generalize ((q.now.1 : Nat) : Int) = n at *
  clear h
  go_enter Try.func31, Try.ntmps31
  go_wp2
  go_ret
  exact ⟨rfl, rfl⟩
set_option maxHeartbeats 1000000 in
theorem rpen_ok (B rb : Nat) (q : Qs) (e : Fin 6) (w : World) (h : Rv B w rb q) : Calls Try.prog 30 #[.pointer (some ⟨rb, 0, none⟩), .int .u8 e.1] w fun r w' => r = .returned (.int .i64 (q.pen e)) ∧ w' = w := by
  have cT := rmay_ok rb e 0 w
  change Calls _ _ #[_, _, .int .i64 0] _ _ at cT
  have c0 := h.c.cp e
  have h2 : (e.1 : Int) < 6 := by have := e.2; omega
  generalize ((q.pen e : Nat) : Int) = n at *
  clear h
  go_enter Try.func30, Try.ntmps30
  go_wp2_with fail
  refine cT.mono ?_
  rintro r W ⟨rfl, rfl⟩
  go_wp2
  go_ret
  exact ⟨rfl, rfl⟩
set_option maxHeartbeats 1000000 in
theorem rpen_bad (rb : Nat) (e : Int) (w : World) (he : 6 ≤ e) : Calls Try.prog 30 #[.pointer (some ⟨rb, 0, none⟩), .int .u8 e] w fun r w' => r = .returned (.int .i64 0) ∧ w' = w := by
  have cT := rmay_bad rb e 0 w (.inl he)
  go_enter Try.func30, Try.ntmps30
  go_wp2_with fail
  refine cT.mono ?_
  rintro r W ⟨rfl, rfl⟩
  go_wp2
  go_ret
  exact ⟨rfl, rfl⟩
set_option maxHeartbeats 1000000 in
theorem rat_ok (B rb : Nat) (q : Qs) (k : Fin 8) (w : World) (h : Rv B w rb q) : Calls Try.prog 27 #[.pointer (some ⟨rb, 0, none⟩), .int .i64 k.1] w fun r w' => r = .returned (.tuple #[.int .u8 (envV (q.pl k)), .bool (q.pl k).isSome]) ∧ w' = w := by
  have cT := rmay_ok rb 0 k w
  change Calls _ _ #[_, .int .u8 0, _] _ _ at cT
  have c0 := h.c.cl k
  have h2 : (k.1 : Int) < 8 := by have := k.2; omega
  clear h
  cases ho : q.pl k with
  | none =>
    rw [ho] at c0
    simp only [refV] at c0
    simp only [envV, Option.isSome_none]
    clear ho
    go_enter Try.func27, Try.ntmps27
    go_wp2_with fail
    refine cT.mono ?_
    rintro r W ⟨rfl, rfl⟩
    go_wp2
    go_ret2
    exact ⟨rfl, rfl⟩
  | some e =>
    rw [ho] at c0
    simp only [refV] at c0
    simp only [envV, Option.isSome_some]
    clear ho
    have z1 : (((e.1 : Int) + 1) == 0) = false := by rw [beq_eq_false_iff_ne]; omega
    have z2 : ¬ ((e.1 : Int) + 1 = 0) := by omega
    have h6 := e.2
    have z3 : IntKind.u8.wrap (e.1 : Int) = (e.1 : Int) := by simp [IntKind.wrap, IntKind.bits, IntKind.signed]; omega
    go_enter Try.func27, Try.ntmps27
    go_wp2_with fail
    refine cT.mono ?_
    rintro r W ⟨rfl, rfl⟩
    go_wp2
    go_ret2
    exact ⟨rfl, rfl⟩
set_option maxHeartbeats 1000000 in
theorem rat_bad (rb : Nat) (k : Int) (w : World) (hk : k < 0 ∨ 8 ≤ k) : Calls Try.prog 27 #[.pointer (some ⟨rb, 0, none⟩), .int .i64 k] w fun r w' => r = .returned (.tuple #[.int .u8 0, .bool false]) ∧ w' = w := by
  have cT := rmay_bad rb 0 k w (.inr hk)
  clear hk
  go_enter Try.func27, Try.ntmps27
  go_wp2_with fail
  refine cT.mono ?_
  rintro r W ⟨rfl, rfl⟩
  go_wp2
  go_ret2
  exact ⟨rfl, rfl⟩
set_option maxHeartbeats 1000000 in
theorem rnew_any (w : World) : Calls Try.prog 25 #[] w fun r w' => r = .returned (.pointer (some ⟨w.heap.size, 0, none⟩)) ∧ Rv w.heap.size w' w.heap.size q0 ∧ Below w.heap.size w w' := by
  have hV : Rv w.heap.size (w.alloc (.cells (rCs q0).toArray 64)) w.heap.size q0 := ⟨Nat.le_refl _, Cl.new w _ _⟩
  have HV : Hid (Rv w.heap.size (w.alloc (.cells #[.int .i64 0, .int .i64 0, .int .i64 0, .int .i64 0, .int .i64 0, .int .i64 0, .int .i64 0, .int .i64 0, .int .i64 0, .int .i64 0, .int .i64 0, .int .i64 0, .int .i64 0, .int .i64 0, .int .i64 7] 64)) w.heap.size q0) := hV
  clear hV
  go_enter Try.func25, Try.ntmps25
  go_wp2
  go_ret
  exact ⟨rfl, HV.out, below_new w _⟩
end Go.Proofs.Ytgfiliodbggahaa
