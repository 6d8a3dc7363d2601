/- The document's table in memory: may, at, fresh, Begin. -/
import Derived.Test.YtbkpkcndmlapfaaFdH
namespace Go.Proofs.Ytbkpkcndmlapfaa
open Go.RowKit Go.Maps
set_option linter.unusedVariables false
set_option maxRecDepth 100000
/-- What there ever was, as a row that is read. -/
def OpR (w : World) (v : Value) (L : List Opn) : Prop := (v = .slice none 0 0 ∧ L = []) ∨ ∃ (g cap : Nat) (cur : Array Value), v = .slice (some ⟨g, 0, none⟩) L.length cap ∧ w.heap[g]? = some (.cells cur 32 (0, 0)) ∧ L.length ≤ cap ∧ ∀ (j : Nat) (u : Value), (opCs L)[j]? = some u → cur.toList[j]? = some u
theorem OpR.of_own {B : Nat} {w : World} {v : Value} {L : List Opn} (h : w.ownsRow B 32 3 v L.length (opCs L)) : OpR w v L := by
  rcases h.2 with ⟨h1, h2⟩ | ⟨g, cap, cur, rfl, _, hb, hk, hm, _, htk⟩
  · exact .inl ⟨h1, List.eq_nil_of_length_eq_zero h2⟩
  · refine .inr ⟨g, cap, cur, rfl, hb, hk, fun j u hu => ?_⟩
    have hj : j < (opCs L).length := (List.getElem?_eq_some_iff.1 hu).1
    rw [opCs_len] at hj
    rw [← htk, List.getElem?_take, if_pos (by omega)] at hu
    exact hu
theorem OpR.low {w w' : World} {v : Value} {L : List Opn} (h : OpR w v L) (k : Below w.heap.size w w') : OpR w' v L := by
  rcases h with h | ⟨g, cap, cur, h1, h2, h3, h4⟩
  · exact .inl h
  · exact .inr ⟨g, cap, cur, h1, (k.block g (Array.getElem?_eq_some_iff.1 h2).1).trans h2, h3, h4⟩
/-- It stays where no block of its type is written. -/
theorem OpR.stay {w w' : World} {v : Value} {L : List Opn} {X : Nat → Prop} (h : OpR w v L) (k : Apart X w w') (hx : ∀ g cur, w.heap[g]? = some (.cells cur 32 (0, 0)) → ¬ X g) : OpR w' v L := by
  rcases h with h | ⟨g, cap, cur, h1, h2, h3, h4⟩
  · exact .inl h
  · exact .inr ⟨g, cap, cur, h1, (k.block g (Array.getElem?_eq_some_iff.1 h2).1 (hx g cur h2)).trans h2, h3, h4⟩
def hasCs (h : Fin 6 → Bool) : List Value := [.bool (h 0), .bool (h 1), .bool (h 2), .bool (h 3), .bool (h 4), .bool (h 5)]
def fdCs (f : Fin 8 → Nat) : List Value := [.int .i64 (f 0), .int .i64 (f 1), .int .i64 (f 2), .int .i64 (f 3), .int .i64 (f 4), .int .i64 (f 5), .int .i64 (f 6), .int .i64 (f 7)]
def dCs (s : Fs) (v : Value) : List Value := hasCs s.has ++ (fdCs (s.fd 0) ++ (fdCs (s.fd 1) ++ (fdCs (s.fd 2) ++ (fdCs (s.fd 3) ++ (fdCs (s.fd 4) ++ (fdCs (s.fd 5) ++ [v]))))))
theorem dCs_has (s : Fs) (v : Value) : ∀ p : Fin 6, (dCs s v)[p.1]? = some (.bool (s.has p)) := all6 rfl rfl rfl rfl rfl rfl
theorem dCs_fd (s : Fs) (v : Value) : ∀ (p : Fin 6) (k : Fin 8), (dCs s v)[6 + p.1 * 8 + k.1]? = some (.int .i64 (s.fd p k)) :=
  all6 (all8 rfl rfl rfl rfl rfl rfl rfl rfl) (all8 rfl rfl rfl rfl rfl rfl rfl rfl) (all8 rfl rfl rfl rfl rfl rfl rfl rfl) (all8 rfl rfl rfl rfl rfl rfl rfl rfl) (all8 rfl rfl rfl rfl rfl rfl rfl rfl) (all8 rfl rfl rfl rfl rfl rfl rfl rfl)
theorem dCs_hset (s : Fs) (v : Value) (x : Bool) : ∀ p : Fin 6, (dCs s v).set p.1 (.bool x) = dCs { s with has := upd s.has p x } v := all6 rfl rfl rfl rfl rfl rfl
theorem dCs_fset (s : Fs) (v : Value) (n : Nat) : ∀ (p : Fin 6) (k : Fin 8), (dCs s v).set (6 + p.1 * 8 + k.1) (.int .i64 n) = dCs (setFd s p k n) v :=
  all6 (all8 rfl rfl rfl rfl rfl rfl rfl rfl) (all8 rfl rfl rfl rfl rfl rfl rfl rfl) (all8 rfl rfl rfl rfl rfl rfl rfl rfl) (all8 rfl rfl rfl rfl rfl rfl rfl rfl) (all8 rfl rfl rfl rfl rfl rfl rfl rfl) (all8 rfl rfl rfl rfl rfl rfl rfl rfl)
/-- The document's table. -/
structure Rt (B : Nat) (w : World) (b : Nat) (s : Fs) : Prop where
  g : B ≤ b
  ex : ∃ v, Cl w b 85 (dCs s v) ∧ OpR w v s.all
  ok : s.Ok
theorem Rt.lt {B : Nat} {w : World} {b : Nat} {s : Fs} (h : Rt B w b s) : b < w.heap.size := h.ex.elim fun _ hv => hv.1.lt
theorem Rt.below {B : Nat} {w w' : World} {b : Nat} {s : Fs} (h : Rt B w b s) (k : Below w.heap.size w w') : Rt B w' b s := ⟨h.g, h.ex.elim fun v hv => ⟨v, hv.1.below k, hv.2.low k⟩, h.ok⟩
/-- Its cells. -/
structure RtC (w : World) (b : Nat) (s : Fs) : Prop where
  h : ∀ p : Fin 6, w.cell? ⟨b, p.1, none⟩ = some (.bool (s.has p))
  d : ∀ (p : Fin 6) (k : Fin 8), w.cell? ⟨b, 6 + p.1 * 8 + k.1, none⟩ = some (.int .i64 (s.fd p k))
  f : ∀ j, w.frozen? ⟨b, j, none⟩ = false
  l : b < w.heap.size
theorem Rt.c {B : Nat} {w : World} {b : Nat} {s : Fs} (h : Rt B w b s) : RtC w b s := h.ex.elim fun v hv => ⟨fun p => (hv.1.cell _).trans (dCs_has s v p), fun p k => (hv.1.cell _).trans (dCs_fd s v p k), hv.1.thaw, hv.1.lt⟩
structure RStp (B : Nat) (w w' : World) (b : Nat) (s' : Fs) : Prop where
  r : Rt B w' b s'
  ap : Apart (fun k => k = b) w w'
theorem RStp.same {B : Nat} {w w' : World} {b : Nat} {s : Fs} (h : Rt B w b s) (k : Below w.heap.size w w') : RStp B w w' b s := ⟨h.below k, Apart.of_below k⟩
theorem RStp.trans {B : Nat} {w w1 w2 : World} {b : Nat} {s s' : Fs} (h : RStp B w w1 b s) (k : RStp B w1 w2 b s') : RStp B w w2 b s' := ⟨k.r, h.ap.trans k.ap⟩
theorem RStp.pre {B : Nat} {w w1 w2 : World} {b : Nat} {s' : Fs} (h : Below w.heap.size w w1) (k : RStp B w1 w2 b s') : RStp B w w2 b s' := ⟨k.r, (Apart.of_below h).trans k.ap⟩
theorem RStp.post {B : Nat} {w w1 w2 : World} {b : Nat} {s' : Fs} (k : RStp B w w1 b s') (h : Below w1.heap.size w1 w2) : RStp B w w2 b s' := ⟨k.r.below h, k.ap.trans (Apart.of_below h)⟩
theorem op_ne {w : World} {b : Nat} {c : List Value} (h : Cl w b 85 c) : ∀ g cur, w.heap[g]? = some (.cells cur 32 (0, 0)) → ¬ g = b := by
  intro g cur hg e
  subst e
  have := h.symm.trans hg
  injection this with this
  injection this with _ this
  exact absurd this (by decide)
theorem RStp.hset {B : Nat} {w : World} {b : Nat} {s : Fs} (h : Rt B w b s) (p : Fin 6) (x : Bool) (ok : ({ s with has := upd s.has p x } : Fs).Ok) : RStp B w (w.setCell ⟨b, p.1, none⟩ (.bool x)) b { s with has := upd s.has p x } := by
  have ap : Apart (fun k => k = b) w (w.setCell ⟨b, p.1, none⟩ (.bool x)) := Apart.at _ _ _ _ rfl
  obtain ⟨v, h1, h2⟩ := h.ex
  refine ⟨⟨h.g, ⟨v, ?_, h2.stay ap (op_ne h1)⟩, ok⟩, ap⟩
  have := h1.set p.1 (.bool x)
  rw [dCs_hset] at this
  exact this
theorem RStp.fset {B : Nat} {w : World} {b : Nat} {s : Fs} (h : Rt B w b s) (p : Fin 6) (k : Fin 8) (n : Nat) (ok : (setFd s p k n).Ok) : RStp B w (w.setCell ⟨b, 6 + p.1 * 8 + k.1, none⟩ (.int .i64 n)) b (setFd s p k n) := by
  have ap : Apart (fun k => k = b) w (w.setCell ⟨b, 6 + p.1 * 8 + k.1, none⟩ (.int .i64 n)) := Apart.at _ _ _ _ rfl
  obtain ⟨v, h1, h2⟩ := h.ex
  refine ⟨⟨h.g, ⟨v, ?_, h2.stay ap (op_ne h1)⟩, ok⟩, ap⟩
  have := h1.set (6 + p.1 * 8 + k.1) (.int .i64 n)
  rw [dCs_fset] at this
  exact this
set_option maxHeartbeats 1000000 in
theorem rnew_any (w : World) : Calls Try.prog 27 #[] w fun r w' => r = .returned (.pointer (some ⟨w.heap.size, 0, none⟩)) ∧ Rt w.heap.size w' w.heap.size fs0 ∧ Below w.heap.size w w' := by
  go_enter Try.func27, Try.ntmps27
  go_wp2
  go_ret
  exact ⟨rfl, ⟨Nat.le_refl _, ⟨.slice none 0 0, heap_alloc_new w _, .inl ⟨rfl, rfl⟩⟩, fs0_ok⟩, below_new w _⟩
set_option maxHeartbeats 1000000 in
theorem may_ok (b : Nat) (s : Fs) (p : Fin 6) (w : World) (h : RtC w b s) (hp : s.has p = true) : Calls Try.prog 50 #[.pointer (some ⟨b, 0, none⟩), .int .i64 p.1] w fun r w' => r = .returned (.int .i64 0) ∧ w' = w := by
  have c0 := h.h p
  rw [hp] at c0
  clear h
  obtain ⟨p, hp6⟩ := p
  have h1 : ¬ (p : Int) < 0 := by omega
  have h2 : (p : Int) < 6 := by omega
  have h3 : ¬ (6 : Int) ≤ p := by omega
  simp only at *
  go_enter Try.func50, Try.ntmps50
  go_wp2
  go_ret
  exact ⟨rfl, rfl⟩
set_option maxHeartbeats 1000000 in
theorem may_bad (b : Nat) (s : Fs) (pid : Int) (w : World) (h : RtC w b s) (hp : NoP s pid) : Calls Try.prog 50 #[.pointer (some ⟨b, 0, none⟩), .int .i64 pid] w fun r w' => r = .returned (.int .i64 5) ∧ w' = w := by
  rcases hp with h1 | h1 | ⟨p, rfl, hp⟩
  · clear h
    go_enter Try.func50, Try.ntmps50
    go_wp2
    go_ret
    exact ⟨rfl, rfl⟩
  · clear h
    have h0 : ¬ pid < 0 := by omega
    go_enter Try.func50, Try.ntmps50
    go_wp2
    go_ret
    exact ⟨rfl, rfl⟩
  · have c0 := h.h p
    rw [hp] at c0
    clear h
    obtain ⟨p, hp6⟩ := p
    have h1 : ¬ (p : Int) < 0 := by omega
    have h2 : (p : Int) < 6 := by omega
    have h3 : ¬ (6 : Int) ≤ p := by omega
    simp only at *
    go_enter Try.func50, Try.ntmps50
    go_wp2
    go_ret
    exact ⟨rfl, rfl⟩
set_option maxHeartbeats 1000000 in
theorem fresh_any (b : Nat) (s : Fs) (pid : Int) (w : World) (h : RtC w b s) : Calls Try.prog 54 #[.pointer (some ⟨b, 0, none⟩), .int .i64 pid] w fun r w' => r = .returned (.int .i64 (freshE s pid)) ∧ w' = w := by
  by_cases hc : 0 ≤ pid ∧ pid < 6
  · obtain ⟨p, rfl⟩ : ∃ p : Fin 6, pid = (p.1 : Int) := ⟨⟨pid.toNat, by omega⟩, by show pid = (pid.toNat : Int); omega⟩
    rw [freshE_at]
    have c0 := h.h p
    clear h hc
    obtain ⟨p, hp6⟩ := p
    have h1 : ¬ (p : Int) < 0 := by omega
    have h2 : (p : Int) < 6 := by omega
    have h3 : ¬ (6 : Int) ≤ p := by omega
    cases hh : s.has ⟨p, hp6⟩ with
    | true =>
      rw [hh] at c0
      simp only [if_true] at *
      go_enter Try.func54, Try.ntmps54
      go_wp2
      go_ret
      exact ⟨rfl, rfl⟩
    | false =>
      rw [hh] at c0
      simp only [Bool.false_eq_true, if_false] at *
      go_enter Try.func54, Try.ntmps54
      go_wp2
      go_ret
      exact ⟨rfl, rfl⟩
  · have he : freshE s pid = 2 := by unfold freshE; rw [dif_neg hc]
    rw [he]
    clear h he
    by_cases h1 : pid < 0
    · clear hc
      go_enter Try.func54, Try.ntmps54
      go_wp2
      go_ret
      exact ⟨rfl, rfl⟩
    · have h2 : 6 ≤ pid := by omega
      clear hc
      go_enter Try.func54, Try.ntmps54
      go_wp2
      go_ret
      exact ⟨rfl, rfl⟩
set_option maxHeartbeats 1000000 in
theorem rat_ok (b : Nat) (s : Fs) (p : Fin 6) (k : Fin 8) (w : World) (h : RtC w b s) (hp : s.has p = true) (hk : s.fd p k ≠ 0) : Calls Try.prog 51 #[.pointer (some ⟨b, 0, none⟩), .int .i64 p.1, .int .i64 k.1] w fun r w' => r = .returned (.int .i64 0) ∧ w' = w := by
  have cM := may_ok b s p w h hp
  have c0 := h.d p k
  have h5 : ((s.fd p k : Int) == 0) = false := by simpa using hk
  generalize ((s.fd p k : Nat) : Int) = n at *
  clear h hk
  obtain ⟨p, hp6⟩ := p
  obtain ⟨k, hk8⟩ := k
  have h1 : ¬ (k : Int) < 0 := by omega
  have h2 : (k : Int) < 8 := by omega
  have h3 : ¬ (8 : Int) ≤ k := by omega
  have h4 : (p : Int) < 6 := by omega
  simp only at *
  go_enter Try.func51, Try.ntmps51
  go_wp2_with fail
  refine cM.mono ?_
  rintro r W ⟨rfl, rfl⟩
  go_wp2
  go_ret
  exact ⟨rfl, rfl⟩
set_option maxHeartbeats 1000000 in
theorem rat_nop (b : Nat) (s : Fs) (pid fd : Int) (w : World) (h : RtC w b s) (hp : NoP s pid) : Calls Try.prog 51 #[.pointer (some ⟨b, 0, none⟩), .int .i64 pid, .int .i64 fd] w fun r w' => r = .returned (.int .i64 5) ∧ w' = w := by
  have cM := may_bad b s pid w h hp
  clear h hp
  go_enter Try.func51, Try.ntmps51
  go_wp2_with fail
  refine cM.mono ?_
  rintro r W ⟨rfl, rfl⟩
  go_wp2
  go_ret
  exact ⟨rfl, rfl⟩
set_option maxHeartbeats 1000000 in
theorem rat_nof (b : Nat) (s : Fs) (p : Fin 6) (fd : Int) (w : World) (h : RtC w b s) (hp : s.has p = true) (hk : NoF s p fd) : Calls Try.prog 51 #[.pointer (some ⟨b, 0, none⟩), .int .i64 p.1, .int .i64 fd] w fun r w' => r = .returned (.int .i64 3) ∧ w' = w := by
  have cM := may_ok b s p w h hp
  rcases hk with h1 | h1 | ⟨k, rfl, hk⟩
  · clear h
    go_enter Try.func51, Try.ntmps51
    go_wp2_with fail
    refine cM.mono ?_
    rintro r W ⟨rfl, rfl⟩
    go_wp2
    go_ret
    exact ⟨rfl, rfl⟩
  · clear h
    have h0 : ¬ fd < 0 := by omega
    go_enter Try.func51, Try.ntmps51
    go_wp2_with fail
    refine cM.mono ?_
    rintro r W ⟨rfl, rfl⟩
    go_wp2
    go_ret
    exact ⟨rfl, rfl⟩
  · have c0 := h.d p k
    rw [hk] at c0
    clear h
    obtain ⟨p, hp6⟩ := p
    obtain ⟨k, hk8⟩ := k
    have h1 : ¬ (k : Int) < 0 := by omega
    have h2 : (k : Int) < 8 := by omega
    have h3 : ¬ (8 : Int) ≤ k := by omega
    have h4 : (p : Int) < 6 := by omega
    simp only at *
    go_enter Try.func51, Try.ntmps51
    go_wp2_with fail
    refine cM.mono ?_
    rintro r W ⟨rfl, rfl⟩
    go_wp2
    go_ret
    exact ⟨rfl, rfl⟩
end Go.Proofs.Ytbkpkcndmlapfaa
