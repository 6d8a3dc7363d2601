/- Both tables: what each call comes to on both; a deed on both. -/
import Derived.Test.YtbkpkcndmlapfaaFdJ
import Derived.Test.YtbkpkcndmlapfaaFdW
import Derived.Test.YtbkpkcndmlapfaaFdX
namespace Go.Proofs.Ytbkpkcndmlapfaa
open Go.RowKit Go.Maps
set_option linter.unusedVariables false
set_option maxRecDepth 100000
/-- Both tables. -/
structure Two (B : Nat) (w : World) (L : Lo) (b : Nat) (s : Fs) : Prop where
  t : Ft B w L s
  r : Rt B w b s
theorem Ft.notb {B : Nat} {w : World} {L : Lo} {b : Nat} {s : Fs} {c : List Value} (h : Ft B w L s) (hc : Cl w b 85 c) {k : Nat} (hk : XF L s k) : k ≠ b := by
  obtain ⟨_, _, t, c', h1, h2⟩ := h.x hk
  intro e
  subst e
  rcases h2 with rfl | rfl | rfl
  · exact h1.ne hc (by decide) rfl
  · exact h1.ne hc (by decide) rfl
  · exact h1.ne hc (by decide) rfl
theorem Rt.stay {B : Nat} {w w' : World} {L : Lo} {b : Nat} {s s2 : Fs} (h : Rt B w b s) (ht : Ft B w L s2) (ap : Apart (XF L s2) w w') : Rt B w' b s := by
  obtain ⟨v, h1, h2⟩ := h.ex
  refine ⟨h.g, ⟨v, h1.stay ap (fun e => ht.notb h1 e rfl), h2.stay ap (fun g cur hg hx => ?_)⟩, h.ok⟩
  obtain ⟨_, _, t, c', h3, h4⟩ := ht.x hx
  have := h3.symm.trans hg
  injection this with this
  injection this with _ this
  rcases h4 with e | e | e <;> (rw [e] at this; exact absurd this (by decide))
theorem Two.below {B : Nat} {w w' : World} {L : Lo} {b : Nat} {s : Fs} (h : Two B w L b s) (k : Below w.heap.size w w') : Two B w' L b s := ⟨h.t.below k, h.r.below k⟩
/-- What a deed on both comes to. -/
structure Mv (B : Nat) (w w' : World) (L : Lo) (b : Nat) (s s' : Fs) : Prop where
  out : ∃ L', L'.t = L.t ∧ Two B w' L' b s' ∧ ∀ k, XF L' s' k → XF L s k ∨ w.heap.size ≤ k
  ap : Apart (fun k => XF L s k ∨ k = b) w w'
theorem Mv.mk' {B : Nat} {w w1 w2 : World} {L : Lo} {b : Nat} {s s' : Fs} (h : Two B w L b s) (h1 : FStp B w w1 L s s') (h2 : RStp B w1 w2 b s') : Mv B w w2 L b s s' := by
  obtain ⟨L', e, hF, hX⟩ := h1.out
  have hr := h.r.stay h.t h1.ap
  obtain ⟨v, hc, _⟩ := hr.ex
  exact ⟨⟨L', e, ⟨hF.stay h2.ap (fun i hi => hF.notb hc hi), h2.r⟩, hX⟩, (h1.ap.wide (fun i _ x => .inl x)).trans (h2.ap.wide (fun i _ x => .inr x))⟩
theorem Mv.pre {B : Nat} {w w1 w2 : World} {L : Lo} {b : Nat} {s s' : Fs} (h : Below w.heap.size w w1) (k : Mv B w1 w2 L b s s') : Mv B w w2 L b s s' :=
  ⟨k.out.elim fun L' hL => ⟨L', hL.1, hL.2.1, fun i hi => (hL.2.2 i hi).imp id (Nat.le_trans h.size)⟩, (Apart.of_below h).trans k.ap⟩
theorem Mv.post {B : Nat} {w w1 w2 : World} {L : Lo} {b : Nat} {s s' : Fs} (k : Mv B w w1 L b s s') (h : Below w1.heap.size w1 w2) : Mv B w w2 L b s s' :=
  ⟨k.out.elim fun L' hL => ⟨L', hL.1, hL.2.1.below h, hL.2.2⟩, k.ap.trans (Apart.of_below h)⟩
theorem Mv.same {B : Nat} {w w' : World} {L : Lo} {b : Nat} {s : Fs} (h : Two B w L b s) (k : Below w.heap.size w w') : Mv B w w' L b s s := ⟨⟨L, rfl, h.below k, fun _ => .inl⟩, Apart.of_below k⟩
theorem Mv.low {B : Nat} {w w' : World} {L : Lo} {b : Nat} {s s' : Fs} (k : Mv B w w' L b s s') (h : Two B w L b s) (hB : B ≤ w.heap.size) : Below B w w' := k.ap.below B (fun i hi => hi.elim (fun x => (h.t.x x).1) (fun e => e ▸ h.r.g)) hB
theorem cell_far {B : Nat} {w w1 w2 : World} {L : Lo} {s : Fs} {j : Nat} {v : Value} (h : Ft B w L s) (ap : Apart (XF L s) w1 w2) (hc : w1.cell? ⟨w.heap.size, j, none⟩ = some v) : w2.cell? ⟨w.heap.size, j, none⟩ = some v :=
  cell_stay hc ap (fun e => by have := (h.x e).2.1; omega)
/-- One answer of both, a number. -/
structure B1 (fp fr : FuncId) (args : Array Value) (s : Fs) (e : Int) (s' : Fs) : Prop where
  p : ∀ B w L, Ft B w L s → B ≤ w.heap.size → Calls Try.prog fp (#[.pointer (some ⟨L.t, 0, none⟩)] ++ args) w fun r w' => r = .returned (.int .i64 e) ∧ FStp B w w' L s s'
  r : ∀ B w b, Rt B w b s → Calls Try.prog fr (#[.pointer (some ⟨b, 0, none⟩)] ++ args) w fun r w' => r = .returned (.int .i64 e) ∧ RStp B w w' b s'
  le : s'.all.length ≤ s.all.length + 1
theorem beg_both (s : Fs) (pid : Int) : ∃ e s', B1 19 42 #[.int .i64 pid] s e s' := by
  by_cases he : freshE s pid = 0
  · obtain ⟨p, rfl, hp⟩ := freshE_ok s pid he
    exact ⟨0, begS s p, fun B w L h hB => begin_ok B L s p w h hB hp, fun B w b h => rbegin_ok B b s p w h hp, Nat.le_succ _⟩
  · exact ⟨freshE s pid, s, fun B w L h hB => (begin_err B L s pid w h he).mono (fun r w' k => ⟨k.1, by rw [k.2]; exact FStp.same h (Below.refl _ _)⟩), fun B w b h => (rbegin_err b s pid w h.c he).mono (fun r w' k => ⟨k.1, by rw [k.2]; exact RStp.same h (Below.refl _ _)⟩), Nat.le_succ _⟩
theorem prS_8 (s : Fs) (p q : Fin 6) : prS s p q 8 = fkS s p q := by
  unfold prS fkS
  congr 2
  funext j
  exact if_pos j.2
theorem fork_both (s : Fs) (p q : Int) : ∃ e s', B1 21 45 #[.int .i64 p, .int .i64 q] s e s' := by
  rcases pid_cases s p with hp | ⟨p, rfl, hp⟩
  · exact ⟨5, s, fun B w L h hB => (fork_nop B L s p q w h hp).mono (fun r w' k => ⟨k.1, by rw [k.2]; exact FStp.same h (Below.refl _ _)⟩), fun B w b h => (rfork_nop b s p q w h.c hp).mono (fun r w' k => ⟨k.1, by rw [k.2]; exact RStp.same h (Below.refl _ _)⟩), Nat.le_succ _⟩
  by_cases he : freshE s q = 0
  · obtain ⟨q, rfl, hq⟩ := freshE_ok s q he
    exact ⟨0, fkS s p q, fun B w L h hB => by rw [← prS_8]; exact fork_ok B L s p q w h hB hp hq, fun B w b h => rfork_ok B b s p q w h hp hq, Nat.le_succ _⟩
  · exact ⟨freshE s q, s, fun B w L h hB => (fork_to B L s p q w h hp he).mono (fun r w' k => ⟨k.1, by rw [k.2]; exact FStp.same h (Below.refl _ _)⟩), fun B w b h => (rfork_to b s p q w h.c hp he).mono (fun r w' k => ⟨k.1, by rw [k.2]; exact RStp.same h (Below.refl _ _)⟩), Nat.le_succ _⟩
theorem move_both (s : Fs) (pid fd pos : Int) (hl : s.all.length ≤ 1000) : ∃ e s', B1 17 49 #[.int .i64 pid, .int .i64 fd, .int .i64 pos] s e s' := by
  rcases pid_cases s pid with hp | ⟨p, rfl, hp⟩
  · exact ⟨5, s, fun B w L h hB => (move_err 5 (by decide) L.t pid fd pos w (at_nop B L s pid fd w h hp)).mono (fun r w' k => ⟨k.1, by rw [k.2]; exact FStp.same h (Below.refl _ _)⟩), fun B w b h => (rmove_err 5 (by decide) b pid fd pos w (rat_nop b s pid fd w h.c hp)).mono (fun r w' k => ⟨k.1, by rw [k.2]; exact RStp.same h (Below.refl _ _)⟩), Nat.le_succ _⟩
  rcases fd_cases s p fd with hk | ⟨k, rfl, hk⟩
  · exact ⟨3, s, fun B w L h hB => (move_err 3 (by decide) L.t p.1 fd pos w (at_nof B L s p fd w h hp hk)).mono (fun r w' k => ⟨k.1, by rw [k.2]; exact FStp.same h (Below.refl _ _)⟩), fun B w b h => (rmove_err 3 (by decide) b p.1 fd pos w (rat_nof b s p fd w h.c hp hk)).mono (fun r w' k => ⟨k.1, by rw [k.2]; exact RStp.same h (Below.refl _ _)⟩), Nat.le_succ _⟩
  · exact ⟨0, setO s (s.fd p k) (movO s (s.fd p k) pos), fun B w L h hB => move_ok B L s p k pos w h hp hk, fun B w b h => rmove_ok B b s p k pos w h hp hk hl, by unfold setO; rw [List.length_set]; omega⟩
/-- One answer of both, two numbers. -/
structure B2 (fp fr : FuncId) (args : Array Value) (s : Fs) (x e : Int) (s' : Fs) : Prop where
  p : ∀ B w L, Ft B w L s → B ≤ w.heap.size → Calls Try.prog fp (#[.pointer (some ⟨L.t, 0, none⟩)] ++ args) w fun r w' => r = .returned (.tuple #[.int .i64 x, .int .i64 e]) ∧ FStp B w w' L s s'
  r : ∀ B w b, Rt B w b s → Calls Try.prog fr (#[.pointer (some ⟨b, 0, none⟩)] ++ args) w fun r w' => r = .returned (.tuple #[.int .i64 x, .int .i64 e]) ∧ RStp B w w' b s'
  le : s'.all.length ≤ s.all.length + 1
theorem dup_both (s : Fs) (pid fd : Int) : ∃ x e s', B2 22 47 #[.int .i64 pid, .int .i64 fd] s x e s' := by
  rcases pid_cases s pid with hp | ⟨p, rfl, hp⟩
  · exact ⟨0, 5, s, fun B w L h hB => (dup_err 5 (by decide) L.t pid fd w (at_nop B L s pid fd w h hp)).mono (fun r w' k => ⟨k.1, by rw [k.2]; exact FStp.same h (Below.refl _ _)⟩), fun B w b h => (rdup_err 5 (by decide) b pid fd w (rat_nop b s pid fd w h.c hp)).mono (fun r w' k => ⟨k.1, by rw [k.2]; exact RStp.same h (Below.refl _ _)⟩), Nat.le_succ _⟩
  rcases fd_cases s p fd with hk | ⟨k, rfl, hk⟩
  · exact ⟨0, 3, s, fun B w L h hB => (dup_err 3 (by decide) L.t p.1 fd w (at_nof B L s p fd w h hp hk)).mono (fun r w' k => ⟨k.1, by rw [k.2]; exact FStp.same h (Below.refl _ _)⟩), fun B w b h => (rdup_err 3 (by decide) b p.1 fd w (rat_nof b s p fd w h.c hp hk)).mono (fun r w' k => ⟨k.1, by rw [k.2]; exact RStp.same h (Below.refl _ _)⟩), Nat.le_succ _⟩
  rcases leastF_cases (s.fd p) with ⟨hn, hf⟩ | ⟨j, hj, h0, hl⟩
  · exact ⟨0, 11, s, fun B w L h hB => (dup_full B L s p k w h hp hk hn).mono (fun r w' k => ⟨k.1, by rw [k.2]; exact FStp.same h (Below.refl _ _)⟩), fun B w b h => (rdup_full B b s p k w h hp hk hf).mono (fun r w' k => ⟨k.1, by rw [k.2]; exact RStp.same h (Below.refl _ _)⟩), Nat.le_succ _⟩
  · exact ⟨j.1, 0, setFd s p j (s.fd p k), fun B w L h hB => dup_ok B L s p k j w h hp hk hj h0, fun B w b h => rdup_ok B b s p k j w h hp hk h0 hl, Nat.le_succ _⟩
theorem open_both (s : Fs) (pid : Int) (o : Opn) (hk0 : 0 ≤ o.k) (hl : s.all.length ≤ 1000) : ∃ x e s', B2 14 46 #[.int .i64 pid, .agg (opC o).toArray] s x e s' := by
  rcases pid_cases s pid with hp | ⟨p, rfl, hp⟩
  · exact ⟨0, 5, s, fun B w L h hB => (open_nop B L s pid o w h hp).mono (fun r w' k => ⟨k.1, FStp.same h k.2⟩), fun B w b h => (ropen_nop B b s pid o w h hp).mono (fun r w' k => ⟨k.1, RStp.same h k.2⟩), Nat.le_succ _⟩
  by_cases ho : kindOk o.k
  · rcases leastF_cases (s.fd p) with ⟨hn, hf⟩ | ⟨j, hj, h0, hlj⟩
    · exact ⟨0, 11, s, fun B w L h hB => (open_full B L s p o w h hp ho hn).mono (fun r w' k => ⟨k.1, FStp.same h k.2⟩), fun B w b h => (ropen_full B b s p o w h hp ho hf).mono (fun r w' k => ⟨k.1, RStp.same h k.2⟩), Nat.le_succ _⟩
    · exact ⟨j.1, 0, opnS s p j o, fun B w L h hB => open_ok B L s p j o w h hB hp ho hj h0, fun B w b h => ropen_ok B b s p j o w h hp ho h0 hlj hl, by unfold opnS setFd addO; simp⟩
  · exact ⟨0, 2, s, fun B w L h hB => (open_kind B L s p o w h hp ho).mono (fun r w' k => ⟨k.1, FStp.same h k.2⟩), fun B w b h => (ropen_kind B b s p o w h hp hk0 ho).mono (fun r w' k => ⟨k.1, RStp.same h k.2⟩), Nat.le_succ _⟩
/-- Close of both. -/
structure B3 (args : Array Value) (s : Fs) (o : Opn) (q : Bool) (e : Int) (s' : Fs) : Prop where
  p : ∀ B w L, Ft B w L s → B ≤ w.heap.size → Calls Try.prog 23 (#[.pointer (some ⟨L.t, 0, none⟩)] ++ args) w fun r w' => r = .returned (.tuple #[.agg #[.int .u8 o.k, .int .i64 o.r, .int .i64 o.p], .bool q, .int .i64 e]) ∧ FStp B w w' L s s'
  r : ∀ B w b, Rt B w b s → Calls Try.prog 48 (#[.pointer (some ⟨b, 0, none⟩)] ++ args) w fun r w' => r = .returned (.tuple #[.agg #[.int .u8 o.k, .int .i64 o.r, .int .i64 o.p], .bool q, .int .i64 e]) ∧ RStp B w w' b s'
  le : s'.all.length ≤ s.all.length + 1
theorem close_both (s : Fs) (pid fd : Int) (hl : s.all.length ≤ 1000) : ∃ o q e s', B3 #[.int .i64 pid, .int .i64 fd] s o q e s' := by
  rcases pid_cases s pid with hp | ⟨p, rfl, hp⟩
  · exact ⟨op0, false, 5, s, fun B w L h hB => (close_err 5 (by decide) L.t pid fd w (fun W hW => at_nop B L s pid fd W (h.below hW) hp)).mono (fun r w' k => ⟨k.1, FStp.same h k.2⟩), fun B w b h => (rclose_err 5 (by decide) b pid fd w (fun W hW => rat_nop b s pid fd W (h.below hW).c hp)).mono (fun r w' k => ⟨k.1, RStp.same h k.2⟩), Nat.le_succ _⟩
  rcases fd_cases s p fd with hk | ⟨k, rfl, hk⟩
  · exact ⟨op0, false, 3, s, fun B w L h hB => (close_err 3 (by decide) L.t p.1 fd w (fun W hW => at_nof B L s p fd W (h.below hW) hp hk)).mono (fun r w' k => ⟨k.1, FStp.same h k.2⟩), fun B w b h => (rclose_err 3 (by decide) b p.1 fd w (fun W hW => rat_nof b s p fd W (h.below hW).c hp hk)).mono (fun r w' k => ⟨k.1, RStp.same h k.2⟩), Nat.le_succ _⟩
  · exact ⟨getO s (s.fd p k), decide (cntN s.fd (s.fd p k) = 1), 0, setFd s p k 0, fun B w L h hB => close_ok B L s p k w h hp hk, fun B w b h => rclose_ok B b s p k w h hp hk hl, Nat.le_succ _⟩
/-- End of both. -/
structure B4 (pid : Int) (s : Fs) (l : List Opn) (e : Int) (s' : Fs) : Prop where
  p : ∀ B w L, Ft B w L s → B ≤ w.heap.size → Calls Try.prog 20 #[.pointer (some ⟨L.t, 0, none⟩), .int .i64 pid] w fun r w' => ∃ v, r = .returned (.tuple #[v, .int .i64 e]) ∧ w'.ownsRow w.heap.size 32 3 v l.length (opCs l) ∧ FStp B w w' L s s'
  r : ∀ B w b, Rt B w b s → Calls Try.prog 43 #[.pointer (some ⟨b, 0, none⟩), .int .i64 pid] w fun r w' => ∃ v, r = .returned (.tuple #[v, .int .i64 e]) ∧ w'.ownsRow w.heap.size 32 3 v l.length (opCs l) ∧ RStp B w w' b s'
  le : s'.all.length ≤ s.all.length + 1
  ll : l.length ≤ 8
theorem endS_all (s : Fs) (p : Fin 6) : (endS s p).all = s.all := by
  have := (endK_facts s p 8 (Nat.le_refl _)).2.1
  unfold endS
  generalize (endK s p 8).1 = t at *
  exact this
theorem end_both (s : Fs) (pid : Int) (hl : s.all.length ≤ 1000) : ∃ l e s', B4 pid s l e s' := by
  rcases pid_cases s pid with hp | ⟨p, rfl, hp⟩
  · exact ⟨[], 5, s, fun B w L h hB => (end_bad B L s pid w h hp).mono (fun r w' k => ⟨_, k.1, World.ownsRow_nil _ _ _ _, by rw [k.2]; exact FStp.same h (Below.refl _ _)⟩), fun B w b h => (rend_bad B b s pid w h hp).mono (fun r w' k => ⟨_, k.1, World.ownsRow_nil _ _ _ _, by rw [k.2]; exact RStp.same h (Below.refl _ _)⟩), Nat.le_succ _, Nat.zero_le _⟩
  · exact ⟨endG s p, 0, endS s p, fun B w L h hB => end_ok B L s p w h hp, fun B w b h => rend_ok B b s p w h hp hl, by rw [endS_all]; omega, (endK_facts s p 8 (Nat.le_refl _)).2.2.2⟩
end Go.Proofs.Ytbkpkcndmlapfaa
