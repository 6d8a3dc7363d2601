/- How many things somebody has; what each call makes of it. -/
import Derived.Test.YtbkpkcndmlapfaaFdLv
namespace Go.Proofs.Ytbkpkcndmlapfaa
open Go.RowKit Go.Maps
set_option linter.unusedVariables false
set_option maxRecDepth 100000
def lvN (fd : Fin 6 → Fin 8 → Nat) : Nat → Nat
  | 0 => 0
  | n + 1 => lvN fd n + (if 0 < cntN fd (n + 1) then 1 else 0)
/-- How many things somebody has. -/
def lv (s : Fs) : Nat := lvN s.fd s.all.length
theorem cnt_pos (fd : Fin 6 → Fin 8 → Nat) (m : Nat) : 0 < cntN fd m ↔ ∃ p k, fd p k = m := by
  constructor
  · intro h
    by_cases hc : ∃ p k, fd p k = m
    · exact hc
    · rw [cntN_no fd m (fun p k e => hc ⟨p, k, e⟩)] at h
      omega
  · rintro ⟨p, k, rfl⟩
    exact cntN_has fd p k
theorem lvN_congr (fd fd' : Fin 6 → Fin 8 → Nat) : ∀ n, (∀ m, m ≠ 0 → m ≤ n → (0 < cntN fd m ↔ 0 < cntN fd' m)) → lvN fd n = lvN fd' n
  | 0, _ => rfl
  | n + 1, h => by
    rw [lvN, lvN, lvN_congr fd fd' n (fun m h1 h2 => h m h1 (by omega))]
    congr 1
    have := h (n + 1) (by omega) (Nat.le_refl _)
    by_cases c : 0 < cntN fd (n + 1)
    · rw [if_pos c, if_pos (this.1 c)]
    · rw [if_neg c, if_neg (fun x => c (this.2 x))]
theorem lvN_one (fd fd' : Fin 6 → Fin 8 → Nat) (n0 : Nat) (h0 : n0 ≠ 0) (hl : 0 < cntN fd n0) (hd : ¬ 0 < cntN fd' n0) : ∀ n, n0 ≤ n → (∀ m, m ≠ 0 → m ≠ n0 → m ≤ n → (0 < cntN fd m ↔ 0 < cntN fd' m)) → lvN fd n = lvN fd' n + 1
  | 0, h, _ => absurd h (by omega)
  | n + 1, h, hm => by
    rw [lvN, lvN]
    by_cases e : n0 = n + 1
    · subst e
      rw [lvN_congr fd fd' n (fun m h1 h2 => hm m h1 (by omega) (by omega)), if_pos hl, if_neg hd]
    · rw [lvN_one fd fd' n0 h0 hl hd n (by omega) (fun m h1 h2 h3 => hm m h1 h2 (by omega))]
      have := hm (n + 1) (by omega) (fun x => e x.symm) (Nat.le_refl _)
      by_cases c : 0 < cntN fd (n + 1)
      · rw [if_pos c, if_pos (this.1 c)]
      · rw [if_neg c, if_neg (fun x => c (this.2 x))]
theorem lvN_zero (fd : Fin 6 → Fin 8 → Nat) (h : ∀ p k, fd p k = 0) : ∀ n, lvN fd n = 0
  | 0 => rfl
  | n + 1 => by
    rw [lvN, lvN_zero fd h n, if_neg]
    rw [cnt_pos]
    rintro ⟨p, k, e⟩
    rw [h] at e
    omega
/-- A descriptor is given of a thing that somebody has. -/
theorem lv_put (s : Fs) (p : Fin 6) (j : Fin 8) (n : Nat) (h0 : s.fd p j = 0) (hn : n = 0 ∨ ∃ q k, s.fd q k = n) : lv (setFd s p j n) = lv s := by
  show lvN (setFd s p j n).fd s.all.length = lvN s.fd s.all.length
  refine lvN_congr _ _ _ (fun m hm _ => ?_)
  rw [cnt_pos, cnt_pos]
  constructor
  · rintro ⟨q, k, e⟩
    rw [setFd_fd] at e
    split at e
    · subst e
      exact hn.resolve_left hm
    · exact ⟨q, k, e⟩
  · rintro ⟨q, k, e⟩
    refine ⟨q, k, ?_⟩
    rw [setFd_fd, if_neg]
    · exact e
    · rintro ⟨rfl, rfl⟩
      exact hm (by rw [← e, h0])
theorem lv_fork (s : Fs) (p q : Fin 6) (h : s.Ok) (hq : s.has q = false) : lv (fkS s p q) = lv s := by
  show lvN (upd s.fd q (s.fd p)) s.all.length = lvN s.fd s.all.length
  refine lvN_congr _ _ _ (fun m hm _ => ?_)
  rw [cnt_pos, cnt_pos]
  constructor
  · rintro ⟨i, k, e⟩
    by_cases ei : i = q
    · rw [ei, upd_same] at e
      exact ⟨p, k, e⟩
    · rw [upd_other _ _ _ _ ei] at e
      exact ⟨i, k, e⟩
  · rintro ⟨i, k, e⟩
    refine ⟨i, k, ?_⟩
    rw [upd_other _ _ _ _ (fun ei => hm (by rw [← e, ei, h.no q hq k]))]
    exact e
theorem lv_open (s : Fs) (p : Fin 6) (j : Fin 8) (o : Opn) (h : s.Ok) (h0 : s.fd p j = 0) : lv (opnS s p j o) = lv s + 1 := by
  have e1 : (opnS s p j o).all.length = s.all.length + 1 := by unfold opnS setFd addO; simp
  unfold lv
  rw [e1, lvN]
  have hnew : 0 < cntN (opnS s p j o).fd (s.all.length + 1) := (cnt_pos _ _).2 ⟨p, j, by unfold opnS; rw [setFd_fd, if_pos ⟨rfl, rfl⟩]⟩
  rw [if_pos hnew]
  congr 1
  refine lvN_congr _ _ _ (fun m hm hml => ?_)
  rw [cnt_pos, cnt_pos]
  constructor
  · rintro ⟨q, k, e⟩
    unfold opnS at e
    rw [setFd_fd] at e
    split at e
    · omega
    · exact ⟨q, k, e⟩
  · rintro ⟨q, k, e⟩
    refine ⟨q, k, ?_⟩
    unfold opnS
    rw [setFd_fd, if_neg]
    · exact e
    · rintro ⟨rfl, rfl⟩
      exact hm (by rw [← e, h0])
theorem lv_close (s : Fs) (p : Fin 6) (k : Fin 8) (h : s.Ok) (hk : s.fd p k ≠ 0) : lv (setFd s p k 0) + (if cntN s.fd (s.fd p k) = 1 then 1 else 0) = lv s := by
  have hat : ∀ m, cntN (setFd s p k 0).fd m + one (s.fd p k) m = cntN s.fd m + one 0 m := fun m => cntN_at s.fd p k 0 m
  have ho : ∀ m, m ≠ 0 → one 0 m = 0 := fun m hm => if_neg (fun e => hm e.symm)
  have hs : one (s.fd p k) (s.fd p k) = 1 := if_pos rfl
  have hn : ∀ m, m ≠ s.fd p k → one (s.fd p k) m = 0 := fun m hm => if_neg (fun e => hm e.symm)
  have hc := cntN_has s.fd p k
  by_cases h1 : cntN s.fd (s.fd p k) = 1
  · rw [if_pos h1]
    refine (lvN_one s.fd (setFd s p k 0).fd (s.fd p k) hk (by omega) ?_ s.all.length (h.le p k) (fun m h2 h3 _ => ?_)).symm
    · have := hat (s.fd p k)
      have := ho (s.fd p k) hk
      omega
    · have := hat m
      have := ho m h2
      have := hn m h3
      constructor <;> (intro _; omega)
  · rw [if_neg h1]
    refine (lvN_congr (setFd s p k 0).fd s.fd s.all.length (fun m h2 _ => ?_))
    have := hat m
    have := ho m h2
    by_cases e : m = s.fd p k
    · subst e
      constructor <;> (intro _; omega)
    · have := hn m e
      constructor <;> (intro _; omega)
theorem endK_ok (s : Fs) (p : Fin 6) (h : s.Ok) : ∀ k, k ≤ 8 → (endK s p k).1.Ok := fun k hk => by
  obtain ⟨f1, f2, f3, _⟩ := endK_facts s p k hk
  refine ⟨fun q j => ?_, fun q hq j => ?_⟩
  · rw [f3, f2]
    split
    · exact Nat.zero_le _
    · exact h.le q j
  · rw [f3]
    split
    · rfl
    · exact h.no q (by rw [← f1]; exact hq) j
theorem lv_endK (s : Fs) (p : Fin 6) (h : s.Ok) : ∀ k, k ≤ 8 → lv (endK s p k).1 + (endK s p k).2.length = lv s
  | 0, _ => rfl
  | k + 1, hk => by
    have ih := lv_endK s p h k (by omega)
    have hok := endK_ok s p h k (by omega)
    rw [endK_succ s p k (by omega)]
    unfold endStep
    by_cases hz : (endK s p k).1.fd p ⟨k, by omega⟩ = 0
    · rw [if_pos hz]
      exact ih
    · rw [if_neg hz]
      have := lv_close (endK s p k).1 p ⟨k, by omega⟩ hok hz
      simp only
      by_cases h1 : cntN (endK s p k).1.fd ((endK s p k).1.fd p ⟨k, by omega⟩) = 1
      · rw [if_pos h1] at this ⊢
        rw [List.length_append, List.length_singleton]
        omega
      · rw [if_neg h1] at this ⊢
        omega
theorem lv_end (s : Fs) (p : Fin 6) (h : s.Ok) : lv (endS s p) + (endG s p).length = lv s := by
  have := lv_endK s p h 8 (Nat.le_refl _)
  have e : lv (endS s p) = lv (endK s p 8).1 := by
    unfold endS
    generalize (endK s p 8).1 = t
    rfl
  rw [e]
  exact this
theorem at_stay' (s : Fs) (pid fd : Int) : (∃ e : Int, e ≠ 0 ∧ ∀ B w L, Ft B w L s → Calls Try.prog 36 #[.pointer (some ⟨L.t, 0, none⟩), .int .i64 pid, .int .i64 fd] w fun r w' => r = .returned (.tuple #[.pointer none, .int .i64 e]) ∧ w' = w) ∨ ∃ (p : Fin 6) (k : Fin 8), pid = (p.1 : Int) ∧ fd = (k.1 : Int) ∧ s.has p = true ∧ s.fd p k ≠ 0 :=
  (at_both s pid fd).imp (fun ⟨e, he, h1, _⟩ => ⟨e, he, h1⟩) id
theorem beg_lv (s : Fs) (pid : Int) : ∃ e s', (∀ B w L, Ft B w L s → B ≤ w.heap.size → Calls Try.prog 19 #[.pointer (some ⟨L.t, 0, none⟩), .int .i64 pid] w fun r w' => r = .returned (.int .i64 e) ∧ FStp B w w' L s s') ∧ lv s' = lv s := by
  by_cases he : freshE s pid = 0
  · obtain ⟨p, rfl, hp⟩ := freshE_ok s pid he
    exact ⟨0, begS s p, fun B w L h hB => begin_ok B L s p w h hB hp, rfl⟩
  · exact ⟨freshE s pid, s, fun B w L h hB => (begin_err B L s pid w h he).mono (fun r w' k => ⟨k.1, by rw [k.2]; exact FStp.same h (Below.refl _ _)⟩), rfl⟩
theorem fork_lv (s : Fs) (p q : Int) (hOk : s.Ok) : ∃ e s', (∀ B w L, Ft B w L s → B ≤ w.heap.size → Calls Try.prog 21 #[.pointer (some ⟨L.t, 0, none⟩), .int .i64 p, .int .i64 q] w fun r w' => r = .returned (.int .i64 e) ∧ FStp B w w' L s s') ∧ lv s' = lv s := by
  rcases pid_cases s p with hp | ⟨p, rfl, hp⟩
  · exact ⟨5, s, fun B w L h hB => (fork_nop B L s p q w h hp).mono (fun r w' k => ⟨k.1, by rw [k.2]; exact FStp.same h (Below.refl _ _)⟩), rfl⟩
  by_cases he : freshE s q = 0
  · obtain ⟨q, rfl, hq⟩ := freshE_ok s q he
    exact ⟨0, fkS s p q, fun B w L h hB => by rw [← prS_8]; exact fork_ok B L s p q w h hB hp hq, lv_fork s p q hOk hq⟩
  · exact ⟨freshE s q, s, fun B w L h hB => (fork_to B L s p q w h hp he).mono (fun r w' k => ⟨k.1, by rw [k.2]; exact FStp.same h (Below.refl _ _)⟩), rfl⟩
theorem dup_lv (s : Fs) (pid fd : Int) : ∃ x e s', (∀ B w L, Ft B w L s → B ≤ w.heap.size → Calls Try.prog 22 #[.pointer (some ⟨L.t, 0, none⟩), .int .i64 pid, .int .i64 fd] w fun r w' => r = .returned (.tuple #[.int .i64 x, .int .i64 e]) ∧ FStp B w w' L s s') ∧ lv s' = lv s := by
  rcases at_stay' s pid fd with ⟨e, he, ha⟩ | ⟨p, k, rfl, rfl, hp, hk⟩
  · exact ⟨0, e, s, fun B w L h hB => (dup_err e he L.t pid fd w (ha B w L h)).mono (fun r w' k => ⟨k.1, by rw [k.2]; exact FStp.same h (Below.refl _ _)⟩), rfl⟩
  rcases leastF_cases (s.fd p) with ⟨hn, hf⟩ | ⟨j, hj, h0, hl⟩
  · exact ⟨0, 11, s, fun B w L h hB => (dup_full B L s p k w h hp hk hn).mono (fun r w' k => ⟨k.1, by rw [k.2]; exact FStp.same h (Below.refl _ _)⟩), rfl⟩
  · exact ⟨j.1, 0, setFd s p j (s.fd p k), fun B w L h hB => dup_ok B L s p k j w h hp hk hj h0, lv_put s p j _ h0 (.inr ⟨p, k, rfl⟩)⟩
theorem open_lv (s : Fs) (pid : Int) (o : Opn) (hOk : s.Ok) : ∃ x e s', (∀ B w L, Ft B w L s → B ≤ w.heap.size → Calls Try.prog 14 #[.pointer (some ⟨L.t, 0, none⟩), .int .i64 pid, .agg (opC o).toArray] w fun r w' => r = .returned (.tuple #[.int .i64 x, .int .i64 e]) ∧ FStp B w w' L s s') ∧ ((e = 0 ∧ lv s' = lv s + 1) ∨ (e ≠ 0 ∧ lv s' = lv s)) := by
  rcases pid_cases s pid with hp | ⟨p, rfl, hp⟩
  · exact ⟨0, 5, s, fun B w L h hB => (open_nop B L s pid o w h hp).mono (fun r w' k => ⟨k.1, FStp.same h k.2⟩), .inr ⟨by decide, rfl⟩⟩
  by_cases ho : kindOk o.k
  · rcases leastF_cases (s.fd p) with ⟨hn, hf⟩ | ⟨j, hj, h0, hlj⟩
    · exact ⟨0, 11, s, fun B w L h hB => (open_full B L s p o w h hp ho hn).mono (fun r w' k => ⟨k.1, FStp.same h k.2⟩), .inr ⟨by decide, rfl⟩⟩
    · exact ⟨j.1, 0, opnS s p j o, fun B w L h hB => open_ok B L s p j o w h hB hp ho hj h0, .inl ⟨rfl, lv_open s p j o hOk h0⟩⟩
  · exact ⟨0, 2, s, fun B w L h hB => (open_kind B L s p o w h hp ho).mono (fun r w' k => ⟨k.1, FStp.same h k.2⟩), .inr ⟨by decide, rfl⟩⟩
theorem close_lv (s : Fs) (pid fd : Int) (hOk : s.Ok) : ∃ (o : Opn) (q : Bool) (e : Int) (s' : Fs), (∀ B w L, Ft B w L s → B ≤ w.heap.size → Calls Try.prog 23 #[.pointer (some ⟨L.t, 0, none⟩), .int .i64 pid, .int .i64 fd] w fun r w' => r = .returned (.tuple #[.agg #[.int .u8 o.k, .int .i64 o.r, .int .i64 o.p], .bool q, .int .i64 e]) ∧ FStp B w w' L s s') ∧ ((q = true ∧ lv s' + 1 = lv s) ∨ (q = false ∧ lv s' = lv s)) := by
  rcases at_stay' s pid fd with ⟨e, he, ha⟩ | ⟨p, k, rfl, rfl, hp, hk⟩
  · exact ⟨op0, false, e, s, fun B w L h hB => (close_err e he L.t pid fd w (fun W hW => ha B W L (h.below hW))).mono (fun r w' k => ⟨k.1, FStp.same h k.2⟩), .inr ⟨rfl, rfl⟩⟩
  · refine ⟨getO s (s.fd p k), decide (cntN s.fd (s.fd p k) = 1), 0, setFd s p k 0, fun B w L h hB => close_ok B L s p k w h hp hk, ?_⟩
    have := lv_close s p k hOk hk
    by_cases h1 : cntN s.fd (s.fd p k) = 1
    · rw [if_pos h1] at this
      exact .inl ⟨decide_eq_true h1, this⟩
    · rw [if_neg h1] at this
      exact .inr ⟨decide_eq_false h1, this⟩
theorem end_lv (s : Fs) (pid : Int) (hOk : s.Ok) : ∃ (l : List Opn) (e : Int) (s' : Fs), (∀ B w L, Ft B w L s → B ≤ w.heap.size → Calls Try.prog 20 #[.pointer (some ⟨L.t, 0, none⟩), .int .i64 pid] w fun r w' => ∃ v, r = .returned (.tuple #[v, .int .i64 e]) ∧ w'.ownsRow w.heap.size 32 3 v l.length (opCs l) ∧ FStp B w w' L s s') ∧ lv s' + l.length = lv s ∧ (∀ q, s.has q = false → s'.has q = false) ∧ (∀ q : Fin 6, pid = (q.1 : Int) → s'.has q = false) := by
  rcases pid_cases s pid with hp | ⟨p, rfl, hp⟩
  · refine ⟨[], 5, s, fun B w L h hB => (end_bad B L s pid w h hp).mono (fun r w' k => ⟨_, k.1, World.ownsRow_nil _ _ _ _, by rw [k.2]; exact FStp.same h (Below.refl _ _)⟩), rfl, fun q h => h, fun q e => ?_⟩
    rcases hp with h1 | h1 | ⟨p, h1, h2⟩
    · have := q.2; omega
    · have := q.2; omega
    · have : p = q := Fin.ext (by omega)
      rw [← this]
      exact h2
  · refine ⟨endG s p, 0, endS s p, fun B w L h hB => end_ok B L s p w h hp, lv_end s p hOk, fun q hq => ?_, fun q e => ?_⟩
    · rw [endS_has]
      by_cases e : q = p
      · rw [e, upd_same]
      · rw [upd_other _ _ _ _ e]; exact hq
    · rw [endS_has]
      have : q = p := Fin.ext (by omega)
      rw [this, upd_same]
end Go.Proofs.Ytbkpkcndmlapfaa
