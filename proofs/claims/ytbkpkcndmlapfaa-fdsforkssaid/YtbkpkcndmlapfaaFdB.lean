/- The program's table: New, of, at, vacant, drop, Get, Move, Same, Begin. -/
import Derived.Test.YtbkpkcndmlapfaaFdA
namespace Go.Proofs.Ytbkpkcndmlapfaa
open Go.RowKit Go.Maps
set_option linter.unusedVariables false
set_option maxRecDepth 100000
set_option maxHeartbeats 1000000 in
theorem new_any (w : World) : Calls Try.prog 18 #[] w fun r w' => r = .returned (.pointer (some ⟨w.heap.size, 0, none⟩)) ∧ (∃ L, L.t = w.heap.size ∧ Ft w.heap.size w' L fs0 ∧ ∀ k, XF L fs0 k → w.heap.size ≤ k) ∧ Below w.heap.size w w' := by
  go_enter Try.func18, Try.ntmps18
  go_wp2
  go_ret
  have hL : ∀ n, ¬ Lv fs0 n := fun n hn => absurd hn.2 (by rw [cntN_no fs0.fd n (fun p k e => hn.1 e.symm)]; omega)
  refine ⟨rfl, ⟨⟨w.heap.size, fun _ => 0, fun _ => 0⟩, rfl, ⟨Nat.le_refl _, heap_alloc_new _ _, ⟨fun p hp => (by cases hp), fun p q hp => (by cases hp), fun n hn => absurd hn (hL n), fun n m hn => absurd hn (hL n), fs0_ok⟩⟩, fun k hk => ?_⟩, below_new w _⟩
  rcases hk with rfl | ⟨p, hp, _⟩ | ⟨n, hn, _⟩
  · exact Nat.le_refl _
  · cases hp
  · exact absurd hn (hL n)
/-- There is no such process. -/
def NoP (s : Fs) (pid : Int) : Prop := pid < 0 ∨ 6 ≤ pid ∨ ∃ p : Fin 6, pid = p.1 ∧ s.has p = false
theorem pid_cases (s : Fs) (pid : Int) : NoP s pid ∨ ∃ p : Fin 6, pid = (p.1 : Int) ∧ s.has p = true := by
  by_cases h1 : pid < 0
  · exact .inl (.inl h1)
  by_cases h2 : 6 ≤ pid
  · exact .inl (.inr (.inl h2))
  · have hlt : pid.toNat < 6 := by omega
    cases hh : s.has ⟨pid.toNat, hlt⟩ with
    | false => exact .inl (.inr (.inr ⟨⟨pid.toNat, hlt⟩, by show pid = (pid.toNat : Int); omega, hh⟩))
    | true => exact .inr ⟨⟨pid.toNat, hlt⟩, by show pid = (pid.toNat : Int); omega, hh⟩
/-- There is no such descriptor. -/
def NoF (s : Fs) (p : Fin 6) (fd : Int) : Prop := fd < 0 ∨ 8 ≤ fd ∨ ∃ k : Fin 8, fd = k.1 ∧ s.fd p k = 0
theorem fd_cases (s : Fs) (p : Fin 6) (fd : Int) : NoF s p fd ∨ ∃ k : Fin 8, fd = (k.1 : Int) ∧ s.fd p k ≠ 0 := by
  by_cases h1 : fd < 0
  · exact .inl (.inl h1)
  by_cases h2 : 8 ≤ fd
  · exact .inl (.inr (.inl h2))
  · have hlt : fd.toNat < 8 := by omega
    by_cases hh : s.fd p ⟨fd.toNat, hlt⟩ = 0
    · exact .inl (.inr (.inr ⟨⟨fd.toNat, hlt⟩, by show fd = (fd.toNat : Int); omega, hh⟩))
    · exact .inr ⟨⟨fd.toNat, hlt⟩, by show fd = (fd.toNat : Int); omega, hh⟩
set_option maxHeartbeats 1000000 in
theorem of_ok (B : Nat) (L : Lo) (s : Fs) (p : Fin 6) (w : World) (h : Ft B w L s) (hp : s.has p = true) : Calls Try.prog 33 #[.pointer (some ⟨L.t, 0, none⟩), .int .i64 p.1] w fun r w' => r = .returned (.tuple #[.pointer (some ⟨L.r p, 0, none⟩), .int .i64 0]) ∧ w' = w := by
  have c0 := h.at p
  rw [hp] at c0
  have c1 : w.cell? ⟨L.t, p.1, none⟩ = some (.pointer (some ⟨L.r p, 0, none⟩)) := c0
  clear h c0
  obtain ⟨p, hp6⟩ := p
  have h1 : ¬ (p : Int) < 0 := by omega
  have h2 : (p : Int) < 6 := by omega
  have h3 : ¬ (6 : Int) ≤ p := by omega
  simp only at *
  go_enter Try.func33, Try.ntmps33
  go_wp2
  go_ret2
  exact ⟨rfl, rfl⟩
set_option maxHeartbeats 1000000 in
theorem of_bad (B : Nat) (L : Lo) (s : Fs) (pid : Int) (w : World) (h : Ft B w L s) (hp : NoP s pid) : Calls Try.prog 33 #[.pointer (some ⟨L.t, 0, none⟩), .int .i64 pid] w fun r w' => r = .returned (.tuple #[.pointer none, .int .i64 5]) ∧ w' = w := by
  rcases hp with h1 | h1 | ⟨p, rfl, hp⟩
  · clear h
    go_enter Try.func33, Try.ntmps33
    go_wp2
    go_ret2
    exact ⟨rfl, rfl⟩
  · clear h
    have h0 : ¬ pid < 0 := by omega
    go_enter Try.func33, Try.ntmps33
    go_wp2
    go_ret2
    exact ⟨rfl, rfl⟩
  · have c0 := h.at p
    rw [hp] at c0
    have c1 : w.cell? ⟨L.t, p.1, none⟩ = some (.pointer none) := c0
    clear h c0
    obtain ⟨p, hp6⟩ := p
    have h1 : ¬ (p : Int) < 0 := by omega
    have h2 : (p : Int) < 6 := by omega
    have h3 : ¬ (6 : Int) ≤ p := by omega
    simp only at *
    go_enter Try.func33, Try.ntmps33
    go_wp2
    go_ret2
    exact ⟨rfl, rfl⟩
set_option maxHeartbeats 1000000 in
theorem at_ok (B : Nat) (L : Lo) (s : Fs) (p : Fin 6) (k : Fin 8) (w : World) (h : Ft B w L s) (hp : s.has p = true) (hk : s.fd p k ≠ 0) : Calls Try.prog 36 #[.pointer (some ⟨L.t, 0, none⟩), .int .i64 p.1, .int .i64 k.1] w fun r w' => r = .returned (.tuple #[.pointer (some ⟨L.r p, 0, none⟩), .int .i64 0]) ∧ w' = w := by
  have cO := of_ok B L s p w h hp
  have c0 := h.b.at p hp k
  rw [ptr_n hk] at c0
  clear h
  obtain ⟨k, hk8⟩ := k
  have h1 : ¬ (k : Int) < 0 := by omega
  have h2 : (k : Int) < 8 := by omega
  have h3 : ¬ (8 : Int) ≤ k := by omega
  simp only at *
  go_enter Try.func36, Try.ntmps36
  go_wp2_with fail
  refine cO.mono ?_
  rintro r W ⟨rfl, rfl⟩
  go_wp2
  go_ret2
  exact ⟨rfl, rfl⟩
set_option maxHeartbeats 1000000 in
theorem at_nop (B : Nat) (L : Lo) (s : Fs) (pid fd : Int) (w : World) (h : Ft B w L s) (hp : NoP s pid) : Calls Try.prog 36 #[.pointer (some ⟨L.t, 0, none⟩), .int .i64 pid, .int .i64 fd] w fun r w' => r = .returned (.tuple #[.pointer none, .int .i64 5]) ∧ w' = w := by
  have cO := of_bad B L s pid w h hp
  clear h hp
  go_enter Try.func36, Try.ntmps36
  go_wp2_with fail
  refine cO.mono ?_
  rintro r W ⟨rfl, rfl⟩
  go_wp2
  go_ret2
  exact ⟨rfl, rfl⟩
set_option maxHeartbeats 1000000 in
theorem at_nof (B : Nat) (L : Lo) (s : Fs) (p : Fin 6) (fd : Int) (w : World) (h : Ft B w L s) (hp : s.has p = true) (hk : NoF s p fd) : Calls Try.prog 36 #[.pointer (some ⟨L.t, 0, none⟩), .int .i64 p.1, .int .i64 fd] w fun r w' => r = .returned (.tuple #[.pointer none, .int .i64 3]) ∧ w' = w := by
  have cO := of_ok B L s p w h hp
  rcases hk with h1 | h1 | ⟨k, rfl, hk⟩
  · clear h
    go_enter Try.func36, Try.ntmps36
    go_wp2_with fail
    refine cO.mono ?_
    rintro r W ⟨rfl, rfl⟩
    go_wp2
    go_ret2
    exact ⟨rfl, rfl⟩
  · clear h
    have h0 : ¬ fd < 0 := by omega
    go_enter Try.func36, Try.ntmps36
    go_wp2_with fail
    refine cO.mono ?_
    rintro r W ⟨rfl, rfl⟩
    go_wp2
    go_ret2
    exact ⟨rfl, rfl⟩
  · have c0 := h.b.at p hp k
    rw [hk] at c0
    have c1 : w.cell? ⟨L.r p, k.1, none⟩ = some (.pointer none) := c0
    clear h c0
    obtain ⟨k, hk8⟩ := k
    have h1 : ¬ (k : Int) < 0 := by omega
    have h2 : (k : Int) < 8 := by omega
    have h3 : ¬ (8 : Int) ≤ k := by omega
    simp only at *
    go_enter Try.func36, Try.ntmps36
    go_wp2_with fail
    refine cO.mono ?_
    rintro r W ⟨rfl, rfl⟩
    go_wp2
    go_ret2
    exact ⟨rfl, rfl⟩
/-- The error of a process that should not be there. -/
def freshE (s : Fs) (pid : Int) : Int := if h : 0 ≤ pid ∧ pid < 6 then (if s.has ⟨pid.toNat, by omega⟩ then 6 else 0) else 2
theorem freshE_ok (s : Fs) (pid : Int) (h : freshE s pid = 0) : ∃ p : Fin 6, pid = (p.1 : Int) ∧ s.has p = false := by
  unfold freshE at h
  by_cases hc : 0 ≤ pid ∧ pid < 6
  · rw [dif_pos hc] at h
    cases hh : s.has ⟨pid.toNat, by omega⟩ with
    | true => rw [hh] at h; simp at h
    | false => exact ⟨⟨pid.toNat, by omega⟩, by show pid = (pid.toNat : Int); omega, hh⟩
  · rw [dif_neg hc] at h
    omega
theorem freshE_at (s : Fs) (p : Fin 6) : freshE s p.1 = if s.has p then 6 else 0 := by
  unfold freshE
  rw [dif_pos (by constructor <;> omega)]
  have : (⟨((p.1 : Nat) : Int).toNat, by omega⟩ : Fin 6) = p := by ext; simp
  rw [this]
set_option maxHeartbeats 1000000 in
theorem vacant_any (B : Nat) (L : Lo) (s : Fs) (pid : Int) (w : World) (h : Ft B w L s) : Calls Try.prog 37 #[.pointer (some ⟨L.t, 0, none⟩), .int .i64 pid] w fun r w' => r = .returned (.int .i64 (freshE s pid)) ∧ w' = w := by
  by_cases hc : 0 ≤ pid ∧ pid < 6
  · obtain ⟨p, rfl⟩ : ∃ p : Fin 6, pid = (p.1 : Int) := ⟨⟨pid.toNat, by omega⟩, by show pid = (pid.toNat : Int); omega⟩
    rw [freshE_at]
    have c0 := h.at p
    have hlt := h.lt
    clear h hc
    obtain ⟨p, hp6⟩ := p
    have h1 : ¬ (p : Int) < 0 := by omega
    have h2 : (p : Int) < 6 := by omega
    have h3 : ¬ (6 : Int) ≤ p := by omega
    cases hh : s.has ⟨p, hp6⟩ with
    | true =>
      rw [hh] at c0
      have c1 : w.cell? ⟨L.t, p, none⟩ = some (.pointer (some ⟨L.r ⟨p, hp6⟩, 0, none⟩)) := c0
      clear c0
      simp only [if_true] at *
      go_enter Try.func37, Try.ntmps37
      go_wp2
      go_ret
      exact ⟨rfl, rfl⟩
    | false =>
      rw [hh] at c0
      have c1 : w.cell? ⟨L.t, p, none⟩ = some (.pointer none) := c0
      clear c0
      simp only [Bool.false_eq_true, if_false] at *
      go_enter Try.func37, Try.ntmps37
      go_wp2
      go_ret
      exact ⟨rfl, rfl⟩
  · have he : freshE s pid = 2 := by unfold freshE; rw [dif_neg hc]
    rw [he]
    clear h he
    by_cases h1 : pid < 0
    · clear hc
      go_enter Try.func37, Try.ntmps37
      go_wp2
      go_ret
      exact ⟨rfl, rfl⟩
    · have h2 : 6 ≤ pid := by omega
      clear hc
      go_enter Try.func37, Try.ntmps37
      go_wp2
      go_ret
      exact ⟨rfl, rfl⟩
/-- What a thing's cells are. -/
structure ObC (w : World) (b : Nat) (o : Opn) (c : Int) : Prop where
  c0 : w.cell? ⟨b, 0, none⟩ = some (.int .u8 o.k)
  c1 : w.cell? ⟨b, 1, none⟩ = some (.int .i64 o.r)
  c2 : w.cell? ⟨b, 2, none⟩ = some (.int .i64 o.p)
  c3 : w.cell? ⟨b, 3, none⟩ = some (.int .i64 c)
  f : ∀ j, w.frozen? ⟨b, j, none⟩ = false
  l : b < w.heap.size
theorem Fb.obj {B : Nat} {w : World} {L : Lo} {s : Fs} (h : Fb B w L s) {n : Nat} (hn : Lv s n) : ObC w (L.o n) (getO s n) (cntN s.fd n) := by
  have := (h.og n hn).2
  exact ⟨this.cell 0, this.cell 1, this.cell 2, this.cell 3, this.thaw, this.lt⟩
theorem below_set3 {w W : World} {b n : Nat} (h : Below n w W) (hb : n ≤ b) (x0 x1 x2 : Value) : Below n w (((W.setCell ⟨b, 0, none⟩ x0).setCell ⟨b, 1, none⟩ x1).setCell ⟨b, 2, none⟩ x2) :=
  ((h.setCell (p := ⟨b, 0, none⟩) hb _).setCell (p := ⟨b, 1, none⟩) hb _).setCell (p := ⟨b, 2, none⟩) hb _
def zO : Obj := .cells #[.int .u8 0, .int .i64 0, .int .i64 0] 32
set_option maxHeartbeats 1000000 in
theorem get_ok (B : Nat) (L : Lo) (s : Fs) (p : Fin 6) (k : Fin 8) (w : World) (h : Ft B w L s) (hp : s.has p = true) (hk : s.fd p k ≠ 0) : Calls Try.prog 15 #[.pointer (some ⟨L.t, 0, none⟩), .int .i64 p.1, .int .i64 k.1] w fun r w' => r = .returned (.tuple #[.agg (opC (getO s (s.fd p k))).toArray, .int .i64 0]) ∧ Below w.heap.size w w' := by
  have hX := below_new w zO
  have h' := h.below hX
  have cA := at_ok B L s p k _ h' hp hk
  have c0 := h'.b.at p hp k
  rw [ptr_n hk] at c0
  obtain ⟨d0, d1, d2, d3, df, dl⟩ := h'.b.obj (Lv.of_fd hk)
  unfold opC
  generalize getO s (s.fd p k) = o at *
  generalize L.o (s.fd p k) = ob at *
  have HX := Hid3.mk hX
  clear h hk h' hX
  obtain ⟨k, hk8⟩ := k
  have h2 : (k : Int) < 8 := by omega
  simp only [zO] at *
  go_enter Try.func15, Try.ntmps15
  go_wp2_with fail
  refine cA.mono ?_
  rintro r W ⟨rfl, hW⟩
  rw [hW]
  clear hW
  go_wp2
  refine bodyPost_ret (v := .tuple #[.agg #[.int .u8 o.k, .int .i64 o.r, .int .i64 o.p], .int .i64 0]) (by simp [results, Try.results15, go_sem]) rfl ⟨rfl, ?_⟩
  exact below_new w _
set_option maxHeartbeats 1000000 in
theorem get_err (e : Int) (he : e ≠ 0) (tb : Nat) (pid fd : Int) (w : World) (cA : ∀ W, Below w.heap.size w W → Calls Try.prog 36 #[.pointer (some ⟨tb, 0, none⟩), .int .i64 pid, .int .i64 fd] W fun r w' => r = .returned (.tuple #[.pointer none, .int .i64 e]) ∧ w' = W) : Calls Try.prog 15 #[.pointer (some ⟨tb, 0, none⟩), .int .i64 pid, .int .i64 fd] w fun r w' => r = .returned (.tuple #[.agg #[.int .u8 0, .int .i64 0, .int .i64 0], .int .i64 e]) ∧ Below w.heap.size w w' := by
  have h1 : (e != 0) = true := by simpa using he
  have HX := Hid3.mk (below_new w zO)
  have cB := cA _ HX.out
  clear he cA
  simp only [zO] at *
  go_enter Try.func15, Try.ntmps15
  go_wp2_with fail
  refine cB.mono ?_
  rintro r W ⟨rfl, hW⟩
  rw [hW]
  clear hW
  go_wp2
  refine bodyPost_ret (v := .tuple #[.agg #[.int .u8 0, .int .i64 0, .int .i64 0], .int .i64 e]) (by simp [results, Try.results15, go_sem]) rfl ⟨rfl, ?_⟩
  exact below_new w _
end Go.Proofs.Ytbkpkcndmlapfaa
