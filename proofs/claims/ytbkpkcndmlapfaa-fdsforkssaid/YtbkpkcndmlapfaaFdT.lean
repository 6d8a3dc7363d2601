/- The document's table: Get, Same, Close, Move. -/
import Derived.Test.YtbkpkcndmlapfaaFdS
namespace Go.Proofs.Ytbkpkcndmlapfaa
open Go.RowKit Go.Maps
set_option linter.unusedVariables false
set_option maxRecDepth 100000
theorem opCs_at : ∀ (L : List Opn) (m : Nat) (o : Opn), L[m]? = some o → (opCs L)[m * 3]? = some (.int .u8 o.k) ∧ (opCs L)[m * 3 + 1]? = some (.int .i64 o.r) ∧ (opCs L)[m * 3 + 2]? = some (.int .i64 o.p)
  | [], m, o, h => by cases h
  | x :: L, 0, o, h => by
    injection h with h
    subst h
    exact ⟨rfl, rfl, rfl⟩
  | x :: L, m + 1, o, h => by
    obtain ⟨h1, h2, h3⟩ := opCs_at L m o h
    have e : ∀ j, (opCs (x :: L))[3 + j]? = (opCs L)[j]? := fun j => by
      show (opC x ++ opCs L)[3 + j]? = _
      rw [List.getElem?_append_right (by show 3 ≤ _; omega)]
      congr 1
      show 3 + j - 3 = j
      omega
    refine ⟨?_, ?_, ?_⟩
    · rw [show (m + 1) * 3 = 3 + m * 3 by omega, e]; exact h1
    · rw [show (m + 1) * 3 + 1 = 3 + (m * 3 + 1) by omega, e]; exact h2
    · rw [show (m + 1) * 3 + 2 = 3 + (m * 3 + 2) by omega, e]; exact h3
theorem getO_some (s : Fs) (m : Nat) (h : m < s.all.length) : s.all[m]? = some (getO s (m + 1)) := by
  unfold getO
  rw [List.getD_eq_getElem?_getD, Nat.add_sub_cancel, List.getElem?_eq_getElem h]
  rfl
/-- One of a row that is read. -/
structure OpA (w : World) (g m : Nat) (o : Opn) : Prop where
  c0 : w.cell? ⟨g, m * 3, none⟩ = some (.int .u8 o.k)
  c1 : w.cell? ⟨g, m * 3 + 1, none⟩ = some (.int .i64 o.r)
  c2 : w.cell? ⟨g, m * 3 + 2, none⟩ = some (.int .i64 o.p)
  l : g < w.heap.size
theorem OpR.at {w : World} {v : Value} {s : Fs} (h : OpR w v s.all) (m : Nat) (hm : m < s.all.length) : ∃ g cap, v = .slice (some ⟨g, 0, none⟩) s.all.length cap ∧ OpA w g m (getO s (m + 1)) := by
  rcases h with ⟨_, h⟩ | ⟨g, cap, cur, h1, h2, h3, h4⟩
  · rw [h] at hm; cases hm
  · obtain ⟨a, b, c⟩ := opCs_at s.all m _ (getO_some s m hm)
    have e : ∀ j u, (opCs s.all)[j]? = some u → w.cell? ⟨g, j, none⟩ = some u := fun j u hu => by
      rw [Lib.cell_of_heap h2]
      simpa using h4 j u hu
    exact ⟨g, cap, h1, e _ _ a, e _ _ b, e _ _ c, (Array.getElem?_eq_some_iff.1 h2).1⟩
theorem RtC.heap {w w' : World} {b : Nat} {s : Fs} (h : RtC w b s) (e : w'.heap = w.heap) : RtC w' b s := by
  have hb : ∀ k : Nat, w'.heap[k]? = w.heap[k]? := fun k => by rw [e]
  have hc : ∀ j, w'.cell? ⟨b, j, none⟩ = w.cell? ⟨b, j, none⟩ := fun j => World.cell?_of_block (w := w) (hb b)
  exact ⟨fun p => (hc _).trans (h.h p), fun p k => (hc _).trans (h.d p k), fun j => (World.frozen?_of_block (w := w) (hb b)).trans (h.f j), by rw [e]; exact h.l⟩
theorem RtC.low {w w' : World} {b : Nat} {s : Fs} (h : RtC w b s) (k : Below w.heap.size w w') : RtC w' b s :=
  ⟨fun p => (k.cell (p := ⟨b, p.1, none⟩) h.l).trans (h.h p), fun p j => (k.cell (p := ⟨b, 6 + p.1 * 8 + j.1, none⟩) h.l).trans (h.d p j), fun j => (k.frozen (p := ⟨b, j, none⟩) h.l).trans (h.f j), Nat.lt_of_lt_of_le h.l k.size⟩
set_option maxHeartbeats 1000000 in
theorem rget_ok (B b : Nat) (s : Fs) (p : Fin 6) (k : Fin 8) (w : World) (h : Rt B w b s) (hp : s.has p = true) (hk : s.fd p k ≠ 0) (hl : s.all.length ≤ 1000) : Calls Try.prog 31 #[.pointer (some ⟨b, 0, none⟩), .int .i64 p.1, .int .i64 k.1] w fun r w' => r = .returned (.tuple #[.agg (opC (getO s (s.fd p k))).toArray, .int .i64 0]) ∧ Below w.heap.size w w' := by
  have hX := below_new w zO
  have cA := rat_ok b s p k _ (h.c.low hX) hp hk
  obtain ⟨m, hm⟩ : ∃ m, s.fd p k = m + 1 := ⟨s.fd p k - 1, by omega⟩
  have hml : m < s.all.length := by have := h.ok.le p k; omega
  obtain ⟨v, hc, hr⟩ := h.ex
  obtain ⟨g, cap, rfl, d0, d1, d2, dl⟩ := hr.at m hml
  have c54 : w.cell? ⟨b, 54, none⟩ = some (.slice (some ⟨g, 0, none⟩) s.all.length cap) := hc.cell 54
  have cd := h.c.d p k
  have hlt := h.lt
  rw [hm] at cd ⊢
  have hw1 : IntKind.i64.wrap (((m + 1 : Nat) : Int) - 1) = (m : Int) := by rw [IntKind.wrap_i64]; omega
  have hw2 : ((m + 1 : Nat) : Int) - 1 = (m : Int) := by omega
  have hmz : (m : Int) < (s.all.length : Int) := by omega
  unfold opC
  generalize getO s (m + 1) = o at *
  generalize ((m + 1 : Nat) : Int) = x at *
  generalize s.all.length = N at *
  clear h hk hm hX hc hr
  obtain ⟨p, hp6⟩ := p
  obtain ⟨k, hk8⟩ := k
  have h2 : (p : Int) < 6 := by omega
  have h3 : (k : Int) < 8 := by omega
  simp only [zO] at *
  go_enter Try.func31, Try.ntmps31
  go_wp2_with fail
  refine cA.mono ?_
  rintro r W ⟨rfl, hW⟩
  rw [hW]
  clear hW cA
  go_wp2
  go_region
  go_wp2
  refine bodyPost_ret (v := .tuple #[.agg #[.int .u8 o.k, .int .i64 o.r, .int .i64 o.p], .int .i64 0]) (by simp [results, Try.results31, go_sem]) rfl ⟨rfl, ?_⟩
  exact (below_new w _).drew
set_option maxHeartbeats 1000000 in
theorem rget_err (e : Int) (he : e ≠ 0) (tb : Nat) (pid fd : Int) (w : World) (cA : ∀ W, Below w.heap.size w W → Calls Try.prog 51 #[.pointer (some ⟨tb, 0, none⟩), .int .i64 pid, .int .i64 fd] W fun r w' => r = .returned (.int .i64 e) ∧ w' = W) : Calls Try.prog 31 #[.pointer (some ⟨tb, 0, none⟩), .int .i64 pid, .int .i64 fd] w fun r w' => r = .returned (.tuple #[.agg #[.int .u8 0, .int .i64 0, .int .i64 0], .int .i64 e]) ∧ Below w.heap.size w w' := by
  have h1 : (e != 0) = true := by simpa using he
  have HX := Hid3.mk (below_new w zO)
  have cB := cA _ HX.out
  clear he cA
  simp only [zO] at *
  go_enter Try.func31, Try.ntmps31
  go_wp2_with fail
  refine cB.mono ?_
  rintro r W ⟨rfl, hW⟩
  rw [hW]
  clear hW
  go_wp2
  refine bodyPost_ret (v := .tuple #[.agg #[.int .u8 0, .int .i64 0, .int .i64 0], .int .i64 e]) (by simp [results, Try.results31, go_sem]) rfl ⟨rfl, ?_⟩
  exact below_new w _
set_option maxHeartbeats 1000000 in
theorem rsame_ok (b : Nat) (s : Fs) (p q : Fin 6) (k j : Fin 8) (w : World) (h : RtC w b s) (hp : s.has p = true) (hk : s.fd p k ≠ 0) (hq : s.has q = true) (hj : s.fd q j ≠ 0) : Calls Try.prog 32 #[.pointer (some ⟨b, 0, none⟩), .int .i64 p.1, .int .i64 k.1, .int .i64 q.1, .int .i64 j.1] w fun r w' => r = .returned (.bool (decide (s.fd p k = s.fd q j))) ∧ Below w.heap.size w w' := by
  have c1 := fun n => rat_ok b s p k (w.drewN n) (h.heap rfl) hp hk
  have c2 := fun n => rat_ok b s q j (w.drewN n) (h.heap rfl) hq hj
  have d1 := h.d p k
  have d2 := h.d q j
  have hb := h.l
  have he : ((s.fd p k : Int) == (s.fd q j : Int)) = decide (s.fd p k = s.fd q j) := by
    rw [Bool.eq_iff_iff]; simp; omega
  generalize decide (s.fd p k = s.fd q j) = z at *
  generalize ((s.fd p k : Nat) : Int) = x at *
  generalize ((s.fd q j : Nat) : Int) = y at *
  clear h hk hj
  obtain ⟨p, hp6⟩ := p
  obtain ⟨q, hq6⟩ := q
  obtain ⟨k, hk8⟩ := k
  obtain ⟨j, hj8⟩ := j
  have h1 : (p : Int) < 6 := by omega
  have h2 : (q : Int) < 6 := by omega
  have h3 : (k : Int) < 8 := by omega
  have h4 : (j : Int) < 8 := by omega
  simp only at *
  clear hp hq
  go_enter Try.func32, Try.ntmps32
  go_wp2
  go_quiet (first
    | (go_at_call_of 51 (Value.int IntKind.i64 (p : Int)); exact Calls.quiet_of_same (c1 _))
    | (go_at_call_of 51 (Value.int IntKind.i64 (q : Int)); exact Calls.quiet_of_same (c2 _)))
  go_wp2
  go_ret
  exact ⟨rfl, ⟨rfl, rfl, rfl, Nat.le_refl _, fun _ _ => rfl⟩⟩
set_option maxHeartbeats 1000000 in
theorem rsame_bad1 (e : Int) (he : e ≠ 0) (tb : Nat) (p a q c : Int) (w : World) (cA : ∀ n, Calls Try.prog 51 #[.pointer (some ⟨tb, 0, none⟩), .int .i64 p, .int .i64 a] (w.drewN n) fun r w' => r = .returned (.int .i64 e) ∧ w' = w.drewN n) : Calls Try.prog 32 #[.pointer (some ⟨tb, 0, none⟩), .int .i64 p, .int .i64 a, .int .i64 q, .int .i64 c] w fun r w' => r = .returned (.bool false) ∧ Below w.heap.size w w' := by
  have h1 : (e == 0) = false := by simpa using he
  clear he
  go_enter Try.func32, Try.ntmps32
  go_wp2
  go_quiet ((go_at_call 51; exact Calls.quiet_of_same (cA _)))
  go_wp2
  go_ret
  exact ⟨rfl, ⟨rfl, rfl, rfl, Nat.le_refl _, fun _ _ => rfl⟩⟩
set_option maxHeartbeats 1000000 in
theorem rsame_bad2 (e : Int) (he : e ≠ 0) (tb : Nat) (p a q c : Int) (w : World) (cA : ∀ n, Calls Try.prog 51 #[.pointer (some ⟨tb, 0, none⟩), .int .i64 p, .int .i64 a] (w.drewN n) fun r w' => r = .returned (.int .i64 0) ∧ w' = w.drewN n) (cB : ∀ n, Calls Try.prog 51 #[.pointer (some ⟨tb, 0, none⟩), .int .i64 q, .int .i64 c] (w.drewN n) fun r w' => r = .returned (.int .i64 e) ∧ w' = w.drewN n) : Calls Try.prog 32 #[.pointer (some ⟨tb, 0, none⟩), .int .i64 p, .int .i64 a, .int .i64 q, .int .i64 c] w fun r w' => r = .returned (.bool false) ∧ Below w.heap.size w w' := by
  have h1 : (e == 0) = false := by simpa using he
  clear he
  go_enter Try.func32, Try.ntmps32
  go_wp2
  go_quiet (first
    | (go_at_call_of 51 (Value.int IntKind.i64 p); exact Calls.quiet_of_same (cA _))
    | (go_at_call_of 51 (Value.int IntKind.i64 q); exact Calls.quiet_of_same (cB _)))
  go_wp2
  go_ret
  exact ⟨rfl, ⟨rfl, rfl, rfl, Nat.le_refl _, fun _ _ => rfl⟩⟩
set_option maxHeartbeats 1000000 in
theorem rclose_err (e : Int) (he : e ≠ 0) (tb : Nat) (pid fd : Int) (w : World) (cA : ∀ W, Below w.heap.size w W → Calls Try.prog 51 #[.pointer (some ⟨tb, 0, none⟩), .int .i64 pid, .int .i64 fd] W fun r w' => r = .returned (.int .i64 e) ∧ w' = W) : Calls Try.prog 48 #[.pointer (some ⟨tb, 0, none⟩), .int .i64 pid, .int .i64 fd] w fun r w' => r = .returned (.tuple #[.agg #[.int .u8 0, .int .i64 0, .int .i64 0], .bool false, .int .i64 e]) ∧ Below w.heap.size w w' := by
  have h1 : (e != 0) = true := by simpa using he
  have HX := Hid3.mk (below_new w zO)
  have cB := cA _ HX.out
  clear he cA
  simp only [zO] at *
  go_enter Try.func48, Try.ntmps48
  go_wp2_with fail
  refine cB.mono ?_
  rintro r W ⟨rfl, hW⟩
  rw [hW]
  clear hW
  go_wp2
  refine bodyPost_ret (v := .tuple #[.agg #[.int .u8 0, .int .i64 0, .int .i64 0], .bool false, .int .i64 e]) (by simp [results, Try.results48, go_sem]) rfl ⟨rfl, ?_⟩
  exact below_new w _
set_option maxHeartbeats 1000000 in
theorem rclose_ok54 (B b : Nat) (s : Fs) (p : Fin 6) (k : Fin 8) (w : World) (h : Rt B w b s) (hp : s.has p = true) (hk : s.fd p k ≠ 0) (hl : s.all.length ≤ 1000) : Calls Try.prog 48 #[.pointer (some ⟨b, 0, none⟩), .int .i64 p.1, .int .i64 k.1] w fun r w' => r = .returned (.tuple #[.agg (opC (getO s (s.fd p k))).toArray, .bool (decide (cntN s.fd (s.fd p k) = 1)), .int .i64 0]) ∧ RStp B w w' b (setFd s p k 0) ∧ w'.cell? ⟨b, 54, none⟩ = w.cell? ⟨b, 54, none⟩ := by
  have hX := below_new w zO
  have cA := rat_ok b s p k _ (h.c.low hX) hp hk
  have HS := RStp.fset h p k 0 (h.ok.set p k 0 hp (Nat.zero_le _))
  have hR2 := HS.r.c.low (below_new _ zO)
  have cH : Hid3 (∀ W : World, W.heap = ((w.setCell ⟨b, 6 + p.1 * 8 + k.1, none⟩ (.int .i64 0)).alloc zO).heap → Calls Try.prog 56 #[.pointer (some ⟨b, 0, none⟩), .int .i64 (s.fd p k : Int)] W fun r w' => r = .returned (.bool (decide (cntN (setFd s p k 0).fd (s.fd p k) ≠ 0))) ∧ w' = W) := ⟨fun W hW => held_any b (setFd s p k 0) (s.fd p k) W (hR2.heap hW)⟩
  have hq : decide (cntN (setFd s p k 0).fd (s.fd p k) ≠ 0) = !decide (cntN s.fd (s.fd p k) = 1) := by
    have h1 := cntN_at s.fd p k 0 (s.fd p k)
    have h2 : one (s.fd p k) (s.fd p k) = 1 := if_pos rfl
    have h3 : one 0 (s.fd p k) = 0 := if_neg (fun e => hk e.symm)
    have h4 : cntN (setFd s p k 0).fd (s.fd p k) + 1 = cntN s.fd (s.fd p k) := by
      have e : (setFd s p k 0).fd = upd s.fd p (upd (s.fd p) k 0) := rfl
      rw [e]
      omega
    rw [Bool.eq_iff_iff]
    simp
    omega
  rw [hq] at cH
  obtain ⟨m, hm⟩ : ∃ m, s.fd p k = m + 1 := ⟨s.fd p k - 1, by omega⟩
  have hml : m < s.all.length := by have := h.ok.le p k; omega
  obtain ⟨v, hc, hr⟩ := h.ex
  obtain ⟨g, cap, hv, hA⟩ := hr.at m hml
  have hgb : g ≠ b := by
    rcases hr with ⟨e, _⟩ | ⟨g', cap', cur, e, e2, _⟩
    · rw [e] at hv; cases hv
    · rw [e] at hv
      injection hv with hv
      injection hv with hv
      injection hv with hv
      subst hv
      exact op_ne hc g' cur e2
  subst hv
  have hgb' := hgb.symm
  obtain ⟨d0, d1, d2, dl⟩ := hA
  have c54 : w.cell? ⟨b, 54, none⟩ = some (.slice (some ⟨g, 0, none⟩) s.all.length cap) := hc.cell 54
  have cd := h.c.d p k
  have fd := h.c.f (6 + p.1 * 8 + k.1)
  have hlt := h.lt
  have hw1 : IntKind.i64.wrap (((m + 1 : Nat) : Int) - 1) = (m : Int) := by rw [IntKind.wrap_i64]; omega
  have hw2 : ((m + 1 : Nat) : Int) - 1 = (m : Int) := by omega
  have hw3 : IntKind.i64.wrap (m : Int) = (m : Int) := by rw [IntKind.wrap_i64]; omega
  have hw4 : ¬ (m : Int) < 0 := by omega
  have hmz : (m : Int) < (s.all.length : Int) := by omega
  obtain ⟨DC, hDC⟩ : ∃ DC, dCs s (.slice (some ⟨g, 0, none⟩) s.all.length cap) = DC := ⟨_, rfl⟩
  have hcw : Cl w b 85 DC := by rw [← hDC]; exact hc
  have h54v : DC[54]? = some (.slice (some ⟨g, 0, none⟩) s.all.length cap) := by rw [← hDC]; rfl
  clear hDC
  have HF : Hid3 (RStp B w (w.setCell ⟨b, 6 + p.1 * 8 + k.1, none⟩ (.int .i64 0)) b (setFd s p k 0)) := ⟨HS⟩
  have hne54 : 6 + p.1 * 8 + k.1 ≠ 54 := by have := p.2; have := k.2; omega
  have hne54' := hne54.symm
  generalize setFd s p k 0 = s' at *
  generalize decide (cntN s.fd (s.fd p k) = 1) = z at *
  rw [hm] at cd cH ⊢
  unfold opC
  generalize getO s (m + 1) = o at *
  generalize ((m + 1 : Nat) : Int) = x at *
  generalize s.all.length = N at *
  clear h hk hm hX hc hr HS hR2 hq
  obtain ⟨p, hp6⟩ := p
  obtain ⟨k, hk8⟩ := k
  have h2 : (p : Int) < 6 := by omega
  have h3 : (k : Int) < 8 := by omega
  have HZ : Hid3 (∀ W2, W2 = (w.setCell ⟨b, 6 + p * 8 + k, none⟩ (.int .i64 0)).alloc zO → W2.cell? ⟨b, 54, none⟩ = some (.slice (some ⟨g, 0, none⟩) N cap) ∧ OpA W2 g m o ∧ Cl W2 w.heap.size 32 [.int .u8 0, .int .i64 0, .int .i64 0] ∧ b < W2.heap.size ∧ ∀ W', Below w.heap.size W2 W' → RStp B w W' b s' ∧ W'.cell? ⟨b, 54, none⟩ = w.cell? ⟨b, 54, none⟩) := ⟨fun W2 e => by
    subst e
    have hst : ∀ j v, w.cell? ⟨g, j, none⟩ = some v → ((w.setCell ⟨b, 6 + p * 8 + k, none⟩ (.int .i64 0)).alloc zO).cell? ⟨g, j, none⟩ = some v := fun j v hv => cell_stay (cell_stay hv (Apart.at (X := fun i => i = b) w b _ _ rfl) hgb) (Apart.of_below (X := fun _ => False) (below_new _ _)) id
    have h54 := ((hcw.set (6 + p * 8 + k) (.int .i64 0)).alloc zO).cell 54
    rw [List.getElem?_set_ne hne54] at h54
    refine ⟨h54.trans h54v, ⟨hst _ _ d0, hst _ _ d1, hst _ _ d2, by rw [World.size_alloc, size_setCell]; omega⟩, ?_, by rw [World.size_alloc, size_setCell]; omega, fun W' hW => ⟨HF.out.post ?_, ((hW.cell (p := ⟨b, 54, none⟩) hlt).trans (h54.trans h54v)).trans c54.symm⟩⟩
    · have := heap_alloc_new (w.setCell ⟨b, 6 + p * 8 + k, none⟩ (.int .i64 0)) zO
      rw [size_setCell] at this
      exact this
    · rw [size_setCell]
      have hn := below_new (w.setCell ⟨b, 6 + p * 8 + k, none⟩ (.int .i64 0)) zO
      rw [size_setCell] at hn
      exact hn.trans hW⟩
  clear hcw h54v
  simp only [zO] at *
  go_enter Try.func48, Try.ntmps48
  go_wp2_with fail
  refine cA.mono ?_
  rintro r W ⟨rfl, hW⟩
  rw [hW]
  clear hW cA
  go_wp2_with fail
  clear c54 d0 d1 d2 cd fd HF
  generalize hW2 : (w.setCell ⟨b, 6 + p * 8 + k, none⟩ (.int .i64 0)).alloc (.cells #[.int .u8 0, .int .i64 0, .int .i64 0] 32) = W2 at *
  obtain ⟨c54, ⟨d0, d1, d2, dl2⟩, hC, hb2, hS⟩ := HZ.out W2 rfl
  have r0 := hC.cell 0
  have r1 := hC.cell 1
  have r2 := hC.cell 2
  have f0 := hC.thaw 0
  have f1 := hC.thaw 1
  have f2 := hC.thaw 2
  have hl2 := hC.lt
  have HS := Hid3.mk hS
  clear hC hS HZ hW2
  simp only [List.getElem?_cons_zero, List.getElem?_cons_succ] at r0 r1 r2
  go_region_held3 (fun w' => w'.cell? ⟨b, 54, none⟩ = some (.slice (some ⟨g, 0, none⟩) N cap) ∧ w'.cell? ⟨g, m * 3, none⟩ = some (.int .u8 o.k) ∧ w'.cell? ⟨g, m * 3 + 1, none⟩ = some (.int .i64 o.r) ∧ w'.cell? ⟨g, m * 3 + 2, none⟩ = some (.int .i64 o.p)) (simp [go_sem, c54, d0, d1, d2]) ((go_at_call 56; refine (cH.out W2.drew rfl).mono ?_; rintro r w9 ⟨rfl, rfl⟩))
  all_goals
    go_wp2
    refine bodyPost_ret (v := .tuple #[.agg #[.int .u8 o.k, .int .i64 o.r, .int .i64 o.p], .bool z, .int .i64 0]) (by simp [results, Try.results48, go_sem, r0, r1, r2]) rfl ⟨rfl, ?_⟩
    exact HS.out _ (below_set3 (Below.refl _ _) (Nat.le_refl _) _ _ _).drew
theorem rclose_ok (B b : Nat) (s : Fs) (p : Fin 6) (k : Fin 8) (w : World) (h : Rt B w b s) (hp : s.has p = true) (hk : s.fd p k ≠ 0) (hl : s.all.length ≤ 1000) : Calls Try.prog 48 #[.pointer (some ⟨b, 0, none⟩), .int .i64 p.1, .int .i64 k.1] w fun r w' => r = .returned (.tuple #[.agg (opC (getO s (s.fd p k))).toArray, .bool (decide (cntN s.fd (s.fd p k) = 1)), .int .i64 0]) ∧ RStp B w w' b (setFd s p k 0) :=
  (rclose_ok54 B b s p k w h hp hk hl).mono (fun r w' h => ⟨h.1, h.2.1⟩)
/-- The same table in a world that is the same below. -/
theorem Rt.lo {B : Nat} {w W2 W3 : World} {b : Nat} {s s' : Fs} (h0 : Rt B w b s) (h : Rt B W2 b s') (hall : s'.all = s.all) (hc : W2.cell? ⟨b, 54, none⟩ = w.cell? ⟨b, 54, none⟩) (ap : Apart (fun k => k = b) w W2) (k : Below w.heap.size W2 W3) : Rt B W3 b s' := by
  have hlt := h0.lt
  obtain ⟨v0, h1, h2⟩ := h0.ex
  obtain ⟨v1, h3, h4⟩ := h.ex
  have e : v1 = v0 := by
    have e1 : W2.cell? ⟨b, 54, none⟩ = some v1 := h3.cell 54
    have e2 : w.cell? ⟨b, 54, none⟩ = some v0 := h1.cell 54
    rw [e1, e2] at hc
    exact Option.some.inj hc
  subst e
  refine ⟨h.g, ⟨v1, (k.block b hlt).trans h3, ?_⟩, h.ok⟩
  rw [hall]
  rcases h2 with h2 | ⟨g, cap, cur, e1, e2, e3, e4⟩
  · exact .inl h2
  · have hg := (Array.getElem?_eq_some_iff.1 e2).1
    exact .inr ⟨g, cap, cur, e1, ((k.block g hg).trans (ap.block g hg (op_ne h1 g cur e2))).trans e2, e3, e4⟩
end Go.Proofs.Ytbkpkcndmlapfaa
