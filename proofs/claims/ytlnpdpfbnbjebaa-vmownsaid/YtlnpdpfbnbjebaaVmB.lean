/- The program's vm: New, of, vacant, Begin, Map, Peek, Copies. -/
import Derived.Test.YtlnpdpfbnbjebaaVmA
namespace Go.Proofs.Ytlnpdpfbnbjebaa
open Go.RowKit Go.Maps
set_option linter.unusedVariables false
set_option maxRecDepth 100000
def stL (m : Nat) : List Value := .pointer (some ⟨m, 0, none⟩) :: ((List.replicate 64 (0 : Int)).map (Value.int .i64) ++ [.int .i64 0])
theorem st_built (m : Nat) : Try.prog.built 64 [(0, .pointer (some ⟨m, 0, none⟩))] = some (stL m).toArray := by kernel_rfl
theorem vm_built (m : Nat) : Try.prog.built 69 [(1, .agg (stL m).toArray)] = some (vCs (fun _ => false) (fun _ => 0) m (List.replicate 64 0) 0).toArray := by kernel_rfl
theorem qE : ∀ (w : World) (r : Option Nat), (binOp .eql 66 (.map r) (.map none)).run Try.prog w = .ok (.bool r.isNone) w := fun w r => run_eql_map_nil w _ _ _ r Try.underlying66
theorem qN : ∀ (w : World) (r : Option Nat), (binOp .neq 66 (.map r) (.map none)).run Try.prog w = .ok (.bool (!r.isNone)) w := fun w r => run_neq_map_nil w _ _ _ r Try.underlying66
set_option maxHeartbeats 1000000 in
theorem vnew_bad (n : Int) (w : World) (h : n < 1 ∨ 64 < n) : Calls Try.prog 12 #[.int .i64 n] w fun r w' => r = .returned (.pointer none) ∧ w' = w := by
  have c1 := new_bad n w h
  go_enter Try.func12, Try.ntmps12
  go_wp2_with fail
  refine c1.mono ?_
  rintro r W ⟨rfl, hW⟩
  rw [hW]
  clear c1 hW
  go_wp2
  go_ret
  exact ⟨rfl, rfl⟩
set_option maxHeartbeats 1000000 in
theorem vnew_good (n : Int) (w : World) (h1 : 1 ≤ n) (h2 : n ≤ 64) : Calls Try.prog 12 #[.int .i64 n] w fun r w' => ∃ l, r = .returned (.pointer (some ⟨l.b, 0, none⟩)) ∧ Vb w.heap.size w' l (vs0 n) ∧ Below w.heap.size w w' := by
  have c1 := new_good n w h1 h2
  have hb1 := st_built w.heap.size
  have hb2 := vm_built w.heap.size
  generalize stL w.heap.size = S at *
  generalize hV0 : (vCs (fun _ => false) (fun _ => 0) w.heap.size (List.replicate 64 0) 0).toArray = V0 at *
  have HV := Hid3.mk hV0
  clear hV0
  go_enter Try.func12, Try.ntmps12
  go_wp2_with fail
  refine c1.mono ?_
  rintro r W ⟨rfl, hM, hB⟩
  have HM := Hid3.mk hM
  have HB := Hid3.mk hB
  clear c1 hM hB
  go_wp2_with (first | (refine Go.wpList_buildTo rfl _ _ rfl _ rfl S.toArray (by simpa [Act.eval] using hb1) ?_) | (refine Go.wpList_buildTo rfl _ _ rfl _ rfl V0 ?hx ?_; case hx => (simp [Act.eval]; exact hb2)))
  go_ret
  refine ⟨⟨W.heap.size, w.heap.size, fun _ => 0⟩, rfl, ⟨HB.out.size, Nat.le_refl _, ?_, HM.out.below (below_new _ _), List.length_replicate, fun p hp => (by cases hp), fun p q hp => (by cases hp)⟩, HB.out.trans ((below_new W _).mono HB.out.size)⟩
  show Cl _ W.heap.size _ (vCs (fun _ => false) (fun _ => 0) w.heap.size (List.replicate 64 0) 0)
  unfold Cl
  rw [HV.out]
  exact heap_alloc_new _ _
/-- There is no such process. -/
def NoP (s : Vs) (pid : Int) : Prop := pid < 0 ∨ 6 ≤ pid ∨ ∃ p : Fin 6, pid = p.1 ∧ s.has p = false
theorem pid_cases (s : Vs) (pid : Int) : NoP s pid ∨ ∃ p : Fin 6, pid = (p.1 : Int) ∧ s.has p = true := by
  by_cases h1 : pid < 0
  · exact .inl (.inl h1)
  by_cases h2 : 6 ≤ pid
  · exact .inl (.inr (.inl h2))
  · have hlt : pid.toNat < 6 := by omega
    cases hh : s.has ⟨pid.toNat, hlt⟩ with
    | false => exact .inl (.inr (.inr ⟨⟨pid.toNat, hlt⟩, by show pid = (pid.toNat : Int); omega, hh⟩))
    | true => exact .inr ⟨⟨pid.toNat, hlt⟩, by show pid = (pid.toNat : Int); omega, hh⟩
set_option maxHeartbeats 1000000 in
theorem of_ok (B : Nat) (l : Lo) (s : Vs) (p : Fin 6) (w : World) (h : Vb B w l s) (hp : s.has p = true) : Calls Try.prog 39 #[.pointer (some ⟨l.b, 0, none⟩), .int .i64 p.1] w fun r w' => r = .returned (.tuple #[.map (some (l.r p)), .int .i64 0]) ∧ w' = w := by
  have c0 := h.at p
  rw [hp] at c0
  have c1 : w.cell? ⟨l.b, p.1, none⟩ = some (.map (some (l.r p))) := c0
  clear h c0
  obtain ⟨p, hp6⟩ := p
  have h1 : ¬ (p : Int) < 0 := by omega
  have h2 : (p : Int) < 6 := by omega
  have h3 : ¬ (6 : Int) ≤ p := by omega
  simp only at *
  have q := qE
  go_enter Try.func39, Try.ntmps39
  go_wp2
  go_ret2
  exact ⟨rfl, rfl⟩
set_option maxHeartbeats 1000000 in
theorem of_bad (B : Nat) (l : Lo) (s : Vs) (pid : Int) (w : World) (h : Vb B w l s) (hp : NoP s pid) : Calls Try.prog 39 #[.pointer (some ⟨l.b, 0, none⟩), .int .i64 pid] w fun r w' => r = .returned (.tuple #[.map none, .int .i64 5]) ∧ w' = w := by
  rcases hp with h1 | h1 | ⟨p, rfl, hp⟩
  · clear h
    have q := qE
    go_enter Try.func39, Try.ntmps39
    go_wp2
    go_ret2
    exact ⟨rfl, rfl⟩
  · clear h
    have h0 : ¬ pid < 0 := by omega
    have q := qE
    go_enter Try.func39, Try.ntmps39
    go_wp2
    go_ret2
    exact ⟨rfl, rfl⟩
  · have c0 := h.at p
    rw [hp] at c0
    have c1 : w.cell? ⟨l.b, p.1, none⟩ = some (.map none) := c0
    clear h c0
    obtain ⟨p, hp6⟩ := p
    have h1 : ¬ (p : Int) < 0 := by omega
    have h2 : (p : Int) < 6 := by omega
    have h3 : ¬ (6 : Int) ≤ p := by omega
    simp only at *
    have q := qE
    go_enter Try.func39, Try.ntmps39
    go_wp2
    go_ret2
    exact ⟨rfl, rfl⟩
/-- The error of a process that should not be there. -/
def freshE (s : Vs) (pid : Int) : Int := if h : 0 ≤ pid ∧ pid < 6 then (if s.has ⟨pid.toNat, by omega⟩ then 6 else 0) else 2
theorem freshE_at (s : Vs) (p : Fin 6) : freshE s p.1 = if s.has p then 6 else 0 := by
  unfold freshE
  rw [dif_pos (by constructor <;> omega)]
  have : (⟨((p.1 : Nat) : Int).toNat, by omega⟩ : Fin 6) = p := by ext; simp
  rw [this]
theorem freshE_ok (s : Vs) (pid : Int) (h : freshE s pid = 0) : ∃ p : Fin 6, pid = (p.1 : Int) ∧ s.has p = false := by
  unfold freshE at h
  by_cases hc : 0 ≤ pid ∧ pid < 6
  · rw [dif_pos hc] at h
    cases hh : s.has ⟨pid.toNat, by omega⟩ with
    | true => rw [hh] at h; simp at h
    | false => exact ⟨⟨pid.toNat, by omega⟩, by show pid = (pid.toNat : Int); omega, hh⟩
  · rw [dif_neg hc] at h
    omega
set_option maxHeartbeats 1000000 in
theorem vacant_any (B : Nat) (l : Lo) (s : Vs) (pid : Int) (w : World) (h : Vb B w l s) : Calls Try.prog 38 #[.pointer (some ⟨l.b, 0, none⟩), .int .i64 pid] w fun r w' => r = .returned (.int .i64 (freshE s pid)) ∧ w' = w := by
  by_cases hc : 0 ≤ pid ∧ pid < 6
  · obtain ⟨p, rfl⟩ : ∃ p : Fin 6, pid = (p.1 : Int) := ⟨⟨pid.toNat, by omega⟩, by show pid = (pid.toNat : Int); omega⟩
    rw [freshE_at]
    have c0 := h.at p
    clear h hc
    obtain ⟨p, hp6⟩ := p
    have h1 : ¬ (p : Int) < 0 := by omega
    have h2 : (p : Int) < 6 := by omega
    have h3 : ¬ (6 : Int) ≤ p := by omega
    cases hh : s.has ⟨p, hp6⟩ with
    | true =>
      rw [hh] at c0
      have c1 : w.cell? ⟨l.b, p, none⟩ = some (.map (some (l.r ⟨p, hp6⟩))) := c0
      clear c0
      simp only [if_true] at *
      have q := qN
      go_enter Try.func38, Try.ntmps38
      go_wp2
      go_ret
      exact ⟨rfl, rfl⟩
    | false =>
      rw [hh] at c0
      have c1 : w.cell? ⟨l.b, p, none⟩ = some (.map none) := c0
      clear c0
      simp only [Bool.false_eq_true, if_false] at *
      have q := qN
      go_enter Try.func38, Try.ntmps38
      go_wp2
      go_ret
      exact ⟨rfl, rfl⟩
  · have he : freshE s pid = 2 := by unfold freshE; rw [dif_neg hc]
    rw [he]
    clear h he
    by_cases h1 : pid < 0
    · clear hc
      have q := qN
      go_enter Try.func38, Try.ntmps38
      go_wp2
      go_ret
      exact ⟨rfl, rfl⟩
    · have h2 : 6 ≤ pid := by omega
      clear hc
      have q := qN
      go_enter Try.func38, Try.ntmps38
      go_wp2
      go_ret
      exact ⟨rfl, rfl⟩
set_option maxHeartbeats 1000000 in
theorem copies_ok (B : Nat) (l : Lo) (s : Vs) (w : World) (h : Vb B w l s) : Calls Try.prog 19 #[.pointer (some ⟨l.b, 0, none⟩)] w fun r w' => r = .returned (.int .i64 s.cp) ∧ w' = w := by
  have c0 := h.cp
  clear h
  go_enter Try.func19, Try.ntmps19
  go_wp2
  go_ret
  exact ⟨rfl, rfl⟩
end Go.Proofs.Ytlnpdpfbnbjebaa
