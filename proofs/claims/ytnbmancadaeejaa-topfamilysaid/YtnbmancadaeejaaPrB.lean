/- The program's table: New, at, state, parent, left, runs, State, Parent, Status. -/
import Derived.Test.YtnbmancadaeejaaPrA
namespace Go.Proofs.Ytnbmancadaeejaa
open Go.RowKit Go.Maps
set_option linter.unusedVariables false
set_option maxRecDepth 100000
theorem taR_no (w : World) : (Instr.typeAssert .nilIface 34 39 true).run Try.prog w = .ok (.tuple #[.agg #[.int .i64 0], .bool false]) w := by kernel_rfl
theorem taR_run (n : Int) (w : World) : (Instr.typeAssert (.iface 39 (.agg #[.int .i64 n])) 34 39 true).run Try.prog w = .ok (.tuple #[.agg #[.int .i64 n], .bool true]) w := by kernel_rfl
theorem taR_zom (n m : Int) (w : World) : (Instr.typeAssert (.iface 47 (.agg #[.int .i64 n, .int .i64 m])) 34 39 true).run Try.prog w = .ok (.tuple #[.agg #[.int .i64 0], .bool false]) w := by kernel_rfl
theorem taZ_no (w : World) : (Instr.typeAssert .nilIface 34 47 true).run Try.prog w = .ok (.tuple #[.agg #[.int .i64 0, .int .i64 0], .bool false]) w := by kernel_rfl
theorem taZ_run (n : Int) (w : World) : (Instr.typeAssert (.iface 39 (.agg #[.int .i64 n])) 34 47 true).run Try.prog w = .ok (.tuple #[.agg #[.int .i64 0, .int .i64 0], .bool false]) w := by kernel_rfl
theorem taZ_zom (n m : Int) (w : World) : (Instr.typeAssert (.iface 47 (.agg #[.int .i64 n, .int .i64 m])) 34 47 true).run Try.prog w = .ok (.tuple #[.agg #[.int .i64 n, .int .i64 m], .bool true]) w := by kernel_rfl
set_option maxHeartbeats 1000000 in
theorem new_any (w : World) : Calls Try.prog 4 #[] w fun r w' => r = .returned (.pointer (some ⟨w.heap.size, 0, none⟩)) ∧ Tp w.heap.size w' w.heap.size pt0 ∧ Below w.heap.size w w' := by
  go_enter Try.func4, Try.ntmps4
  go_wp2
  go_ret
  exact ⟨rfl, ⟨Nat.le_refl _, heap_alloc_new _ _⟩, below_new w _⟩
set_option maxHeartbeats 1000000 in
theorem at_in (B b : Nat) (s : Pt) (p : Fin 6) (w : World) (h : Tp B w b s) : Calls Try.prog 13 #[.pointer (some ⟨b, 0, none⟩), .int .i64 p.1] w fun r w' => r = .returned (prV (s p)) ∧ w' = w := by
  have c1 := h.at p
  generalize prV (s p) = v at *
  clear h
  obtain ⟨p, hp6⟩ := p
  have h1 : ¬ (p : Int) < 0 := by omega
  have h2 : (p : Int) < 6 := by omega
  have h3 : ¬ (6 : Int) ≤ p := by omega
  simp only at *
  go_enter Try.func13, Try.ntmps13
  go_wp2
  go_ret
  exact ⟨rfl, rfl⟩
set_option maxHeartbeats 1000000 in
theorem at_out (b : Nat) (pid : Int) (w : World) (hp : pid < 0 ∨ 6 ≤ pid) : Calls Try.prog 13 #[.pointer (some ⟨b, 0, none⟩), .int .i64 pid] w fun r w' => r = .returned .nilIface ∧ w' = w := by
  rcases hp with h1 | h1
  · go_enter Try.func13, Try.ntmps13
    go_wp2
    go_ret
    exact ⟨rfl, rfl⟩
  · have h0 : ¬ pid < 0 := by omega
    go_enter Try.func13, Try.ntmps13
    go_wp2
    go_ret
    exact ⟨rfl, rfl⟩
theorem at_nil (pid : Int) (w : World) : Calls Try.prog 13 #[.pointer none, .int .i64 pid] w fun r w' => r = .returned .nilIface ∧ w' = w := by
  go_enter Try.func13, Try.ntmps13
  go_wp2
  go_ret
  exact ⟨rfl, rfl⟩
/-- Who is asked for: somebody, or none. -/
def gt (s : Pt) (pid : Int) : Pr := if h : 0 ≤ pid ∧ pid < 6 then s ⟨pid.toNat, by omega⟩ else .no
theorem gt_in (s : Pt) (p : Fin 6) : gt s p.1 = s p := by
  unfold gt
  rw [dif_pos (by constructor <;> omega)]
  have : (⟨((p.1 : Nat) : Int).toNat, by omega⟩ : Fin 6) = p := by ext; simp
  rw [this]
theorem gt_out (s : Pt) (pid : Int) (h : pid < 0 ∨ 6 ≤ pid) : gt s pid = .no := by
  unfold gt
  rw [dif_neg (by omega)]
theorem at_any (B b : Nat) (s : Pt) (pid : Int) (w : World) (h : Tp B w b s) : Calls Try.prog 13 #[.pointer (some ⟨b, 0, none⟩), .int .i64 pid] w fun r w' => r = .returned (prV (gt s pid)) ∧ w' = w := by
  rcases pid_cases pid with hp | ⟨p, rfl⟩
  · rw [gt_out s pid hp]
    exact at_out b pid w hp
  · rw [gt_in]
    exact at_in B b s p w h
set_option maxHeartbeats 1000000 in
theorem parent_any (x : Pr) (w : World) : Calls Try.prog 15 #[prV x] w fun r w' => r = .returned (.int .i64 (paI x)) ∧ Below w.heap.size w w' := by
  cases x with
  | no =>
    have t1 := fun w => taR_no w
    have t2 := fun w => taZ_no w
    unfold prV paI
    go_enter Try.func15, Try.ntmps15
    go_wp2
    go_ret
    exact ⟨rfl, Below.refl _ _⟩
  | run p =>
    have t1 := fun w => taR_run p.1 w
    unfold prV paI
    go_enter Try.func15, Try.ntmps15
    go_wp2
    go_ret
    exact ⟨rfl, below_new w _⟩
  | zom p n =>
    have t1 := fun w => taR_zom p.1 n w
    have t2 := fun w => taZ_zom p.1 n w
    unfold prV paI
    go_enter Try.func15, Try.ntmps15
    go_wp2
    go_ret
    refine ⟨rfl, ?_⟩
    exact below_new w _
set_option maxHeartbeats 1000000 in
theorem state_any (x : Pr) (w : World) : Calls Try.prog 16 #[prV x] w fun r w' => r = .returned (.int .u8 (stI x)) ∧ Below w.heap.size w w' := by
  cases x with
  | no =>
    have t1 := fun w => taR_no w
    have t2 := fun w => taZ_no w
    unfold prV stI
    go_enter Try.func16, Try.ntmps16
    go_wp2
    go_ret
    exact ⟨rfl, Below.refl _ _⟩
  | run p =>
    have t1 := fun w => taR_run p.1 w
    unfold prV stI
    go_enter Try.func16, Try.ntmps16
    go_wp2
    go_ret
    exact ⟨rfl, Below.refl _ _⟩
  | zom p n =>
    have t1 := fun w => taR_zom p.1 n w
    have t2 := fun w => taZ_zom p.1 n w
    unfold prV stI
    go_enter Try.func16, Try.ntmps16
    go_wp2
    go_ret
    exact ⟨rfl, Below.refl _ _⟩
/-- What a child becomes whose parent ended. -/
def lft : Pr → Pr
  | .no => .no
  | .run _ => .run 0
  | .zom _ n => .zom 0 n
set_option maxHeartbeats 1000000 in
theorem left_any (x : Pr) (w : World) : Calls Try.prog 11 #[prV x] w fun r w' => r = .returned (prV (lft x)) ∧ Below w.heap.size w w' := by
  cases x with
  | no =>
    have t1 := fun w => taR_no w
    have t2 := fun w => taZ_no w
    unfold lft prV
    go_enter Try.func11, Try.ntmps11
    go_wp2
    go_ret
    exact ⟨rfl, Below.refl _ _⟩
  | run p =>
    have t1 := fun w => taR_run p.1 w
    unfold lft prV
    go_enter Try.func11, Try.ntmps11
    go_wp2
    go_ret
    exact ⟨rfl, below_new w _⟩
  | zom p n =>
    have t1 := fun w => taR_zom p.1 n w
    have t2 := fun w => taZ_zom p.1 n w
    unfold lft prV
    go_enter Try.func11, Try.ntmps11
    go_wp2
    go_ret
    refine ⟨rfl, ?_⟩
    exact below_new w _
/-- Does it run? Its parent, or the error. -/
def ruE : Pr → Int
  | .run _ => 0
  | _ => 5
def ruP : Pr → Int
  | .run p => p.1
  | _ => 0
set_option maxHeartbeats 1000000 in
theorem runs_any (B b : Nat) (s : Pt) (pid : Int) (w : World) (h : Tp B w b s) : Calls Try.prog 9 #[.pointer (some ⟨b, 0, none⟩), .int .i64 pid] w fun r w' => r = .returned (.tuple #[.agg #[.int .i64 (ruP (gt s pid))], .int .i64 (ruE (gt s pid))]) ∧ Below w.heap.size w w' := by
  have hX := below_new w (.cells #[.int .i64 0] 39)
  have cA := at_any B b s pid _ (h.below hX)
  clear h
  generalize gt s pid = x at *
  cases x with
  | no =>
    have t1 := fun w => taR_no w
    unfold prV at cA
    unfold ruP ruE
    go_enter Try.func9, Try.ntmps9
    go_wp2_with fail
    refine cA.mono ?_
    rintro r W ⟨rfl, hW⟩
    rw [hW]
    clear hW cA
    go_wp2
    refine bodyPost_ret (v := .tuple #[.agg #[.int .i64 0], .int .i64 5]) (by simp [results, Try.results9, go_sem]) rfl ⟨rfl, ?_⟩
    exact hX.trans ((below_new _ _).mono hX.size)
  | run p =>
    have t1 := fun w => taR_run p.1 w
    unfold prV at cA
    unfold ruP ruE
    go_enter Try.func9, Try.ntmps9
    go_wp2_with fail
    refine cA.mono ?_
    rintro r W ⟨rfl, hW⟩
    rw [hW]
    clear hW cA
    go_wp2
    refine bodyPost_ret (v := .tuple #[.agg #[.int .i64 p.1], .int .i64 0]) (by simp [results, Try.results9, go_sem]) rfl ⟨rfl, ?_⟩
    exact (below_new w _).trans ((below_new _ _).mono (below_new w _).size)
  | zom p n =>
    have t1 := fun w => taR_zom p.1 n w
    unfold prV at cA
    unfold ruP ruE
    go_enter Try.func9, Try.ntmps9
    go_wp2_with fail
    refine cA.mono ?_
    rintro r W ⟨rfl, hW⟩
    rw [hW]
    clear hW cA
    go_wp2
    refine bodyPost_ret (v := .tuple #[.agg #[.int .i64 0], .int .i64 5]) (by simp [results, Try.results9, go_sem]) rfl ⟨rfl, ?_⟩
    exact hX.trans ((below_new _ _).mono hX.size)
theorem runs_nil (pid : Int) (w : World) : Calls Try.prog 9 #[.pointer none, .int .i64 pid] w fun r w' => r = .returned (.tuple #[.agg #[.int .i64 0], .int .i64 1]) ∧ Below w.heap.size w w' := by
  go_enter Try.func9, Try.ntmps9
  go_wp2
  refine bodyPost_ret (v := .tuple #[.agg #[.int .i64 0], .int .i64 1]) (by simp [results, Try.results9, go_sem]) rfl ⟨rfl, ?_⟩
  exact below_new w _
set_option maxHeartbeats 1000000 in
theorem st_of (tb : Option Addr) (pid : Int) (x : Pr) (w : World) (cA : Calls Try.prog 13 #[.pointer tb, .int .i64 pid] w fun r w' => r = .returned (prV x) ∧ w' = w) : Calls Try.prog 12 #[.pointer tb, .int .i64 pid] w fun r w' => r = .returned (.int .u8 (stI x)) ∧ Below w.heap.size w w' := by
  have cS := state_any x w
  generalize prV x = v at *
  go_enter Try.func12, Try.ntmps12
  go_wp2_with fail
  refine cA.mono ?_
  rintro r W ⟨rfl, rfl⟩
  go_wp2_with fail
  refine cS.mono ?_
  rintro r W2 ⟨rfl, hb⟩
  go_wp2
  go_ret
  exact ⟨rfl, hb⟩
end Go.Proofs.Ytnbmancadaeejaa
