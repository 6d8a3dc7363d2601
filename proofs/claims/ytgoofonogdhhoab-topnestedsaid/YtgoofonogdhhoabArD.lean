/- The program's area: whether it is alive; New, Set, Kill, Fork. -/
import Derived.Test.YtgoofonogdhhoabArC
namespace Go.Proofs.Ytgoofonogdhhoab
open Go.RowKit Go.Maps Go.Sort
set_option linter.unusedVariables false
set_option maxRecDepth 100000
theorem wpQuiet_loads {ops : Array Oper} {C : World → Prop} {Q : Act → Prop} {rest : List Oper} {o : Oper} {a : Act} (hw : Region.wanted o (yielded ops a.tmps) = true) (ty : TypeId) (x : Operand) (ho : o.op = .load ty x) (v u : Value) (hx : a.eval x = v) (hL : ∀ w, C w → (Instr.loadAt ty v).run Try.prog w = .ok u w) (h : wpQuiet Try.prog ops C Q rest (a.put o.dst u)) : wpQuiet Try.prog ops C Q (o :: rest) a := by
  unfold wpQuiet
  rw [if_pos hw]
  refine ⟨u, fun w hw => ?_, h⟩
  unfold Oper.quietAt execOp
  simp only [ho, hx, Sem.run_bind, hL w hw, Result.andThen_ok, Sem.run_pure]
  exact ⟨rfl, rfl⟩
set_option maxHeartbeats 2000000 in
theorem alive_any (B b : Nat) (q : Ar) (w : World) (h : Ac B w b q) : Calls Try.prog 16 #[.pointer (some ⟨b, 0, none⟩)] w fun r w' => r = .returned (.bool q.al) ∧ Below w.heap.size w w' := by
  have HC : Hid3 (∀ w', (∃ p : Regrown, w' = grow (redrawn w p.d) p.os) → (Instr.loadAt 39 (.pointer (some ⟨b, 0, none⟩))).run Try.prog w' = .ok (.agg (lCs q).toArray) w') := ⟨fun w' ⟨p, hp⟩ => by
    subst hp
    exact load_life (h.below (below_regrown w p.d p.os))⟩
  have cE := fun d os => Calls.regrown_of (ended_any (grow (redrawn w d) os))
  have eG := eqGuardL
  have eM := fun w => eqLife w q h.ok
  have hl := h.lt
  generalize (lCs q).toArray = C at *
  generalize lz.toArray = Z at *
  have hal : (!(!q.al)) = q.al := by cases q.al <;> rfl
  generalize q.al = al at *
  clear h
  go_enter Try.func16, Try.ntmps16
  go_wp2_with fail
  refine wp_region_quiet_below (by kernel_rfl) (by kernel_rfl) ?_
  repeat (first | (refine wpQuiet_loads (by rfl) 39 _ rfl _ (.agg C) rfl HC.out ?_) | (quiet_step (exact cE _ _)))
  refine wpQuiet_nil ?_
  intro _ hw'
  obtain ⟨⟨dq, osq⟩, hw''⟩ := hw'
  subst hw''
  have hR := below_regrown w dq osq
  clear HC cE eG eM
  go_wp2
  go_ret
  exact ⟨by simp, hR⟩
end Go.Proofs.Ytgoofonogdhhoab
