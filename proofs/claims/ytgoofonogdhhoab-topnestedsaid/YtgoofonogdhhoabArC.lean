/- The program's area: whether it is alive; New, Set, Kill, Fork. -/
import Derived.Test.YtgoofonogdhhoabArB
import Derived.Lib.QuietBelow
namespace Go.Proofs.Ytgoofonogdhhoab
open Go.RowKit Go.Maps
set_option linter.unusedVariables false
set_option maxRecDepth 100000
def lz : List Value := lCs ⟨false, rg0, [], fun _ => none⟩
theorem lz_one : ∀ v ∈ lz, v.oneCell' = true := by
  intro v hv
  simp only [lz, lCs, kCs, kF, List.getD_nil, rg0, Rg.vs, List.mem_cons, List.not_mem_nil, or_false, List.cons_append, List.nil_append] at hv
  repeat (first | (rcases hv with hv | hv; · (subst hv; rfl)) | (subst hv; rfl))
theorem results_cellv {fn : Func} {p : Tmp} {ty : TypeId} (h : fn.results = #[.cell p ty]) (tmps : Array Value) (w : World) (ad : Addr) (v : Value) (ht : tmps.getD p undef = .pointer (some ad)) (hL : (Instr.loadAt ty (.pointer (some ad))).run Try.prog w = .ok v w) : (results fn tmps).run Try.prog w = .ok v w := by
  simp only [Instr.loadAt, Instr.sureAddr, Sem.run_bind, Sem.run_pure, Result.andThen_ok] at hL
  have ht' : tmps[p]?.getD undef = .pointer (some ad) := by rw [← ht]; simp
  simp [results, h, ht', asAddr, hL]
theorem eqGuardL : Try.prog.eqGuardType Try.prog.depth 39 = false := by kernel_rfl
set_option maxHeartbeats 1000000 in
theorem ended_any (w : World) : Calls Try.prog 17 #[] w fun r w' => r = .returned (.agg lz.toArray) ∧ Below w.heap.size w w' := by
  have hC : Cl (w.alloc (.cells lz.toArray 39)) w.heap.size 39 lz := Cl.new w _ _
  have hS := run_storeAt_new (P := Try.prog) w 39 lz.toArray lz.toArray sizL rfl (by simpa using lz_one)
  have hL := loads hC 39 0 47 lz (aggL _) sizL rfl rfl
  have HB := below_new w (.cells lz.toArray 39)
  go_enter Try.func17, Try.ntmps17
  go_wp2_with (refine wpList_stores rfl 39 _ _ rfl _ (.agg lz.toArray) rfl rfl hS ?_)
  exact bodyPost_ret (results_cellv Try.results17 _ _ ⟨w.heap.size, 0, none⟩ (.agg lz.toArray) rfl hL) rfl ⟨rfl, HB⟩
set_option maxHeartbeats 4000000 in
theorem eqLife (w : World) (q : Ar) (ok : q.Ok) : (Op.equalIn 10000 39 (.agg (lCs q).toArray) (.agg lz.toArray)).run Try.prog w = .ok (!q.al) w := by
  obtain ⟨al, s, kp, en⟩ := q
  cases al with
  | true =>
    show (Op.equalIn (9998 + 1 + 1) 39 _ _).run Try.prog w = _
    rw [Op.equalIn]
    simp only [Sem.run_bind, run_underlying Try.underlying39, Result.andThen_ok]
    simp [go_sem, lCs, lz]
  | false =>
    obtain ⟨h1, h2⟩ := ok.2 rfl
    simp only at h1 h2
    subst h1
    subst h2
    show (Op.equalIn 10000 39 (.agg lz.toArray) (.agg lz.toArray)).run Try.prog w = .ok true w
    kernel_rfl
end Go.Proofs.Ytgoofonogdhhoab
