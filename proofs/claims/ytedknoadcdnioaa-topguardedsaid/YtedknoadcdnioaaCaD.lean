/- The program's table: add, Derive, Restrict. -/
import Derived.Test.YtedknoadcdnioaaCaC
namespace Go.Proofs.Ytedknoadcdnioaa
open Go.RowKit Go.Maps Go.Sort
set_option linter.unusedVariables false
set_option maxRecDepth 100000
/-- A call of a function with a body comes to it. -/
theorem enters_fn {f : FuncId} {g : Func} {c : Code} (hg : Try.prog.funcs[f]? = some g) (hn : (g.name == "runtime.NumGoroutine") = false) (hc : g.body = some c) : ∀ args w, (callFunc f args).run Try.prog w = .ok (.enter f args) w := by
  intro args w
  have := ne_of_beq_false hn
  simp [callFunc, hg, this, hc]
end Go.Proofs.Ytedknoadcdnioaa
