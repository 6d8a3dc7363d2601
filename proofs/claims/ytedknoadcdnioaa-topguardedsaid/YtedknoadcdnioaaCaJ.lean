/- The program's table: Drop, Fork, Revoke. -/
import Derived.Test.YtedknoadcdnioaaCaI
namespace Go.Proofs.Ytedknoadcdnioaa
open Go.RowKit Go.Shelf Go.Maps
set_option linter.unusedVariables false
set_option maxRecDepth 100000
theorem none_ex (w : World) : Calls Try.prog 16 #[] w fun r w' => r = .returned (.agg #[.string ⟨#[]⟩, .int .u8 0]) ∧ w' = w.alloc (.cells #[.string ⟨#[]⟩, .int .u8 0] 27) := by
  go_enter Try.func16, Try.ntmps16
  go_wp2
  exact bodyPost_ret (v := .agg #[.string ⟨#[]⟩, .int .u8 0]) (by simp [results, Try.results16, go_sem]) rfl ⟨rfl, rfl⟩
def dropS (s : Sl) (k : Fin 12) : Sl := if (s k).isSome then upd s k none else s
end Go.Proofs.Ytedknoadcdnioaa
