/- The program's table: none, there, Get, Put, Drop, New. -/
import Derived.Test.YtedknoadcdnioaaCaA
import Derived.StillTail
import Derived.StillTactics
import Derived.Lib.QuietBelow
namespace Go.Proofs.Ytedknoadcdnioaa
open Go.RowKit Go.Maps Go.Sort
set_option linter.unusedVariables false
set_option maxRecDepth 100000
theorem none_any (w : World) : Calls Try.prog 16 #[] w fun r w' => r = .returned (.agg #[.string ⟨#[]⟩, .int .u8 0]) ∧ Below w.heap.size w w' := by
  have HB : Hid (Below w.heap.size w (w.alloc (.cells #[.string ⟨#[]⟩, .int .u8 0] 27))) := below_new w _
  go_enter Try.func16, Try.ntmps16
  go_wp2
  exact bodyPost_ret (v := .agg #[.string ⟨#[]⟩, .int .u8 0]) (by simp [results, Try.results16, go_sem]) rfl ⟨rfl, HB.out⟩
theorem there_ok (b : Nat) (k : Fin 12) (w : World) : Calls Try.prog 15 #[.pointer (some ⟨b, 0, none⟩), .int .i64 k.1] w fun r w' => r = .returned (.int .i64 0) ∧ w' = w := by
  obtain ⟨k, hk⟩ := k
  have h2 : ¬ (k : Int) < 0 := by omega
  have h3 : ¬ (12 : Int) ≤ (k : Int) := by omega
  go_enter Try.func15, Try.ntmps15
  go_wp2
  go_ret
  exact ⟨rfl, rfl⟩
theorem there_bad (b : Nat) (k : Int) (w : World) (hb : k < 0 ∨ 12 ≤ k) : Calls Try.prog 15 #[.pointer (some ⟨b, 0, none⟩), .int .i64 k] w fun r w' => r = .returned (.int .i64 2) ∧ w' = w := by
  by_cases h2 : k < 0
  · clear hb
    go_enter Try.func15, Try.ntmps15
    go_wp2
    go_ret
    exact ⟨rfl, rfl⟩
  · have h3 : (12 : Int) ≤ k := by omega
    clear hb
    go_enter Try.func15, Try.ntmps15
    go_wp2
    go_ret
    exact ⟨rfl, rfl⟩
theorem there_nil (k : Int) (w : World) : Calls Try.prog 15 #[.pointer none, .int .i64 k] w fun r w' => r = .returned (.int .i64 1) ∧ w' = w := by
  go_enter Try.func15, Try.ntmps15
  go_wp2
  go_ret
  exact ⟨rfl, rfl⟩
def getE (o : Option Rc) : Int := if o.isSome then 0 else 5
end Go.Proofs.Ytedknoadcdnioaa
