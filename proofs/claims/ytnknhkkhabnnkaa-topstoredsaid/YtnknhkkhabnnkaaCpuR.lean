/- Load and Fetch: the program, and the document. -/
import Derived.Test.YtnknhkkhabnnkaaCpuI
namespace Go.Proofs.Ytnknhkkhabnnkaa
open Go.RowKit
set_option linter.unusedVariables false
set_option maxRecDepth 100000
def loadV (pc : Int) (r : Nat → Int) (g v : Int) : Value := if g < 8 then .tuple #[rgV pc (upd r g.toNat v), .int .i64 0] else .tuple #[rgV 0 (fun _ => 0), .int .i64 2]
def fetchV (pc : Int) : Value := if pc % 4 ≠ 0 ∨ 508 < pc then .tuple #[.int .u16 0, .int .i64 10] else .tuple #[.int .u16 pc, .int .i64 0]
set_option maxHeartbeats 2000000 in
theorem load_any (pc : Int) (r : Nat → Int) (g v : Int) (w : World) (hg : 0 ≤ g) :
    Calls Try.prog 8 #[rgV pc r, .int .u8 g, .int .u16 v] w fun e w' => e = .returned (loadV pc r g v) ∧ Below w.heap.size w w' := by
  unfold loadV
  by_cases h : g < 8
  · rw [if_pos h]
    have hs := rg_set pc r v g.toNat (by omega)
    have hc : #[Value.int .u16 pc, .int .u16 (r 0), .int .u16 (r 1), .int .u16 (r 2), .int .u16 (r 3), .int .u16 (r 4), .int .u16 (r 5), .int .u16 (r 6), .int .u16 (r 7)][1 + g.toNat]? = some (.int .u16 (r g.toNat)) := rg_at pc r g.toNat (by omega)
    generalize upd r g.toNat v = r' at *
    have h' : ¬ 8 ≤ g := by omega
    unfold rgV
    go_enter Try.func8, Try.ntmps8
    go_wp2
    exact bodyPost_ret (v := .tuple #[rgV pc r', .int .i64 0]) (by simp [results, Try.results8, go_sem, rgV]) rfl ⟨rfl, nx (nx (Below.refl _ w) _) _⟩
  · rw [if_neg h]
    have h' : 8 ≤ g := by omega
    unfold rgV
    go_enter Try.func8, Try.ntmps8
    go_wp2
    exact bodyPost_ret (v := .tuple #[rgV 0 (fun _ => 0), .int .i64 2]) (by simp [results, Try.results8, go_sem, rgV]) rfl ⟨rfl, nx (nx (Below.refl _ w) _) _⟩
end Go.Proofs.Ytnknhkkhabnnkaa
