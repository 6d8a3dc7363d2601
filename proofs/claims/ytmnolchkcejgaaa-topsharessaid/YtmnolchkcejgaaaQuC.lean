/- The program's vector: Give, Over, New. -/
import Derived.Test.YtmnolchkcejgaaaQuB
namespace Go.Proofs.Ytmnolchkcejgaaa
open Go.RowKit Go.Maps
set_option linter.unusedVariables false
set_option maxRecDepth 100000
def overQ (e : Fin 6) (s : Nat) (q : Qs) : Qs := { q with pen := upd q.pen e (min 1000 (q.pen e + (s - 4))) }
theorem made8 (W : World) : (Instr.makeSlice 31 (.int .i64 8) (.int .i64 8)).run Try.prog W = .ok (.slice (some ⟨W.heap.size, 0, none⟩) 8 8) (W.alloc (.cells (plCs (fun _ => none)).toArray 35)) := by kernel_rfl
set_option maxHeartbeats 1000000 in
theorem new_any (w : World) : Calls Try.prog 4 #[] w fun r w' => r = .returned (.pointer (some ⟨w.heap.size + 1, 0, none⟩)) ∧ Vec w.heap.size w' (w.heap.size + 1) w.heap.size q0 ∧ Below w.heap.size w w' := by
  have hm := made8
  have hV : Vec w.heap.size ((w.alloc (.cells (plCs (fun _ => none)).toArray 35)).alloc (.cells (vCs w.heap.size q0).toArray 33)) (w.heap.size + 1) w.heap.size q0 := by
    refine ⟨by omega, Nat.le_refl _, ?_, (Cl.new w _ _).alloc _⟩
    have := Cl.new (w.alloc (.cells (plCs (fun _ => none)).toArray 35)) 33 (vCs w.heap.size q0)
    rw [World.size_alloc] at this
    exact this
  have hB : Below w.heap.size w ((w.alloc (.cells (plCs (fun _ => none)).toArray 35)).alloc (.cells (vCs w.heap.size q0).toArray 33)) := (below_new w _).alloc (by simp) _
  have HV : Hid (Vec w.heap.size ((w.alloc (.cells (plCs (fun _ => none)).toArray 35)).alloc (.cells #[.slice (some ⟨w.heap.size, 0, none⟩) 8 8, .int .i64 0, .int .i64 0, .int .i64 0, .int .i64 0, .int .i64 0, .int .i64 0, .int .i64 7] 33)) (w.heap.size + 1) w.heap.size q0) := hV
  have HB : Hid (Below w.heap.size w ((w.alloc (.cells (plCs (fun _ => none)).toArray 35)).alloc (.cells #[.slice (some ⟨w.heap.size, 0, none⟩) 8 8, .int .i64 0, .int .i64 0, .int .i64 0, .int .i64 0, .int .i64 0, .int .i64 0, .int .i64 7] 33))) := hB
  clear hV hB
  go_enter Try.func4, Try.ntmps4
  go_wp2
  go_ret
  exact ⟨rfl, HV.out, HB.out⟩
end Go.Proofs.Ytmnolchkcejgaaa
