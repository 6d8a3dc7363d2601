/- The processor: an instruction's kind; blocks of registers. -/
import Derived.Test.YtbjklpdloglniaaDoorIsaQ
import Derived.Test.YtbjklpdloglniaaDoorCpuA
import Derived.StillTail
namespace Go.Proofs.YtbjklpdloglniaaDoor
open Go.RowKit
set_option linter.unusedVariables false

def arV (r : Nat → Int) : Value := .agg #[.int .u16 (r 0), .int .u16 (r 1), .int .u16 (r 2), .int .u16 (r 3), .int .u16 (r 4), .int .u16 (r 5), .int .u16 (r 6), .int .u16 (r 7)]
def rgV (pc : Int) (r : Nat → Int) : Value := .agg #[.int .u16 pc, .int .u16 (r 0), .int .u16 (r 1), .int .u16 (r 2), .int .u16 (r 3), .int .u16 (r 4), .int .u16 (r 5), .int .u16 (r 6), .int .u16 (r 7)]
def accV (x : Acc) : Value := .agg #[.int .u8 x.1, .int .u16 x.2.1, .int .u16 x.2.2.1, .int .u8 x.2.2.2.1, .int .i64 x.2.2.2.2]
/-- An instruction's kind, as the program has it. -/
def kindV (o a b m : Int) : Value :=
  if insR o a b m = false then .nilIface
  else if o = 0 then .iface 62 (.agg #[])
  else if o = 1 then .iface 63 (.agg #[])
  else if o = 2 then .iface 64 (insV o a b m)
  else if o = 3 then .iface 52 (insV o a b m)
  else if o = 7 then .iface 53 (insV o a b m)
  else if o = 13 ∨ o = 15 then .iface 55 (insV o a b m)
  else if o = 14 ∨ o = 16 then .iface 56 (insV o a b m)
  else if o = 17 then .iface 65 (insV o a b m)
  else if o = 18 ∨ o = 19 then .iface 57 (insV o a b m)
  else if o = 20 then .iface 58 (insV o a b m)
  else if o = 21 then .iface 66 (insV o a b m)
  else if o = 22 then .iface 60 (.agg #[])
  else if o = 23 then .iface 67 (insV o a b m)
  else .iface 54 (insV o a b m)

set_option maxHeartbeats 2000000 in
theorem kind_any (o a b m : Int) (w : World) (hO : InsOk o a b m) :
    Calls Tryd.prog 10 #[insV o a b m] w fun e w' => e = .returned (kindV o a b m) ∧ Below w.heap.size w w' := by
  have cR := fun w => iright_any o a b m w hO.1 hO.2.1
  cases hR : insR o a b m with
  | false =>
    have ek : kindV o a b m = .nilIface := by unfold kindV; rw [if_pos hR]
    rw [ek, show insV o a b m = .agg #[.int .u8 o, .int .u8 a, .int .u8 b, .int .u16 m] from rfl]
    rw [hR] at cR
    go_enter Tryd.func10, Tryd.ntmps10
    go_wp2_with (go_at_call 16; refine (cR _).mono ?_; rintro e W2 ⟨rfl, hB2⟩)
    go_ret
    exact ⟨rfl, (((Below.refl _ w).alloc (Nat.le_refl _) _).trans (hB2.mono (by simp)))⟩
  | true =>
    rw [hR] at cR
    have h23 : o ≤ 23 := ((insR_iff o a b m).1 hR).1.1
    have h0 := hO.1
    clear hO
    unfold kindV
    rw [hR]
    rw [if_neg (by decide), show insV o a b m = .agg #[.int .u8 o, .int .u8 a, .int .u8 b, .int .u16 m] from rfl]
    clear hR
    have hc : o = 0 ∨ o = 1 ∨ o = 2 ∨ o = 3 ∨ o = 4 ∨ o = 5 ∨ o = 6 ∨ o = 7 ∨ o = 8 ∨ o = 9 ∨ o = 10 ∨ o = 11 ∨ o = 12 ∨ o = 13 ∨ o = 14 ∨ o = 15 ∨ o = 16 ∨ o = 17 ∨ o = 18 ∨ o = 19 ∨ o = 20 ∨ o = 21 ∨ o = 22 ∨ o = 23 := by omega
    clear h23 h0
    rcases hc with rfl | rfl | rfl | rfl | rfl | rfl | rfl | rfl | rfl | rfl | rfl | rfl | rfl | rfl | rfl | rfl | rfl | rfl | rfl | rfl | rfl | rfl | rfl | rfl
    all_goals
      simp only [reduceIte, Int.reduceEq, or_self, or_true, or_false]
      go_enter Tryd.func10, Tryd.ntmps10
      go_wp2_with (go_at_call 16; refine (cR _).mono ?_; rintro e W2 ⟨rfl, hB2⟩; have q0 := hB2.block w.heap.size (by simp); have F : Four W2 w.heap.size (.int .u8 _) (.int .u8 a) (.int .u8 b) (.int .u16 m) := q0.trans (World.alloc_heap_new w _); have c0 := F.c0; have c1 := F.c1; have c2 := F.c2; have c3 := F.c3; clear q0)
      go_ret
      exact ⟨rfl, (((Below.refl _ w).alloc (Nat.le_refl _) _).trans (hB2.mono (by simp)))⟩
end Go.Proofs.YtbjklpdloglniaaDoor
