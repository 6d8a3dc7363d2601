/- What must be whatever is asked: it is. -/
import Derived.Test.YtghbmgionmlejabDoorParse
namespace Go.Proofs.YtghbmgionmlejabDoor
open Go.RowKit
set_option linter.unusedVariables false

theorem parse_minus1 (w : World) :
    Calls Tryd.prog 10 #[.string ⟨#[45, 49]⟩] w fun e w' => e = .returned (.tuple #[.int .u16 65535, .int .i64 0]) ∧ Below w.heap.size w w' :=
  parse_of ⟨#[45, 49]⟩ w (minO (digO [49])) (number_minus ⟨#[45, 49]⟩ w (by decide) (by decide) (by decide))
theorem parse_ae (w : World) (hT : Tabs w) :
    Calls Tryd.prog 10 #[.string ⟨#[39, 195, 164, 39]⟩] w fun e w' => e = .returned (.tuple #[.int .u16 228, .int .i64 0]) ∧ Below w.heap.size w w' := by
  have h := parse_of ⟨#[39, 195, 164, 39]⟩ w (signO [195, 164, 39]) (number_quote ⟨#[39, 195, 164, 39]⟩ w (by decide) (by decide) (by decide) hT)
  have e : signO [195, 164, 39] = some 228 := by decide
  rw [e] at h
  exact h
theorem live_any (w : World) (hT : Tabs w) :
    Calls Tryd.prog 13 #[] w fun e w' => e = .returned (.bool true) ∧ Below w.heap.size w w' := by
  have c1 := add_any 65535 2 w (by decide) (by decide) (by decide) (by decide)
  have e1 : addV 65535 2 = 1 := by decide
  have e2 : carryV 65535 2 = true := by decide
  rw [e1, e2] at c1
  have c2 := parse_minus1 w
  have c3 := fun w hT => parse_ae w hT
  have c4 := fun w => hex_any 6699 w (by decide) (by decide)
  have e3 : hexV 6699 = ⟨#[49, 97, 50, 98]⟩ := by decide
  rw [e3] at c4
  go_enter Tryd.func13, Tryd.ntmps13
  go_wp2_with fail
  refine c1.mono fun e w0 ⟨he, hw⟩ => ?_
  subst he; subst hw
  go_wp2_with fail
  refine c2.mono fun e w1 ⟨he, hb1⟩ => ?_
  subst he
  go_wp2_with fail
  refine (c3 _ (hT.later hb1)).mono fun e w2 ⟨he, hb2⟩ => ?_
  subst he
  go_wp2_with fail
  refine (c4 _).mono fun e w3 ⟨he, hb3⟩ => ?_
  subst he
  go_wp2
  go_ret
  exact ⟨rfl, (hb1.trans (hb2.mono hb1.size)).trans (hb3.mono (Nat.le_trans hb1.size hb2.size))⟩
end Go.Proofs.YtghbmgionmlejabDoor
