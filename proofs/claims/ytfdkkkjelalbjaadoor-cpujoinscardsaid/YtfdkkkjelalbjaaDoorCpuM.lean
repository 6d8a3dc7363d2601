/- What an instruction does: the document. -/
import Derived.Test.YtfdkkkjelalbjaaDoorCpuI
import Derived.Test.YtfdkkkjelalbjaaDoorIsaRefA
namespace Go.Proofs.YtfdkkkjelalbjaaDoor
open Go.RowKit
set_option linter.unusedVariables false
set_option maxRecDepth 100000

theorem rreck_any (o a b : Int) (w : World) (ha : Wd a) (hb : Wd b) (ho : o = 3 ∨ o = 4 ∨ o = 5 ∨ o = 6 ∨ o = 8 ∨ o = 9 ∨ o = 10 ∨ o = 11 ∨ o = 12) :
    Calls Tryd.prog 23 #[.int .u8 o, .int .u16 a, .int .u16 b] w fun e w' => e = .returned (.int .u16 (if o = 3 then b else recV o a b)) ∧ w' = w := by
  have c1 := fun w => radd_any a b w ha.1 ha.2 hb.1 hb.2
  have c2 := fun w => rsub_any a b w ha.1 ha.2 hb.1 hb.2
  have c3 := fun w => rmul_any a b w ha.1 ha.2 hb.1 hb.2
  have c4 := fun w => rshl_any a b w ha.1 ha.2
  have c5 := fun w => rshr_any a b w ha.1 ha.2
  have hb1 := hb.1
  have hb2 := hb.2
  rcases ho with rfl | rfl | rfl | rfl | rfl | rfl | rfl | rfl | rfl
  all_goals
    unfold recV
    simp only [reduceIte, Int.reduceEq]
    go_enter Tryd.func23, Tryd.ntmps23
    go_wp2_with (first | (go_at_call 21; refine (c1 _).mono ?_; rintro e w' ⟨rfl, rfl⟩) | (go_at_call 34; refine (c2 _).mono ?_; rintro e w' ⟨rfl, rfl⟩) | (go_at_call 35; refine (c3 _).mono ?_; rintro e w' ⟨rfl, rfl⟩) | (go_at_call 36; refine (c4 _).mono ?_; rintro e w' ⟨rfl, rfl⟩) | (go_at_call 37; refine (c5 _).mono ?_; rintro e w' ⟨rfl, rfl⟩))
    go_ret
    exact ⟨rfl, rfl⟩
end Go.Proofs.YtfdkkkjelalbjaaDoor
