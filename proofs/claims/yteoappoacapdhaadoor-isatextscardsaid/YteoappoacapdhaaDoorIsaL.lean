/- What must be whatever is asked of instructions. -/
import Derived.Test.YteoappoacapdhaaDoorIsaS
import Derived.Test.YteoappoacapdhaaDoorIsaC
namespace Go.Proofs.YteoappoacapdhaaDoor
open Go.RowKit
set_option linter.unusedVariables false

theorem live_ins : insO [108, 100, 32, 114, 49, 32, 114, 50, 32, 120, 49, 48] = some (13, 1, 2, 16) := by decide +kernel
theorem live_enc : encL 13 1 2 16 = [13, 18, 0, 16] := by decide
theorem live_txt : printL 13 1 2 16 = [108, 100, 32, 114, 49, 32, 114, 50, 32, 49, 54] := by
  have e1 : Lib.decDigits 1 = [49] := by rw [Lib.decDigits_one (by omega)]; rfl
  have e2 : Lib.decDigits 2 = [50] := by rw [Lib.decDigits_one (by omega)]; rfl
  have e3 : Lib.decDigits 16 = [49, 54] := by rw [Lib.decDigits_two (by omega) (by omega)]; rfl
  show wordT 13 ++ tailsL (partsL 13 1 2 16) = _
  have e4 : partsL 13 1 2 16 = [(0, 1), (1, 2), (2, 16)] := by decide
  have e5 : wordT 13 = [108, 100] := rfl
  rw [e4, e5]
  simp only [tailsL, List.flatMap_cons, List.flatMap_nil, showP]
  show _ ++ ((32 :: 114 :: Lib.decDigits 1) ++ ((32 :: 114 :: Lib.decDigits 2) ++ ((32 :: Lib.decDigits 16) ++ []))) = _
  rw [e1, e2, e3]
  rfl
set_option maxHeartbeats 1000000 in
set_option maxRecDepth 100000 in
theorem ilive_any (w : World) (hW : Wds w) (hT : Tabs w) (hP : Pow w) :
    Calls Tryd.prog 13 #[] w fun e w' => e = .returned (.bool true) ∧ Below w.heap.size w w' := by
  have c1 := iparse_any [108, 100, 32, 114, 49, 32, 114, 50, 32, 120, 49, 48] w (by decide) hW hT
  rw [live_ins] at c1
  have hR : insR 13 1 2 16 = true := by decide
  have hO : InsOk 13 1 2 16 := by unfold InsOk; omega
  have c2 := fun w => iencode_any 13 1 2 16 w hO
  rw [hR, live_enc] at c2
  have c3 := fun w h1 h2 => print_any 13 1 2 16 w hO h1 h2
  unfold txtEV at c3
  rw [hR, if_pos rfl, live_txt] at c3
  unfold insEV insV4 insV at c1
  simp only at c1
  go_enter Tryd.func13, Tryd.ntmps13
  go_wp2_with fail
  refine c1.mono ?_
  rintro e W1 ⟨rfl, hB1⟩
  have hF1 := Four.new W1 (.int .u8 13) (.int .u8 1) (.int .u8 2) (.int .u16 16)
  go_wp2_with fail
  refine (c2 _).mono ?_
  rintro e W2 ⟨⟨v, rfl, hv⟩, hB2⟩
  rw [World.size_alloc] at hB2
  have hF2 := hF1.below hB2 (by omega)
  have hb2 : Below w.heap.size w W2 := (hB1.alloc hB1.size _).trans (hB2.mono (by have := hB1.size; omega))
  have f0 := hF2.c0
  have f1 := hF2.c1
  have f2 := hF2.c2
  have f3 := hF2.c3
  simp only [if_true] at hv
  clear c1 c2 hF1 hB2
  go_wp2_with fail
  refine (c3 _ (hW.later hb2) (hP.later hb2)).mono ?_
  rintro e W3 ⟨rfl, hB3⟩
  have hv3 := (hv.below hB3 (Nat.le_refl _)).text
  clear c3 f0 f1 f2 f3
  go_wp2
  go_ret
  exact ⟨rfl, hb2.trans (hB3.mono hb2.size)⟩
end Go.Proofs.YteoappoacapdhaaDoor
