/- live. -/
import Derived.Test.YtdlmaddeonidiaaTlbK
namespace Go.Proofs.Ytdlmaddeonidiaa
open Go.RowKit Go.Maps
set_option linter.unusedVariables false
set_option maxRecDepth 100000

set_option maxHeartbeats 4000000 in
theorem live_any (w : World) : Calls Try.prog 7 #[] w fun e w' => e = .returned (.bool true) ∧ Below w.heap.size w w' := by
  have cN := new_any w
  have hok : MpOk (1, 1, 9, false) := ⟨by decide, by decide, by decide, by decide, by decide, by decide⟩
  have cI := fun W (hO : Ob w.heap.size 43 W w.heap.size (.slice none 0 0) []) hB => insert_any w.heap.size w.heap.size (.slice none 0 0) [] (1, 1, 9, false) W hO Good.nil hok rfl hB
  have e1 : insO (1, 1, 9, false) [] = zM := rfl
  have e2 : (insK (1, 1, 9, false) []).isSome = false := rfl
  have e3 : insL (1, 1, 9, false) [] = [(1, 1, 9, false)] := rfl
  rw [e1, e2, e3] at cI
  have cT := fun v W b (hO : Ob w.heap.size 43 W w.heap.size v [(1, 1, 9, false)]) => trans_any w.heap.size w.heap.size v [(1, 1, 9, false)] 1 37 b W hO (by decide) (fun m hm => by rw [List.mem_singleton] at hm; subst hm; exact hok) (by decide) (by decide)
  have t1 : trL 1 37 false [(1, 1, 9, false)] = (9, 5, 0) := rfl
  have t2 : trL 1 37 true [(1, 1, 9, false)] = (0, 0, 10) := rfl
  have cT1 := fun v W hO => cT v W false hO
  have cT2 := fun v W hO => cT v W true hO
  rw [t1] at cT1
  rw [t2] at cT2
  unfold mpV zM trV at *
  simp only at cI cT1 cT2
  clear e1 e2 e3 t1 t2 cT hok
  go_enter Try.func7, Try.ntmps7
  go_wp2_with fail
  refine cN.mono ?_
  rintro e W0 ⟨rfl, hO, hB0⟩
  have cI' := cI W0 hO hB0.size
  clear cI cN
  go_wp2_with fail
  refine cI'.mono ?_
  rintro e W1 ⟨rfl, v', hS⟩
  have hs0 := hB0.size
  have hb1 : Below w.heap.size w W1 := hB0.trans (hS.ap.below w.heap.size (fun k e => by
    rcases e with e | e
    · omega
    · cases e) hB0.size)
  have hb1' : Below w.heap.size w (W1.alloc (.cells #[.int .u8 0, .int .u8 0, .int .u8 0, .bool false] 23)) := hb1.alloc hb1.size _
  have hO1 := hS.ob.below ((Below.refl _ W1).alloc (Nat.le_refl _) (.cells #[.int .u8 0, .int .u8 0, .int .u8 0, .bool false] 23))
  have c1 := cT1 v' _ hO1
  clear hS cI' hB0 hO
  go_wp2_with fail
  refine c1.mono ?_
  rintro e W2 ⟨rfl, hB2⟩
  have c2 := cT2 v' _ (hO1.below hB2)
  have hb2 := hb1'.trans (hB2.mono hb1'.size)
  clear c1
  go_wp2_with fail
  refine c2.mono ?_
  rintro e W3 ⟨rfl, hB3⟩
  have hb3 := hb2.trans (hB3.mono hb2.size)
  clear c2 hO1 cT1 cT2
  go_wp2
  go_ret
  exact ⟨rfl, hb3⟩

end Go.Proofs.Ytdlmaddeonidiaa
