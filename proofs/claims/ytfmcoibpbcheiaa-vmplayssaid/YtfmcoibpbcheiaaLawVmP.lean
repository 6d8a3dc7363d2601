/- VmPlays: the walk. -/
import Derived.Test.YtfmcoibpbcheiaaVmYf
import Derived.Test.YtfmcoibpbcheiaaVmN
namespace Go.Proofs.Ytfmcoibpbcheiaa
open Go.RowKit Go.Maps
set_option linter.unusedVariables false
set_option maxRecDepth 100000
theorem pb_same {w W : World} {vb rb N c : Nat} (h : Pb w W vb rb N c) : Calls Try.prog 9 #[.pointer (some ⟨vb, 0, none⟩), .pointer (some ⟨rb, 0, none⟩)] W fun r w' => r = .returned (.bool true) ∧ Below W.heap.size W w' := by
  obtain ⟨S, hS⟩ := h.ex
  exact same_any w.heap.size vb rb N c S W hS
set_option maxHeartbeats 2000000 in
theorem plays_law (x0 : Nat) (v : Value) (l : List Dv) (h0 : x0 ≤ 255) (w : World) (hd : Dvs w.heap.size w v l) : Calls Try.prog 3 #[.int .u8 x0, v] w fun r w' => r = .returned (.bool true) ∧ Below w.heap.size w w' := by
  have cP := play_any x0 v l h0 w hd
  clear hd
  go_enter Try.func3, Try.ntmps3
  go_wp2_with fail
  refine cP.mono ?_
  rintro r W1 ⟨vb, rb, rfl, hPb⟩
  have HB := Hid3.mk hPb
  have cL := live_ok W1
  clear cP hPb
  go_wp2_with fail
  refine cL.mono ?_
  rintro r W2 ⟨rfl, hb⟩
  have HB2 := Hid3.mk (HB.out.low hb)
  clear cL hb HB
  have cS := pb_same HB2.out
  go_wp2_with fail
  refine cS.mono ?_
  rintro r W3 ⟨rfl, hb⟩
  have HB3 := Hid3.mk (HB2.out.low hb).bl
  clear cS hb
  go_wp2
  go_ret
  exact ⟨rfl, HB3.out⟩
end Go.Proofs.Ytfmcoibpbcheiaa
