/- ProcPlays, ProcOrphans, ProcForks: the walks. -/
import Derived.Test.YtcnddmadmdgplaaPrI
namespace Go.Proofs.Ytcnddmadmdgplaa
open Go.RowKit Go.Maps
set_option linter.unusedVariables false
set_option maxRecDepth 100000
set_option maxHeartbeats 1000000 in
theorem plays_law (v : Value) (l : List Dd) (w : World) (hd : Dds w v l) : Calls Try.prog 3 #[v] w fun r w' => r = .returned (.bool true) ∧ Below w.heap.size w w' := by
  have cP := play_any v l w hd
  obtain ⟨ad, cap, rfl, _⟩ := id hd
  clear hd
  go_enter Try.func3, Try.ntmps3
  go_wp2_with fail
  refine cP.mono ?_
  rintro r W1 ⟨tb, rb, rfl, hPb⟩
  have HB := Hid3.mk hPb
  have cL := live_any W1
  clear cP hPb
  go_wp2_with fail
  refine cL.mono ?_
  rintro r W2 ⟨rfl, hb⟩
  obtain ⟨⟨s, hT⟩, hB2⟩ := HB.out.low hb
  have cS := same_any _ tb rb s W2 hT
  have HB2 := Hid3.mk hB2
  clear cL hb hT hB2
  go_wp2_with fail
  refine cS.mono ?_
  rintro r W3 ⟨rfl, hb⟩
  have HB3 := Hid3.mk (HB2.out.trans (hb.mono HB2.out.size))
  clear cS hb
  go_wp2
  go_ret
  exact ⟨rfl, HB3.out⟩
end Go.Proofs.Ytcnddmadmdgplaa
