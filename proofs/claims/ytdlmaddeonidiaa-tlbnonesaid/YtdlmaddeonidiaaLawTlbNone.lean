/- TlbNone: the walk. -/
import Derived.Test.YtdlmaddeonidiaaTlbNil
import Derived.Test.YtdlmaddeonidiaaTlbLive
namespace Go.Proofs.Ytdlmaddeonidiaa
open Go.RowKit Go.Maps
set_option linter.unusedVariables false
set_option maxRecDepth 100000
set_option maxHeartbeats 8000000 in
theorem none_law (m : Mp) (ad : Int) (w : World) : Calls Try.prog 3 #[mpV m, .int .u16 ad] w fun e w' => e = .returned (.bool true) ∧ Below w.heap.size w w' := by
  obtain ⟨m0, m1, m2, m3⟩ := m
  have hw0 : Below w.heap.size w (w.alloc (.cells #[.int .u8 m0, .int .u8 m1, .int .u8 m2, .bool m3] 23)) := (Below.refl _ w).alloc (Nat.le_refl _) _
  have hbx := heap_alloc_new w (.cells #[.int .u8 m0, .int .u8 m1, .int .u8 m2, .bool m3] 23)
  have c0 := insert_nil m0 m1 m2 m3 (w.alloc (.cells #[.int .u8 m0, .int .u8 m1, .int .u8 m2, .bool m3] 23))
  have eG := eqGuardM
  have eM := fun w => eqM w 0 0 0 0 0 0 false false
  simp only [decide_true] at eM
  unfold mpV
  go_enter Try.func3, Try.ntmps3
  go_wp2_with fail
  refine c0.mono ?_
  rintro e W1 ⟨rfl, hB1⟩
  have hX1 : Below w.heap.size w (W1.alloc (.cells #[.int .u8 0, .int .u8 0, .int .u8 0, .bool false] 23)) := (hw0.trans (hB1.mono hw0.size)).alloc (by have := hB1.size; have := hw0.size; omega) _
  have hx1 : (W1.alloc (.cells #[.int .u8 0, .int .u8 0, .int .u8 0, .bool false] 23)).heap[w.heap.size]? = some (.cells #[.int .u8 m0, .int .u8 m1, .int .u8 m2, .bool m3] 23) := (Below.heap_alloc _ _ _ (by have := hB1.size; simp at this; omega)).trans ((hB1.block w.heap.size (by simp)).trans hbx)
  have ha1 := heap_alloc_new W1 (.cells #[.int .u8 0, .int .u8 0, .int .u8 0, .bool false] 23)
  have HX1 : Hid ((W1.alloc (.cells #[.int .u8 0, .int .u8 0, .int .u8 0, .bool false] 23)).heap[w.heap.size]? = some (.cells #[.int .u8 m0, .int .u8 m1, .int .u8 m2, .bool m3] 23)) := hx1
  have HA1 : Hid ((W1.alloc (.cells #[.int .u8 0, .int .u8 0, .int .u8 0, .bool false] 23)).heap[W1.heap.size]? = some (.cells #[.int .u8 0, .int .u8 0, .int .u8 0, .bool false] 23)) := ha1
  obtain ⟨⟨x0, x1, x2, x3⟩, _⟩ := b4 hx1
  have c1 := find_nil m0 m1 (W1.alloc (.cells #[.int .u8 0, .int .u8 0, .int .u8 0, .bool false] 23))
  clear c0 hbx hw0 hB1 hx1 ha1
  go_wp2_with fail
  refine c1.mono ?_
  rintro e W2 ⟨rfl, hB2⟩
  have hX2a : Below (W1.alloc (.cells #[.int .u8 0, .int .u8 0, .int .u8 0, .bool false] 23)).heap.size (W1.alloc (.cells #[.int .u8 0, .int .u8 0, .int .u8 0, .bool false] 23)) (W2.alloc (.cells #[.int .u8 0, .int .u8 0, .int .u8 0, .bool false] 23)) := hB2.alloc hB2.size _
  have hX2 := hX1.trans (hX2a.mono hX1.size)
  have hx2 := (hX2a.block w.heap.size (Array.getElem?_eq_some_iff.1 HX1.out).1).trans HX1.out
  have ha2 := (hX2a.block W1.heap.size (by simp)).trans HA1.out
  have hb2 := heap_alloc_new W2 (.cells #[.int .u8 0, .int .u8 0, .int .u8 0, .bool false] 23)
  clear x0 x1 x2 x3
  obtain ⟨⟨x0, x1, x2, x3⟩, _⟩ := b4 hx2
  have HX2 : Hid ((W2.alloc (.cells #[.int .u8 0, .int .u8 0, .int .u8 0, .bool false] 23)).heap[w.heap.size]? = some (.cells #[.int .u8 m0, .int .u8 m1, .int .u8 m2, .bool m3] 23)) := hx2
  have HA2 : Hid ((W2.alloc (.cells #[.int .u8 0, .int .u8 0, .int .u8 0, .bool false] 23)).heap[W1.heap.size]? = some (.cells #[.int .u8 0, .int .u8 0, .int .u8 0, .bool false] 23)) := ha2
  have HB2 : Hid ((W2.alloc (.cells #[.int .u8 0, .int .u8 0, .int .u8 0, .bool false] 23)).heap[W2.heap.size]? = some (.cells #[.int .u8 0, .int .u8 0, .int .u8 0, .bool false] 23)) := hb2
  have c2 := trans_nil m0 ad m3 (W2.alloc (.cells #[.int .u8 0, .int .u8 0, .int .u8 0, .bool false] 23))
  have c3 := live_any (W2.alloc (.cells #[.int .u8 0, .int .u8 0, .int .u8 0, .bool false] 23))
  clear c1 hB2 hx2 ha2 hb2
  go_wp2_with fail
  refine c2.mono ?_
  rintro e W3 ⟨rfl, rfl⟩
  go_wp2_with fail
  refine c3.mono ?_
  rintro e W3 ⟨rfl, hB3⟩
  have hX3 := hX2.trans (hB3.mono hX2.size)
  have hx3 := (hB3.block w.heap.size (Array.getElem?_eq_some_iff.1 HX2.out).1).trans HX2.out
  obtain ⟨⟨a0, a1, a2, a3⟩, _⟩ := b4 ((hB3.block W1.heap.size (Array.getElem?_eq_some_iff.1 HA2.out).1).trans HA2.out)
  obtain ⟨⟨b0, b1, b2, b3⟩, _⟩ := b4 ((hB3.block W2.heap.size (Array.getElem?_eq_some_iff.1 HB2.out).1).trans HB2.out)
  clear x0 x1 x2 x3
  obtain ⟨⟨x0, x1, x2, x3⟩, _⟩ := b4 hx3
  have HX3 : Hid (W3.heap[w.heap.size]? = some (.cells #[.int .u8 m0, .int .u8 m1, .int .u8 m2, .bool m3] 23)) := hx3
  have c4 := drop_nil m0 m1 W3
  clear c2 c3 hx3 hB3 hX2 hX1 hX2a HX1 HX2 HA1 HA2 HB2
  go_wp2_with fail
  refine c4.mono ?_
  rintro e W4 ⟨rfl, hB4⟩
  have hX4 := hX3.trans (hB4.mono hX3.size)
  have hx4 := (hB4.block w.heap.size (Array.getElem?_eq_some_iff.1 HX3.out).1).trans HX3.out
  clear x0 x1 x2 x3 c4
  obtain ⟨⟨x0, x1, x2, x3⟩, _⟩ := b4 hx4
  have HX4 : Hid (W4.heap[w.heap.size]? = some (.cells #[.int .u8 m0, .int .u8 m1, .int .u8 m2, .bool m3] 23)) := hx4
  have c5 := asid_nil m0 W4
  clear hx4 hX3
  go_wp2_with fail
  refine c5.mono ?_
  rintro e W5 ⟨rfl, hB5⟩
  have hX5 := hX4.trans (hB5.mono hX4.size)
  have hx5 := (hB5.block w.heap.size (Array.getElem?_eq_some_iff.1 HX4.out).1).trans HX4.out
  clear x0 x1 x2 x3 c5
  obtain ⟨⟨x0, x1, x2, x3⟩, _⟩ := b4 hx5
  have HX5 : Hid (W5.heap[w.heap.size]? = some (.cells #[.int .u8 m0, .int .u8 m1, .int .u8 m2, .bool m3] 23)) := hx5
  have c6 := frame_nil m2 W5
  clear hx5 hX4
  go_wp2_with fail
  refine c6.mono ?_
  rintro e W6 ⟨rfl, hB6⟩
  have hX6 := hX5.trans (hB6.mono hX5.size)
  have hx6 := (hB6.block w.heap.size (Array.getElem?_eq_some_iff.1 HX5.out).1).trans HX5.out
  clear x0 x1 x2 x3 c6
  obtain ⟨⟨x0, x1, x2, x3⟩, _⟩ := b4 hx6
  have c7 := protect_nil m0 m1 true W6
  have c8 := list_nil W6
  have c9 := fork_nil W6
  clear hx6 hX5
  go_wp2_with fail
  refine c7.mono ?_
  rintro e W7 ⟨rfl, rfl⟩
  go_wp2_with fail
  refine c8.mono ?_
  rintro e W8 ⟨rfl, rfl⟩
  go_wp2_with fail
  refine c9.mono ?_
  rintro e W9 ⟨rfl, rfl⟩
  clear c7 c8 c9
  go_wp2
  go_ret
  exact ⟨rfl, hX6⟩
end Go.Proofs.Ytdlmaddeonidiaa
