/- CapsNone: the walk. -/
import Derived.Test.YtodociolchnpeabCaNi2
import Derived.Test.YtodociolchnpeabCaLv
namespace Go.Proofs.Ytodociolchnpeab
open Go.RowKit Go.Maps
set_option linter.unusedVariables false
set_option maxRecDepth 100000
abbrev Dd := Int × Int × Int × Cp
def ddL (d : Dd) : List Value := [.int .i64 d.1, .int .i64 d.2.1, .int .i64 d.2.2.1, .string d.2.2.2.1, .int .u8 d.2.2.2.2.toNat]
def ddV (d : Dd) : Value := .agg #[.int .i64 d.1, .int .i64 d.2.1, .int .i64 d.2.2.1, .string d.2.2.2.1, .int .u8 d.2.2.2.2.toNat]
theorem b5d {W : World} {b : Nat} {x0 x1 x2 x3 x4 : Value} {t : TypeId} (h : W.heap[b]? = some (.cells #[x0, x1, x2, x3, x4] t)) : W.cell? ⟨b, 1, none⟩ = some x1 ∧ W.cell? ⟨b, 2, none⟩ = some x2 ∧ W.cell? ⟨b, 3, none⟩ = some x3 ∧ W.cell? ⟨b, 4, none⟩ = some x4 :=
  ⟨by rw [Lib.cell_of_heap h]; rfl, by rw [Lib.cell_of_heap h]; rfl, by rw [Lib.cell_of_heap h]; rfl, by rw [Lib.cell_of_heap h]; rfl⟩
theorem b2d {W : World} {b : Nat} {x0 x1 : Value} {t : TypeId} (h : W.heap[b]? = some (.cells #[x0, x1] t)) : W.cell? ⟨b, 0, none⟩ = some x0 ∧ W.cell? ⟨b, 1, none⟩ = some x1 :=
  ⟨by rw [Lib.cell_of_heap h]; rfl, by rw [Lib.cell_of_heap h]; rfl⟩
set_option maxHeartbeats 8000000 in
theorem none_law (d : Dd) (w : World) : Calls Try.prog 3 #[ddV d] w fun e w' => e = .returned (.bool true) ∧ Below w.heap.size w w' := by
  obtain ⟨kk, i, j, n, r⟩ := d
  have cGet := fun w => get_nil i w
  have cFind := fun w => find_nil (n, r) w
  have cRoom := fun w => room_nil w
  have cLive := fun w => live_any w
  have cPut := fun w => put_nil i (n, r) w
  have cDrop := fun w => drop_nil i w
  have cDer := fun w => derive_nil i j ⟨#[97]⟩ w
  have cRes := fun w => restrict_nil i j 0 w
  have cRev := fun w => revoke_nil n w
  have cSl := fun w => slots_nil w
  have cOp := fun w => opens_nil (n, r) w
  have cFo := fun w => fork_nil w
  unfold ddV
  unfold cpV at *
  simp only at *
  generalize (r.toNat : Int) = r at *
  have eG := eqGuardC
  have eM : ∀ w, (Op.equalIn 10000 23 (.agg #[.string ⟨#[]⟩, .int .u8 0]) (.agg #[.string ⟨#[]⟩, .int .u8 0])).run Try.prog w = .ok true w := fun w => by
    have := eqC w ⟨#[]⟩ ⟨#[]⟩ 0 0
    simpa using this
  have hX := below_new w (.cells #[.int .i64 kk, .int .i64 i, .int .i64 j, .string n, .int .u8 r] 25)
  have hb := heap_alloc_new w (.cells #[.int .i64 kk, .int .i64 i, .int .i64 j, .string n, .int .u8 r] 25)
  have hs : w.heap.size < (w.alloc (.cells #[.int .i64 kk, .int .i64 i, .int .i64 j, .string n, .int .u8 r] 25)).heap.size := by simp
  go_enter Try.func3, Try.ntmps3
  go_wp2_with fail
  generalize (w.alloc (.cells #[.int .i64 kk, .int .i64 i, .int .i64 j, .string n, .int .u8 r] 25)) = W0 at *
  refine (cGet W0).mono ?_
  rintro e W1 ⟨rfl, hB1⟩
  have hX1 := hX.trans (hB1.mono hX.size)
  have hb1 := (hB1.block w.heap.size hs).trans hb
  have hs1 : w.heap.size < W1.heap.size := Nat.lt_of_lt_of_le hs hB1.size
  have hX2 := hX1.alloc hX1.size (.cells #[.string ⟨#[]⟩, .int .u8 0] 23)
  have hb2 := (Lib.alloc_old W1 (.cells #[.string ⟨#[]⟩, .int .u8 0] 23) w.heap.size hs1).trans hb1
  have hs2 : w.heap.size < (W1.alloc (.cells #[.string ⟨#[]⟩, .int .u8 0] 23)).heap.size := by simp; omega
  have hg2 := heap_alloc_new W1 (.cells #[.string ⟨#[]⟩, .int .u8 0] 23)
  have ht2 : W1.heap.size < (W1.alloc (.cells #[.string ⟨#[]⟩, .int .u8 0] 23)).heap.size := by simp
  clear cGet hX hX1 hb hb1 hs hs1 hB1
  obtain ⟨x1, x2, x3, x4⟩ := b5d hb2
  go_wp2_with fail
  generalize W1.heap.size = g at *
  generalize (W1.alloc (.cells #[.string ⟨#[]⟩, .int .u8 0] 23)) = W2 at *
  have Keep : ∀ {W W' : World} (h : Below W.heap.size W W'), (Below w.heap.size w W ∧ w.heap.size < W.heap.size ∧ W.heap[w.heap.size]? = some (.cells #[.int .i64 kk, .int .i64 i, .int .i64 j, .string n, .int .u8 r] 25) ∧ g < W.heap.size ∧ W.heap[g]? = some (.cells #[.string ⟨#[]⟩, .int .u8 0] 23)) → (Below w.heap.size w W' ∧ w.heap.size < W'.heap.size ∧ W'.heap[w.heap.size]? = some (.cells #[.int .i64 kk, .int .i64 i, .int .i64 j, .string n, .int .u8 r] 25) ∧ g < W'.heap.size ∧ W'.heap[g]? = some (.cells #[.string ⟨#[]⟩, .int .u8 0] 23)) :=
    fun h k => ⟨k.1.trans (h.mono k.1.size), Nat.lt_of_lt_of_le k.2.1 h.size, (h.block _ k.2.1).trans k.2.2.1, Nat.lt_of_lt_of_le k.2.2.2.1 h.size, (h.block _ k.2.2.2.1).trans k.2.2.2.2⟩
  have K2 := Hid3.mk (And.intro hX2 (And.intro hs2 (And.intro hb2 (And.intro ht2 hg2))))
  clear hX2 hs2 hb2 ht2 hg2
  clear x1 x2 x3 x4
  refine (cFind W2).mono ?_
  rintro e W3 ⟨rfl, hB⟩
  have K3 := Hid3.mk (Keep hB K2.out)
  clear cFind K2 hB
  obtain ⟨x1, x2, x3, x4⟩ := b5d K3.out.2.2.1
  obtain ⟨y0, y1⟩ := b2d K3.out.2.2.2.2
  go_wp2_with fail
  refine (cRoom W3).mono ?_
  rintro e W4 ⟨rfl, hB⟩
  have K4 := Hid3.mk (Keep hB K3.out)
  clear cRoom K3 hB x1 x2 x3 x4 y0 y1
  obtain ⟨x1, x2, x3, x4⟩ := b5d K4.out.2.2.1
  obtain ⟨y0, y1⟩ := b2d K4.out.2.2.2.2
  go_wp2_with fail
  refine (cLive W4).mono ?_
  rintro e W5 ⟨rfl, hB⟩
  have K5 := Hid3.mk (Keep hB K4.out)
  clear cLive K4 hB x1 x2 x3 x4 y0 y1
  obtain ⟨x1, x2, x3, x4⟩ := b5d K5.out.2.2.1
  obtain ⟨y0, y1⟩ := b2d K5.out.2.2.2.2
  go_wp2_with fail
  refine (cPut W5).mono ?_
  rintro e W6 ⟨rfl, hB⟩
  have K6 := Hid3.mk (Keep hB K5.out)
  clear cPut K5 hB x1 x2 x3 x4 y0 y1
  obtain ⟨x1, x2, x3, x4⟩ := b5d K6.out.2.2.1
  obtain ⟨y0, y1⟩ := b2d K6.out.2.2.2.2
  go_wp2_with fail
  refine (cDrop W6).mono ?_
  rintro e W7 ⟨rfl, hB⟩
  have K7 := Hid3.mk (Keep hB K6.out)
  clear cDrop K6 hB x1 x2 x3 x4 y0 y1
  obtain ⟨x1, x2, x3, x4⟩ := b5d K7.out.2.2.1
  obtain ⟨y0, y1⟩ := b2d K7.out.2.2.2.2
  go_wp2_with fail
  refine (cDer W7).mono ?_
  rintro e W8 ⟨rfl, hB⟩
  have K8 := Hid3.mk (Keep hB K7.out)
  clear cDer K7 hB x1 x2 x3 x4 y0 y1
  obtain ⟨x1, x2, x3, x4⟩ := b5d K8.out.2.2.1
  obtain ⟨y0, y1⟩ := b2d K8.out.2.2.2.2
  go_wp2_with fail
  refine (cRes W8).mono ?_
  rintro e W9 ⟨rfl, hB⟩
  have K9 := Hid3.mk (Keep hB K8.out)
  clear cRes K8 hB x1 x2 x3 x4 y0 y1
  obtain ⟨x1, x2, x3, x4⟩ := b5d K9.out.2.2.1
  obtain ⟨y0, y1⟩ := b2d K9.out.2.2.2.2
  go_wp2_with fail
  refine (cRev W9).mono ?_
  rintro e W10 ⟨rfl, hB⟩
  have K10 := Hid3.mk (Keep hB K9.out)
  clear cRev K9 hB x1 x2 x3 x4 y0 y1
  obtain ⟨x1, x2, x3, x4⟩ := b5d K10.out.2.2.1
  obtain ⟨y0, y1⟩ := b2d K10.out.2.2.2.2
  go_wp2_with fail
  refine (cSl W10).mono ?_
  rintro e W11 ⟨rfl, hB⟩
  have K11 := Hid3.mk (Keep hB K10.out)
  clear cSl K10 hB x1 x2 x3 x4 y0 y1
  obtain ⟨x1, x2, x3, x4⟩ := b5d K11.out.2.2.1
  obtain ⟨y0, y1⟩ := b2d K11.out.2.2.2.2
  go_wp2_with fail
  refine (cOp W11).mono ?_
  rintro e W12 ⟨rfl, hB⟩
  have K12 := Hid3.mk (Keep hB K11.out)
  clear cOp K11 hB x1 x2 x3 x4 y0 y1
  obtain ⟨x1, x2, x3, x4⟩ := b5d K12.out.2.2.1
  obtain ⟨y0, y1⟩ := b2d K12.out.2.2.2.2
  go_wp2_with fail
  refine (cFo W12).mono ?_
  rintro e W13 ⟨rfl, hW⟩
  rw [hW]
  clear cFo hW
  go_wp2
  go_ret
  exact ⟨rfl, K12.out.1⟩
end Go.Proofs.Ytodociolchnpeab
