/- DevPlays: what waits, what is done, and what stands in sectors and frames. -/
import Derived.Test.YtlnjpgcaciemnaaDevInB
namespace Go.Proofs.Ytlnjpgcaciemnaa
open Go.RowKit Go.Maps
set_option linter.unusedVariables false
set_option maxRecDepth 100000
set_option maxHeartbeats 4000000 in
theorem plays_law (v : Value) (l : List Dd) (w : World) (hd : DdsR w.heap.size w v l) : Calls Try.prog 3 #[v] w fun e w' => e = .returned (.bool true) ∧ Below w.heap.size w w' := by
  have c1 := dplay_any v l w hd
  clear hd
  go_enter Try.func3, Try.ntmps3
  go_wp2_with fail
  refine c1.mono ?_
  rintro e W1 ⟨db, sb, mb, rb, og, rmb, rg, v1, u1, rfl, hT, hB⟩
  clear c1
  have hX : (W1.alloc (.cells #[.pointer (some ⟨db, 0, none⟩), .pointer (some ⟨mb, 0, none⟩), .pointer (some ⟨rb, 0, none⟩), .pointer (some ⟨rmb, 0, none⟩)] 28)).heap[W1.heap.size]? = some (.cells #[.pointer (some ⟨db, 0, none⟩), .pointer (some ⟨mb, 0, none⟩), .pointer (some ⟨rb, 0, none⟩), .pointer (some ⟨rmb, 0, none⟩)] 28) := heap_alloc_last W1 _
  have hb : Below W1.heap.size W1 (W1.alloc (.cells #[.pointer (some ⟨db, 0, none⟩), .pointer (some ⟨mb, 0, none⟩), .pointer (some ⟨rb, 0, none⟩), .pointer (some ⟨rmb, 0, none⟩)] 28)) := (Below.refl _ W1).alloc (Nat.le_refl _) _
  have HT := Hid3.mk (hT.below hb)
  have HB := Hid3.mk (hB.trans (hb.mono hB.size))
  have HX := Hid3.mk hX
  have c2 := dlive_any (W1.alloc (.cells #[.pointer (some ⟨db, 0, none⟩), .pointer (some ⟨mb, 0, none⟩), .pointer (some ⟨rb, 0, none⟩), .pointer (some ⟨rmb, 0, none⟩)] 28))
  have hs1 : W1.heap.size < (W1.alloc (.cells #[.pointer (some ⟨db, 0, none⟩), .pointer (some ⟨mb, 0, none⟩), .pointer (some ⟨rb, 0, none⟩), .pointer (some ⟨rmb, 0, none⟩)] 28)).heap.size := by simp
  clear hT hB hb hX
  go_wp2_with fail
  refine c2.mono ?_
  rintro e W2 ⟨rfl, hB2⟩
  clear c2
  obtain ⟨x0, x1, x2, x3⟩ := b4c ((hB2.block _ hs1).trans HX.out)
  have HB2 := Hid3.mk (HB.out.trans (hB2.mono HB.out.size))
  have c3 := dsame_any _ _ _ _ _ _ _ _ _ _ _ W2 (HT.out.below hB2)
  clear hB2 hs1
  go_wp2_with fail
  refine c3.mono ?_
  rintro e W3 ⟨rfl, hB3⟩
  have HB3 := Hid3.mk (HB2.out.trans (hB3.mono HB2.out.size))
  clear c3 hB3
  go_wp2
  go_ret
  exact ⟨rfl, HB3.out⟩
end Go.Proofs.Ytlnjpgcaciemnaa
