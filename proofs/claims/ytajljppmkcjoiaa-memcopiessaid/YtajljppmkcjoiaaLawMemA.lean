/- MemReads, MemWrites: the walks. -/
import Derived.Test.YtajljppmkcjoiaaMemY
namespace Go.Proofs.Ytajljppmkcjoiaa
open Go.RowKit Go.Maps
set_option linter.unusedVariables false
set_option maxRecDepth 100000
theorem Below.drewN {B : Nat} {a w : World} (h : Below B a w) (n : Nat) : Below B a (w.drewN n) := ⟨h.os, h.tape, h.output, h.size, h.block⟩
theorem Byts.grow {B B' : Nat} {w w' : World} {v : Value} {bs : List Int} (h : Byts B w v bs) (hB : B ≤ B') (k : Below B w w') : Byts B' w' v bs := by
  obtain ⟨a, cap, rfl, hc, hb, hcell⟩ := h.below k
  refine ⟨a, cap, rfl, hc, hb, fun j x hj => ?_⟩
  obtain ⟨g, off, e, hg, c0⟩ := hcell j x hj
  exact ⟨g, off, e, by omega, c0⟩
theorem Dds.grow {B B' : Nat} {w w' : World} {v : Value} {l : List Dm} (h : Dds B w v l) (hB : B ≤ B') (k : Below B w w') : Dds B' w' v l := by
  obtain ⟨a, cap, rfl, hl, hcell⟩ := h.below k
  refine ⟨a, cap, rfl, hl, fun j d hj => ?_⟩
  obtain ⟨ok, g, off, e, hg, c⟩ := hcell j d hj
  exact ⟨⟨ok.x, ok.b.grow hB (Below.refl _ _), ok.s, ok.k64, ok.o64⟩, g, off, e, by omega, c⟩
theorem word_any (b : Nat) (n f o : Int) (L : List Int) (w : World) (h : Mem w b n L) (hL : ∀ x ∈ L, 0 ≤ x ∧ x ≤ 255) : Calls Try.prog 12 #[.pointer (some ⟨b, 0, none⟩), .int .i64 f, .int .i64 o] w fun e w' => e = .returned (.tuple #[.int .u16 (if inB n f o 2 = true then L.getD (plc f o) 0 * 256 + L.getD (plc f o + 1) 0 else 0), .int .i64 (inE n f o 2)]) ∧ Below w.heap.size w w' := by
  unfold inE
  by_cases q : inB n f o 2 = true
  · rw [if_pos q, if_pos q]
    have hi := inB_t q
    obtain ⟨f, rfl⟩ := Int.eq_ofNat_of_zero_le hi.1
    obtain ⟨o, rfl⟩ := Int.eq_ofNat_of_zero_le hi.2.2.1
    exact word_ok b f o n L w h hi.2.1 (by omega) hL
  · rw [if_neg q, if_neg q]
    refine (word_out b n f o L w h (inB_f q)).mono ?_
    rintro e w' ⟨rfl, rfl⟩
    exact ⟨rfl, Below.refl _ _⟩
theorem byte_any (b : Nat) (n f o : Int) (L : List Int) (w : World) (h : Mem w b n L) : Calls Try.prog 14 #[.pointer (some ⟨b, 0, none⟩), .int .i64 f, .int .i64 o] w fun e w' => e = .returned (.tuple #[.int .u8 (if inB n f o 1 = true then L.getD (plc f o) 0 else 0), .int .i64 (inE n f o 1)]) ∧ w' = w := by
  unfold inE
  by_cases q : inB n f o 1 = true
  · rw [if_pos q, if_pos q]
    have hi := inB_t q
    obtain ⟨f, rfl⟩ := Int.eq_ofNat_of_zero_le hi.1
    obtain ⟨o, rfl⟩ := Int.eq_ofNat_of_zero_le hi.2.2.1
    exact byte_ok b f o n L w h hi.2.1 (by omega)
  · rw [if_neg q, if_neg q]
    exact byte_out b n f o L w h (inB_f q)
theorem b2m {W : World} {b : Nat} {x0 x1 : Value} {t : TypeId} (h : W.heap[b]? = some (.cells #[x0, x1] t)) : W.cell? ⟨b, 0, none⟩ = some x0 ∧ W.cell? ⟨b, 1, none⟩ = some x1 :=
  ⟨by rw [Lib.cell_of_heap h]; rfl, by rw [Lib.cell_of_heap h]; rfl⟩
set_option maxHeartbeats 4000000 in
theorem reads_law (fr : Int) (v : Value) (l : List Dm) (a0 a1 : Int) (w : World) (hd : Dds w.heap.size w v l) (hf : 0 ≤ fr ∧ fr ≤ 255) : Calls Try.prog 4 #[.int .u8 fr, v, .agg #[.int .i64 a0, .int .i64 a1]] w fun e w' => e = .returned (.bool true) ∧ Below w.heap.size w w' := by
  obtain ⟨N, hN⟩ : ∃ N : Nat, fr % 6 + 1 = (N : Int) := ⟨(fr % 6 + 1).toNat, by omega⟩
  have hw0 : Below w.heap.size w (w.alloc (.cells #[.int .i64 a0, .int .i64 a1] 30)) := (Below.refl _ w).alloc (Nat.le_refl _) _
  have cP := play_any fr N v l (w.alloc (.cells #[.int .i64 a0, .int .i64 a1] 30)) (hd.grow hw0.size hw0) hN (by omega) (by omega) hf
  have hbx : Hid3 ((w.alloc (.cells #[.int .i64 a0, .int .i64 a1] 30)).heap[w.heap.size]? = some (.cells #[.int .i64 a0, .int .i64 a1] 30)) := ⟨heap_alloc_last w _⟩
  have HW0 : Hid3 (Below w.heap.size w (w.alloc (.cells #[.int .i64 a0, .int .i64 a1] 30))) := ⟨hw0⟩
  clear hd hw0
  generalize playL N (l.take 30) zeroL = L at *
  go_enter Try.func4, Try.ntmps4
  go_wp2_with fail
  refine cP.mono ?_
  rintro e W1 ⟨b, rb, g, rfl, hT, hB1⟩
  have cL := mlive_any W1
  clear cP
  go_wp2_with fail
  refine cL.mono ?_
  rintro e W2 ⟨rfl, hB2⟩
  clear cL
  have HT2 : Hid3 (Both (w.alloc (.cells #[.int .i64 a0, .int .i64 a1] 30)).heap.size W2 b rb g N L) := ⟨hT.below hB2⟩
  have hx2 := (hB2.block w.heap.size (by have := hB1.size; simp at this; omega)).trans ((hB1.block w.heap.size (by simp)).trans hbx.out)
  have HW2 : Hid3 (Below w.heap.size w W2) := ⟨(HW0.out.trans (hB1.mono HW0.out.size)).trans (hB2.mono (Nat.le_trans HW0.out.size hB1.size))⟩
  have c1 := word_any b N a0 a1 L W2 HT2.out.p HT2.out.by_
  obtain ⟨y0, y1⟩ := b2m hx2
  have HX2 : Hid3 (W2.heap[w.heap.size]? = some (.cells #[.int .i64 a0, .int .i64 a1] 30)) := ⟨hx2⟩
  clear hT hB1 hB2 hx2 hbx HW0
  go_wp2_with fail
  refine c1.mono ?_
  rintro e W3 ⟨rfl, hB3⟩
  have hx3 := (hB3.block w.heap.size (Array.getElem?_eq_some_iff.1 HX2.out).1).trans HX2.out
  have HT3 := HT2.out.below hB3
  have HW3 : Hid3 (Below w.heap.size w W3) := ⟨HW2.out.trans (hB3.mono HW2.out.size)⟩
  have c2 := rword_any rb g (32 * N) N a0 a1 L W3 HT3.r rfl HT3.by_
  have HX3 : Hid3 (W3.heap[w.heap.size]? = some (.cells #[.int .i64 a0, .int .i64 a1] 30)) := ⟨hx3⟩
  clear c1 y0 y1
  obtain ⟨y0, y1⟩ := b2m hx3
  clear hx3 hB3
  generalize (if inB N a0 a1 2 = true then L.getD (plc a0 a1) 0 * 256 + L.getD (plc a0 a1 + 1) 0 else 0) = X at *
  go_wp2_with fail
  refine c2.mono ?_
  rintro e W4 ⟨rfl, hB4⟩
  have hx4 := (hB4.block w.heap.size (Array.getElem?_eq_some_iff.1 HX3.out).1).trans HX3.out
  have HT4 := HT3.below hB4
  have HW4 : Hid3 (Below w.heap.size w W4) := ⟨HW3.out.trans (hB4.mono HW3.out.size)⟩
  have c3 := byte_any b N a0 a1 L W4 HT4.p
  have c4 := rbyte_any rb g (32 * N) N a0 a1 L W4 HT4.r rfl
  clear c2 y0 y1
  obtain ⟨y0, y1⟩ := b2m hx4
  clear hx4 hB4 HT4 HT3
  generalize (if inB N a0 a1 1 = true then L.getD (plc a0 a1) 0 else 0) = Y at *
  generalize inE N a0 a1 1 = E1 at *
  generalize inE N a0 a1 2 = E2 at *
  go_wp2_with fail
  refine c3.mono ?_
  rintro e W5 ⟨rfl, rfl⟩
  go_wp2_with fail
  refine c4.mono ?_
  rintro e W5 ⟨rfl, rfl⟩
  clear c3 c4
  go_wp2
  go_ret
  exact ⟨rfl, HW4.out⟩
end Go.Proofs.Ytajljppmkcjoiaa
