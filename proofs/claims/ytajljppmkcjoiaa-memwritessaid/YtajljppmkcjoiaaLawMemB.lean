/- MemWrites: the walk. -/
import Derived.Test.YtajljppmkcjoiaaLawMemA
namespace Go.Proofs.Ytajljppmkcjoiaa
open Go.RowKit Go.Maps
set_option linter.unusedVariables false
set_option maxRecDepth 100000
theorem sw_bytes {N : Int} {L : List Int} {f o x : Int} (h : ∀ y ∈ L, 0 ≤ y ∧ y ≤ 255) (hx : 0 ≤ x ∧ x ≤ 65535) : ∀ y ∈ swL N L f o x, 0 ≤ y ∧ y ≤ 255 := by
  unfold swL
  exact ite_bytes (putL_bytes h (two_bytes (by omega) (by omega))) h
theorem sw_word {N : Int} {L : List Int} {f o x : Int} (hl : L.length = 2048) (hN : N ≤ 64) (q : inB N f o 2 = true) (hx : 0 ≤ x ∧ x ≤ 65535) : (swL N L f o x).getD (plc f o) 0 * 256 + (swL N L f o x).getD (plc f o + 1) 0 = x := by
  have hi := inB_t q
  have hp : plc f o + 2 ≤ 2048 := by unfold plc; omega
  unfold swL
  rw [if_pos q]
  have e0 := putL_in (L := L) (vs := [x / 256, x % 256]) (k := plc f o) (p := 0) (by simp; omega) (by simp)
  have e1 := putL_in (L := L) (vs := [x / 256, x % 256]) (k := plc f o) (p := 1) (by simp; omega) (by simp)
  rw [Nat.add_zero] at e0
  rw [e0, e1]
  show x / 256 * 256 + x % 256 = x
  omega
theorem sw_far {N : Int} {L : List Int} {f o x F O : Int} (hl : L.length = 2048) (hN : N ≤ 64) (q : inB N f o 2 = true) (h0 : 0 ≤ F ∧ F < N) (h1 : 0 ≤ O ∧ O < 32) (hn : ¬ (F = f ∧ (O = o ∨ O = o + 1))) : (swL N L f o x).getD (plc F O) 0 = L.getD (plc F O) 0 := by
  have hi := inB_t q
  have hp : plc f o + 2 ≤ 2048 := by unfold plc; omega
  unfold swL
  rw [if_pos q]
  exact putL_out (by simp; omega) (by simp only [List.length_cons, List.length_nil]; unfold plc at *; omega)
set_option maxHeartbeats 8000000 in
theorem writes_no (sv : Value) (l : List Dm) (k f o x : Int) (v : Value) (p0 p1 F O : Int) (w : World) (hd : Dds w.heap.size w sv l) (hx : 0 ≤ x ∧ x ≤ 65535) (h0 : 0 ≤ p0 ∧ p0 ≤ 255) (h1 : 0 ≤ p1 ∧ p1 ≤ 255) (hF : p0 % 4 = F) (hO : p1 % 32 = O) (f0 : 0 ≤ F) (f1 : F < 4) (o0 : 0 ≤ O) (o1 : O < 32) (hf64 : -9223372036854775808 ≤ f ∧ f ≤ 9223372036854775807) (ho64 : -9223372036854775808 ≤ o ∧ o ≤ 9223372036854775807) (q : inB 4 f o 2 = false) : Calls Try.prog 5 #[sv, .agg #[.int .i64 k, .int .i64 f, .int .i64 o, .int .u16 x, v], .agg #[.int .u8 p0, .int .u8 p1]] w fun e w' => e = .returned (.bool true) ∧ Below w.heap.size w w' := by
  have hw0 : Below w.heap.size w ((w.alloc (.cells #[.int .i64 k, .int .i64 f, .int .i64 o, .int .u16 x, v] 41)).alloc (.cells #[.int .u8 p0, .int .u8 p1] 42)) := ((Below.refl _ w).alloc (Nat.le_refl _) _).alloc (by simp) _
  have cP := play_any 3 4 sv l ((w.alloc (.cells #[.int .i64 k, .int .i64 f, .int .i64 o, .int .u16 x, v] 41)).alloc (.cells #[.int .u8 p0, .int .u8 p1] 42)) (hd.grow hw0.size hw0) (by decide) (by decide) (by decide) (by decide)
  have hbx : Hid3 (((w.alloc (.cells #[.int .i64 k, .int .i64 f, .int .i64 o, .int .u16 x, v] 41)).alloc (.cells #[.int .u8 p0, .int .u8 p1] 42)).heap[w.heap.size]? = some (.cells #[.int .i64 k, .int .i64 f, .int .i64 o, .int .u16 x, v] 41)) := ⟨(Lib.alloc_old _ _ _ (by simp)).trans (heap_alloc_last w _)⟩
  have hby : Hid3 (((w.alloc (.cells #[.int .i64 k, .int .i64 f, .int .i64 o, .int .u16 x, v] 41)).alloc (.cells #[.int .u8 p0, .int .u8 p1] 42)).heap[w.heap.size + 1]? = some (.cells #[.int .u8 p0, .int .u8 p1] 42)) := ⟨by
    have := heap_alloc_last (w.alloc (.cells #[.int .i64 k, .int .i64 f, .int .i64 o, .int .u16 x, v] 41)) (.cells #[.int .u8 p0, .int .u8 p1] 42)
    rw [World.size_alloc] at this
    exact this⟩
  have HW0 : Hid3 (Below w.heap.size w ((w.alloc (.cells #[.int .i64 k, .int .i64 f, .int .i64 o, .int .u16 x, v] 41)).alloc (.cells #[.int .u8 p0, .int .u8 p1] 42))) := ⟨hw0⟩
  have HS0 : Hid3 (((w.alloc (.cells #[.int .i64 k, .int .i64 f, .int .i64 o, .int .u16 x, v] 41)).alloc (.cells #[.int .u8 p0, .int .u8 p1] 42)).heap.size = w.heap.size + 2) := ⟨by simp⟩
  clear hd hw0
  generalize playL (4 : Nat) (l.take 30) zeroL = L at *
  go_enter Try.func5, Try.ntmps5
  go_wp2_with fail
  refine cP.mono ?_
  rintro e W1 ⟨b, rb, g, rfl, hT, hB1⟩
  have cL := mlive_any W1
  clear cP
  go_wp2_with fail
  refine cL.mono ?_
  rintro e W2 ⟨rfl, hB2⟩
  clear cL
  have hs1 := hB1.size
  have hs2 := hB2.size
  have HS := HS0.out
  have hM2 : Mem W2 b 4 L := hT.p.below hB2
  have hLb := hT.by_
  have hbb : w.heap.size + 2 ≤ b := by have := hT.bB; omega
  have hx2 := (hB2.block w.heap.size (by omega)).trans ((hB1.block w.heap.size (by omega)).trans hbx.out)
  have hy2 := (hB2.block (w.heap.size + 1) (by omega)).trans ((hB1.block (w.heap.size + 1) (by omega)).trans hby.out)
  have HW2 : Hid3 (Below w.heap.size w W2) := ⟨(HW0.out.trans (hB1.mono HW0.out.size)).trans (hB2.mono (Nat.le_trans HW0.out.size hB1.size))⟩
  have HM2 : Hid3 (Mem W2 b 4 L) := ⟨hM2⟩
  have HL : Hid3 ((∀ y ∈ L, 0 ≤ y ∧ y ≤ 255) ∧ L.length = 2048) := ⟨hLb, hM2.len⟩
  have HX2 : Hid3 (W2.heap[w.heap.size]? = some (.cells #[.int .i64 k, .int .i64 f, .int .i64 o, .int .u16 x, v] 41)) := ⟨hx2⟩
  have HY2 : Hid3 (W2.heap[w.heap.size + 1]? = some (.cells #[.int .u8 p0, .int .u8 p1] 42)) := ⟨hy2⟩
  have cS := fun W (h : Mem W b 4 L) => size_ok b 4 L W h
  have hin : inB 4 F O 1 = true := decide_eq_true ⟨f0, f1, o0, by omega⟩
  have hinE : inE 4 F O 1 = 0 := by unfold inE; rw [if_pos hin]
  clear hT hB1 hB2 hbx hby HW0 HS0 HS hs1 hs2 hM2 hLb
  obtain ⟨z0, z1⟩ := b2m hy2
  obtain ⟨y0, y1, y2, y3, y4⟩ := b5m hx2
  clear hx2 hy2
  go_wp2_with fail
  have cSn := fun n => size_ok b 4 L (W2.drewN n) (HM2.out.below (Below.drewN (Below.refl _ W2) n))
  go_quiet ((go_at_call 16; exact Calls.quiet_of_same (cSn _)))
  rw [hF, hO]
  have HMd : Hid3 (Mem (W2.drewN nq) b 4 L) := ⟨HM2.out.below (Below.drewN (Below.refl _ W2) nq)⟩
  have HWd : Hid3 (Below w.heap.size w (W2.drewN nq)) := ⟨Below.drewN HW2.out nq⟩
  have HXd : Hid3 ((W2.drewN nq).heap[w.heap.size]? = some (.cells #[.int .i64 k, .int .i64 f, .int .i64 o, .int .u16 x, v] 41)) := ⟨HX2.out⟩
  clear cSn HM2 HW2 HX2 HY2 z0 z1 y0 y1 y2 y3 y4
  generalize W2.drewN nq = WD at *
  obtain ⟨y0, y1, y2, y3, y4⟩ := b5m HXd.out
  have c1 := byte_any b 4 F O L WD HMd.out
  obtain ⟨Y, hY⟩ : ∃ Y, L.getD (plc F O) 0 = Y := ⟨_, rfl⟩
  rw [if_pos hin, hinE, hY] at c1
  have HY : Hid3 (L.getD (plc F O) 0 = Y) := ⟨hY⟩
  clear hY
  go_wp2_with fail
  refine c1.mono ?_
  rintro e W3 ⟨rfl, rfl⟩
  clear c1
  have c2 := setword_any b 4 f o x L W3 HMd.out hx
  rw [show inE 4 f o 2 = 2 by unfold inE; rw [q]; rfl, show swL 4 L f o x = L by unfold swL; rw [q]; rfl] at c2
  go_wp2_with fail
  refine c2.mono ?_
  rintro e W4 ⟨rfl, hM4, hO4⟩
  have c3 := byte_any b 4 F O L W4 hM4
  rw [if_pos hin, hinE, HY.out] at c3
  have HW4 : Hid3 (Below w.heap.size w W4) := ⟨HWd.out.trans (hO4.below w.heap.size (by omega) HWd.out.size)⟩
  clear c2 y0 y1 y2 y3 y4 hin hinE
  go_wp2_with fail
  refine c3.mono ?_
  rintro e W5 ⟨rfl, rfl⟩
  clear c3
  go_wp2
  go_ret
  exact ⟨rfl, HW4.out⟩
set_option maxHeartbeats 8000000 in
theorem writes_f (sv : Value) (l : List Dm) (k f o x : Int) (v : Value) (p0 p1 F O : Int) (w : World) (hd : Dds w.heap.size w sv l) (hx : 0 ≤ x ∧ x ≤ 65535) (h0 : 0 ≤ p0 ∧ p0 ≤ 255) (h1 : 0 ≤ p1 ∧ p1 ≤ 255) (hF : p0 % 4 = F) (hO : p1 % 32 = O) (f0 : 0 ≤ F) (f1 : F < 4) (o0 : 0 ≤ O) (o1 : O < 32) (hf64 : -9223372036854775808 ≤ f ∧ f ≤ 9223372036854775807) (ho64 : -9223372036854775808 ≤ o ∧ o ≤ 9223372036854775807) (q : inB 4 f o 2 = true) (hn : ¬ (F = f ∧ (O = o ∨ O = o + 1))) (e1 : (F == f) = false) : Calls Try.prog 5 #[sv, .agg #[.int .i64 k, .int .i64 f, .int .i64 o, .int .u16 x, v], .agg #[.int .u8 p0, .int .u8 p1]] w fun e w' => e = .returned (.bool true) ∧ Below w.heap.size w w' := by
  have hoo : 0 ≤ o ∧ o ≤ 30 := by have := inB_t q; omega
  have hw0 : Below w.heap.size w ((w.alloc (.cells #[.int .i64 k, .int .i64 f, .int .i64 o, .int .u16 x, v] 41)).alloc (.cells #[.int .u8 p0, .int .u8 p1] 42)) := ((Below.refl _ w).alloc (Nat.le_refl _) _).alloc (by simp) _
  have cP := play_any 3 4 sv l ((w.alloc (.cells #[.int .i64 k, .int .i64 f, .int .i64 o, .int .u16 x, v] 41)).alloc (.cells #[.int .u8 p0, .int .u8 p1] 42)) (hd.grow hw0.size hw0) (by decide) (by decide) (by decide) (by decide)
  have hbx : Hid3 (((w.alloc (.cells #[.int .i64 k, .int .i64 f, .int .i64 o, .int .u16 x, v] 41)).alloc (.cells #[.int .u8 p0, .int .u8 p1] 42)).heap[w.heap.size]? = some (.cells #[.int .i64 k, .int .i64 f, .int .i64 o, .int .u16 x, v] 41)) := ⟨(Lib.alloc_old _ _ _ (by simp)).trans (heap_alloc_last w _)⟩
  have hby : Hid3 (((w.alloc (.cells #[.int .i64 k, .int .i64 f, .int .i64 o, .int .u16 x, v] 41)).alloc (.cells #[.int .u8 p0, .int .u8 p1] 42)).heap[w.heap.size + 1]? = some (.cells #[.int .u8 p0, .int .u8 p1] 42)) := ⟨by
    have := heap_alloc_last (w.alloc (.cells #[.int .i64 k, .int .i64 f, .int .i64 o, .int .u16 x, v] 41)) (.cells #[.int .u8 p0, .int .u8 p1] 42)
    rw [World.size_alloc] at this
    exact this⟩
  have HW0 : Hid3 (Below w.heap.size w ((w.alloc (.cells #[.int .i64 k, .int .i64 f, .int .i64 o, .int .u16 x, v] 41)).alloc (.cells #[.int .u8 p0, .int .u8 p1] 42))) := ⟨hw0⟩
  have HS0 : Hid3 (((w.alloc (.cells #[.int .i64 k, .int .i64 f, .int .i64 o, .int .u16 x, v] 41)).alloc (.cells #[.int .u8 p0, .int .u8 p1] 42)).heap.size = w.heap.size + 2) := ⟨by simp⟩
  clear hd hw0
  generalize playL (4 : Nat) (l.take 30) zeroL = L at *
  go_enter Try.func5, Try.ntmps5
  go_wp2_with fail
  refine cP.mono ?_
  rintro e W1 ⟨b, rb, g, rfl, hT, hB1⟩
  have cL := mlive_any W1
  clear cP
  go_wp2_with fail
  refine cL.mono ?_
  rintro e W2 ⟨rfl, hB2⟩
  clear cL
  have hs1 := hB1.size
  have hs2 := hB2.size
  have HS := HS0.out
  have hM2 : Mem W2 b 4 L := hT.p.below hB2
  have hLb := hT.by_
  have hbb : w.heap.size + 2 ≤ b := by have := hT.bB; omega
  have hx2 := (hB2.block w.heap.size (by omega)).trans ((hB1.block w.heap.size (by omega)).trans hbx.out)
  have hy2 := (hB2.block (w.heap.size + 1) (by omega)).trans ((hB1.block (w.heap.size + 1) (by omega)).trans hby.out)
  have HW2 : Hid3 (Below w.heap.size w W2) := ⟨(HW0.out.trans (hB1.mono HW0.out.size)).trans (hB2.mono (Nat.le_trans HW0.out.size hB1.size))⟩
  have HM2 : Hid3 (Mem W2 b 4 L) := ⟨hM2⟩
  have HL : Hid3 ((∀ y ∈ L, 0 ≤ y ∧ y ≤ 255) ∧ L.length = 2048) := ⟨hLb, hM2.len⟩
  have HX2 : Hid3 (W2.heap[w.heap.size]? = some (.cells #[.int .i64 k, .int .i64 f, .int .i64 o, .int .u16 x, v] 41)) := ⟨hx2⟩
  have HY2 : Hid3 (W2.heap[w.heap.size + 1]? = some (.cells #[.int .u8 p0, .int .u8 p1] 42)) := ⟨hy2⟩
  have cS := fun W (h : Mem W b 4 L) => size_ok b 4 L W h
  have hin : inB 4 F O 1 = true := decide_eq_true ⟨f0, f1, o0, by omega⟩
  have hinE : inE 4 F O 1 = 0 := by unfold inE; rw [if_pos hin]
  clear hT hB1 hB2 hbx hby HW0 HS0 HS hs1 hs2 hM2 hLb
  obtain ⟨z0, z1⟩ := b2m hy2
  obtain ⟨y0, y1, y2, y3, y4⟩ := b5m hx2
  clear hx2 hy2
  go_wp2_with fail
  have cSn := fun n => size_ok b 4 L (W2.drewN n) (HM2.out.below (Below.drewN (Below.refl _ W2) n))
  go_quiet ((go_at_call 16; exact Calls.quiet_of_same (cSn _)))
  rw [hF, hO]
  have HMd : Hid3 (Mem (W2.drewN nq) b 4 L) := ⟨HM2.out.below (Below.drewN (Below.refl _ W2) nq)⟩
  have HWd : Hid3 (Below w.heap.size w (W2.drewN nq)) := ⟨Below.drewN HW2.out nq⟩
  have HXd : Hid3 ((W2.drewN nq).heap[w.heap.size]? = some (.cells #[.int .i64 k, .int .i64 f, .int .i64 o, .int .u16 x, v] 41)) := ⟨HX2.out⟩
  clear cSn HM2 HW2 HX2 HY2 z0 z1 y0 y1 y2 y3 y4
  generalize W2.drewN nq = WD at *
  obtain ⟨y0, y1, y2, y3, y4⟩ := b5m HXd.out
  have c1 := byte_any b 4 F O L WD HMd.out
  obtain ⟨Y, hY⟩ : ∃ Y, L.getD (plc F O) 0 = Y := ⟨_, rfl⟩
  rw [if_pos hin, hinE, hY] at c1
  have HY : Hid3 (L.getD (plc F O) 0 = Y) := ⟨hY⟩
  clear hY
  go_wp2_with fail
  refine c1.mono ?_
  rintro e W3 ⟨rfl, rfl⟩
  clear c1
  have c2 := setword_any b 4 f o x L W3 HMd.out hx
  have hE2 : inE 4 f o 2 = 0 := by unfold inE; rw [if_pos q]
  rw [hE2] at c2
  have hLs := sw_bytes (N := 4) (f := f) (o := o) HL.out.1 hx
  have hsw := sw_word (x := x) HL.out.2 (by decide) q hx
  have hfar := sw_far (x := x) HL.out.2 (by decide) q ⟨f0, f1⟩ ⟨o0, o1⟩ hn
  generalize swL 4 L f o x = L2 at *
  go_wp2_with fail
  refine c2.mono ?_
  rintro e W4 ⟨rfl, hM4, hO4⟩
  have c3 := byte_any b 4 F O L2 W4 hM4
  rw [if_pos hin, hinE] at c3
  have c4 := word_any b 4 f o L2 W4 hM4 hLs
  rw [if_pos q, hE2, hsw] at c4
  have HW4 : Hid3 (Below w.heap.size w W4) := ⟨HWd.out.trans (hO4.below w.heap.size (by omega) HWd.out.size)⟩
  have hx4 := (hO4.block w.heap.size (Array.getElem?_eq_some_iff.1 HXd.out).1 (by omega)).trans HXd.out
  have HX4 : Hid3 (W4.heap[w.heap.size]? = some (.cells #[.int .i64 k, .int .i64 f, .int .i64 o, .int .u16 x, v] 41)) := ⟨hx4⟩
  rw [hfar, HY.out] at c3
  clear c2 y0 y1 y2 y3 y4 hE2 hinE hLs hsw hM4 hO4 hin
  obtain ⟨y0, y1, y2, y3, y4⟩ := b5m hx4
  clear hx4
  go_wp2_with fail
  refine c3.mono ?_
  rintro e W5 ⟨rfl, rfl⟩
  clear c3
  go_wp2_with fail
  refine c4.mono ?_
  rintro e W6 ⟨rfl, hB6⟩
  clear c4
  have hx6 := (hB6.block w.heap.size (Array.getElem?_eq_some_iff.1 HX4.out).1).trans HX4.out
  have HW6 : Hid3 (Below w.heap.size w W6) := ⟨HW4.out.trans (hB6.mono HW4.out.size)⟩
  clear y0 y1 y2 y3 y4 hB6
  obtain ⟨y0, y1, y2, y3, y4⟩ := b5m hx6
  clear hx6
  have ho30 : 0 ≤ o ∧ o ≤ 30 := hoo
  go_wp2
  go_ret
  exact ⟨rfl, HW6.out⟩
set_option maxHeartbeats 8000000 in
theorem writes_ff (sv : Value) (l : List Dm) (k f o x : Int) (v : Value) (p0 p1 F O : Int) (w : World) (hd : Dds w.heap.size w sv l) (hx : 0 ≤ x ∧ x ≤ 65535) (h0 : 0 ≤ p0 ∧ p0 ≤ 255) (h1 : 0 ≤ p1 ∧ p1 ≤ 255) (hF : p0 % 4 = F) (hO : p1 % 32 = O) (f0 : 0 ≤ F) (f1 : F < 4) (o0 : 0 ≤ O) (o1 : O < 32) (hf64 : -9223372036854775808 ≤ f ∧ f ≤ 9223372036854775807) (ho64 : -9223372036854775808 ≤ o ∧ o ≤ 9223372036854775807) (q : inB 4 f o 2 = true) (hn : ¬ (F = f ∧ (O = o ∨ O = o + 1))) (e1 : (F == f) = true) (e2 : (O == o) = false) (e3 : (O == o + 1) = false) : Calls Try.prog 5 #[sv, .agg #[.int .i64 k, .int .i64 f, .int .i64 o, .int .u16 x, v], .agg #[.int .u8 p0, .int .u8 p1]] w fun e w' => e = .returned (.bool true) ∧ Below w.heap.size w w' := by
  have hoo : 0 ≤ o ∧ o ≤ 30 := by have := inB_t q; omega
  have hw0 : Below w.heap.size w ((w.alloc (.cells #[.int .i64 k, .int .i64 f, .int .i64 o, .int .u16 x, v] 41)).alloc (.cells #[.int .u8 p0, .int .u8 p1] 42)) := ((Below.refl _ w).alloc (Nat.le_refl _) _).alloc (by simp) _
  have cP := play_any 3 4 sv l ((w.alloc (.cells #[.int .i64 k, .int .i64 f, .int .i64 o, .int .u16 x, v] 41)).alloc (.cells #[.int .u8 p0, .int .u8 p1] 42)) (hd.grow hw0.size hw0) (by decide) (by decide) (by decide) (by decide)
  have hbx : Hid3 (((w.alloc (.cells #[.int .i64 k, .int .i64 f, .int .i64 o, .int .u16 x, v] 41)).alloc (.cells #[.int .u8 p0, .int .u8 p1] 42)).heap[w.heap.size]? = some (.cells #[.int .i64 k, .int .i64 f, .int .i64 o, .int .u16 x, v] 41)) := ⟨(Lib.alloc_old _ _ _ (by simp)).trans (heap_alloc_last w _)⟩
  have hby : Hid3 (((w.alloc (.cells #[.int .i64 k, .int .i64 f, .int .i64 o, .int .u16 x, v] 41)).alloc (.cells #[.int .u8 p0, .int .u8 p1] 42)).heap[w.heap.size + 1]? = some (.cells #[.int .u8 p0, .int .u8 p1] 42)) := ⟨by
    have := heap_alloc_last (w.alloc (.cells #[.int .i64 k, .int .i64 f, .int .i64 o, .int .u16 x, v] 41)) (.cells #[.int .u8 p0, .int .u8 p1] 42)
    rw [World.size_alloc] at this
    exact this⟩
  have HW0 : Hid3 (Below w.heap.size w ((w.alloc (.cells #[.int .i64 k, .int .i64 f, .int .i64 o, .int .u16 x, v] 41)).alloc (.cells #[.int .u8 p0, .int .u8 p1] 42))) := ⟨hw0⟩
  have HS0 : Hid3 (((w.alloc (.cells #[.int .i64 k, .int .i64 f, .int .i64 o, .int .u16 x, v] 41)).alloc (.cells #[.int .u8 p0, .int .u8 p1] 42)).heap.size = w.heap.size + 2) := ⟨by simp⟩
  clear hd hw0
  generalize playL (4 : Nat) (l.take 30) zeroL = L at *
  go_enter Try.func5, Try.ntmps5
  go_wp2_with fail
  refine cP.mono ?_
  rintro e W1 ⟨b, rb, g, rfl, hT, hB1⟩
  have cL := mlive_any W1
  clear cP
  go_wp2_with fail
  refine cL.mono ?_
  rintro e W2 ⟨rfl, hB2⟩
  clear cL
  have hs1 := hB1.size
  have hs2 := hB2.size
  have HS := HS0.out
  have hM2 : Mem W2 b 4 L := hT.p.below hB2
  have hLb := hT.by_
  have hbb : w.heap.size + 2 ≤ b := by have := hT.bB; omega
  have hx2 := (hB2.block w.heap.size (by omega)).trans ((hB1.block w.heap.size (by omega)).trans hbx.out)
  have hy2 := (hB2.block (w.heap.size + 1) (by omega)).trans ((hB1.block (w.heap.size + 1) (by omega)).trans hby.out)
  have HW2 : Hid3 (Below w.heap.size w W2) := ⟨(HW0.out.trans (hB1.mono HW0.out.size)).trans (hB2.mono (Nat.le_trans HW0.out.size hB1.size))⟩
  have HM2 : Hid3 (Mem W2 b 4 L) := ⟨hM2⟩
  have HL : Hid3 ((∀ y ∈ L, 0 ≤ y ∧ y ≤ 255) ∧ L.length = 2048) := ⟨hLb, hM2.len⟩
  have HX2 : Hid3 (W2.heap[w.heap.size]? = some (.cells #[.int .i64 k, .int .i64 f, .int .i64 o, .int .u16 x, v] 41)) := ⟨hx2⟩
  have HY2 : Hid3 (W2.heap[w.heap.size + 1]? = some (.cells #[.int .u8 p0, .int .u8 p1] 42)) := ⟨hy2⟩
  have cS := fun W (h : Mem W b 4 L) => size_ok b 4 L W h
  have hin : inB 4 F O 1 = true := decide_eq_true ⟨f0, f1, o0, by omega⟩
  have hinE : inE 4 F O 1 = 0 := by unfold inE; rw [if_pos hin]
  clear hT hB1 hB2 hbx hby HW0 HS0 HS hs1 hs2 hM2 hLb
  obtain ⟨z0, z1⟩ := b2m hy2
  obtain ⟨y0, y1, y2, y3, y4⟩ := b5m hx2
  clear hx2 hy2
  go_wp2_with fail
  have cSn := fun n => size_ok b 4 L (W2.drewN n) (HM2.out.below (Below.drewN (Below.refl _ W2) n))
  go_quiet ((go_at_call 16; exact Calls.quiet_of_same (cSn _)))
  rw [hF, hO]
  have HMd : Hid3 (Mem (W2.drewN nq) b 4 L) := ⟨HM2.out.below (Below.drewN (Below.refl _ W2) nq)⟩
  have HWd : Hid3 (Below w.heap.size w (W2.drewN nq)) := ⟨Below.drewN HW2.out nq⟩
  have HXd : Hid3 ((W2.drewN nq).heap[w.heap.size]? = some (.cells #[.int .i64 k, .int .i64 f, .int .i64 o, .int .u16 x, v] 41)) := ⟨HX2.out⟩
  clear cSn HM2 HW2 HX2 HY2 z0 z1 y0 y1 y2 y3 y4
  generalize W2.drewN nq = WD at *
  obtain ⟨y0, y1, y2, y3, y4⟩ := b5m HXd.out
  have c1 := byte_any b 4 F O L WD HMd.out
  obtain ⟨Y, hY⟩ : ∃ Y, L.getD (plc F O) 0 = Y := ⟨_, rfl⟩
  rw [if_pos hin, hinE, hY] at c1
  have HY : Hid3 (L.getD (plc F O) 0 = Y) := ⟨hY⟩
  clear hY
  go_wp2_with fail
  refine c1.mono ?_
  rintro e W3 ⟨rfl, rfl⟩
  clear c1
  have c2 := setword_any b 4 f o x L W3 HMd.out hx
  have hE2 : inE 4 f o 2 = 0 := by unfold inE; rw [if_pos q]
  rw [hE2] at c2
  have hLs := sw_bytes (N := 4) (f := f) (o := o) HL.out.1 hx
  have hsw := sw_word (x := x) HL.out.2 (by decide) q hx
  have hfar := sw_far (x := x) HL.out.2 (by decide) q ⟨f0, f1⟩ ⟨o0, o1⟩ hn
  generalize swL 4 L f o x = L2 at *
  go_wp2_with fail
  refine c2.mono ?_
  rintro e W4 ⟨rfl, hM4, hO4⟩
  have c3 := byte_any b 4 F O L2 W4 hM4
  rw [if_pos hin, hinE] at c3
  have c4 := word_any b 4 f o L2 W4 hM4 hLs
  rw [if_pos q, hE2, hsw] at c4
  have HW4 : Hid3 (Below w.heap.size w W4) := ⟨HWd.out.trans (hO4.below w.heap.size (by omega) HWd.out.size)⟩
  have hx4 := (hO4.block w.heap.size (Array.getElem?_eq_some_iff.1 HXd.out).1 (by omega)).trans HXd.out
  have HX4 : Hid3 (W4.heap[w.heap.size]? = some (.cells #[.int .i64 k, .int .i64 f, .int .i64 o, .int .u16 x, v] 41)) := ⟨hx4⟩
  rw [hfar, HY.out] at c3
  clear c2 y0 y1 y2 y3 y4 hE2 hinE hLs hsw hM4 hO4 hin
  obtain ⟨y0, y1, y2, y3, y4⟩ := b5m hx4
  clear hx4
  go_wp2_with fail
  refine c3.mono ?_
  rintro e W5 ⟨rfl, rfl⟩
  clear c3
  go_wp2_with fail
  refine c4.mono ?_
  rintro e W6 ⟨rfl, hB6⟩
  clear c4
  have hx6 := (hB6.block w.heap.size (Array.getElem?_eq_some_iff.1 HX4.out).1).trans HX4.out
  have HW6 : Hid3 (Below w.heap.size w W6) := ⟨HW4.out.trans (hB6.mono HW4.out.size)⟩
  clear y0 y1 y2 y3 y4 hB6
  obtain ⟨y0, y1, y2, y3, y4⟩ := b5m hx6
  clear hx6
  have ho30 : 0 ≤ o ∧ o ≤ 30 := hoo
  go_wp2
  go_ret
  exact ⟨rfl, HW6.out⟩
set_option maxHeartbeats 8000000 in
theorem writes_ft (sv : Value) (l : List Dm) (k f o x : Int) (v : Value) (p0 p1 F O : Int) (w : World) (hd : Dds w.heap.size w sv l) (hx : 0 ≤ x ∧ x ≤ 65535) (h0 : 0 ≤ p0 ∧ p0 ≤ 255) (h1 : 0 ≤ p1 ∧ p1 ≤ 255) (hF : p0 % 4 = F) (hO : p1 % 32 = O) (f0 : 0 ≤ F) (f1 : F < 4) (o0 : 0 ≤ O) (o1 : O < 32) (hf64 : -9223372036854775808 ≤ f ∧ f ≤ 9223372036854775807) (ho64 : -9223372036854775808 ≤ o ∧ o ≤ 9223372036854775807) (q : inB 4 f o 2 = true) (e1 : (F == f) = true) (e2 : (O == o) = false) (e3 : (O == o + 1) = true) : Calls Try.prog 5 #[sv, .agg #[.int .i64 k, .int .i64 f, .int .i64 o, .int .u16 x, v], .agg #[.int .u8 p0, .int .u8 p1]] w fun e w' => e = .returned (.bool true) ∧ Below w.heap.size w w' := by
  have hoo : 0 ≤ o ∧ o ≤ 30 := by have := inB_t q; omega
  have hw0 : Below w.heap.size w ((w.alloc (.cells #[.int .i64 k, .int .i64 f, .int .i64 o, .int .u16 x, v] 41)).alloc (.cells #[.int .u8 p0, .int .u8 p1] 42)) := ((Below.refl _ w).alloc (Nat.le_refl _) _).alloc (by simp) _
  have cP := play_any 3 4 sv l ((w.alloc (.cells #[.int .i64 k, .int .i64 f, .int .i64 o, .int .u16 x, v] 41)).alloc (.cells #[.int .u8 p0, .int .u8 p1] 42)) (hd.grow hw0.size hw0) (by decide) (by decide) (by decide) (by decide)
  have hbx : Hid3 (((w.alloc (.cells #[.int .i64 k, .int .i64 f, .int .i64 o, .int .u16 x, v] 41)).alloc (.cells #[.int .u8 p0, .int .u8 p1] 42)).heap[w.heap.size]? = some (.cells #[.int .i64 k, .int .i64 f, .int .i64 o, .int .u16 x, v] 41)) := ⟨(Lib.alloc_old _ _ _ (by simp)).trans (heap_alloc_last w _)⟩
  have hby : Hid3 (((w.alloc (.cells #[.int .i64 k, .int .i64 f, .int .i64 o, .int .u16 x, v] 41)).alloc (.cells #[.int .u8 p0, .int .u8 p1] 42)).heap[w.heap.size + 1]? = some (.cells #[.int .u8 p0, .int .u8 p1] 42)) := ⟨by
    have := heap_alloc_last (w.alloc (.cells #[.int .i64 k, .int .i64 f, .int .i64 o, .int .u16 x, v] 41)) (.cells #[.int .u8 p0, .int .u8 p1] 42)
    rw [World.size_alloc] at this
    exact this⟩
  have HW0 : Hid3 (Below w.heap.size w ((w.alloc (.cells #[.int .i64 k, .int .i64 f, .int .i64 o, .int .u16 x, v] 41)).alloc (.cells #[.int .u8 p0, .int .u8 p1] 42))) := ⟨hw0⟩
  have HS0 : Hid3 (((w.alloc (.cells #[.int .i64 k, .int .i64 f, .int .i64 o, .int .u16 x, v] 41)).alloc (.cells #[.int .u8 p0, .int .u8 p1] 42)).heap.size = w.heap.size + 2) := ⟨by simp⟩
  clear hd hw0
  generalize playL (4 : Nat) (l.take 30) zeroL = L at *
  go_enter Try.func5, Try.ntmps5
  go_wp2_with fail
  refine cP.mono ?_
  rintro e W1 ⟨b, rb, g, rfl, hT, hB1⟩
  have cL := mlive_any W1
  clear cP
  go_wp2_with fail
  refine cL.mono ?_
  rintro e W2 ⟨rfl, hB2⟩
  clear cL
  have hs1 := hB1.size
  have hs2 := hB2.size
  have HS := HS0.out
  have hM2 : Mem W2 b 4 L := hT.p.below hB2
  have hLb := hT.by_
  have hbb : w.heap.size + 2 ≤ b := by have := hT.bB; omega
  have hx2 := (hB2.block w.heap.size (by omega)).trans ((hB1.block w.heap.size (by omega)).trans hbx.out)
  have hy2 := (hB2.block (w.heap.size + 1) (by omega)).trans ((hB1.block (w.heap.size + 1) (by omega)).trans hby.out)
  have HW2 : Hid3 (Below w.heap.size w W2) := ⟨(HW0.out.trans (hB1.mono HW0.out.size)).trans (hB2.mono (Nat.le_trans HW0.out.size hB1.size))⟩
  have HM2 : Hid3 (Mem W2 b 4 L) := ⟨hM2⟩
  have HL : Hid3 ((∀ y ∈ L, 0 ≤ y ∧ y ≤ 255) ∧ L.length = 2048) := ⟨hLb, hM2.len⟩
  have HX2 : Hid3 (W2.heap[w.heap.size]? = some (.cells #[.int .i64 k, .int .i64 f, .int .i64 o, .int .u16 x, v] 41)) := ⟨hx2⟩
  have HY2 : Hid3 (W2.heap[w.heap.size + 1]? = some (.cells #[.int .u8 p0, .int .u8 p1] 42)) := ⟨hy2⟩
  have cS := fun W (h : Mem W b 4 L) => size_ok b 4 L W h
  have hin : inB 4 F O 1 = true := decide_eq_true ⟨f0, f1, o0, by omega⟩
  have hinE : inE 4 F O 1 = 0 := by unfold inE; rw [if_pos hin]
  clear hT hB1 hB2 hbx hby HW0 HS0 HS hs1 hs2 hM2 hLb
  obtain ⟨z0, z1⟩ := b2m hy2
  obtain ⟨y0, y1, y2, y3, y4⟩ := b5m hx2
  clear hx2 hy2
  go_wp2_with fail
  have cSn := fun n => size_ok b 4 L (W2.drewN n) (HM2.out.below (Below.drewN (Below.refl _ W2) n))
  go_quiet ((go_at_call 16; exact Calls.quiet_of_same (cSn _)))
  rw [hF, hO]
  have HMd : Hid3 (Mem (W2.drewN nq) b 4 L) := ⟨HM2.out.below (Below.drewN (Below.refl _ W2) nq)⟩
  have HWd : Hid3 (Below w.heap.size w (W2.drewN nq)) := ⟨Below.drewN HW2.out nq⟩
  have HXd : Hid3 ((W2.drewN nq).heap[w.heap.size]? = some (.cells #[.int .i64 k, .int .i64 f, .int .i64 o, .int .u16 x, v] 41)) := ⟨HX2.out⟩
  clear cSn HM2 HW2 HX2 HY2 z0 z1 y0 y1 y2 y3 y4
  generalize W2.drewN nq = WD at *
  obtain ⟨y0, y1, y2, y3, y4⟩ := b5m HXd.out
  have c1 := byte_any b 4 F O L WD HMd.out
  obtain ⟨Y, hY⟩ : ∃ Y, L.getD (plc F O) 0 = Y := ⟨_, rfl⟩
  rw [if_pos hin, hinE, hY] at c1
  have HY : Hid3 (L.getD (plc F O) 0 = Y) := ⟨hY⟩
  clear hY
  go_wp2_with fail
  refine c1.mono ?_
  rintro e W3 ⟨rfl, rfl⟩
  clear c1
  have c2 := setword_any b 4 f o x L W3 HMd.out hx
  have hE2 : inE 4 f o 2 = 0 := by unfold inE; rw [if_pos q]
  rw [hE2] at c2
  have hLs := sw_bytes (N := 4) (f := f) (o := o) HL.out.1 hx
  have hsw := sw_word (x := x) HL.out.2 (by decide) q hx
  generalize swL 4 L f o x = L2 at *
  go_wp2_with fail
  refine c2.mono ?_
  rintro e W4 ⟨rfl, hM4, hO4⟩
  have c3 := byte_any b 4 F O L2 W4 hM4
  rw [if_pos hin, hinE] at c3
  have c4 := word_any b 4 f o L2 W4 hM4 hLs
  rw [if_pos q, hE2, hsw] at c4
  have HW4 : Hid3 (Below w.heap.size w W4) := ⟨HWd.out.trans (hO4.below w.heap.size (by omega) HWd.out.size)⟩
  have hx4 := (hO4.block w.heap.size (Array.getElem?_eq_some_iff.1 HXd.out).1 (by omega)).trans HXd.out
  have HX4 : Hid3 (W4.heap[w.heap.size]? = some (.cells #[.int .i64 k, .int .i64 f, .int .i64 o, .int .u16 x, v] 41)) := ⟨hx4⟩
  generalize L2.getD (plc F O) 0 = Y2 at *
  clear c2 y0 y1 y2 y3 y4 hE2 hinE hLs hsw hM4 hO4 hin
  obtain ⟨y0, y1, y2, y3, y4⟩ := b5m hx4
  clear hx4
  go_wp2_with fail
  refine c3.mono ?_
  rintro e W5 ⟨rfl, rfl⟩
  clear c3
  go_wp2_with fail
  refine c4.mono ?_
  rintro e W6 ⟨rfl, hB6⟩
  clear c4
  have hx6 := (hB6.block w.heap.size (Array.getElem?_eq_some_iff.1 HX4.out).1).trans HX4.out
  have HW6 : Hid3 (Below w.heap.size w W6) := ⟨HW4.out.trans (hB6.mono HW4.out.size)⟩
  clear y0 y1 y2 y3 y4 hB6
  obtain ⟨y0, y1, y2, y3, y4⟩ := b5m hx6
  clear hx6
  have ho30 : 0 ≤ o ∧ o ≤ 30 := hoo
  go_wp2
  go_ret
  exact ⟨rfl, HW6.out⟩
set_option maxHeartbeats 8000000 in
theorem writes_t (sv : Value) (l : List Dm) (k f o x : Int) (v : Value) (p0 p1 F O : Int) (w : World) (hd : Dds w.heap.size w sv l) (hx : 0 ≤ x ∧ x ≤ 65535) (h0 : 0 ≤ p0 ∧ p0 ≤ 255) (h1 : 0 ≤ p1 ∧ p1 ≤ 255) (hF : p0 % 4 = F) (hO : p1 % 32 = O) (f0 : 0 ≤ F) (f1 : F < 4) (o0 : 0 ≤ O) (o1 : O < 32) (hf64 : -9223372036854775808 ≤ f ∧ f ≤ 9223372036854775807) (ho64 : -9223372036854775808 ≤ o ∧ o ≤ 9223372036854775807) (q : inB 4 f o 2 = true) (e1 : (F == f) = true) (e2 : (O == o) = true) : Calls Try.prog 5 #[sv, .agg #[.int .i64 k, .int .i64 f, .int .i64 o, .int .u16 x, v], .agg #[.int .u8 p0, .int .u8 p1]] w fun e w' => e = .returned (.bool true) ∧ Below w.heap.size w w' := by
  have hoo : 0 ≤ o ∧ o ≤ 30 := by have := inB_t q; omega
  have hw0 : Below w.heap.size w ((w.alloc (.cells #[.int .i64 k, .int .i64 f, .int .i64 o, .int .u16 x, v] 41)).alloc (.cells #[.int .u8 p0, .int .u8 p1] 42)) := ((Below.refl _ w).alloc (Nat.le_refl _) _).alloc (by simp) _
  have cP := play_any 3 4 sv l ((w.alloc (.cells #[.int .i64 k, .int .i64 f, .int .i64 o, .int .u16 x, v] 41)).alloc (.cells #[.int .u8 p0, .int .u8 p1] 42)) (hd.grow hw0.size hw0) (by decide) (by decide) (by decide) (by decide)
  have hbx : Hid3 (((w.alloc (.cells #[.int .i64 k, .int .i64 f, .int .i64 o, .int .u16 x, v] 41)).alloc (.cells #[.int .u8 p0, .int .u8 p1] 42)).heap[w.heap.size]? = some (.cells #[.int .i64 k, .int .i64 f, .int .i64 o, .int .u16 x, v] 41)) := ⟨(Lib.alloc_old _ _ _ (by simp)).trans (heap_alloc_last w _)⟩
  have hby : Hid3 (((w.alloc (.cells #[.int .i64 k, .int .i64 f, .int .i64 o, .int .u16 x, v] 41)).alloc (.cells #[.int .u8 p0, .int .u8 p1] 42)).heap[w.heap.size + 1]? = some (.cells #[.int .u8 p0, .int .u8 p1] 42)) := ⟨by
    have := heap_alloc_last (w.alloc (.cells #[.int .i64 k, .int .i64 f, .int .i64 o, .int .u16 x, v] 41)) (.cells #[.int .u8 p0, .int .u8 p1] 42)
    rw [World.size_alloc] at this
    exact this⟩
  have HW0 : Hid3 (Below w.heap.size w ((w.alloc (.cells #[.int .i64 k, .int .i64 f, .int .i64 o, .int .u16 x, v] 41)).alloc (.cells #[.int .u8 p0, .int .u8 p1] 42))) := ⟨hw0⟩
  have HS0 : Hid3 (((w.alloc (.cells #[.int .i64 k, .int .i64 f, .int .i64 o, .int .u16 x, v] 41)).alloc (.cells #[.int .u8 p0, .int .u8 p1] 42)).heap.size = w.heap.size + 2) := ⟨by simp⟩
  clear hd hw0
  generalize playL (4 : Nat) (l.take 30) zeroL = L at *
  go_enter Try.func5, Try.ntmps5
  go_wp2_with fail
  refine cP.mono ?_
  rintro e W1 ⟨b, rb, g, rfl, hT, hB1⟩
  have cL := mlive_any W1
  clear cP
  go_wp2_with fail
  refine cL.mono ?_
  rintro e W2 ⟨rfl, hB2⟩
  clear cL
  have hs1 := hB1.size
  have hs2 := hB2.size
  have HS := HS0.out
  have hM2 : Mem W2 b 4 L := hT.p.below hB2
  have hLb := hT.by_
  have hbb : w.heap.size + 2 ≤ b := by have := hT.bB; omega
  have hx2 := (hB2.block w.heap.size (by omega)).trans ((hB1.block w.heap.size (by omega)).trans hbx.out)
  have hy2 := (hB2.block (w.heap.size + 1) (by omega)).trans ((hB1.block (w.heap.size + 1) (by omega)).trans hby.out)
  have HW2 : Hid3 (Below w.heap.size w W2) := ⟨(HW0.out.trans (hB1.mono HW0.out.size)).trans (hB2.mono (Nat.le_trans HW0.out.size hB1.size))⟩
  have HM2 : Hid3 (Mem W2 b 4 L) := ⟨hM2⟩
  have HL : Hid3 ((∀ y ∈ L, 0 ≤ y ∧ y ≤ 255) ∧ L.length = 2048) := ⟨hLb, hM2.len⟩
  have HX2 : Hid3 (W2.heap[w.heap.size]? = some (.cells #[.int .i64 k, .int .i64 f, .int .i64 o, .int .u16 x, v] 41)) := ⟨hx2⟩
  have HY2 : Hid3 (W2.heap[w.heap.size + 1]? = some (.cells #[.int .u8 p0, .int .u8 p1] 42)) := ⟨hy2⟩
  have cS := fun W (h : Mem W b 4 L) => size_ok b 4 L W h
  have hin : inB 4 F O 1 = true := decide_eq_true ⟨f0, f1, o0, by omega⟩
  have hinE : inE 4 F O 1 = 0 := by unfold inE; rw [if_pos hin]
  clear hT hB1 hB2 hbx hby HW0 HS0 HS hs1 hs2 hM2 hLb
  obtain ⟨z0, z1⟩ := b2m hy2
  obtain ⟨y0, y1, y2, y3, y4⟩ := b5m hx2
  clear hx2 hy2
  go_wp2_with fail
  have cSn := fun n => size_ok b 4 L (W2.drewN n) (HM2.out.below (Below.drewN (Below.refl _ W2) n))
  go_quiet ((go_at_call 16; exact Calls.quiet_of_same (cSn _)))
  rw [hF, hO]
  have HMd : Hid3 (Mem (W2.drewN nq) b 4 L) := ⟨HM2.out.below (Below.drewN (Below.refl _ W2) nq)⟩
  have HWd : Hid3 (Below w.heap.size w (W2.drewN nq)) := ⟨Below.drewN HW2.out nq⟩
  have HXd : Hid3 ((W2.drewN nq).heap[w.heap.size]? = some (.cells #[.int .i64 k, .int .i64 f, .int .i64 o, .int .u16 x, v] 41)) := ⟨HX2.out⟩
  clear cSn HM2 HW2 HX2 HY2 z0 z1 y0 y1 y2 y3 y4
  generalize W2.drewN nq = WD at *
  obtain ⟨y0, y1, y2, y3, y4⟩ := b5m HXd.out
  have c1 := byte_any b 4 F O L WD HMd.out
  obtain ⟨Y, hY⟩ : ∃ Y, L.getD (plc F O) 0 = Y := ⟨_, rfl⟩
  rw [if_pos hin, hinE, hY] at c1
  have HY : Hid3 (L.getD (plc F O) 0 = Y) := ⟨hY⟩
  clear hY
  go_wp2_with fail
  refine c1.mono ?_
  rintro e W3 ⟨rfl, rfl⟩
  clear c1
  have c2 := setword_any b 4 f o x L W3 HMd.out hx
  have hE2 : inE 4 f o 2 = 0 := by unfold inE; rw [if_pos q]
  rw [hE2] at c2
  have hLs := sw_bytes (N := 4) (f := f) (o := o) HL.out.1 hx
  have hsw := sw_word (x := x) HL.out.2 (by decide) q hx
  generalize swL 4 L f o x = L2 at *
  go_wp2_with fail
  refine c2.mono ?_
  rintro e W4 ⟨rfl, hM4, hO4⟩
  have c3 := byte_any b 4 F O L2 W4 hM4
  rw [if_pos hin, hinE] at c3
  have c4 := word_any b 4 f o L2 W4 hM4 hLs
  rw [if_pos q, hE2, hsw] at c4
  have HW4 : Hid3 (Below w.heap.size w W4) := ⟨HWd.out.trans (hO4.below w.heap.size (by omega) HWd.out.size)⟩
  have hx4 := (hO4.block w.heap.size (Array.getElem?_eq_some_iff.1 HXd.out).1 (by omega)).trans HXd.out
  have HX4 : Hid3 (W4.heap[w.heap.size]? = some (.cells #[.int .i64 k, .int .i64 f, .int .i64 o, .int .u16 x, v] 41)) := ⟨hx4⟩
  generalize L2.getD (plc F O) 0 = Y2 at *
  clear c2 y0 y1 y2 y3 y4 hE2 hinE hLs hsw hM4 hO4 hin
  obtain ⟨y0, y1, y2, y3, y4⟩ := b5m hx4
  clear hx4
  go_wp2_with fail
  refine c3.mono ?_
  rintro e W5 ⟨rfl, rfl⟩
  clear c3
  go_wp2_with fail
  refine c4.mono ?_
  rintro e W6 ⟨rfl, hB6⟩
  clear c4
  have hx6 := (hB6.block w.heap.size (Array.getElem?_eq_some_iff.1 HX4.out).1).trans HX4.out
  have HW6 : Hid3 (Below w.heap.size w W6) := ⟨HW4.out.trans (hB6.mono HW4.out.size)⟩
  clear y0 y1 y2 y3 y4 hB6
  obtain ⟨y0, y1, y2, y3, y4⟩ := b5m hx6
  clear hx6
  have ho30 : 0 ≤ o ∧ o ≤ 30 := hoo
  go_wp2
  go_ret
  exact ⟨rfl, HW6.out⟩
theorem writes_law (sv : Value) (l : List Dm) (d : Dm) (p0 p1 : Int) (w : World) (hd : Dds w.heap.size w sv l) (hk : d.Ok w.heap.size w) (h0 : 0 ≤ p0 ∧ p0 ≤ 255) (h1 : 0 ≤ p1 ∧ p1 ≤ 255) : Calls Try.prog 5 #[sv, .agg #[.int .i64 d.k, .int .i64 d.f, .int .i64 d.o, .int .u16 d.x, d.v], .agg #[.int .u8 p0, .int .u8 p1]] w fun e w' => e = .returned (.bool true) ∧ Below w.heap.size w w' := by
  have f0 : 0 ≤ p0 % 4 := by omega
  have f1 : p0 % 4 < 4 := by omega
  have o0 : 0 ≤ p1 % 32 := by omega
  have o1 : p1 % 32 < 32 := by omega
  cases q : inB 4 d.f d.o 2 with
  | false => exact writes_no sv l _ _ _ _ _ p0 p1 _ _ w hd hk.x h0 h1 rfl rfl f0 f1 o0 o1 hk.k64 hk.o64 q
  | true =>
    by_cases e1 : p0 % 4 = d.f
    · by_cases e2 : p1 % 32 = d.o
      · exact writes_t sv l _ _ _ _ _ p0 p1 _ _ w hd hk.x h0 h1 rfl rfl f0 f1 o0 o1 hk.k64 hk.o64 q (by simpa using e1) (by simpa using e2)
      · by_cases e3 : p1 % 32 = d.o + 1
        · exact writes_ft sv l _ _ _ _ _ p0 p1 _ _ w hd hk.x h0 h1 rfl rfl f0 f1 o0 o1 hk.k64 hk.o64 q (by simpa using e1) (by simpa using e2) (by simpa using e3)
        · exact writes_ff sv l _ _ _ _ _ p0 p1 _ _ w hd hk.x h0 h1 rfl rfl f0 f1 o0 o1 hk.k64 hk.o64 q (by omega) (by simpa using e1) (by simpa using e2) (by simpa using e3)
    · exact writes_f sv l _ _ _ _ _ p0 p1 _ _ w hd hk.x h0 h1 rfl rfl f0 f1 o0 o1 hk.k64 hk.o64 q (by omega) (by simpa using e1)
end Go.Proofs.Ytajljppmkcjoiaa
