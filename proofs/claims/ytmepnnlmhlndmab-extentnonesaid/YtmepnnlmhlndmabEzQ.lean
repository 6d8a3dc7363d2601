/- What must be whatever is asked. -/
import Derived.Test.YtmepnnlmhlndmabEyC
import Derived.Test.YtmepnnlmhlndmabEyA
namespace Go.Proofs.Ytmepnnlmhlndmab
open Go.RowKit Go.Maps
set_option linter.unusedVariables false
set_option maxRecDepth 100000
def nmA : ByteArray := ⟨#[47, 97]⟩
theorem nmA_right : rightB nmA.data.toList ((0 : BitVec 8).toNat : Int) = true := by decide +kernel
def lx1 : Ex := (nEx 0 2 6 nmA 0 (by decide)).num 1
def lx2 : Ex := lx1.len (5 - lx1.st) (by decide)
def lx3 : Ex := (lx1.cut 5 (by decide)).num 2
def ls1 : Xt := ⟨16, [lx1], 1⟩
def ls2 : Xt := ⟨16, [lx2, lx3], 2⟩
def lx4 : Ex := lx2.len (lx2.ln + lx3.ln) (by decide)
def ls3 : Xt := ⟨16, [lx4], 2⟩
theorem sameG_refl (x : Ex) : sameG x x = true := by unfold sameG; simp
/-- Above a world. -/
structure Lt (w W : World) (T : Nat) (L : Lo) (s : Xt) : Prop where
  t : L.t = T
  p : Pt w.heap.size W L s
  bl : Below w.heap.size w W
theorem Lt.low {w W W' : World} {T : Nat} {L : Lo} {s : Xt} (h : Lt w W T L s) (k : Below W.heap.size W W') : Lt w W' T L s := ⟨h.t, h.p.below k, h.bl.trans (k.mono h.bl.size)⟩
theorem Lt.step {w W W' : World} {T : Nat} {L : Lo} {s s' : Xt} (h : Lt w W T L s) (k : TStp w.heap.size W W' L s') : ∃ L', Lt w W' T L' s' := by
  obtain ⟨L', e, hP, _⟩ := k.out
  exact ⟨L', e.trans h.t, hP, h.bl.trans (k.low h.p h.bl.size)⟩
set_option maxHeartbeats 4000000 in
theorem live_any (w : World) : Calls Try.prog 9 #[] w fun r w' => r = .returned (.bool true) ∧ Below w.heap.size w w' := by
  have cN := new_ok 16 w (by decide) (by decide)
  have HM : Hid3 (nmA = ⟨#[47, 97]⟩) := ⟨rfl⟩
  go_enter Try.func9, Try.ntmps9
  go_wp2_with fail
  refine cN.mono ?_
  rintro r W0 ⟨rfl, hP, hB0⟩
  obtain ⟨T, hT⟩ : ∃ T, w.heap.size + 1 = T := ⟨_, rfl⟩
  have HL0 : Hid3 (Lt w W0 T ⟨w.heap.size + 1, w.heap.size, []⟩ (xt0 16)) := ⟨⟨hT, hP, hB0⟩⟩
  have c1 := p_alloc hP hB0.size 0 2 6 nmA 0 (by decide) (by decide) (by decide) (by decide) nmA_right (fun x hx => by cases hx) (by decide) (by decide) [] [] ⟨rfl, fun y hy => (by cases hy), fun y hy => (by cases hy)⟩ (by decide)
  rw [show (⟨w.heap.size + 1, w.heap.size, []⟩ : Lo).t = T from hT] at c1
  rw [hT]
  have c1 : Calls Try.prog 4 #[.pointer (some ⟨T, 0, none⟩), .int .u8 0, .int .i64 2, .int .i64 6, .agg #[.string ⟨#[47, 97]⟩, .int .u8 0]] W0 fun e w' => e = .returned (.tuple #[.int .u32 1, .int .i64 0]) ∧ TStp w.heap.size W0 w' ⟨w.heap.size + 1, w.heap.size, []⟩ ls1 := c1
  clear cN hP hB0 hT
  go_wp2_with fail
  refine c1.mono ?_
  rintro r W1 ⟨rfl, hs⟩
  obtain ⟨L1, hL1⟩ := HL0.out.step hs
  have HL1 := Hid3.mk hL1
  have c2 := p_split hL1.p hL1.bl.size 0 1 5 [] [] lx1 ⟨rfl, fun y hy => (by cases hy), rfl, rfl⟩ (by decide) (by decide) (by decide) (by decide) (by decide)
  rw [hL1.t] at c2
  have c2 : Calls Try.prog 5 #[.pointer (some ⟨T, 0, none⟩), .int .u8 0, .int .u32 1, .int .i64 5] W1 fun e w' => e = .returned (.tuple #[.int .u32 2, .int .i64 0]) ∧ TStp w.heap.size W1 w' L1 ls2 := c2
  clear c1 hs hL1 HL0
  go_wp2_with fail
  refine c2.mono ?_
  rintro r W2 ⟨rfl, hs⟩
  obtain ⟨L2, hL2⟩ := HL1.out.step hs
  have HL2 := Hid3.mk hL2
  have c3 := p_at hL2.p 6
  rw [hL2.t] at c3
  have c3 : Calls Try.prog 7 #[.pointer (some ⟨T, 0, none⟩), .int .i64 6] W2 fun e w' => e = .returned (.tuple #[exV lx3, .bool true]) ∧ Below W2.heap.size W2 w' := c3
  have c3 : Calls Try.prog 7 #[.pointer (some ⟨T, 0, none⟩), .int .i64 6] W2 fun e w' => e = .returned (.tuple #[.agg #[.int .u32 2, .int .i64 5, .int .i64 3, .int .u8 0, .string nmA, .int .u8 0], .bool true]) ∧ Below W2.heap.size W2 w' := c3
  clear c2 hs hL2 HL1
  go_wp2_with fail
  refine c3.mono ?_
  rintro r W3 ⟨rfl, hB⟩
  have HX := Hid3.mk (Cl.new W3 33 [.int .u32 2, .int .i64 5, .int .i64 3, .int .u8 0, .string nmA, .int .u8 0])
  have HLb := Hid3.mk (HL2.out.low hB)
  have HL3 := Hid3.mk ((HL2.out.low hB).low (below_new W3 (.cells #[.int .u32 2, .int .i64 5, .int .i64 3, .int .u8 0, .string nmA, .int .u8 0] 33)))
  have c4 := p_merge HL3.out.p HL3.out.bl.size 0 1 2 [] [] lx2 lx3 ⟨rfl, fun y hy => (by cases hy), rfl, rfl⟩ ⟨rfl, fun y hy => (by rw [List.mem_singleton.1 hy]; decide), rfl, rfl⟩ (by decide) (sameG_refl lx1) (by decide)
  rw [HL3.out.t] at c4
  have c4 : Calls Try.prog 10 #[.pointer (some ⟨T, 0, none⟩), .int .u8 0, .int .u32 1, .int .u32 2] _ fun e w' => e = .returned (.int .i64 0) ∧ TStp w.heap.size _ w' L2 ls3 := c4
  clear c3 hB HL2
  go_wp2_with fail
  refine c4.mono ?_
  rintro r W4 ⟨rfl, hs⟩
  obtain ⟨L4, hL4⟩ := HL3.out.step hs
  have HL4 := Hid3.mk hL4
  have HX4 := Hid3.mk (HX.out.stay hs.ap (fun e => by have := HLb.out.p.lt e; omega))
  have c5 := p_get HL4.out.p 1
  rw [HL4.out.t] at c5
  have c5 : Calls Try.prog 6 #[.pointer (some ⟨T, 0, none⟩), .int .u32 1] W4 fun e w' => e = .returned (.tuple #[.agg #[.int .u32 1, .int .i64 2, .int .i64 6, .int .u8 0, .string nmA, .int .u8 0], .bool true]) ∧ Below W4.heap.size W4 w' := c5
  generalize W3.heap.size = q1 at *
  clear c4 hs hL4 HL3 HX HLb
  go_wp2_with fail
  refine c5.mono ?_
  rintro r W5 ⟨rfl, hB⟩
  have hB2 := below_new W5 (.cells #[.int .u32 1, .int .i64 2, .int .i64 6, .int .u8 0, .string nmA, .int .u8 0] 33)
  have hY := Cl.new W5 33 [.int .u32 1, .int .i64 2, .int .i64 6, .int .u8 0, .string nmA, .int .u8 0]
  have hX5 := (HX4.out.below hB).below hB2
  have HL5 := Hid3.mk ((HL4.out.low hB).low hB2)
  have c6 := p_left HL5.out.p
  rw [HL5.out.t] at c6
  have c6 : Calls Try.prog 16 #[.pointer (some ⟨T, 0, none⟩)] _ fun e w' => e = .returned (.int .i64 10) ∧ Below _ _ w' := c6
  have x0 := hX5.cell 0
  have y2 := hY.cell 2
  simp only [List.getElem?_cons_zero, List.getElem?_cons_succ] at x0 y2
  have hxl := hX5.lt
  clear c5 hB hB2 HL4 HX4 hX5 hY
  go_wp2_with fail
  refine c6.mono ?_
  rintro r W6 ⟨rfl, hB⟩
  have HL6 := Hid3.mk (HL5.out.low hB)
  clear c6 hB x0 y2 hxl
  go_wp2
  go_ret
  exact ⟨rfl, HL6.out.bl⟩
end Go.Proofs.Ytmepnnlmhlndmab
