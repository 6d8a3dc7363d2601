/- IsaTotal: four bytes are an instruction, or are not; one byte turned is another one, or none. -/
import Derived.Test.YteoappoacapdhabDoorIsaL
import Derived.Test.YteoappoacapdhabDoorIsaD
namespace Go.Proofs.YteoappoacapdhabDoor
open Go.RowKit
set_option linter.unusedVariables false

theorem xor_bd (x y : Int) : 0 ≤ bits .xor .u8 x y ∧ bits .xor .u8 x y ≤ 255 := by
  show 0 ≤ IntKind.u8.wrap ((BitVec.ofInt 8 x ^^^ BitVec.ofInt 8 y).toNat : Nat) ∧ IntKind.u8.wrap ((BitVec.ofInt 8 x ^^^ BitVec.ofInt 8 y).toNat : Nat) ≤ 255
  rw [u8w]
  omega
theorem xor_same (x y : Int) (hx : 0 ≤ x ∧ x ≤ 255) (hy : 0 ≤ y ∧ y ≤ 255) : bits .xor .u8 x y = x ↔ y = 0 := by
  have e : bits .xor .u8 x y = ((BitVec.ofInt 8 x ^^^ BitVec.ofInt 8 y).toNat : Int) := by
    show IntKind.u8.wrap ((BitVec.ofInt 8 x ^^^ BitVec.ofInt 8 y).toNat : Nat) = _
    rw [u8w]
    have := (BitVec.ofInt 8 x ^^^ BitVec.ofInt 8 y).isLt
    omega
  have ex : ((BitVec.ofInt 8 x).toNat : Int) = x := by
    rw [BitVec.toNat_ofInt]
    omega
  have ey : ((BitVec.ofInt 8 y).toNat : Int) = y := by
    rw [BitVec.toNat_ofInt]
    omega
  rw [e]
  constructor
  · intro h
    have h1 : (BitVec.ofInt 8 x ^^^ BitVec.ofInt 8 y).toNat = (BitVec.ofInt 8 x).toNat := by omega
    have h2 := BitVec.eq_of_toNat_eq h1
    have h3 : BitVec.ofInt 8 y = 0#8 := by
      have := congrArg (fun q => BitVec.ofInt 8 x ^^^ q) h2
      simpa [← BitVec.xor_assoc] using this
    rw [h3] at ey
    simpa using ey.symm
  · intro h
    subst h
    simp
    simpa [BitVec.toNat_ofInt] using ex
def u8l (x : Int) : UInt8 := UInt8.ofNat x.toNat
theorem u8l_nat (x : Int) (h : 0 ≤ x ∧ x ≤ 255) : ((u8l x).toNat : Int) = x := by
  unfold u8l
  rw [ofNat_toNat8 _ (by omega)]
  omega
theorem u8l_inj (x y : Int) (hx : 0 ≤ x ∧ x ≤ 255) (hy : 0 ≤ y ∧ y ≤ 255) (h : u8l x = u8l y) : x = y := by
  rw [← u8l_nat x hx, h, u8l_nat y hy]
/-- Four bytes in a block of their own. -/
theorem bts_four (w : World) (b : Nat) (x y z t : Int) (hx : 0 ≤ x ∧ x ≤ 255) (hy : 0 ≤ y ∧ y ≤ 255) (hz : 0 ≤ z ∧ z ≤ 255) (ht : 0 ≤ t ∧ t ≤ 255)
    (h : w.heap[b]? = some (.cells #[.int .u8 x, .int .u8 y, .int .u8 z, .int .u8 t] 22 (0, 0))) : Bts w (.slice (some ⟨b, 0, none⟩) 4 4) [u8l x, u8l y, u8l z, u8l t] := by
  refine ⟨_, 4, rfl, Nat.le_refl _, by unfold maxLen; omega, fun j u hu => ⟨b, 0, rfl, ?_⟩⟩
  rw [Lib.cell_of_heap h]
  match j, hu with
  | 0, hu => simp at hu; subst hu; simp [u8l_nat x hx]
  | 1, hu => simp at hu; subst hu; simp [u8l_nat y hy]
  | 2, hu => simp at hu; subst hu; simp [u8l_nat z hz]
  | 3, hu => simp at hu; subst hu; simp [u8l_nat t ht]
  | j + 4, hu => simp at hu
set_option maxHeartbeats 8000000 in
set_option maxRecDepth 100000 in
theorem total_0 (x0 x1 x2 x3 a y : Int) (w : World) (c : Bool) (i i' : Int × Int × Int × Int) (de df : Int) (ha : 0 ≤ a ∧ a ≤ 255) (hat : a % 4 = 0) (hc : (y == 0) = c)
    (hr : (de = 0 ∧ df = 0 ∧ decide (i = i') = c) ∨ (de = 3 ∧ i = (0, 0, 0, 0) ∧ (df = 0 ∨ df = 3)) ∨ (de = 0 ∧ df = 3))
    (c1 : ∀ w b, w.heap[b]? = some (.cells #[.int .u8 x0, .int .u8 x1, .int .u8 x2, .int .u8 x3] 22 (0, 0)) → Calls Tryd.prog 4 #[.slice (some ⟨b, 0, none⟩) 4 4] w fun e w' => e = .returned (.tuple #[.agg #[.int .u8 i.1, .int .u8 i.2.1, .int .u8 i.2.2.1, .int .u16 i.2.2.2], .int .i64 de]) ∧ Below w.heap.size w w')
    (c2 : ∀ w b, w.heap[b]? = some (.cells #[.int .u8 (bits .xor .u8 x0 y), .int .u8 x1, .int .u8 x2, .int .u8 x3] 22 (0, 0)) → Calls Tryd.prog 4 #[.slice (some ⟨b, 0, none⟩) 4 4] w fun e w' => e = .returned (.tuple #[.agg #[.int .u8 i'.1, .int .u8 i'.2.1, .int .u8 i'.2.2.1, .int .u16 i'.2.2.2], .int .i64 df]) ∧ Below w.heap.size w w')
    (hW : Wds w) (hT : Tabs w) (hP : Pow w) :
    Calls Tryd.prog 3 #[.agg #[.int .u8 x0, .int .u8 x1, .int .u8 x2, .int .u8 x3], .int .u8 a, .int .u8 y] w fun e w' => e = .returned (.bool true) ∧ Below w.heap.size w w' := by
  have cV := fun w h1 h2 h3 => ilive_any w h1 h2 h3
  have ht : a.tmod 4 = 0 := by rw [Int.tmod_eq_emod_of_nonneg ha.1]; exact hat
  obtain ⟨o0, o1, o2, o3⟩ := i
  obtain ⟨p0, p1, p2, p3⟩ := i'
  simp only at c1 c2
  have eG := eqGuardI
  have HR : Hid ((de = 0 ∧ df = 0 ∧ decide ((o0, o1, o2, o3) = (p0, p1, p2, p3)) = c) ∨ (de = 3 ∧ (o0, o1, o2, o3) = (0, 0, 0, 0) ∧ (df = 0 ∨ df = 3)) ∨ (de = 0 ∧ df = 3)) := hr
  clear hr hat
  have h0 := World.alloc_heap_new w (.cells #[.int .u8 x0, .int .u8 x1, .int .u8 x2, .int .u8 x3] 22)
  go_enter Tryd.func3, Tryd.ntmps3
  go_wp2_with fail
  refine (c1 _ _ h0).mono ?_
  rintro e W1 ⟨rfl, hB1⟩
  rw [World.size_alloc] at hB1
  have k1 : W1.heap[w.heap.size]? = some (.cells #[.int .u8 x0, .int .u8 x1, .int .u8 x2, .int .u8 x3] 22 (0, 0)) := (hB1.block _ (by omega)).trans h0
  have b1 : Below w.heap.size w W1 := ((Below.refl _ w).alloc (Nat.le_refl _) _).trans (hB1.mono (by omega))
  have hs1 : w.heap.size < W1.heap.size := (Array.getElem?_eq_some_iff.1 k1).1
  have k1' := (Lib.alloc_old W1 (.cells #[.int .u8 o0, .int .u8 o1, .int .u8 o2, .int .u16 o3] 27) w.heap.size hs1).trans k1
  have g0 : (W1.alloc (.cells #[.int .u8 o0, .int .u8 o1, .int .u8 o2, .int .u16 o3] 27)).cell? ⟨w.heap.size, 0, none⟩ = some (.int .u8 x0) := by rw [Lib.cell_of_heap k1']; rfl
  have g1 : (W1.alloc (.cells #[.int .u8 o0, .int .u8 o1, .int .u8 o2, .int .u16 o3] 27)).cell? ⟨w.heap.size, 1, none⟩ = some (.int .u8 x1) := by rw [Lib.cell_of_heap k1']; rfl
  have g2 : (W1.alloc (.cells #[.int .u8 o0, .int .u8 o1, .int .u8 o2, .int .u16 o3] 27)).cell? ⟨w.heap.size, 2, none⟩ = some (.int .u8 x2) := by rw [Lib.cell_of_heap k1']; rfl
  have g3 : (W1.alloc (.cells #[.int .u8 o0, .int .u8 o1, .int .u8 o2, .int .u16 o3] 27)).cell? ⟨w.heap.size, 3, none⟩ = some (.int .u8 x3) := by rw [Lib.cell_of_heap k1']; rfl
  have hF := Four.new W1 (.int .u8 o0) (.int .u8 o1) (.int .u8 o2) (.int .u16 o3)
  have b2 := b1.alloc (by omega) (.cells #[.int .u8 o0, .int .u8 o1, .int .u8 o2, .int .u16 o3] 27)
  have hsz : (W1.alloc (.cells #[.int .u8 o0, .int .u8 o1, .int .u8 o2, .int .u16 o3] 27)).heap.size = W1.heap.size + 1 := by simp
  clear hB1 k1 k1' h0 c1
  have g4 := World.alloc_heap_new (W1.alloc (.cells #[.int .u8 o0, .int .u8 o1, .int .u8 o2, .int .u16 o3] 27)) (.cells #[.int .u8 (bits .xor .u8 x0 y), .int .u8 x1, .int .u8 x2, .int .u8 x3] 22)
  rw [hsz] at g4
  clear hsz
  go_wp2_with fail
  refine (c2 _ _ g4).mono ?_
  rintro e W3 ⟨rfl, hB3⟩
  rw [World.size_alloc, World.size_alloc] at hB3
  have hF3 := ((hF.alloc (.cells #[.int .u8 (bits .xor .u8 x0 y), .int .u8 x1, .int .u8 x2, .int .u8 x3] 22)).below hB3 (by omega)).alloc (.cells #[.int .u8 p0, .int .u8 p1, .int .u8 p2, .int .u16 p3] 27)
  have hG3 := Four.new W3 (.int .u8 p0) (.int .u8 p1) (.int .u8 p2) (.int .u16 p3)
  have hs3 : W1.heap.size + 1 + 1 ≤ W3.heap.size := by have := hB3.size; simpa using this
  have b3' : Below w.heap.size w W3 := (b2.alloc (by simp; omega) (.cells #[.int .u8 (bits .xor .u8 x0 y), .int .u8 x1, .int .u8 x2, .int .u8 x3] 22)).trans (hB3.mono (by omega))
  have b3 := b3'.alloc b3'.size (.cells #[.int .u8 p0, .int .u8 p1, .int .u8 p2, .int .u16 p3] 27)
  have f0 := hF3.c0
  have f1 := hF3.c1
  have f2 := hF3.c2
  have f3 := hF3.c3
  have f4 := hG3.c0
  have f5 := hG3.c1
  have f6 := hG3.c2
  have f7 := hG3.c3
  have hsz3 : (W3.alloc (.cells #[.int .u8 p0, .int .u8 p1, .int .u8 p2, .int .u16 p3] 27)).heap.size = W3.heap.size + 1 := by simp
  clear g0 g1 g2 g3 g4 hB3 hF b1 b2 b3' c2 hF3 hG3
  have cV' := cV (W3.alloc (.cells #[.int .u8 p0, .int .u8 p1, .int .u8 p2, .int .u16 p3] 27)) (hW.later b3) (hT.later b3) (hP.later b3)
  rcases HR.out with ⟨rfl, rfl, hi⟩ | ⟨rfl, hi, hdf⟩ | ⟨rfl, rfl⟩
  · have eI : ∀ w, (Op.equalIn 10000 27 (.agg #[.int .u8 o0, .int .u8 o1, .int .u8 o2, .int .u16 o3]) (.agg #[.int .u8 p0, .int .u8 p1, .int .u8 p2, .int .u16 p3])).run Tryd.prog w = .ok c w := fun w => by rw [eqIns, hi]
    clear HR hi
    cases c
    all_goals
      go_wp2_with fail
      refine cV'.mono ?_
      rintro e W5 ⟨rfl, hB5⟩
      go_wp2
      go_ret
      exact ⟨rfl, b3.trans (hB5.mono b3.size)⟩
  · injection hi with e0 hi
    injection hi with e1 hi
    injection hi with e2 e3
    subst e0 e1 e2 e3
    have eI : ∀ w, (Op.equalIn 10000 27 (.agg #[.int .u8 0, .int .u8 0, .int .u8 0, .int .u16 0]) (.agg #[.int .u8 0, .int .u8 0, .int .u8 0, .int .u16 0])).run Tryd.prog w = .ok true w := fun w => by rw [eqIns]; simp
    clear HR
    have f0' := f0
    rcases hdf with rfl | rfl
    all_goals
      go_wp2_with fail
      refine cV'.mono ?_
      rintro e W5 ⟨rfl, hB5⟩
      have q0 := (hB5.cell (p := ⟨W1.heap.size, 0, none⟩) (by rw [hsz3]; show W1.heap.size < _; omega)).trans f0
      have q1 := (hB5.cell (p := ⟨W1.heap.size, 1, none⟩) (by rw [hsz3]; show W1.heap.size < _; omega)).trans f1
      have q2 := (hB5.cell (p := ⟨W1.heap.size, 2, none⟩) (by rw [hsz3]; show W1.heap.size < _; omega)).trans f2
      have q3 := (hB5.cell (p := ⟨W1.heap.size, 3, none⟩) (by rw [hsz3]; show W1.heap.size < _; omega)).trans f3
      go_wp2
      go_ret
      exact ⟨rfl, b3.trans (hB5.mono b3.size)⟩
  · clear HR
    go_wp2_with fail
    refine cV'.mono ?_
    rintro e W5 ⟨rfl, hB5⟩
    go_wp2
    go_ret
    exact ⟨rfl, b3.trans (hB5.mono b3.size)⟩
set_option maxHeartbeats 8000000 in
set_option maxRecDepth 100000 in
theorem total_1 (x0 x1 x2 x3 a y : Int) (w : World) (c : Bool) (i i' : Int × Int × Int × Int) (de df : Int) (ha : 0 ≤ a ∧ a ≤ 255) (hat : a % 4 = 1) (hc : (y == 0) = c)
    (hr : (de = 0 ∧ df = 0 ∧ decide (i = i') = c) ∨ (de = 3 ∧ i = (0, 0, 0, 0) ∧ (df = 0 ∨ df = 3)) ∨ (de = 0 ∧ df = 3))
    (c1 : ∀ w b, w.heap[b]? = some (.cells #[.int .u8 x0, .int .u8 x1, .int .u8 x2, .int .u8 x3] 22 (0, 0)) → Calls Tryd.prog 4 #[.slice (some ⟨b, 0, none⟩) 4 4] w fun e w' => e = .returned (.tuple #[.agg #[.int .u8 i.1, .int .u8 i.2.1, .int .u8 i.2.2.1, .int .u16 i.2.2.2], .int .i64 de]) ∧ Below w.heap.size w w')
    (c2 : ∀ w b, w.heap[b]? = some (.cells #[.int .u8 x0, .int .u8 (bits .xor .u8 x1 y), .int .u8 x2, .int .u8 x3] 22 (0, 0)) → Calls Tryd.prog 4 #[.slice (some ⟨b, 0, none⟩) 4 4] w fun e w' => e = .returned (.tuple #[.agg #[.int .u8 i'.1, .int .u8 i'.2.1, .int .u8 i'.2.2.1, .int .u16 i'.2.2.2], .int .i64 df]) ∧ Below w.heap.size w w')
    (hW : Wds w) (hT : Tabs w) (hP : Pow w) :
    Calls Tryd.prog 3 #[.agg #[.int .u8 x0, .int .u8 x1, .int .u8 x2, .int .u8 x3], .int .u8 a, .int .u8 y] w fun e w' => e = .returned (.bool true) ∧ Below w.heap.size w w' := by
  have cV := fun w h1 h2 h3 => ilive_any w h1 h2 h3
  have ht : a.tmod 4 = 1 := by rw [Int.tmod_eq_emod_of_nonneg ha.1]; exact hat
  obtain ⟨o0, o1, o2, o3⟩ := i
  obtain ⟨p0, p1, p2, p3⟩ := i'
  simp only at c1 c2
  have eG := eqGuardI
  have HR : Hid ((de = 0 ∧ df = 0 ∧ decide ((o0, o1, o2, o3) = (p0, p1, p2, p3)) = c) ∨ (de = 3 ∧ (o0, o1, o2, o3) = (0, 0, 0, 0) ∧ (df = 0 ∨ df = 3)) ∨ (de = 0 ∧ df = 3)) := hr
  clear hr hat
  have h0 := World.alloc_heap_new w (.cells #[.int .u8 x0, .int .u8 x1, .int .u8 x2, .int .u8 x3] 22)
  go_enter Tryd.func3, Tryd.ntmps3
  go_wp2_with fail
  refine (c1 _ _ h0).mono ?_
  rintro e W1 ⟨rfl, hB1⟩
  rw [World.size_alloc] at hB1
  have k1 : W1.heap[w.heap.size]? = some (.cells #[.int .u8 x0, .int .u8 x1, .int .u8 x2, .int .u8 x3] 22 (0, 0)) := (hB1.block _ (by omega)).trans h0
  have b1 : Below w.heap.size w W1 := ((Below.refl _ w).alloc (Nat.le_refl _) _).trans (hB1.mono (by omega))
  have hs1 : w.heap.size < W1.heap.size := (Array.getElem?_eq_some_iff.1 k1).1
  have k1' := (Lib.alloc_old W1 (.cells #[.int .u8 o0, .int .u8 o1, .int .u8 o2, .int .u16 o3] 27) w.heap.size hs1).trans k1
  have g0 : (W1.alloc (.cells #[.int .u8 o0, .int .u8 o1, .int .u8 o2, .int .u16 o3] 27)).cell? ⟨w.heap.size, 0, none⟩ = some (.int .u8 x0) := by rw [Lib.cell_of_heap k1']; rfl
  have g1 : (W1.alloc (.cells #[.int .u8 o0, .int .u8 o1, .int .u8 o2, .int .u16 o3] 27)).cell? ⟨w.heap.size, 1, none⟩ = some (.int .u8 x1) := by rw [Lib.cell_of_heap k1']; rfl
  have g2 : (W1.alloc (.cells #[.int .u8 o0, .int .u8 o1, .int .u8 o2, .int .u16 o3] 27)).cell? ⟨w.heap.size, 2, none⟩ = some (.int .u8 x2) := by rw [Lib.cell_of_heap k1']; rfl
  have g3 : (W1.alloc (.cells #[.int .u8 o0, .int .u8 o1, .int .u8 o2, .int .u16 o3] 27)).cell? ⟨w.heap.size, 3, none⟩ = some (.int .u8 x3) := by rw [Lib.cell_of_heap k1']; rfl
  have hF := Four.new W1 (.int .u8 o0) (.int .u8 o1) (.int .u8 o2) (.int .u16 o3)
  have b2 := b1.alloc (by omega) (.cells #[.int .u8 o0, .int .u8 o1, .int .u8 o2, .int .u16 o3] 27)
  have hsz : (W1.alloc (.cells #[.int .u8 o0, .int .u8 o1, .int .u8 o2, .int .u16 o3] 27)).heap.size = W1.heap.size + 1 := by simp
  clear hB1 k1 k1' h0 c1
  have g4 := World.alloc_heap_new (W1.alloc (.cells #[.int .u8 o0, .int .u8 o1, .int .u8 o2, .int .u16 o3] 27)) (.cells #[.int .u8 x0, .int .u8 (bits .xor .u8 x1 y), .int .u8 x2, .int .u8 x3] 22)
  rw [hsz] at g4
  clear hsz
  go_wp2_with fail
  refine (c2 _ _ g4).mono ?_
  rintro e W3 ⟨rfl, hB3⟩
  rw [World.size_alloc, World.size_alloc] at hB3
  have hF3 := ((hF.alloc (.cells #[.int .u8 x0, .int .u8 (bits .xor .u8 x1 y), .int .u8 x2, .int .u8 x3] 22)).below hB3 (by omega)).alloc (.cells #[.int .u8 p0, .int .u8 p1, .int .u8 p2, .int .u16 p3] 27)
  have hG3 := Four.new W3 (.int .u8 p0) (.int .u8 p1) (.int .u8 p2) (.int .u16 p3)
  have hs3 : W1.heap.size + 1 + 1 ≤ W3.heap.size := by have := hB3.size; simpa using this
  have b3' : Below w.heap.size w W3 := (b2.alloc (by simp; omega) (.cells #[.int .u8 x0, .int .u8 (bits .xor .u8 x1 y), .int .u8 x2, .int .u8 x3] 22)).trans (hB3.mono (by omega))
  have b3 := b3'.alloc b3'.size (.cells #[.int .u8 p0, .int .u8 p1, .int .u8 p2, .int .u16 p3] 27)
  have f0 := hF3.c0
  have f1 := hF3.c1
  have f2 := hF3.c2
  have f3 := hF3.c3
  have f4 := hG3.c0
  have f5 := hG3.c1
  have f6 := hG3.c2
  have f7 := hG3.c3
  have hsz3 : (W3.alloc (.cells #[.int .u8 p0, .int .u8 p1, .int .u8 p2, .int .u16 p3] 27)).heap.size = W3.heap.size + 1 := by simp
  clear g0 g1 g2 g3 g4 hB3 hF b1 b2 b3' c2 hF3 hG3
  have cV' := cV (W3.alloc (.cells #[.int .u8 p0, .int .u8 p1, .int .u8 p2, .int .u16 p3] 27)) (hW.later b3) (hT.later b3) (hP.later b3)
  rcases HR.out with ⟨rfl, rfl, hi⟩ | ⟨rfl, hi, hdf⟩ | ⟨rfl, rfl⟩
  · have eI : ∀ w, (Op.equalIn 10000 27 (.agg #[.int .u8 o0, .int .u8 o1, .int .u8 o2, .int .u16 o3]) (.agg #[.int .u8 p0, .int .u8 p1, .int .u8 p2, .int .u16 p3])).run Tryd.prog w = .ok c w := fun w => by rw [eqIns, hi]
    clear HR hi
    cases c
    all_goals
      go_wp2_with fail
      refine cV'.mono ?_
      rintro e W5 ⟨rfl, hB5⟩
      go_wp2
      go_ret
      exact ⟨rfl, b3.trans (hB5.mono b3.size)⟩
  · injection hi with e0 hi
    injection hi with e1 hi
    injection hi with e2 e3
    subst e0 e1 e2 e3
    have eI : ∀ w, (Op.equalIn 10000 27 (.agg #[.int .u8 0, .int .u8 0, .int .u8 0, .int .u16 0]) (.agg #[.int .u8 0, .int .u8 0, .int .u8 0, .int .u16 0])).run Tryd.prog w = .ok true w := fun w => by rw [eqIns]; simp
    clear HR
    have f0' := f0
    rcases hdf with rfl | rfl
    all_goals
      go_wp2_with fail
      refine cV'.mono ?_
      rintro e W5 ⟨rfl, hB5⟩
      have q0 := (hB5.cell (p := ⟨W1.heap.size, 0, none⟩) (by rw [hsz3]; show W1.heap.size < _; omega)).trans f0
      have q1 := (hB5.cell (p := ⟨W1.heap.size, 1, none⟩) (by rw [hsz3]; show W1.heap.size < _; omega)).trans f1
      have q2 := (hB5.cell (p := ⟨W1.heap.size, 2, none⟩) (by rw [hsz3]; show W1.heap.size < _; omega)).trans f2
      have q3 := (hB5.cell (p := ⟨W1.heap.size, 3, none⟩) (by rw [hsz3]; show W1.heap.size < _; omega)).trans f3
      go_wp2
      go_ret
      exact ⟨rfl, b3.trans (hB5.mono b3.size)⟩
  · clear HR
    go_wp2_with fail
    refine cV'.mono ?_
    rintro e W5 ⟨rfl, hB5⟩
    go_wp2
    go_ret
    exact ⟨rfl, b3.trans (hB5.mono b3.size)⟩
set_option maxHeartbeats 8000000 in
set_option maxRecDepth 100000 in
theorem total_2 (x0 x1 x2 x3 a y : Int) (w : World) (c : Bool) (i i' : Int × Int × Int × Int) (de df : Int) (ha : 0 ≤ a ∧ a ≤ 255) (hat : a % 4 = 2) (hc : (y == 0) = c)
    (hr : (de = 0 ∧ df = 0 ∧ decide (i = i') = c) ∨ (de = 3 ∧ i = (0, 0, 0, 0) ∧ (df = 0 ∨ df = 3)) ∨ (de = 0 ∧ df = 3))
    (c1 : ∀ w b, w.heap[b]? = some (.cells #[.int .u8 x0, .int .u8 x1, .int .u8 x2, .int .u8 x3] 22 (0, 0)) → Calls Tryd.prog 4 #[.slice (some ⟨b, 0, none⟩) 4 4] w fun e w' => e = .returned (.tuple #[.agg #[.int .u8 i.1, .int .u8 i.2.1, .int .u8 i.2.2.1, .int .u16 i.2.2.2], .int .i64 de]) ∧ Below w.heap.size w w')
    (c2 : ∀ w b, w.heap[b]? = some (.cells #[.int .u8 x0, .int .u8 x1, .int .u8 (bits .xor .u8 x2 y), .int .u8 x3] 22 (0, 0)) → Calls Tryd.prog 4 #[.slice (some ⟨b, 0, none⟩) 4 4] w fun e w' => e = .returned (.tuple #[.agg #[.int .u8 i'.1, .int .u8 i'.2.1, .int .u8 i'.2.2.1, .int .u16 i'.2.2.2], .int .i64 df]) ∧ Below w.heap.size w w')
    (hW : Wds w) (hT : Tabs w) (hP : Pow w) :
    Calls Tryd.prog 3 #[.agg #[.int .u8 x0, .int .u8 x1, .int .u8 x2, .int .u8 x3], .int .u8 a, .int .u8 y] w fun e w' => e = .returned (.bool true) ∧ Below w.heap.size w w' := by
  have cV := fun w h1 h2 h3 => ilive_any w h1 h2 h3
  have ht : a.tmod 4 = 2 := by rw [Int.tmod_eq_emod_of_nonneg ha.1]; exact hat
  obtain ⟨o0, o1, o2, o3⟩ := i
  obtain ⟨p0, p1, p2, p3⟩ := i'
  simp only at c1 c2
  have eG := eqGuardI
  have HR : Hid ((de = 0 ∧ df = 0 ∧ decide ((o0, o1, o2, o3) = (p0, p1, p2, p3)) = c) ∨ (de = 3 ∧ (o0, o1, o2, o3) = (0, 0, 0, 0) ∧ (df = 0 ∨ df = 3)) ∨ (de = 0 ∧ df = 3)) := hr
  clear hr hat
  have h0 := World.alloc_heap_new w (.cells #[.int .u8 x0, .int .u8 x1, .int .u8 x2, .int .u8 x3] 22)
  go_enter Tryd.func3, Tryd.ntmps3
  go_wp2_with fail
  refine (c1 _ _ h0).mono ?_
  rintro e W1 ⟨rfl, hB1⟩
  rw [World.size_alloc] at hB1
  have k1 : W1.heap[w.heap.size]? = some (.cells #[.int .u8 x0, .int .u8 x1, .int .u8 x2, .int .u8 x3] 22 (0, 0)) := (hB1.block _ (by omega)).trans h0
  have b1 : Below w.heap.size w W1 := ((Below.refl _ w).alloc (Nat.le_refl _) _).trans (hB1.mono (by omega))
  have hs1 : w.heap.size < W1.heap.size := (Array.getElem?_eq_some_iff.1 k1).1
  have k1' := (Lib.alloc_old W1 (.cells #[.int .u8 o0, .int .u8 o1, .int .u8 o2, .int .u16 o3] 27) w.heap.size hs1).trans k1
  have g0 : (W1.alloc (.cells #[.int .u8 o0, .int .u8 o1, .int .u8 o2, .int .u16 o3] 27)).cell? ⟨w.heap.size, 0, none⟩ = some (.int .u8 x0) := by rw [Lib.cell_of_heap k1']; rfl
  have g1 : (W1.alloc (.cells #[.int .u8 o0, .int .u8 o1, .int .u8 o2, .int .u16 o3] 27)).cell? ⟨w.heap.size, 1, none⟩ = some (.int .u8 x1) := by rw [Lib.cell_of_heap k1']; rfl
  have g2 : (W1.alloc (.cells #[.int .u8 o0, .int .u8 o1, .int .u8 o2, .int .u16 o3] 27)).cell? ⟨w.heap.size, 2, none⟩ = some (.int .u8 x2) := by rw [Lib.cell_of_heap k1']; rfl
  have g3 : (W1.alloc (.cells #[.int .u8 o0, .int .u8 o1, .int .u8 o2, .int .u16 o3] 27)).cell? ⟨w.heap.size, 3, none⟩ = some (.int .u8 x3) := by rw [Lib.cell_of_heap k1']; rfl
  have hF := Four.new W1 (.int .u8 o0) (.int .u8 o1) (.int .u8 o2) (.int .u16 o3)
  have b2 := b1.alloc (by omega) (.cells #[.int .u8 o0, .int .u8 o1, .int .u8 o2, .int .u16 o3] 27)
  have hsz : (W1.alloc (.cells #[.int .u8 o0, .int .u8 o1, .int .u8 o2, .int .u16 o3] 27)).heap.size = W1.heap.size + 1 := by simp
  clear hB1 k1 k1' h0 c1
  have g4 := World.alloc_heap_new (W1.alloc (.cells #[.int .u8 o0, .int .u8 o1, .int .u8 o2, .int .u16 o3] 27)) (.cells #[.int .u8 x0, .int .u8 x1, .int .u8 (bits .xor .u8 x2 y), .int .u8 x3] 22)
  rw [hsz] at g4
  clear hsz
  go_wp2_with fail
  refine (c2 _ _ g4).mono ?_
  rintro e W3 ⟨rfl, hB3⟩
  rw [World.size_alloc, World.size_alloc] at hB3
  have hF3 := ((hF.alloc (.cells #[.int .u8 x0, .int .u8 x1, .int .u8 (bits .xor .u8 x2 y), .int .u8 x3] 22)).below hB3 (by omega)).alloc (.cells #[.int .u8 p0, .int .u8 p1, .int .u8 p2, .int .u16 p3] 27)
  have hG3 := Four.new W3 (.int .u8 p0) (.int .u8 p1) (.int .u8 p2) (.int .u16 p3)
  have hs3 : W1.heap.size + 1 + 1 ≤ W3.heap.size := by have := hB3.size; simpa using this
  have b3' : Below w.heap.size w W3 := (b2.alloc (by simp; omega) (.cells #[.int .u8 x0, .int .u8 x1, .int .u8 (bits .xor .u8 x2 y), .int .u8 x3] 22)).trans (hB3.mono (by omega))
  have b3 := b3'.alloc b3'.size (.cells #[.int .u8 p0, .int .u8 p1, .int .u8 p2, .int .u16 p3] 27)
  have f0 := hF3.c0
  have f1 := hF3.c1
  have f2 := hF3.c2
  have f3 := hF3.c3
  have f4 := hG3.c0
  have f5 := hG3.c1
  have f6 := hG3.c2
  have f7 := hG3.c3
  have hsz3 : (W3.alloc (.cells #[.int .u8 p0, .int .u8 p1, .int .u8 p2, .int .u16 p3] 27)).heap.size = W3.heap.size + 1 := by simp
  clear g0 g1 g2 g3 g4 hB3 hF b1 b2 b3' c2 hF3 hG3
  have cV' := cV (W3.alloc (.cells #[.int .u8 p0, .int .u8 p1, .int .u8 p2, .int .u16 p3] 27)) (hW.later b3) (hT.later b3) (hP.later b3)
  rcases HR.out with ⟨rfl, rfl, hi⟩ | ⟨rfl, hi, hdf⟩ | ⟨rfl, rfl⟩
  · have eI : ∀ w, (Op.equalIn 10000 27 (.agg #[.int .u8 o0, .int .u8 o1, .int .u8 o2, .int .u16 o3]) (.agg #[.int .u8 p0, .int .u8 p1, .int .u8 p2, .int .u16 p3])).run Tryd.prog w = .ok c w := fun w => by rw [eqIns, hi]
    clear HR hi
    cases c
    all_goals
      go_wp2_with fail
      refine cV'.mono ?_
      rintro e W5 ⟨rfl, hB5⟩
      go_wp2
      go_ret
      exact ⟨rfl, b3.trans (hB5.mono b3.size)⟩
  · injection hi with e0 hi
    injection hi with e1 hi
    injection hi with e2 e3
    subst e0 e1 e2 e3
    have eI : ∀ w, (Op.equalIn 10000 27 (.agg #[.int .u8 0, .int .u8 0, .int .u8 0, .int .u16 0]) (.agg #[.int .u8 0, .int .u8 0, .int .u8 0, .int .u16 0])).run Tryd.prog w = .ok true w := fun w => by rw [eqIns]; simp
    clear HR
    have f0' := f0
    rcases hdf with rfl | rfl
    all_goals
      go_wp2_with fail
      refine cV'.mono ?_
      rintro e W5 ⟨rfl, hB5⟩
      have q0 := (hB5.cell (p := ⟨W1.heap.size, 0, none⟩) (by rw [hsz3]; show W1.heap.size < _; omega)).trans f0
      have q1 := (hB5.cell (p := ⟨W1.heap.size, 1, none⟩) (by rw [hsz3]; show W1.heap.size < _; omega)).trans f1
      have q2 := (hB5.cell (p := ⟨W1.heap.size, 2, none⟩) (by rw [hsz3]; show W1.heap.size < _; omega)).trans f2
      have q3 := (hB5.cell (p := ⟨W1.heap.size, 3, none⟩) (by rw [hsz3]; show W1.heap.size < _; omega)).trans f3
      go_wp2
      go_ret
      exact ⟨rfl, b3.trans (hB5.mono b3.size)⟩
  · clear HR
    go_wp2_with fail
    refine cV'.mono ?_
    rintro e W5 ⟨rfl, hB5⟩
    go_wp2
    go_ret
    exact ⟨rfl, b3.trans (hB5.mono b3.size)⟩
set_option maxHeartbeats 8000000 in
set_option maxRecDepth 100000 in
theorem total_3 (x0 x1 x2 x3 a y : Int) (w : World) (c : Bool) (i i' : Int × Int × Int × Int) (de df : Int) (ha : 0 ≤ a ∧ a ≤ 255) (hat : a % 4 = 3) (hc : (y == 0) = c)
    (hr : (de = 0 ∧ df = 0 ∧ decide (i = i') = c) ∨ (de = 3 ∧ i = (0, 0, 0, 0) ∧ (df = 0 ∨ df = 3)) ∨ (de = 0 ∧ df = 3))
    (c1 : ∀ w b, w.heap[b]? = some (.cells #[.int .u8 x0, .int .u8 x1, .int .u8 x2, .int .u8 x3] 22 (0, 0)) → Calls Tryd.prog 4 #[.slice (some ⟨b, 0, none⟩) 4 4] w fun e w' => e = .returned (.tuple #[.agg #[.int .u8 i.1, .int .u8 i.2.1, .int .u8 i.2.2.1, .int .u16 i.2.2.2], .int .i64 de]) ∧ Below w.heap.size w w')
    (c2 : ∀ w b, w.heap[b]? = some (.cells #[.int .u8 x0, .int .u8 x1, .int .u8 x2, .int .u8 (bits .xor .u8 x3 y)] 22 (0, 0)) → Calls Tryd.prog 4 #[.slice (some ⟨b, 0, none⟩) 4 4] w fun e w' => e = .returned (.tuple #[.agg #[.int .u8 i'.1, .int .u8 i'.2.1, .int .u8 i'.2.2.1, .int .u16 i'.2.2.2], .int .i64 df]) ∧ Below w.heap.size w w')
    (hW : Wds w) (hT : Tabs w) (hP : Pow w) :
    Calls Tryd.prog 3 #[.agg #[.int .u8 x0, .int .u8 x1, .int .u8 x2, .int .u8 x3], .int .u8 a, .int .u8 y] w fun e w' => e = .returned (.bool true) ∧ Below w.heap.size w w' := by
  have cV := fun w h1 h2 h3 => ilive_any w h1 h2 h3
  have ht : a.tmod 4 = 3 := by rw [Int.tmod_eq_emod_of_nonneg ha.1]; exact hat
  obtain ⟨o0, o1, o2, o3⟩ := i
  obtain ⟨p0, p1, p2, p3⟩ := i'
  simp only at c1 c2
  have eG := eqGuardI
  have HR : Hid ((de = 0 ∧ df = 0 ∧ decide ((o0, o1, o2, o3) = (p0, p1, p2, p3)) = c) ∨ (de = 3 ∧ (o0, o1, o2, o3) = (0, 0, 0, 0) ∧ (df = 0 ∨ df = 3)) ∨ (de = 0 ∧ df = 3)) := hr
  clear hr hat
  have h0 := World.alloc_heap_new w (.cells #[.int .u8 x0, .int .u8 x1, .int .u8 x2, .int .u8 x3] 22)
  go_enter Tryd.func3, Tryd.ntmps3
  go_wp2_with fail
  refine (c1 _ _ h0).mono ?_
  rintro e W1 ⟨rfl, hB1⟩
  rw [World.size_alloc] at hB1
  have k1 : W1.heap[w.heap.size]? = some (.cells #[.int .u8 x0, .int .u8 x1, .int .u8 x2, .int .u8 x3] 22 (0, 0)) := (hB1.block _ (by omega)).trans h0
  have b1 : Below w.heap.size w W1 := ((Below.refl _ w).alloc (Nat.le_refl _) _).trans (hB1.mono (by omega))
  have hs1 : w.heap.size < W1.heap.size := (Array.getElem?_eq_some_iff.1 k1).1
  have k1' := (Lib.alloc_old W1 (.cells #[.int .u8 o0, .int .u8 o1, .int .u8 o2, .int .u16 o3] 27) w.heap.size hs1).trans k1
  have g0 : (W1.alloc (.cells #[.int .u8 o0, .int .u8 o1, .int .u8 o2, .int .u16 o3] 27)).cell? ⟨w.heap.size, 0, none⟩ = some (.int .u8 x0) := by rw [Lib.cell_of_heap k1']; rfl
  have g1 : (W1.alloc (.cells #[.int .u8 o0, .int .u8 o1, .int .u8 o2, .int .u16 o3] 27)).cell? ⟨w.heap.size, 1, none⟩ = some (.int .u8 x1) := by rw [Lib.cell_of_heap k1']; rfl
  have g2 : (W1.alloc (.cells #[.int .u8 o0, .int .u8 o1, .int .u8 o2, .int .u16 o3] 27)).cell? ⟨w.heap.size, 2, none⟩ = some (.int .u8 x2) := by rw [Lib.cell_of_heap k1']; rfl
  have g3 : (W1.alloc (.cells #[.int .u8 o0, .int .u8 o1, .int .u8 o2, .int .u16 o3] 27)).cell? ⟨w.heap.size, 3, none⟩ = some (.int .u8 x3) := by rw [Lib.cell_of_heap k1']; rfl
  have hF := Four.new W1 (.int .u8 o0) (.int .u8 o1) (.int .u8 o2) (.int .u16 o3)
  have b2 := b1.alloc (by omega) (.cells #[.int .u8 o0, .int .u8 o1, .int .u8 o2, .int .u16 o3] 27)
  have hsz : (W1.alloc (.cells #[.int .u8 o0, .int .u8 o1, .int .u8 o2, .int .u16 o3] 27)).heap.size = W1.heap.size + 1 := by simp
  clear hB1 k1 k1' h0 c1
  have g4 := World.alloc_heap_new (W1.alloc (.cells #[.int .u8 o0, .int .u8 o1, .int .u8 o2, .int .u16 o3] 27)) (.cells #[.int .u8 x0, .int .u8 x1, .int .u8 x2, .int .u8 (bits .xor .u8 x3 y)] 22)
  rw [hsz] at g4
  clear hsz
  go_wp2_with fail
  refine (c2 _ _ g4).mono ?_
  rintro e W3 ⟨rfl, hB3⟩
  rw [World.size_alloc, World.size_alloc] at hB3
  have hF3 := ((hF.alloc (.cells #[.int .u8 x0, .int .u8 x1, .int .u8 x2, .int .u8 (bits .xor .u8 x3 y)] 22)).below hB3 (by omega)).alloc (.cells #[.int .u8 p0, .int .u8 p1, .int .u8 p2, .int .u16 p3] 27)
  have hG3 := Four.new W3 (.int .u8 p0) (.int .u8 p1) (.int .u8 p2) (.int .u16 p3)
  have hs3 : W1.heap.size + 1 + 1 ≤ W3.heap.size := by have := hB3.size; simpa using this
  have b3' : Below w.heap.size w W3 := (b2.alloc (by simp; omega) (.cells #[.int .u8 x0, .int .u8 x1, .int .u8 x2, .int .u8 (bits .xor .u8 x3 y)] 22)).trans (hB3.mono (by omega))
  have b3 := b3'.alloc b3'.size (.cells #[.int .u8 p0, .int .u8 p1, .int .u8 p2, .int .u16 p3] 27)
  have f0 := hF3.c0
  have f1 := hF3.c1
  have f2 := hF3.c2
  have f3 := hF3.c3
  have f4 := hG3.c0
  have f5 := hG3.c1
  have f6 := hG3.c2
  have f7 := hG3.c3
  have hsz3 : (W3.alloc (.cells #[.int .u8 p0, .int .u8 p1, .int .u8 p2, .int .u16 p3] 27)).heap.size = W3.heap.size + 1 := by simp
  clear g0 g1 g2 g3 g4 hB3 hF b1 b2 b3' c2 hF3 hG3
  have cV' := cV (W3.alloc (.cells #[.int .u8 p0, .int .u8 p1, .int .u8 p2, .int .u16 p3] 27)) (hW.later b3) (hT.later b3) (hP.later b3)
  rcases HR.out with ⟨rfl, rfl, hi⟩ | ⟨rfl, hi, hdf⟩ | ⟨rfl, rfl⟩
  · have eI : ∀ w, (Op.equalIn 10000 27 (.agg #[.int .u8 o0, .int .u8 o1, .int .u8 o2, .int .u16 o3]) (.agg #[.int .u8 p0, .int .u8 p1, .int .u8 p2, .int .u16 p3])).run Tryd.prog w = .ok c w := fun w => by rw [eqIns, hi]
    clear HR hi
    cases c
    all_goals
      go_wp2_with fail
      refine cV'.mono ?_
      rintro e W5 ⟨rfl, hB5⟩
      go_wp2
      go_ret
      exact ⟨rfl, b3.trans (hB5.mono b3.size)⟩
  · injection hi with e0 hi
    injection hi with e1 hi
    injection hi with e2 e3
    subst e0 e1 e2 e3
    have eI : ∀ w, (Op.equalIn 10000 27 (.agg #[.int .u8 0, .int .u8 0, .int .u8 0, .int .u16 0]) (.agg #[.int .u8 0, .int .u8 0, .int .u8 0, .int .u16 0])).run Tryd.prog w = .ok true w := fun w => by rw [eqIns]; simp
    clear HR
    have f0' := f0
    rcases hdf with rfl | rfl
    all_goals
      go_wp2_with fail
      refine cV'.mono ?_
      rintro e W5 ⟨rfl, hB5⟩
      have q0 := (hB5.cell (p := ⟨W1.heap.size, 0, none⟩) (by rw [hsz3]; show W1.heap.size < _; omega)).trans f0
      have q1 := (hB5.cell (p := ⟨W1.heap.size, 1, none⟩) (by rw [hsz3]; show W1.heap.size < _; omega)).trans f1
      have q2 := (hB5.cell (p := ⟨W1.heap.size, 2, none⟩) (by rw [hsz3]; show W1.heap.size < _; omega)).trans f2
      have q3 := (hB5.cell (p := ⟨W1.heap.size, 3, none⟩) (by rw [hsz3]; show W1.heap.size < _; omega)).trans f3
      go_wp2
      go_ret
      exact ⟨rfl, b3.trans (hB5.mono b3.size)⟩
  · clear HR
    go_wp2_with fail
    refine cV'.mono ?_
    rintro e W5 ⟨rfl, hB5⟩
    go_wp2
    go_ret
    exact ⟨rfl, b3.trans (hB5.mono b3.size)⟩
theorem decEV_get (r : Option (Int × Int × Int × Int)) : decEV r = .tuple #[.agg #[.int .u8 (r.getD (0, 0, 0, 0)).1, .int .u8 (r.getD (0, 0, 0, 0)).2.1, .int .u8 (r.getD (0, 0, 0, 0)).2.2.1, .int .u16 (r.getD (0, 0, 0, 0)).2.2.2], .int .i64 (if r.isSome then 0 else 3)] := by
  cases r <;> rfl
theorem dec_rel (l l' : List UInt8) (c : Bool) (h : (l = l') ↔ c = true) :
    ((if (decO l).isSome then (0 : Int) else 3) = 0 ∧ (if (decO l').isSome then (0 : Int) else 3) = 0 ∧ decide ((decO l).getD (0, 0, 0, 0) = (decO l').getD (0, 0, 0, 0)) = c) ∨ ((if (decO l).isSome then (0 : Int) else 3) = 3 ∧ (decO l).getD (0, 0, 0, 0) = (0, 0, 0, 0) ∧ ((if (decO l').isSome then (0 : Int) else 3) = 0 ∨ (if (decO l').isSome then (0 : Int) else 3) = 3)) ∨ ((if (decO l).isSome then (0 : Int) else 3) = 0 ∧ (if (decO l').isSome then (0 : Int) else 3) = 3) := by
  cases h1 : decO l with
  | none =>
    refine .inr (.inl ⟨rfl, rfl, ?_⟩)
    cases decO l' <;> simp
  | some i =>
    cases h2 : decO l' with
    | none => exact .inr (.inr ⟨rfl, rfl⟩)
    | some i' =>
      refine .inl ⟨rfl, rfl, ?_⟩
      simp only [Option.getD_some]
      obtain ⟨o, a, b, m⟩ := i
      obtain ⟨o', a', b', m'⟩ := i'
      obtain ⟨_, _, e1⟩ := enc_dec l o a b m h1
      obtain ⟨_, _, e2⟩ := enc_dec l' o' a' b' m' h2
      apply Bool.eq_iff_iff.2
      rw [decide_eq_true_eq, ← h]
      constructor
      · intro e
        injection e with q0 e
        injection e with q1 e
        injection e with q2 q3
        subst q0 q1 q2 q3
        rw [← e1, e2]
      · intro e
        subst e
        rw [h1] at h2
        exact Option.some.inj h2
theorem total_walk (x0 x1 x2 x3 a y : Int) (w : World) (hx : (0 ≤ x0 ∧ x0 ≤ 255) ∧ (0 ≤ x1 ∧ x1 ≤ 255) ∧ (0 ≤ x2 ∧ x2 ≤ 255) ∧ (0 ≤ x3 ∧ x3 ≤ 255)) (ha : 0 ≤ a) (ha2 : a ≤ 255) (hy : 0 ≤ y) (hy2 : y ≤ 255) (hW : Wds w) (hT : Tabs w) (hP : Pow w) :
    Calls Tryd.prog 3 #[.agg #[.int .u8 x0, .int .u8 x1, .int .u8 x2, .int .u8 x3], .int .u8 a, .int .u8 y] w fun e w' => e = .returned (.bool true) ∧ Below w.heap.size w w' := by
  obtain ⟨h0, h1, h2, h3⟩ := hx
  have hm : a % 4 = 0 ∨ a % 4 = 1 ∨ a % 4 = 2 ∨ a % 4 = 3 := by omega
  have cD : ∀ p q r s : Int, (0 ≤ p ∧ p ≤ 255) → (0 ≤ q ∧ q ≤ 255) → (0 ≤ r ∧ r ≤ 255) → (0 ≤ s ∧ s ≤ 255) → ∀ w b, w.heap[b]? = some (.cells #[.int .u8 p, .int .u8 q, .int .u8 r, .int .u8 s] 22 (0, 0)) → Calls Tryd.prog 4 #[.slice (some ⟨b, 0, none⟩) 4 4] w fun e w' => e = .returned (.tuple #[.agg #[.int .u8 ((decO [u8l p, u8l q, u8l r, u8l s]).getD (0, 0, 0, 0)).1, .int .u8 ((decO [u8l p, u8l q, u8l r, u8l s]).getD (0, 0, 0, 0)).2.1, .int .u8 ((decO [u8l p, u8l q, u8l r, u8l s]).getD (0, 0, 0, 0)).2.2.1, .int .u16 ((decO [u8l p, u8l q, u8l r, u8l s]).getD (0, 0, 0, 0)).2.2.2], .int .i64 (if (decO [u8l p, u8l q, u8l r, u8l s]).isSome then 0 else 3)]) ∧ Below w.heap.size w w' := by
    intro p q r s hp hq hr hs w b hb
    have := idecode_any _ _ w (bts_four w b p q r s hp hq hr hs hb)
    rw [decEV_get] at this
    exact this
  have hz : ∀ x : Int, (0 ≤ x ∧ x ≤ 255) → (u8l (bits .xor .u8 x y) = u8l x ↔ (y == 0) = true) := by
    intro x hx
    constructor
    · intro e
      have := u8l_inj _ _ (xor_bd x y) hx e
      simpa using (xor_same x y hx ⟨hy, hy2⟩).1 this
    · intro e
      have : y = 0 := by simpa using e
      rw [(xor_same x y hx ⟨hy, hy2⟩).2 this]
  rcases hm with hm | hm | hm | hm
  · refine total_0 x0 x1 x2 x3 a y w (y == 0) _ _ _ _ ⟨ha, ha2⟩ hm rfl (dec_rel [u8l x0, u8l x1, u8l x2, u8l x3] [u8l (bits .xor .u8 x0 y), u8l x1, u8l x2, u8l x3] (y == 0) ?_) (cD x0 x1 x2 x3 h0 h1 h2 h3) (cD (bits .xor .u8 x0 y) x1 x2 x3 (xor_bd x0 y) h1 h2 h3) hW hT hP
    rw [← hz x0 h0]
    constructor
    · intro e
      simp only [List.cons.injEq, and_true] at e
      exact e.symm
    · intro e
      rw [e]
  · refine total_1 x0 x1 x2 x3 a y w (y == 0) _ _ _ _ ⟨ha, ha2⟩ hm rfl (dec_rel [u8l x0, u8l x1, u8l x2, u8l x3] [u8l x0, u8l (bits .xor .u8 x1 y), u8l x2, u8l x3] (y == 0) ?_) (cD x0 x1 x2 x3 h0 h1 h2 h3) (cD x0 (bits .xor .u8 x1 y) x2 x3 h0 (xor_bd x1 y) h2 h3) hW hT hP
    rw [← hz x1 h1]
    constructor
    · intro e
      simp only [List.cons.injEq, and_true, true_and] at e
      exact e.symm
    · intro e
      rw [e]
  · refine total_2 x0 x1 x2 x3 a y w (y == 0) _ _ _ _ ⟨ha, ha2⟩ hm rfl (dec_rel [u8l x0, u8l x1, u8l x2, u8l x3] [u8l x0, u8l x1, u8l (bits .xor .u8 x2 y), u8l x3] (y == 0) ?_) (cD x0 x1 x2 x3 h0 h1 h2 h3) (cD x0 x1 (bits .xor .u8 x2 y) x3 h0 h1 (xor_bd x2 y) h3) hW hT hP
    rw [← hz x2 h2]
    constructor
    · intro e
      simp only [List.cons.injEq, and_true, true_and] at e
      exact e.symm
    · intro e
      rw [e]
  · refine total_3 x0 x1 x2 x3 a y w (y == 0) _ _ _ _ ⟨ha, ha2⟩ hm rfl (dec_rel [u8l x0, u8l x1, u8l x2, u8l x3] [u8l x0, u8l x1, u8l x2, u8l (bits .xor .u8 x3 y)] (y == 0) ?_) (cD x0 x1 x2 x3 h0 h1 h2 h3) (cD x0 x1 x2 (bits .xor .u8 x3 y) h0 h1 h2 (xor_bd x3 y)) hW hT hP
    rw [← hz x3 h3]
    constructor
    · intro e
      simp only [List.cons.injEq, and_true, true_and] at e
      exact e.symm
    · intro e
      rw [e]
end Go.Proofs.YteoappoacapdhabDoor
