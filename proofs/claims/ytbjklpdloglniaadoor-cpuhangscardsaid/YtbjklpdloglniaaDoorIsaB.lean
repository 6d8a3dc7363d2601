/- Instructions: what an operation has, the parts of an instruction, whether it is right: the program. -/
import Derived.Test.YtbjklpdloglniaaDoorWords
import Derived.Test.YtbjklpdloglniaaDoorIsaA
import Derived.OwnWalk
import Derived.Lib.QuietBelow
import Derived.WalkSpells
import Derived.RangeFuncRecord
import Derived.Maps.AppendAt
import Derived.Lib.OthersKept
namespace Go.Proofs.YtbjklpdloglniaaDoor
open Go.RowKit
set_option linter.unusedVariables false

def insV (o a b m : Int) : Value := .agg #[.int .u8 o, .int .u8 a, .int .u8 b, .int .u16 m]
def insV4 (i : Int × Int × Int × Int) : Value := insV i.1 i.2.1 i.2.2.1 i.2.2.2
def partV : Nat × Int → Value
  | (0, n) => .iface 106 (.int .u8 n)
  | (1, n) => .iface 107 (.int .u8 n)
  | (_, n) => .iface 108 (.int .u16 n)

set_option maxHeartbeats 1000000 in
theorem uses_any (o : Int) (w : World) (h0 : 0 ≤ o) (h1 : o ≤ 255) :
    Calls Tryd.prog 38 #[.int .u8 o] w fun e w' => e = .returned (.tuple #[.bool (useA o), .bool (useB o), .bool (useM o)]) ∧ w' = w := by
  have hc : (3 ≤ o ∧ o ≤ 12) ∨ (13 ≤ o ∧ o ≤ 16) ∨ o = 20 ∨ o = 2 ∨ o = 18 ∨ o = 19 ∨ o = 17 ∨ o = 21 ∨ o = 23 ∨ o = 0 ∨ o = 1 ∨ o = 22 ∨ 24 ≤ o := by omega
  rcases hc with ⟨c1, c2⟩ | ⟨c1, c2⟩ | rfl | rfl | rfl | rfl | rfl | rfl | rfl | rfl | rfl | rfl | c1
  · have ea : useA o = true := by unfold useA; exact decide_eq_true (by omega)
    have eb : useB o = true := by unfold useB; exact decide_eq_true (by omega)
    have em : useM o = false := by unfold useM; exact decide_eq_false (by omega)
    rw [ea, eb, em]
    go_enter Tryd.func38, Tryd.ntmps38
    go_wp2
    go_ret3
    exact ⟨rfl, rfl⟩
  · have ea : useA o = true := by unfold useA; exact decide_eq_true (by omega)
    have eb : useB o = true := by unfold useB; exact decide_eq_true (by omega)
    have em : useM o = true := by unfold useM; exact decide_eq_true (by omega)
    rw [ea, eb, em]
    have d1 : 3 ≤ o := by omega
    have d2 : ¬ o ≤ 12 := by omega
    go_enter Tryd.func38, Tryd.ntmps38
    go_wp2
    go_ret3
    exact ⟨rfl, rfl⟩
  all_goals first
    | (go_enter Tryd.func38, Tryd.ntmps38
       go_wp2
       go_ret3
       exact ⟨rfl, rfl⟩)
    | skip
  have ea : useA o = false := by unfold useA; exact decide_eq_false (by omega)
  have eb : useB o = false := by unfold useB; exact decide_eq_false (by omega)
  have em : useM o = false := by unfold useM; exact decide_eq_false (by omega)
  rw [ea, eb, em]
  have d1 : 3 ≤ o := by omega
  have d2 : ¬ o ≤ 12 := by omega
  have d3 : 13 ≤ o := by omega
  have d4 : ¬ o ≤ 16 := by omega
  have e1 : (o == 20) = false := by rw [beq_eq_false_iff_ne]; omega
  have e2 : (o == 2) = false := by rw [beq_eq_false_iff_ne]; omega
  have e3 : (o == 18) = false := by rw [beq_eq_false_iff_ne]; omega
  have e4 : (o == 19) = false := by rw [beq_eq_false_iff_ne]; omega
  have e5 : (o == 17) = false := by rw [beq_eq_false_iff_ne]; omega
  have e6 : (o == 21) = false := by rw [beq_eq_false_iff_ne]; omega
  have e7 : (o == 23) = false := by rw [beq_eq_false_iff_ne]; omega
  go_enter Tryd.func38, Tryd.ntmps38
  go_wp2
  go_ret3
  exact ⟨rfl, rfl⟩

/-- A block of four cells, nothing of it frozen. -/
def Four (W : World) (b : Nat) (x y z t : Value) : Prop := W.heap[b]? = some (.cells #[x, y, z, t] 29 (0, 0))
theorem Four.new (w : World) (x y z t : Value) : Four (w.alloc (.cells #[x, y, z, t] 29)) w.heap.size x y z t := World.alloc_heap_new w _
theorem Four.below {W W' : World} {b B : Nat} {x y z t : Value} (h : Four W b x y z t) (hB : Below B W W') (hs : b < B) : Four W' b x y z t := (hB.block b hs).trans h
theorem Four.alloc {W : World} {b : Nat} {x y z t : Value} (h : Four W b x y z t) (o : Obj) : Four (W.alloc o) b x y z t := (Lib.alloc_old W o b (Array.getElem?_eq_some_iff.1 h).1).trans h
theorem Four.c0 {W : World} {b : Nat} {x y z t : Value} (h : Four W b x y z t) : W.cell? ⟨b, 0, none⟩ = some x := by rw [Lib.cell_of_heap h]; rfl
theorem Four.c1 {W : World} {b : Nat} {x y z t : Value} (h : Four W b x y z t) : W.cell? ⟨b, 1, none⟩ = some y := by rw [Lib.cell_of_heap h]; rfl
theorem Four.c2 {W : World} {b : Nat} {x y z t : Value} (h : Four W b x y z t) : W.cell? ⟨b, 2, none⟩ = some z := by rw [Lib.cell_of_heap h]; rfl
theorem Four.c3 {W : World} {b : Nat} {x y z t : Value} (h : Four W b x y z t) : W.cell? ⟨b, 3, none⟩ = some t := by rw [Lib.cell_of_heap h]; rfl
theorem Four.f {W : World} {b : Nat} {x y z t : Value} (h : Four W b x y z t) (j : Nat) : W.frozen? ⟨b, j, none⟩ = false := Lib.frozen_of_heap h j
theorem Four.set0 {W : World} {b : Nat} {x y z t : Value} (h : Four W b x y z t) (u : Value) : Four (W.setCell ⟨b, 0, none⟩ u) b u y z t := by
  have h' : W.heap[b]? = some (.cells #[x, y, z, t] 29 (0, 0)) := h
  simp [Four, World.setCell, Array.getElem?_modify, h']
theorem Four.set1 {W : World} {b : Nat} {x y z t : Value} (h : Four W b x y z t) (u : Value) : Four (W.setCell ⟨b, 1, none⟩ u) b x u z t := by
  have h' : W.heap[b]? = some (.cells #[x, y, z, t] 29 (0, 0)) := h
  simp [Four, World.setCell, Array.getElem?_modify, h']
theorem Four.set2 {W : World} {b : Nat} {x y z t : Value} (h : Four W b x y z t) (u : Value) : Four (W.setCell ⟨b, 2, none⟩ u) b x y u t := by
  have h' : W.heap[b]? = some (.cells #[x, y, z, t] 29 (0, 0)) := h
  simp [Four, World.setCell, Array.getElem?_modify, h']
theorem Four.set3 {W : World} {b : Nat} {x y z t : Value} (h : Four W b x y z t) (u : Value) : Four (W.setCell ⟨b, 3, none⟩ u) b x y z u := by
  have h' : W.heap[b]? = some (.cells #[x, y, z, t] 29 (0, 0)) := h
  simp [Four, World.setCell, Array.getElem?_modify, h']
theorem Four.other {W : World} {b c : Nat} {x y z t : Value} (h : Four W b x y z t) (hne : b ≠ c) (j : Nat) (u : Value) : Four (W.setCell ⟨c, j, none⟩ u) b x y z t := (Below.heap_setCell W ⟨c, j, none⟩ u b hne).trans h
/-- A world in which the four cells of a block were written. -/
def set4 (W : World) (b : Nat) (x y z t : Value) : World := (((W.setCell ⟨b, 0, none⟩ x).setCell ⟨b, 1, none⟩ y).setCell ⟨b, 2, none⟩ z).setCell ⟨b, 3, none⟩ t
theorem Four.set {W : World} {b : Nat} {x y z t x' y' z' t' : Value} (h : Four W b x y z t) : Four (set4 W b x' y' z' t') b x' y' z' t' := (((h.set0 x').set1 y').set2 z').set3 t'
theorem Four.keep {W : World} {b c : Nat} {x y z t x' y' z' t' : Value} (h : Four W b x y z t) (hne : b ≠ c) : Four (set4 W c x' y' z' t') b x y z t := (((h.other hne 0 x').other hne 1 y').other hne 2 z').other hne 3 t'
theorem Below.set4 {B : Nat} {a W : World} {b : Nat} (h : Below B a W) (hb : B ≤ b) (x y z t : Value) : Below B a (Proofs.YtbjklpdloglniaaDoor.set4 W b x y z t) :=
  (((h.setCell (p := ⟨b, 0, none⟩) hb x).setCell (p := ⟨b, 1, none⟩) hb y).setCell (p := ⟨b, 2, none⟩) hb z).setCell (p := ⟨b, 3, none⟩) hb t

/-- A slice whose cells, from a block of at least base, hold these values. -/
def Rw (base : Nat) (w : World) (v : Value) (xs : List Value) : Prop := ∃ a cap, v = .slice a xs.length cap ∧ ∀ j x, xs[j]? = some x → ∃ g off, a = some ⟨g, off, none⟩ ∧ base ≤ g ∧ w.cell? ⟨g, off + j, none⟩ = some x
theorem Rw.below {base : Nat} {w w' : World} {v : Value} {xs : List Value} {B : Nat} (h : Rw base w v xs) (hb : Below B w w') (hB : w.heap.size ≤ B) : Rw base w' v xs := by
  obtain ⟨a, cap, rfl, hc⟩ := h
  refine ⟨a, cap, rfl, fun j x hx => ?_⟩
  obtain ⟨g, off, e, hg, hcell⟩ := hc j x hx
  exact ⟨g, off, e, hg, (hb.cell (p := ⟨g, off + j, none⟩) (Nat.lt_of_lt_of_le (World.block_lt_of_cell? _ _ hcell) hB)).trans hcell⟩
theorem Rw.other {base : Nat} {w : World} {v : Value} {xs : List Value} {c : Nat} (h : Rw base w v xs) (hc : c < base) (k : Nat) (u : Value) : Rw base (w.setCell ⟨c, k, none⟩ u) v xs := by
  obtain ⟨a, cap, rfl, h⟩ := h
  refine ⟨a, cap, rfl, fun j x hx => ?_⟩
  obtain ⟨g, off, e, hg, hcell⟩ := h j x hx
  refine ⟨g, off, e, hg, ?_⟩
  have hh : (w.setCell ⟨c, k, none⟩ u).heap[g]? = w.heap[g]? := Below.heap_setCell w ⟨c, k, none⟩ u g (show g ≠ c by omega)
  simp only [World.cell?] at hcell ⊢
  rw [hh]
  exact hcell
theorem Rw.keep {base : Nat} {w : World} {v : Value} {xs : List Value} {c : Nat} {x y z t : Value} (h : Rw base w v xs) (hc : c < base) : Rw base (set4 w c x y z t) v xs :=
  (((h.other hc 0 x).other hc 1 y).other hc 2 z).other hc 3 t
theorem Rw.of_own {w : World} {base : Nat} {v : Value} {n : Nat} {E : TypeId} {xs : List Value} (h : w.ownsRow base E 1 v n xs) : Rw base w v xs := by
  have hn : n = xs.length := by have := h.1; omega
  subst hn
  rcases h.2 with ⟨rfl, h0⟩ | ⟨g, cap, cur, rfl, hg, hb, hk, hm, _, htk⟩
  · obtain rfl : xs = [] := List.eq_nil_of_length_eq_zero h0
    exact ⟨none, 0, rfl, fun j x h => by cases h⟩
  · refine ⟨_, cap, rfl, fun j x hx => ⟨g, 0, rfl, hg, ?_⟩⟩
    have h1 : (List.take (xs.length * 1) cur.toList)[j]? = some x := by rw [htk]; exact hx
    have hj : j < xs.length := (List.getElem?_eq_some_iff.1 hx).1
    rw [List.getElem?_take, if_pos (by omega)] at h1
    simp only [Nat.zero_add, World.cell?, hb]
    simpa using h1
theorem Rw.weaken {base base' : Nat} {w : World} {v : Value} {xs : List Value} (h : Rw base w v xs) (hb : base' ≤ base) : Rw base' w v xs := by
  obtain ⟨a, cap, rfl, hc⟩ := h
  exact ⟨a, cap, rfl, fun j x hx => by
    obtain ⟨g, off, e, hg, hcell⟩ := hc j x hx
    exact ⟨g, off, e, Nat.le_trans hb hg, hcell⟩⟩

theorem infoP : (Tryd.prog.info? 87).map (fun i => (i.zero, i.size, i.bytes)) = some (some .nilIface, 1, 16) := by kernel_rfl

theorem assAA (v : Value) (w : World) : (Instr.typeAssert (.iface 106 v) 87 106 true).run Tryd.prog w = .ok (.tuple #[v, .bool true]) w := by kernel_rfl
theorem assBB (v : Value) (w : World) : (Instr.typeAssert (.iface 107 v) 87 107 true).run Tryd.prog w = .ok (.tuple #[v, .bool true]) w := by kernel_rfl
theorem assMM (v : Value) (w : World) : (Instr.typeAssert (.iface 108 v) 87 108 true).run Tryd.prog w = .ok (.tuple #[v, .bool true]) w := by kernel_rfl
theorem assBA (v : Value) (w : World) : (Instr.typeAssert (.iface 107 v) 87 106 true).run Tryd.prog w = .ok (.tuple #[.int .u8 0, .bool false]) w := by kernel_rfl
theorem assMA (v : Value) (w : World) : (Instr.typeAssert (.iface 108 v) 87 106 true).run Tryd.prog w = .ok (.tuple #[.int .u8 0, .bool false]) w := by kernel_rfl
theorem assMB (v : Value) (w : World) : (Instr.typeAssert (.iface 108 v) 87 107 true).run Tryd.prog w = .ok (.tuple #[.int .u8 0, .bool false]) w := by kernel_rfl
theorem assAM (v : Value) (w : World) : (Instr.typeAssert (.iface 106 v) 87 108 true).run Tryd.prog w = .ok (.tuple #[.int .u16 0, .bool false]) w := by kernel_rfl
theorem assBM (v : Value) (w : World) : (Instr.typeAssert (.iface 107 v) 87 108 true).run Tryd.prog w = .ok (.tuple #[.int .u16 0, .bool false]) w := by kernel_rfl

set_option maxHeartbeats 1000000 in
set_option maxRecDepth 100000 in
theorem lay_any (i : Int × Int × Int × Int) (p : Nat × Int) (w : World) :
    Calls Tryd.prog 27 #[insV4 i, partV p] w fun e W' => e = .returned (insV4 (layP i p)) ∧ Below w.heap.size w W' := by
  obtain ⟨o, a, b, m⟩ := i
  match p with
  | (0, n) =>
    unfold partV insV4 insV layP
    have t1 := assAA
    go_enter Tryd.func27, Tryd.ntmps27
    go_wp2
    exact bodyPost_ret (v := insV o n b m) (by simp [results, Tryd.results27, go_sem, insV]) rfl ⟨rfl, ((Below.refl _ w).alloc (Nat.le_refl _) _).alloc (by simp) _⟩
  | (1, n) =>
    unfold partV insV4 insV layP
    have t1 := assBA
    have t2 := assBB
    go_enter Tryd.func27, Tryd.ntmps27
    go_wp2
    exact bodyPost_ret (v := insV o a n m) (by simp [results, Tryd.results27, go_sem, insV]) rfl ⟨rfl, ((Below.refl _ w).alloc (Nat.le_refl _) _).alloc (by simp) _⟩
  | (k + 2, n) =>
    unfold partV insV4 insV layP
    have t1 := assMA
    have t2 := assMB
    have t3 := assMM
    go_enter Tryd.func27, Tryd.ntmps27
    go_wp2
    exact bodyPost_ret (v := insV o a b n) (by simp [results, Tryd.results27, go_sem, insV]) rfl ⟨rfl, ((Below.refl _ w).alloc (Nat.le_refl _) _).alloc (by simp) _⟩

end Go.Proofs.YtbjklpdloglniaaDoor
