/- Capabilities: which are right, what they open, what is made of them. -/
import Derived.Test.YtdegjmceeggldaaNameF
namespace Go.Proofs.Ytdegjmceeggldaa
open Go.RowKit Go.Shelf
set_option linter.unusedVariables false

def capV (n : ByteArray) (r : Int) : Value := .agg #[.string n, .int .u8 r]
/-- A capability in a block of its own. -/
def CapAt (W : World) (b : Nat) (n : ByteArray) (r : Int) : Prop := W.cell? ⟨b, 0, none⟩ = some (.string n) ∧ W.cell? ⟨b, 1, none⟩ = some (.int .u8 r)
theorem CapAt.new (w : World) (n : ByteArray) (r : Int) (T : TypeId) : CapAt (w.alloc (.cells #[.string n, .int .u8 r] T)) w.heap.size n r := by
  have h := World.alloc_heap_new w (.cells #[.string n, .int .u8 r] T)
  exact ⟨by rw [Lib.cell_of_heap h]; rfl, by rw [Lib.cell_of_heap h]; rfl⟩
theorem CapAt.below {W W' : World} {b B : Nat} {n : ByteArray} {r : Int} (h : CapAt W b n r) (hB : Below B W W') (hs : b < B) : CapAt W' b n r :=
  ⟨(hB.cell (p := ⟨b, 0, none⟩) hs).trans h.1, (hB.cell (p := ⟨b, 1, none⟩) hs).trans h.2⟩
/-- A block of two cells, nothing of it frozen. -/
def Two (W : World) (b : Nat) (T : TypeId) (x y : Value) : Prop := W.heap[b]? = some (.cells #[x, y] T (0, 0))
theorem Two.new (w : World) (T : TypeId) (x y : Value) : Two (w.alloc (.cells #[x, y] T)) w.heap.size T x y := World.alloc_heap_new w _
theorem Two.below {W W' : World} {b B : Nat} {T : TypeId} {x y : Value} (h : Two W b T x y) (hB : Below B W W') (hs : b < B) : Two W' b T x y := (hB.block b hs).trans h
theorem Two.alloc {W : World} {b : Nat} {T : TypeId} {x y : Value} (h : Two W b T x y) (o : Obj) : Two (W.alloc o) b T x y := (Lib.alloc_old W o b (Array.getElem?_eq_some_iff.1 h).1).trans h
theorem Two.c0 {W : World} {b : Nat} {T : TypeId} {x y : Value} (h : Two W b T x y) : W.cell? ⟨b, 0, none⟩ = some x := by rw [Lib.cell_of_heap h]; rfl
theorem Two.c1 {W : World} {b : Nat} {T : TypeId} {x y : Value} (h : Two W b T x y) : W.cell? ⟨b, 1, none⟩ = some y := by rw [Lib.cell_of_heap h]; rfl
theorem Two.f {W : World} {b : Nat} {T : TypeId} {x y : Value} (h : Two W b T x y) (j : Nat) : W.frozen? ⟨b, j, none⟩ = false := Lib.frozen_of_heap h j
theorem Two.set0 {W : World} {b : Nat} {T : TypeId} {x y : Value} (h : Two W b T x y) (u : Value) : Two (W.setCell ⟨b, 0, none⟩ u) b T u y := by
  have h' : W.heap[b]? = some (.cells #[x, y] T (0, 0)) := h
  simp [Two, World.setCell, Array.getElem?_modify, h']
theorem Two.set1 {W : World} {b : Nat} {T : TypeId} {x y : Value} (h : Two W b T x y) (u : Value) : Two (W.setCell ⟨b, 1, none⟩ u) b T x u := by
  have h' : W.heap[b]? = some (.cells #[x, y] T (0, 0)) := h
  simp [Two, World.setCell, Array.getElem?_modify, h']
theorem Two.other {W : World} {b c : Nat} {T : TypeId} {x y : Value} (h : Two W b T x y) (hne : b ≠ c) (j : Nat) (u : Value) : Two (W.setCell ⟨c, j, none⟩ u) b T x y := (Below.heap_setCell W ⟨c, j, none⟩ u b hne).trans h
theorem Below.set2 {B : Nat} {a W : World} {b : Nat} (h : Below B a W) (hb : B ≤ b) (u v : Value) : Below B a ((W.setCell ⟨b, 0, none⟩ u).setCell ⟨b, 1, none⟩ v) := (h.setCell (p := ⟨b, 0, none⟩) hb u).setCell (p := ⟨b, 1, none⟩) hb v
def rightB (l : List UInt8) (r : Int) : Bool := (splitO l).isSome && decide (r ≤ 31)

theorem right_any (n : ByteArray) (r : Int) (w : World) (hn : n.size ≤ 1000) :
    Calls Try.prog 11 #[capV n r] w fun e W' => e = .returned (.bool (rightB n.data.toList r)) ∧ Below w.heap.size w W' := by
  unfold rightB capV
  cases h : splitO n.data.toList with
  | none =>
    have cS := fun w => split_none n w hn h
    clear h
    go_enter Try.func11, Try.ntmps11
    go_wp2_with fail
    refine (cS _).mono ?_
    rintro e W' ⟨rfl, hB⟩
    rw [World.size_alloc] at hB
    go_wp2
    go_ret
    exact ⟨rfl, ((Below.refl _ w).alloc (Nat.le_refl _) _).trans (hB.mono (by omega))⟩
  | some ls =>
    have cS := fun w => split_some n w hn h
    clear h
    go_enter Try.func11, Try.ntmps11
    go_wp2_with fail
    refine (cS _).mono ?_
    rintro e W' ⟨a, cap, rfl, hown, hB⟩
    rw [World.size_alloc] at hB
    obtain ⟨h0, h1⟩ := (CapAt.new w n r _).below hB (by omega)
    clear hown
    go_wp2
    go_ret
    exact ⟨by simp, ((Below.refl _ w).alloc (Nat.le_refl _) _).trans (hB.mono (by omega))⟩


/-! Rights as eight bits. -/
theorem ofInt8 (x : BitVec 8) : BitVec.ofInt 8 (x.toNat : Int) = x := by
  rw [BitVec.ofInt_natCast, BitVec.ofNat_toNat, BitVec.setWidth_eq]
theorem wrap8 (x : BitVec 8) : IntKind.u8.wrap (x.toNat : Int) = (x.toNat : Int) := by
  have := x.isLt
  rw [IntKind.wrap_u8]
  omega
theorem bits_andNot8 (x y : BitVec 8) : bits BinOp.andNot IntKind.u8 (x.toNat : Int) (y.toNat : Int) = ((x &&& ~~~y).toNat : Int) := by
  show IntKind.u8.wrap ((BitVec.ofInt 8 (x.toNat : Int) &&& ~~~(BitVec.ofInt 8 (y.toNat : Int))).toNat : Int) = _
  rw [ofInt8, ofInt8, wrap8]
theorem bits_and8 (x y : BitVec 8) : bits BinOp.and IntKind.u8 (x.toNat : Int) (y.toNat : Int) = ((x &&& y).toNat : Int) := by
  show IntKind.u8.wrap ((BitVec.ofInt 8 (x.toNat : Int) &&& (BitVec.ofInt 8 (y.toNat : Int))).toNat : Int) = _
  rw [ofInt8, ofInt8, wrap8]
def coverB (r q : BitVec 8) : Bool := (q &&& ~~~r) == 0#8
theorem zero8 (x : BitVec 8) : ((x.toNat : Int) == 0) = (x == 0#8) := by
  rw [Bool.eq_iff_iff, beq_iff_eq, beq_iff_eq]
  constructor
  · intro h; exact BitVec.eq_of_toNat_eq (by simpa using h)
  · intro h; subst h; rfl

def opensB (n : List UInt8) (r : BitVec 8) (m : List UInt8) (q : BitVec 8) : Bool := rightB n r.toNat && rightB m q.toNat && aboveB n m && coverB r q
end Go.Proofs.Ytdegjmceeggldaa
