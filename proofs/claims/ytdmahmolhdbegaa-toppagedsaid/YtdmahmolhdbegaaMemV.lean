/- Two memories side by side, the program's and the document's; a deed on both. -/
import Derived.Test.YtdmahmolhdbegaaMemU
import Derived.Deep.RegionHeld3
namespace Go.Proofs.Ytdmahmolhdbegaa
open Go.RowKit Go.Maps
set_option linter.unusedVariables false
set_option maxRecDepth 100000
/-- But for two blocks a world is as it was. -/
structure OnlyT (b g : Nat) (w w' : World) : Prop where
  os : w'.os = w.os
  tape : w'.tape = w.tape
  output : w'.output = w.output
  size : w.heap.size ≤ w'.heap.size
  block : ∀ k, k < w.heap.size → k ≠ b → k ≠ g → w'.heap[k]? = w.heap[k]?
theorem OnlyT.trans {b g : Nat} {u v w : World} (h : OnlyT b g u v) (k : OnlyT b g v w) : OnlyT b g u w :=
  ⟨k.os.trans h.os, k.tape.trans h.tape, k.output.trans h.output, Nat.le_trans h.size k.size, fun i hi hx hy => (k.block i (Nat.lt_of_lt_of_le hi h.size) hx hy).trans (h.block i hi hx hy)⟩
theorem OnlyT.of_below {b g : Nat} {u v : World} (h : Below u.heap.size u v) : OnlyT b g u v := ⟨h.os, h.tape, h.output, h.size, fun k hk _ _ => h.block k hk⟩
theorem OnlyT.of1 {b g : Nat} {u v : World} (h : Only b u v) : OnlyT b g u v := ⟨h.os, h.tape, h.output, h.size, fun k hk hx _ => h.block k hk hx⟩
theorem OnlyT.of2 {b g : Nat} {u v : World} (h : Only g u v) : OnlyT b g u v := ⟨h.os, h.tape, h.output, h.size, fun k hk _ hx => h.block k hk hx⟩
theorem OnlyT.below {b g : Nat} {u v : World} (h : OnlyT b g u v) (B : Nat) (hb : B ≤ b) (hg : B ≤ g) (hB : B ≤ u.heap.size) : Below B u v :=
  ⟨h.os, h.tape, h.output, h.size, fun k hk => h.block k (by omega) (by omega) (by omega)⟩
theorem Mem.only {w w' : World} {b c : Nat} {n : Int} {L : List Int} (h : Mem w b n L) (k : Only c w w') (hne : b ≠ c) : Mem w' b n L := ⟨(k.block b h.lt hne).trans h.blk, h.len, h.lo, h.hi⟩
structure Both (B : Nat) (w : World) (b rb g N : Nat) (L : List Int) : Prop where
  p : Mem w b N L
  r : RMem w rb g (32 * N) L
  bB : B ≤ b
  rB : B ≤ rb
  gB : B ≤ g
  d1 : b ≠ rb
  d2 : b ≠ g
  by_ : ∀ x ∈ L, 0 ≤ x ∧ x ≤ 255
theorem Both.below {B : Nat} {w w' : World} {b rb g N : Nat} {L : List Int} (h : Both B w b rb g N L) (k : Below w.heap.size w w') : Both B w' b rb g N L := ⟨h.p.below k, h.r.below k, h.bB, h.rB, h.gB, h.d1, h.d2, h.by_⟩
/-- Another pair stays. -/
theorem Both.other {B : Nat} {w w' : World} {b rb g N b' g' : Nat} {L : List Int} (h : Both B w b rb g N L) (k : OnlyT b' g' w w') (h1 : b ≠ b') (h2 : b ≠ g') (h3 : rb ≠ b') (h4 : rb ≠ g') (h5 : g ≠ b') (h6 : g ≠ g') : Both B w' b rb g N L :=
  ⟨⟨(k.block b h.p.lt h1 h2).trans h.p.blk, h.p.len, h.p.lo, h.p.hi⟩, h.r.keep (k.block rb h.r.lt h3 h4) (k.block g h.r.ltg h5 h6), h.bB, h.rB, h.gB, h.d1, h.d2, h.by_⟩
/-- The program's step, and then the document's. -/
theorem Both.mk' {B : Nat} {w W1 W2 : World} {b rb g N : Nat} {L L2 : List Int} (h : Both B w b rb g N L) (m1 : Mem W1 b N L2) (o1 : Only b w W1) (m2 : RMem W2 rb g (32 * N) L2) (o2 : Only g W1 W2) (hy : ∀ x ∈ L2, 0 ≤ x ∧ x ≤ 255) : Both B W2 b rb g N L2 ∧ OnlyT b g w W2 :=
  ⟨⟨m1.only o2 h.d2, m2, h.bB, h.rB, h.gB, h.d1, h.d2, hy⟩, (OnlyT.of1 o1).trans (OnlyT.of2 o2)⟩
def doL (N : Int) (k f o x : Int) (bs : List Int) (L : List Int) : List Int :=
  if k = 0 then swL N L f o x else if k = 1 then sbL N L f o (x % 256) else if k = 2 then zrL N L f else if k = 3 then cpL N L f o else if k = 4 then flL N L f o (bs.take 200) else L
theorem ite_bytes {c : Prop} [Decidable c] {L M : List Int} (h : ∀ x ∈ L, 0 ≤ x ∧ x ≤ 255) (h2 : ∀ x ∈ M, 0 ≤ x ∧ x ≤ 255) (x : Int) (hx : x ∈ (if c then L else M)) : 0 ≤ x ∧ x ≤ 255 := by
  split at hx
  · exact h x hx
  · exact h2 x hx
theorem two_bytes {a b : Int} (ha : 0 ≤ a ∧ a ≤ 255) (hb : 0 ≤ b ∧ b ≤ 255) (x : Int) (hx : x ∈ [a, b]) : 0 ≤ x ∧ x ≤ 255 := by
  rcases List.mem_cons.1 hx with rfl | hx
  · exact ha
  · rcases List.mem_cons.1 hx with rfl | hx
    · exact hb
    · cases hx
theorem doL_bytes {N k f o x : Int} {bs L : List Int} (hL : ∀ y ∈ L, 0 ≤ y ∧ y ≤ 255) (hx : 0 ≤ x ∧ x ≤ 65535) (hb : ∀ y ∈ bs, 0 ≤ y ∧ y ≤ 255) : ∀ y ∈ doL N k f o x bs L, 0 ≤ y ∧ y ≤ 255 := by
  unfold doL
  refine ite_bytes (ite_bytes (putL_bytes hL (two_bytes (by omega) (by omega))) hL) (ite_bytes (ite_bytes (putL_bytes hL ?_) hL) (ite_bytes (ite_bytes (putL_bytes hL ?_) hL) (ite_bytes (ite_bytes (putL_bytes hL ?_) hL) (ite_bytes (ite_bytes (putL_bytes hL ?_) hL) hL))))
  · intro y hy
    rw [List.mem_singleton] at hy
    omega
  · intro y hy
    rw [List.eq_of_mem_replicate hy]
    decide
  · intro y hy
    exact hL y (List.mem_of_mem_drop (List.mem_of_mem_take hy))
  · intro y hy
    exact hb y (List.mem_of_mem_take hy)
theorem b5m {W : World} {b : Nat} {x0 x1 x2 x3 x4 : Value} {t : TypeId} (h : W.heap[b]? = some (.cells #[x0, x1, x2, x3, x4] t)) : W.cell? ⟨b, 0, none⟩ = some x0 ∧ W.cell? ⟨b, 1, none⟩ = some x1 ∧ W.cell? ⟨b, 2, none⟩ = some x2 ∧ W.cell? ⟨b, 3, none⟩ = some x3 ∧ W.cell? ⟨b, 4, none⟩ = some x4 :=
  ⟨by rw [Lib.cell_of_heap h]; rfl, by rw [Lib.cell_of_heap h]; rfl, by rw [Lib.cell_of_heap h]; rfl, by rw [Lib.cell_of_heap h]; rfl, by rw [Lib.cell_of_heap h]; rfl⟩
end Go.Proofs.Ytdmahmolhdbegaa
