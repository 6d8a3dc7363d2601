/- The program and the document side by side: disks and memories. -/
import Derived.Test.YtlnjpgcaciemnaaDevY
namespace Go.Proofs.Ytlnjpgcaciemnaa
open Go.RowKit Go.Maps
set_option linter.unusedVariables false
set_option maxRecDepth 100000
def PR (db sb mb rg : Nat) (v : Value) (k : Nat) : Prop := PX db sb mb v k ∨ k = rg
structure Two (B : Nat) (w : World) (db sb mb rb og rmb rg : Nat) (v u : Value) (z : Sd) : Prop where
  p : PSt B w db sb 5 mb 4 v z
  r : RSt B (PR db sb mb rg v) w rb og 5 rmb rg 4 u z
  q : Wq 5 z.last z.Q
theorem PSt.pl {B : Nat} {w : World} {db sb n mb N : Nat} {v : Value} {z : Sd} (h : PSt B w db sb n mb N v z) (k : Nat) (hk : PX db sb mb v k) : k < w.heap.size := by
  rcases hk with rfl | rfl | rfl | hk
  · exact h.d.lt
  · exact h.d.lts
  · exact h.m.lt
  · exact (h.d.own.lt k hk.symm).2
/-- A block of bytes is none of the program's. -/
theorem PSt.not_row {B : Nat} {w : World} {db sb n mb N rg K mb2 : Nat} {v : Value} {z : Sd} {L : List Int} (h : PSt B w db sb n mb N v z) (hM : RMem w mb2 rg K L) : ¬ PX db sb mb v rg := by
  obtain ⟨rest, er⟩ := hM.row
  intro hk
  rcases hk with e | e | e | e
  · obtain ⟨C, _, e2⟩ := h.d.blk
    rw [e, e2] at er
    injection er with er
    injection er with _ er
    exact absurd er (by decide)
  · obtain ⟨r, e2⟩ := h.d.row
    rw [e, e2] at er
    injection er with er
    injection er with _ er
    exact absurd er (by decide)
  · have e2 := h.m.blk
    rw [e, e2] at er
    injection er with er
    injection er with _ er
    exact absurd er (by decide)
  · obtain ⟨cur, e2⟩ := own_kind h.d.own rg e.symm
    rw [e2] at er
    injection er with er
    injection er with _ er
    exact absurd er (by decide)
/-- Below B all is as it was, and so is what holds four pointers. -/
structure Bw (B : Nat) (w w' : World) : Prop where
  b : Below B w w'
  k : ∀ (j : Nat) (c : Array Value), w.heap[j]? = some (.cells c 28) → w'.heap[j]? = some (.cells c 28)
theorem Bw.of {B : Nat} {w w' : World} (h : Below w.heap.size w w') (hB : B ≤ w.heap.size) : Bw B w w' := ⟨h.mono hB, fun k c e => (h.block k (Array.getElem?_eq_some_iff.1 e).1).trans e⟩
theorem Bw.thenB {B : Nat} {w W W2 : World} (h : Bw B w W) (k : Below W.heap.size W W2) (hB : B ≤ w.heap.size) : Bw B w W2 := ⟨h.b.trans (k.mono (Nat.le_trans hB h.b.size)), fun j c e => (Bw.of k (Nat.le_refl _)).k j c (h.k j c e)⟩
theorem Bw.trans {B : Nat} {w W W2 : World} (h : Bw B w W) (k : Bw B W W2) : Bw B w W2 := ⟨h.b.trans k.b, fun j c e => k.k j c (h.k j c e)⟩
theorem PSt.not_both {B : Nat} {w : World} {db sb n mb N k : Nat} {v : Value} {z : Sd} {c : Array Value} (h : PSt B w db sb n mb N v z) (er : w.heap[k]? = some (.cells c 28)) : ¬ PX db sb mb v k := by
  intro hk
  rcases hk with e | e | e | e
  · obtain ⟨C, _, e2⟩ := h.d.blk
    rw [e, e2] at er
    injection er with er
    injection er with _ er
    exact absurd er (by decide)
  · obtain ⟨r, e2⟩ := h.d.row
    rw [e, e2] at er
    injection er with er
    injection er with _ er
    exact absurd er (by decide)
  · have e2 := h.m.blk
    rw [e, e2] at er
    injection er with er
    injection er with _ er
    exact absurd er (by decide)
  · obtain ⟨cur, e2⟩ := own_kind h.d.own k e.symm
    rw [e2] at er
    injection er with er
    injection er with _ er
    exact absurd er (by decide)
theorem RSt.not_both {B : Nat} {X : Nat → Prop} {w : World} {rb og n mb rg N k : Nat} {u : Value} {z : Sd} {c : Array Value} (h : RSt B X w rb og n mb rg N u z) (er : w.heap[k]? = some (.cells c 28)) : ¬ DX rb og rg k := by
  intro hk
  rcases hk with e | e | e
  · obtain ⟨C, _, e2⟩ := h.k.blk
    rw [e, e2] at er
    injection er with er
    injection er with _ er
    exact absurd er (by decide)
  · obtain ⟨r, e2, _⟩ := h.k.row
    rw [e, e2] at er
    injection er with er
    injection er with _ er
    exact absurd er (by decide)
  · obtain ⟨r, e2⟩ := h.m.row
    rw [e, e2] at er
    injection er with er
    injection er with _ er
    exact absurd er (by decide)
theorem Two.below {B : Nat} {w w' : World} {db sb mb rb og rmb rg : Nat} {v u : Value} {z : Sd} (h : Two B w db sb mb rb og rmb rg v u z) (k : Below w.heap.size w w') : Two B w' db sb mb rb og rmb rg v u z := ⟨h.p.below k, h.r.below k, h.q⟩
theorem Two.xl {B : Nat} {w : World} {db sb mb rb og rmb rg : Nat} {v u : Value} {z : Sd} (h : Two B w db sb mb rb og rmb rg v u z) (k : Nat) (hk : PR db sb mb rg v k) : k < w.heap.size := hk.elim (h.p.pl k) (fun e => by rw [e]; exact h.r.m.ltg)
/-- Behind the program's step. -/
theorem Two.goP {B : Nat} {w W0 W1 : World} {db sb mb rb og rmb rg : Nat} {v u : Value} {z z1 : Sd} (h : Two B w db sb mb rb og rmb rg v u z) (hb : Below w.heap.size w W0) (hB : B ≤ w.heap.size) (h1 : PStp B W0 W1 db sb 5 mb 4 v z1) : ∃ v1, (PSt B W1 db sb 5 mb 4 v1 z1 ∧ RSt B (PR db sb mb rg v1) W1 rb og 5 rmb rg 4 u z) ∧ (∀ g, PR db sb mb rg v1 g → g < W1.heap.size) ∧ (∀ k, w.heap.size ≤ k → k < W0.heap.size → W1.heap[k]? = W0.heap[k]?) ∧ Bw B w W1 ∧ W0.heap.size ≤ W1.heap.size := by
  have h0 := h.below hb
  obtain ⟨v1, p1, a1, o1⟩ := h1
  have hs0 := hb.size
  have hs1 := a1.size
  have xc : ∀ g, g < W0.heap.size → PR db sb mb rg v1 g → PR db sb mb rg v g := fun g hg hx => by
    rcases hx with (e | e | e | e) | e
    · exact .inl (.inl e)
    · exact .inl (.inr (.inl e))
    · exact .inl (.inr (.inr (.inl e)))
    · rcases o1 g e.symm with e2 | e2
      · exact .inl (.inr (.inr (.inr e2.symm)))
      · omega
    · exact .inr e
  have k1 : Rk B (fun g => PR db sb mb rg v g ∨ PR db sb mb rg v1 g) W0 rb og 5 z.S u z.last z.Q := h0.r.k.change (fun g hg hx => hx.elim id (xc g hg))
  have k2 := (k1.stay a1 (fun g y => .inl (.inl y))).change (Y := PR db sb mb rg v1) (fun g _ y => .inr y)
  have hng := h0.p.not_row h0.r.m
  have hm1 : RMem W1 rmb rg (32 * 4) z.L := h0.r.m.stay a1 (fun y => h0.r.xm (.inl y)) hng
  refine ⟨v1, ⟨p1, ⟨k2, hm1, .inr rfl, fun y => h0.r.xm (xc _ h0.r.m.lt y), h0.r.gm, h0.r.gg⟩⟩, fun g hg => ?_, fun k hk hk0 => a1.block k hk0 (fun y => ?_), ⟨(hb.mono hB).trans (PStp.bel h0.p ⟨v1, p1, a1, o1⟩ (Nat.le_trans hB hs0)), fun k c e => ?_⟩, hs1⟩
  · rcases hg with y | y
    · exact p1.pl g y
    · rw [y]; exact hm1.ltg
  · have := h.p.pl k y
    omega
  · have e0 := (Bw.of hb hB).k k c e
    exact (a1.block k (Array.getElem?_eq_some_iff.1 e0).1 (h0.p.not_both e0)).trans e0
/-- Behind the document's step. -/
theorem Two.goR {B : Nat} {w W1 W2 : World} {db sb mb rb og rmb rg : Nat} {v v1 u : Value} {z z1 : Sd} (h : Two B w db sb mb rb og rmb rg v u z) (h1 : PSt B W1 db sb 5 mb 4 v1 z1 ∧ RSt B (PR db sb mb rg v1) W1 rb og 5 rmb rg 4 u z) (hBW : Bw B w W1) (hB : B ≤ w.heap.size) (h2 : RStp B (PR db sb mb rg v1) W1 W2 rb og 5 rmb rg 4 z1) (hq : Wq 5 z1.last z1.Q) : ∃ u2, Two B W2 db sb mb rb og rmb rg v1 u2 z1 ∧ Bw B w W2 ∧ (∀ k, w.heap.size ≤ k → k < W1.heap.size → W2.heap[k]? = W1.heap[k]?) ∧ W1.heap.size ≤ W2.heap.size := by
  have hbel := RStp.bel h1.2 h2 (Nat.le_trans hB hBW.b.size)
  obtain ⟨u2, r2, a2⟩ := h2
  have hng := h1.1.not_row h1.2.m
  have dx : ∀ k, PX db sb mb v1 k → ¬ DX rb og rg k := fun k hk hd => by
    rcases hd with e | e | e
    · exact h1.2.k.nr (.inl (by rw [← e]; exact hk))
    · exact h1.2.k.ng (.inl (by rw [← e]; exact hk))
    · exact hng (by rw [← e]; exact hk)
  refine ⟨u2, ⟨PSt.mk' (h1.1.d.stay a2 (dx _ (.inl rfl)) (dx _ (.inr (.inl rfl))) (fun g hg => dx g (.inr (.inr (.inr hg.symm))))) (h1.1.m.stay a2 (dx _ (.inr (.inr (.inl rfl))))) h1.1.mB, r2, hq⟩, ⟨hBW.b.trans hbel, fun k c e => ?_⟩, fun k hk hk1 => a2.block k hk1 (fun y => ?_), a2.size⟩
  · have e0 := hBW.k k c e
    exact (a2.block k (Array.getElem?_eq_some_iff.1 e0).1 (h1.2.not_both e0)).trans e0
  have l1 := h.r.k.lt
  have l2 := h.r.k.ltg
  have l3 := h.r.m.ltg
  rcases y with e | e | e
  · omega
  · omega
  · omega
theorem own_keep {w W1 W2 : World} {b e z n : Nat} {v : Value} {xs : List Value} (h : W1.ownsRow b e z v n xs) (hb : w.heap.size ≤ b) (hk : ∀ k, w.heap.size ≤ k → k < W1.heap.size → W2.heap[k]? = W1.heap[k]?) : W2.ownsRow b e z v n xs := by
  refine ⟨h.1, ?_⟩
  rcases h.2 with h0 | ⟨g, cap, cur, h1, h2, h3, h4⟩
  · exact .inl h0
  · exact .inr ⟨g, cap, cur, h1, h2, (hk g (by omega) (Array.getElem?_eq_some_iff.1 h3).1).trans h3, h4⟩
/-- A deed. -/
structure Dd where
  k : Int
  i : Int
  r0 : Int
  r1 : Bool
  r2 : Int
  r3 : Int
  r4 : Int
  v : Value
  bs : List Int
def Dd.val (d : Dd) : Value := .agg #[.int .i64 d.k, .int .i64 d.i, .int .u32 d.r0, .bool d.r1, .int .i64 d.r2, .int .i64 d.r3, .int .u8 d.r4, d.v]
/-- What a deed makes of all. -/
def ddS (z : Sd) (d : Dd) : Sd :=
  if d.k = 0 then askS 5 z (d.r1, d.r2, d.r3, d.r4)
  else if d.k = 1 then dlS 4 z d.i
  else if d.k = 2 then { z with Q := outQ (fun r => decide (r.2.2.2.1 = d.i)) z.Q }
  else if d.k = 3 then { z with Q := outQ (fun r => decide (r.2.2.2.2 = d.r4)) z.Q }
  else if d.k = 4 then stS 5 z d.i d.bs
  else if d.k = 5 then (if d.bs = [] then z else { z with L := sbL 4 z.L d.i 0 (d.bs.getD 0 0) })
  else z
theorem askS_q {z : Sd} (h : Wq 5 z.last z.Q) (h0 : 0 ≤ z.last) (r : Bool × Int × Int × Int) : Wq 5 (askS 5 z r).last (askS 5 z r).Q := by
  unfold askS
  split
  · rename_i he
    have hc : 0 ≤ r.2.1 ∧ r.2.1 < ((5 : Nat) : Int) ∧ 0 ≤ r.2.2.1 ∧ r.2.2.1 < 64 := by
      unfold askE at he
      split at he
      · assumption
      · cases he
    exact h.snoc (z.last + 1, r) h0 rfl ⟨hc.1, hc.2.1⟩ ⟨hc.2.2.1, hc.2.2.2⟩
  · exact h
theorem dlS_q {z : Sd} (h : Wq 5 z.last z.Q) (i : Int) : Wq 5 (dlS 4 z i).last (dlS 4 z i).Q := by
  unfold dlS
  split
  · exact h
  · exact h.sub (cut_sub _ _)
theorem ddS_q {z : Sd} (h : Wq 5 z.last z.Q) (h0 : 0 ≤ z.last) (d : Dd) : Wq 5 (ddS z d).last (ddS z d).Q := by
  unfold ddS
  split
  · exact askS_q h h0 _
  split
  · exact dlS_q h _
  split
  · exact h.sub (outQ_sub _ _)
  split
  · exact h.sub (outQ_sub _ _)
  split
  · unfold stS
    split <;> exact h
  split
  · split <;> exact h
  · exact h
theorem ddS_last (z : Sd) (d : Dd) : (ddS z d).last ≤ z.last + 1 ∧ z.last ≤ (ddS z d).last := by
  unfold ddS askS dlS stS
  repeat' split
  all_goals (first | omega | (simp only []; omega))
theorem b8c {W : World} {b : Nat} {x0 x1 x2 x3 x4 x5 x6 x7 : Value} {t : TypeId} (h : W.heap[b]? = some (.cells #[x0, x1, x2, x3, x4, x5, x6, x7] t)) : W.cell? ⟨b, 0, none⟩ = some x0 ∧ W.cell? ⟨b, 1, none⟩ = some x1 ∧ W.cell? ⟨b, 2, none⟩ = some x2 ∧ W.cell? ⟨b, 3, none⟩ = some x3 ∧ W.cell? ⟨b, 4, none⟩ = some x4 ∧ W.cell? ⟨b, 5, none⟩ = some x5 ∧ W.cell? ⟨b, 6, none⟩ = some x6 ∧ W.cell? ⟨b, 7, none⟩ = some x7 :=
  ⟨by rw [Lib.cell_of_heap h]; rfl, by rw [Lib.cell_of_heap h]; rfl, by rw [Lib.cell_of_heap h]; rfl, by rw [Lib.cell_of_heap h]; rfl, by rw [Lib.cell_of_heap h]; rfl, by rw [Lib.cell_of_heap h]; rfl, by rw [Lib.cell_of_heap h]; rfl, by rw [Lib.cell_of_heap h]; rfl⟩
theorem b4c {W : World} {b : Nat} {x0 x1 x2 x3 : Value} {t : TypeId} (h : W.heap[b]? = some (.cells #[x0, x1, x2, x3] t)) : W.cell? ⟨b, 0, none⟩ = some x0 ∧ W.cell? ⟨b, 1, none⟩ = some x1 ∧ W.cell? ⟨b, 2, none⟩ = some x2 ∧ W.cell? ⟨b, 3, none⟩ = some x3 :=
  ⟨by rw [Lib.cell_of_heap h]; rfl, by rw [Lib.cell_of_heap h]; rfl, by rw [Lib.cell_of_heap h]; rfl, by rw [Lib.cell_of_heap h]; rfl⟩
end Go.Proofs.Ytlnjpgcaciemnaa
