/- Mappings in memory: when two are the same, a row of them, an object that holds one; what tells whether a mapping is so. -/
import Derived.Test.YtdmahmolhdbegaaRows
import Derived.Test.YtdmahmolhdbegaaPgTlbA
import Derived.WalkKit
import Derived.WalkSpells
import Derived.WalkLawsBesides
import Derived.Handy
import Derived.Deep.QuietTactic
import Derived.BigQuiet
import Derived.Deep.RegionHeld3
import Derived.Maps.AppendAt
import Derived.Laws.AppendOwnNone
import Derived.Laws.StructEq
import Derived.Lib.SliceRun
import Derived.Carry
import Derived.Shelf.Abstract
namespace Go.Proofs.Ytdmahmolhdbegaa.Tb
open Go.RowKit Go.Maps
set_option linter.unusedVariables false
set_option maxRecDepth 100000

theorem eqGuardM : Try.prog.eqGuardType Try.prog.depth 39 = false := by kernel_rfl
set_option maxHeartbeats 2000000 in
theorem eqM (w : World) (a0 a1 a2 b0 b1 b2 : Int) (a3 b3 : Bool) : (Op.equalIn 10000 39 (.agg #[.int .u8 a0, .int .u8 a1, .int .u8 a2, .bool a3]) (.agg #[.int .u8 b0, .int .u8 b1, .int .u8 b2, .bool b3])).run Try.prog w = .ok (decide (((a0, a1, a2, a3) : Mp) = (b0, b1, b2, b3))) w := by
  show (Op.equalIn (9998 + 1 + 1) 39 _ _).run Try.prog w = _
  rw [Op.equalIn]
  simp only [Sem.run_bind, run_underlying Try.underlying39, Result.andThen_ok]
  by_cases h0 : a0 = b0 <;> by_cases h1 : a1 = b1 <;> by_cases h2 : a2 = b2 <;> by_cases h3 : a3 = b3 <;> simp [go_sem, h0, h1, h2, h3]

/-- But for some blocks a world is as it was. -/
structure Apart (X : Nat → Prop) (w w' : World) : Prop where
  os : w'.os = w.os
  tape : w'.tape = w.tape
  output : w'.output = w.output
  size : w.heap.size ≤ w'.heap.size
  block : ∀ k, k < w.heap.size → ¬ X k → w'.heap[k]? = w.heap[k]?
theorem Apart.refl (X : Nat → Prop) (w : World) : Apart X w w := ⟨rfl, rfl, rfl, Nat.le_refl _, fun _ _ _ => rfl⟩
theorem Apart.trans {X : Nat → Prop} {a b c : World} (h : Apart X a b) (k : Apart X b c) : Apart X a c :=
  ⟨k.os.trans h.os, k.tape.trans h.tape, k.output.trans h.output, Nat.le_trans h.size k.size, fun i hi hx => (k.block i (Nat.lt_of_lt_of_le hi h.size) hx).trans (h.block i hi hx)⟩
theorem Apart.then {X Y : Nat → Prop} {a b c : World} (h : Apart X a b) (k : Apart Y b c) (hy : ∀ i, i < a.heap.size → Y i → X i) : Apart X a c :=
  ⟨k.os.trans h.os, k.tape.trans h.tape, k.output.trans h.output, Nat.le_trans h.size k.size, fun i hi hx => (k.block i (Nat.lt_of_lt_of_le hi h.size) (fun y => hx (hy i hi y))).trans (h.block i hi hx)⟩
theorem Apart.wide {X Y : Nat → Prop} {a b : World} (h : Apart X a b) (hy : ∀ i, i < a.heap.size → X i → Y i) : Apart Y a b :=
  ⟨h.os, h.tape, h.output, h.size, fun i hi hx => h.block i hi (fun y => hx (hy i hi y))⟩
theorem Apart.of_below {X : Nat → Prop} {a b : World} (h : Below a.heap.size a b) : Apart X a b := ⟨h.os, h.tape, h.output, h.size, fun k hk _ => h.block k hk⟩
theorem Apart.of_grown {X : Nat → Prop} {a b : World} {row : Option Nat} (h : a.grownBy b row) (hr : ∀ k, k < a.heap.size → some k = row → X k) : Apart X a b :=
  ⟨h.os, h.tape, h.output, h.size, fun k hk hx => h.block k hk (fun e => hx (hr k hk e))⟩
theorem Apart.below {X : Nat → Prop} {a b : World} (h : Apart X a b) (B : Nat) (hx : ∀ k, X k → B ≤ k) (hB : B ≤ a.heap.size) : Below B a b :=
  ⟨h.os, h.tape, h.output, h.size, fun k hk => h.block k (by omega) (fun y => by have := hx k y; omega)⟩
theorem size_setCell (w : World) (p : Addr) (u : Value) : (w.setCell p u).heap.size = w.heap.size := by simp [World.setCell]
theorem Apart.set (w : World) (p : Addr) (u : Value) : Apart (fun k => k = p.block) w (w.setCell p u) :=
  ⟨rfl, rfl, rfl, by rw [size_setCell]; exact Nat.le_refl _, fun k hk hx => Below.heap_setCell w p u k hx⟩
theorem Apart.own {X : Nat → Prop} {w w' : World} {B e z n : Nat} {v : Value} {xs : List Value} (h : w.ownsRow B e z v n xs) (k : Apart X w w') (hx : ∀ g, v.ownBlock = some g → ¬ X g) : w'.ownsRow B e z v n xs := by
  refine ⟨h.1, ?_⟩
  rcases h.2 with h0 | ⟨g, cap, cur, h1, h2, h3, h4⟩
  · exact .inl h0
  · refine .inr ⟨g, cap, cur, h1, h2, ?_, h4⟩
    rw [k.block g (Array.getElem?_eq_some_iff.1 h3).1 (hx g (by rw [h1]; rfl))]
    exact h3
theorem own_kind {w : World} {B e z n : Nat} {v : Value} {xs : List Value} (h : w.ownsRow B e z v n xs) (g : Nat) (hg : v.ownBlock = some g) : ∃ cur, w.heap[g]? = some (.cells cur e (0, 0)) := by
  rcases h.2 with ⟨rfl, _⟩ | ⟨g', cap, cur, rfl, _, h3, _⟩
  · cases hg
  · injection hg with hg
    subst hg
    exact ⟨cur, h3⟩

/-- An object of one cell, which holds a slice of mappings that is its own. -/
structure Ob (B : Nat) (t : TypeId) (w : World) (b : Nat) (v : Value) (L : List Mp) : Prop where
  ge : B ≤ b
  blk : w.heap[b]? = some (.cells #[v] t)
  row : w.ownsRow B 39 4 v L.length (mpsCs L)
theorem Ob.lt {B : Nat} {t : TypeId} {w : World} {b : Nat} {v : Value} {L : List Mp} (h : Ob B t w b v L) : b < w.heap.size := (Array.getElem?_eq_some_iff.1 h.blk).1
theorem Ob.form {B : Nat} {t : TypeId} {w : World} {b : Nat} {v : Value} {L : List Mp} (h : Ob B t w b v L) : ∃ a cap, v = .slice a L.length cap := by
  rcases h.row.2 with ⟨hv, h0⟩ | ⟨g, cap, cur, hv, _⟩
  · exact ⟨none, 0, by rw [h0]; exact hv⟩
  · exact ⟨_, _, hv⟩
theorem Ob.ne {B : Nat} {t : TypeId} {w : World} {b : Nat} {v : Value} {L : List Mp} (h : Ob B t w b v L) (ht : t ≠ 39) (g : Nat) (hg : v.ownBlock = some g) : g ≠ b := by
  obtain ⟨cur, k⟩ := own_kind h.row g hg
  intro e
  subst e
  rw [h.blk] at k
  injection k with k
  injection k with _ k
  exact ht k
theorem Ob.stay {B : Nat} {t : TypeId} {w w' : World} {b : Nat} {v : Value} {L : List Mp} {X : Nat → Prop} (h : Ob B t w b v L) (k : Apart X w w') (h1 : ¬ X b) (h2 : ∀ g, v.ownBlock = some g → ¬ X g) : Ob B t w' b v L :=
  ⟨h.ge, (k.block b h.lt h1).trans h.blk, Apart.own h.row k h2⟩
theorem Ob.below {B : Nat} {t : TypeId} {w w' : World} {b : Nat} {v : Value} {L : List Mp} (h : Ob B t w b v L) (k : Below w.heap.size w w') : Ob B t w' b v L :=
  h.stay (X := fun _ => False) (Apart.of_below k) id (fun _ _ => id)
theorem Ob.cell {B : Nat} {t : TypeId} {w : World} {b : Nat} {v : Value} {L : List Mp} (h : Ob B t w b v L) : w.cell? ⟨b, 0, none⟩ = some v := by
  rw [Lib.cell_of_heap h.blk]
  rfl
theorem Ob.thaw {B : Nat} {t : TypeId} {w : World} {b : Nat} {v : Value} {L : List Mp} (h : Ob B t w b v L) : w.frozen? ⟨b, 0, none⟩ = false := by
  simp [World.frozen?, h.blk]

/-- A slice of mappings that can be read. -/
def Mps (w : World) (v : Value) (L : List Mp) : Prop := ∃ a cap, v = .slice a L.length cap ∧ L.length ≤ cap ∧ (a = none → cap = 0) ∧ ∀ j m, L[j]? = some m → ∃ g off, a = some ⟨g, off, none⟩ ∧ w.cell? ⟨g, off + j * 4, none⟩ = some (.int .u8 m.1) ∧ w.cell? ⟨g, off + j * 4 + 1, none⟩ = some (.int .u8 m.2.1) ∧ w.cell? ⟨g, off + j * 4 + 2, none⟩ = some (.int .u8 m.2.2.1) ∧ w.cell? ⟨g, off + j * 4 + 3, none⟩ = some (.bool m.2.2.2)
theorem Mps.of_own {B : Nat} {w : World} {v : Value} {L : List Mp} (h : w.ownsRow B 39 4 v L.length (mpsCs L)) : Mps w v L := by
  rcases h.2 with ⟨rfl, h0⟩ | ⟨g, cap, cur, rfl, _, hb, hk, hm, _, htk⟩
  · obtain rfl : L = [] := List.eq_nil_of_length_eq_zero h0
    exact ⟨none, 0, rfl, Nat.le_refl _, fun _ => rfl, fun j i h => by cases h⟩
  · refine ⟨_, cap, rfl, hk, (fun e => by cases e), fun j i hi => ⟨g, 0, rfl, ?_⟩⟩
    obtain ⟨c0, c1, c2, c3⟩ := mpsCs_at L j i hi
    have hj : j < L.length := (List.getElem?_eq_some_iff.1 hi).1
    rw [← htk] at c0 c1 c2 c3
    rw [List.getElem?_take, if_pos (by omega)] at c0 c1 c2 c3
    simp only [Nat.zero_add, World.cell?, hb]
    exact ⟨by simpa using c0, by simpa using c1, by simpa using c2, by simpa using c3⟩
theorem Mps.stay {w w' : World} {v : Value} {L : List Mp} {X : Nat → Prop} (h : Mps w v L) (k : Apart X w w') (hx : ∀ g, v.ownBlock = some g → ¬ X g) : Mps w' v L := by
  obtain ⟨a, cap, rfl, hc, hn, hcell⟩ := h
  refine ⟨a, cap, rfl, hc, hn, fun j m hj => ?_⟩
  obtain ⟨g, off, rfl, c0, c1, c2, c3⟩ := hcell j m hj
  have hg : g < w.heap.size := World.block_lt_of_cell? w _ c0
  have hb := k.block g hg (hx g rfl)
  refine ⟨g, off, rfl, ?_, ?_, ?_, ?_⟩ <;> (rw [World.cell?_of_block (w := w) hb]; assumption)
theorem Mps.below {w w' : World} {v : Value} {L : List Mp} (h : Mps w v L) (k : Below w.heap.size w w') : Mps w' v L :=
  h.stay (X := fun _ => False) (Apart.of_below k) (fun _ _ => id)

/-- A function value tells of each mapping whether it is so, wherever what it has caught lies as it did. -/
def PredC (g : Nat) (lb : Array Value) (p : Mp → Bool) (cb : Nat) (o : Obj) : Prop :=
  ∀ (W : World) (m : Mp), W.heap[cb]? = some o → Calls Try.prog g (#[mpV m] ++ lb) W fun e w' => e = .returned (.bool (p m)) ∧ Below W.heap.size W w'

set_option maxHeartbeats 1000000 in
theorem of_pred (a p : Int) (cb : Nat) : PredC 84 #[.pointer (some ⟨cb, 0, none⟩)] (ofB a p) cb (.cells #[.int .u8 a, .int .u8 p, .int .u8 0, .bool false] 39) := by
  intro W m hc
  have hcb : cb < W.heap.size := (Array.getElem?_eq_some_iff.1 hc).1
  have k0 : W.cell? ⟨cb, 0, none⟩ = some (.int .u8 a) := by rw [Lib.cell_of_heap hc]; rfl
  have k1 : W.cell? ⟨cb, 1, none⟩ = some (.int .u8 p) := by rw [Lib.cell_of_heap hc]; rfl
  have k2 : W.cell? ⟨cb, 2, none⟩ = some (.int .u8 0) := by rw [Lib.cell_of_heap hc]; rfl
  have k3 : W.cell? ⟨cb, 3, none⟩ = some (.bool false) := by rw [Lib.cell_of_heap hc]; rfl
  have hne : cb ≠ W.heap.size := by omega
  obtain ⟨m0, m1, m2, m3⟩ := m
  show Calls Try.prog 84 #[.agg #[.int .u8 m0, .int .u8 m1, .int .u8 m2, .bool m3], .pointer (some ⟨cb, 0, none⟩)] W _
  have eG := eqGuardM
  have eM := fun w => eqM w m0 m1 0 a p 0 false false
  have hfin : Hid (decide (((m0, m1, 0, false) : Mp) = (a, p, 0, false)) = ofB a p (m0, m1, m2, m3)) := by
    show _ = _
    unfold ofB
    exact decide_eq_decide.2 (by simp)
  generalize decide (((m0, m1, 0, false) : Mp) = (a, p, 0, false)) = d at *
  clear hc
  go_enter Try.func84, Try.ntmps84
  go_wp2
  go_ret
  refine ⟨by rw [← hfin.out]; rfl, ?_⟩
  first
  | exact (Below.refl _ _).alloc (Nat.le_refl _) _
  | exact (((Below.refl _ _).alloc (Nat.le_refl _) _).setCell (by simp) _).setCell (by simp) _
set_option maxHeartbeats 1000000 in
theorem asid_pred (a : Int) (cb : Nat) : PredC 83 #[.pointer (some ⟨cb, 0, none⟩)] (fun x => decide (x.1 = a)) cb (.cells #[.int .u8 a] 5) := by
  intro W m hc
  have hcb : cb < W.heap.size := (Array.getElem?_eq_some_iff.1 hc).1
  have k0 : W.cell? ⟨cb, 0, none⟩ = some (.int .u8 a) := by rw [Lib.cell_of_heap hc]; rfl
  have hne : cb ≠ W.heap.size := by omega
  obtain ⟨m0, m1, m2, m3⟩ := m
  show Calls Try.prog 83 #[.agg #[.int .u8 m0, .int .u8 m1, .int .u8 m2, .bool m3], .pointer (some ⟨cb, 0, none⟩)] W _
  clear hc
  go_enter Try.func83, Try.ntmps83
  go_wp2
  go_ret
  exact ⟨by simp [Bool.beq_eq_decide_eq], (Below.refl _ _).alloc (Nat.le_refl _) _⟩
set_option maxHeartbeats 1000000 in
theorem frame_pred (a : Int) (cb : Nat) : PredC 32 #[.pointer (some ⟨cb, 0, none⟩)] (fun x => decide (x.2.2.1 = a)) cb (.cells #[.int .u8 a] 5) := by
  intro W m hc
  have hcb : cb < W.heap.size := (Array.getElem?_eq_some_iff.1 hc).1
  have k0 : W.cell? ⟨cb, 0, none⟩ = some (.int .u8 a) := by rw [Lib.cell_of_heap hc]; rfl
  have hne : cb ≠ W.heap.size := by omega
  obtain ⟨m0, m1, m2, m3⟩ := m
  show Calls Try.prog 32 #[.agg #[.int .u8 m0, .int .u8 m1, .int .u8 m2, .bool m3], .pointer (some ⟨cb, 0, none⟩)] W _
  clear hc
  go_enter Try.func32, Try.ntmps32
  go_wp2
  go_ret
  exact ⟨by simp [Bool.beq_eq_decide_eq], (Below.refl _ _).alloc (Nat.le_refl _) _⟩
set_option maxHeartbeats 1000000 in
theorem old_pred (o : Mp) (cb : Nat) : PredC 28 #[.pointer (some ⟨cb, 0, none⟩)] (eqB o) cb (.cells #[.int .u8 o.1, .int .u8 o.2.1, .int .u8 o.2.2.1, .bool o.2.2.2] 39) := by
  intro W m hc
  have hcb : cb < W.heap.size := (Array.getElem?_eq_some_iff.1 hc).1
  obtain ⟨o0, o1, o2, o3⟩ := o
  have k0 : W.cell? ⟨cb, 0, none⟩ = some (.int .u8 o0) := by rw [Lib.cell_of_heap hc]; rfl
  have k1 : W.cell? ⟨cb, 1, none⟩ = some (.int .u8 o1) := by rw [Lib.cell_of_heap hc]; rfl
  have k2 : W.cell? ⟨cb, 2, none⟩ = some (.int .u8 o2) := by rw [Lib.cell_of_heap hc]; rfl
  have k3 : W.cell? ⟨cb, 3, none⟩ = some (.bool o3) := by rw [Lib.cell_of_heap hc]; rfl
  have hne : cb ≠ W.heap.size := by omega
  obtain ⟨m0, m1, m2, m3⟩ := m
  show Calls Try.prog 28 #[.agg #[.int .u8 m0, .int .u8 m1, .int .u8 m2, .bool m3], .pointer (some ⟨cb, 0, none⟩)] W _
  have eG := eqGuardM
  have eM := fun w => eqM w m0 m1 m2 o0 o1 o2 m3 o3
  have hfin : Hid (decide (((m0, m1, m2, m3) : Mp) = (o0, o1, o2, o3)) = eqB (o0, o1, o2, o3) (m0, m1, m2, m3)) := rfl
  generalize decide (((m0, m1, m2, m3) : Mp) = (o0, o1, o2, o3)) = d at *
  clear hc
  go_enter Try.func28, Try.ntmps28
  go_wp2
  go_ret
  exact ⟨by rw [← hfin.out]; rfl, (Below.refl _ _).alloc (Nat.le_refl _) _⟩

set_option maxHeartbeats 1000000 in
theorem of_any (a p : Int) (w : World) : Calls Try.prog 75 #[.int .u8 a, .int .u8 p] w fun e w' =>
    e = .returned (.func (.func 84) #[] #[.pointer (some ⟨w.heap.size, 0, none⟩)]) ∧ w' = w.alloc (.cells #[.int .u8 a, .int .u8 p, .int .u8 0, .bool false] 39) := by
  go_enter Try.func75, Try.ntmps75
  go_wp2
  go_ret
  exact ⟨rfl, rfl⟩

set_option maxHeartbeats 2000000 in
theorem idxf_any (g : Nat) (lb : Array Value) (p : Mp → Bool) (cb : Nat) (o : Obj) (hp : PredC g lb p cb o) (eg : ∀ args w, (callFunc g args).run Try.prog w = .ok (.enter g args) w) (v : Value) (L : List Mp) (w : World) (hv : Mps w v L) (hL : L.length ≤ 1000) (hc : w.heap[cb]? = some o) :
    Calls Try.prog 74 #[v, .func (.func g) #[] lb] w fun e w' => e = .returned (.int .i64 (idxI p L)) ∧ Below w.heap.size w w' := by
  obtain ⟨ad, cap, rfl, hcap, _, hcell⟩ := hv
  have HC : Hid (∀ j m, L[j]? = some m → ∃ g off, ad = some ⟨g, off, none⟩ ∧ w.cell? ⟨g, off + j * 4, none⟩ = some (.int .u8 m.1) ∧ w.cell? ⟨g, off + j * 4 + 1, none⟩ = some (.int .u8 m.2.1) ∧ w.cell? ⟨g, off + j * 4 + 2, none⟩ = some (.int .u8 m.2.2.1) ∧ w.cell? ⟨g, off + j * 4 + 3, none⟩ = some (.bool m.2.2.2)) := hcell
  have HO : Hid (w.heap[cb]? = some o) := hc
  have hcb : cb < w.heap.size := (Array.getElem?_eq_some_iff.1 hc).1
  have HP : Hid (PredC g lb p cb o) := hp
  clear hcell hc hp
  go_enter Try.func74, Try.ntmps74
  go_wp2
  go_loopw [5, 8] (fun _ s8 wr => ∃ kk : Nat, kk ≤ L.length ∧ s8 = .int .i64 kk ∧ Hid (Below w.heap.size w wr) ∧ Hid (∀ j (hj : j < L.length), j < kk → p L[j] = false)) (fun _ s8 _ => L.length - (intOf s8).toNat)
  case atStart => exact ⟨0, Nat.zero_le _, rfl, Below.refl _ w, fun j hj h => absurd h (Nat.not_lt_zero _)⟩
  case round =>
    obtain ⟨kk, hkk, rfl, BW, HA⟩ := hrel
    by_cases hlt : kk < L.length
    · have hltz : (kk : Int) < (L.length : Int) := by omega
      obtain ⟨g', off, rfl, c0, c1, c2, c3⟩ := HC.out kk L[kk] (List.getElem?_eq_getElem hlt)
      have hg : g' < w.heap.size := World.block_lt_of_cell? w _ c0
      have hcall := HP.out wr L[kk] ((BW.out.block cb hcb).trans HO.out)
      rw [← BW.out.cell (p := ⟨g', off + kk * 4, none⟩) hg] at c0
      rw [← BW.out.cell (p := ⟨g', off + kk * 4 + 1, none⟩) hg] at c1
      rw [← BW.out.cell (p := ⟨g', off + kk * 4 + 2, none⟩) hg] at c2
      rw [← BW.out.cell (p := ⟨g', off + kk * 4 + 3, none⟩) hg] at c3
      have HY : Hid (∀ y, L[kk] = y → p y = true → idxI p L = kk) := fun y hy hh => by
        unfold idxI
        rw [idx_hit kk hlt (by rw [hy]; exact hh) (fun j hj => HA.out j (by omega) hj)]
      have HN : Hid (∀ y, L[kk] = y → p y = false → ∀ j (hj : j < L.length), j < kk + 1 → p L[j] = false) := fun y hy hh j hj hlt' => by
        by_cases e : j = kk
        · subst e; rw [hy]; exact hh
        · exact HA.out j hj (by omega)
      unfold mpV at hcall
      generalize hy : L[kk] = y at *
      have B : Hid (L[kk] = y) := hy
      clear hy
      obtain ⟨y0, y1, y2, y3⟩ := y
      simp only at c0 c1 c2 c3 hcall
      cases hq : p (y0, y1, y2, y3) with
      | true =>
        rw [hq] at hcall
        have HY' : Hid (idxI p L = kk) := HY.out _ rfl hq
        clear HY HN hq
        go_wp2_with (go_at_fn g; refine hcall.mono ?_; rintro e w' ⟨rfl, hb'⟩)
        go_ret
        refine ⟨by rw [HY'.out]; rfl, BW.out.trans (hb'.mono BW.out.size)⟩
      | false =>
        rw [hq] at hcall
        have HN' : Hid (∀ j (hj : j < L.length), j < kk + 1 → p L[j] = false) := HN.out _ rfl hq
        clear HY HN hq
        go_wp2_with (go_at_fn g; refine hcall.mono ?_; rintro e w' ⟨rfl, hb'⟩)
        go_roundw
        case rel => exact ⟨kk + 1, by omega, by go_num, BW.out.trans (hb'.mono BW.out.size), HN'.out⟩
        case measure => simp [intOf]; omega
    · have hltz : ¬ (kk : Int) < (L.length : Int) := by omega
      have HY : Hid (idxI p L = -1) := by
        show _ = _
        unfold idxI
        rw [idx_miss (fun j hj => HA.out j hj (by omega))]
      go_wp2
      go_ret
      exact ⟨by rw [HY.out]; rfl, BW.out⟩
end Go.Proofs.Ytdmahmolhdbegaa.Tb
