/- A disk's queue: a request is taken in. -/
import Derived.Test.YtdmahmolhdbegaaDevB
import Derived.Deep.AppendLies
import Derived.Deep.RegionLaw
import Derived.Deep.Cut
namespace Go.Proofs.Ytdmahmolhdbegaa
open Go.RowKit Go.Maps
set_option linter.unusedVariables false
set_option maxRecDepth 100000
/-- But for some blocks a world is as it was. -/
structure Apart (X : Nat → Prop) (w w' : World) : Prop where
  os : w'.os = w.os
  tape : w'.tape = w.tape
  output : w'.output = w.output
  size : w.heap.size ≤ w'.heap.size
  block : ∀ k, k < w.heap.size → ¬ X k → w'.heap[k]? = w.heap[k]?
theorem Apart.refl (X : Nat → Prop) (w : World) : Apart X w w := ⟨rfl, rfl, rfl, Nat.le_refl _, fun _ _ _ => rfl⟩
theorem Apart.trans {X : Nat → Prop} {a b c : World} (h : Apart X a b) (k : Apart X b c) : Apart X a c :=
  ⟨k.os.trans h.os, k.tape.trans h.tape, k.output.trans h.output, Nat.le_trans h.size k.size, fun i hi hx => (k.block i (Nat.lt_of_lt_of_le hi h.size) hx).trans (h.block i hi hx)⟩
theorem Apart.then {X Y : Nat → Prop} {a b c : World} (h : Apart X a b) (k : Apart Y b c) (hy : ∀ i, i < a.heap.size → Y i → X i) : Apart X a c :=
  ⟨k.os.trans h.os, k.tape.trans h.tape, k.output.trans h.output, Nat.le_trans h.size k.size, fun i hi hx => (k.block i (Nat.lt_of_lt_of_le hi h.size) (fun y => hx (hy i hi y))).trans (h.block i hi hx)⟩
theorem Apart.wide {X Y : Nat → Prop} {a b : World} (h : Apart X a b) (hy : ∀ i, i < a.heap.size → X i → Y i) : Apart Y a b :=
  ⟨h.os, h.tape, h.output, h.size, fun i hi hx => h.block i hi (fun y => hx (hy i hi y))⟩
theorem Apart.of_below {X : Nat → Prop} {a b : World} (h : Below a.heap.size a b) : Apart X a b := ⟨h.os, h.tape, h.output, h.size, fun k hk _ => h.block k hk⟩
theorem Apart.of_grown {X : Nat → Prop} {a b : World} {row : Option Nat} (h : a.grownBy b row) (hr : ∀ k, k < a.heap.size → some k = row → X k) : Apart X a b :=
  ⟨h.os, h.tape, h.output, h.size, fun k hk hx => h.block k hk (fun e => hx (hr k hk e))⟩
theorem Apart.below {X : Nat → Prop} {a b : World} (h : Apart X a b) (B : Nat) (hx : ∀ k, X k → B ≤ k) (hB : B ≤ a.heap.size) : Below B a b :=
  ⟨h.os, h.tape, h.output, h.size, fun k hk => h.block k (by omega) (fun y => by have := hx k y; omega)⟩
theorem size_setCell (w : World) (p : Addr) (u : Value) : (w.setCell p u).heap.size = w.heap.size := by simp [World.setCell]
theorem Apart.set (w : World) (p : Addr) (u : Value) : Apart (fun k => k = p.block) w (w.setCell p u) :=
  ⟨rfl, rfl, rfl, by rw [size_setCell]; exact Nat.le_refl _, fun k hk hx => Below.heap_setCell w p u k hx⟩
theorem Apart.own {X : Nat → Prop} {w w' : World} {B e z n : Nat} {v : Value} {xs : List Value} (h : w.ownsRow B e z v n xs) (k : Apart X w w') (hx : ∀ g, v.ownBlock = some g → ¬ X g) : w'.ownsRow B e z v n xs := by
  refine ⟨h.1, ?_⟩
  rcases h.2 with h0 | ⟨g, cap, cur, h1, h2, h3, h4⟩
  · exact .inl h0
  · refine .inr ⟨g, cap, cur, h1, h2, ?_, h4⟩
    rw [k.block g (Array.getElem?_eq_some_iff.1 h3).1 (hx g (by rw [h1]; rfl))]
    exact h3
theorem own_kind {w : World} {B e z n : Nat} {v : Value} {xs : List Value} (h : w.ownsRow B e z v n xs) (g : Nat) (hg : v.ownBlock = some g) : ∃ cur, w.heap[g]? = some (.cells cur e (0, 0)) := by
  rcases h.2 with ⟨rfl, _⟩ | ⟨g', cap, cur, rfl, _, h3, _⟩
  · cases hg
  · injection hg with hg
    subst hg
    exact ⟨cur, h3⟩

theorem infoR : (Try.prog.info? 37).map (fun i => (i.zero, i.size, i.bytes)) = some (some (.agg #[.int .u32 0, .bool false, .int .i64 0, .int .i64 0, .int .u8 0]), 5, 32) := by kernel_rfl
theorem run_app5 (w : World) (ty : TypeId) (B : Nat) (v : Value) (Q M : List Rq) (ad : Addr) (cap : Nat) (hown : w.ownsRow B 37 5 v Q.length (rqsCs Q)) (hcell : ∀ j u, (rqsCs M)[j]? = some u → w.cell? (ad.add j) = some u) (hl : Q.length + M.length ≤ 1000) (hB : B ≤ w.heap.size) :
    ∃ v' w', (Builtin.append_ #[70, 70] ty #[v, .slice (some ad) M.length cap]).run Try.prog w = .ok v' w' ∧ w'.ownsRow B 37 5 v' (Q ++ M).length (rqsCs (Q ++ M)) ∧ w.grownBy w' v.ownBlock ∧ (v'.ownBlock = v.ownBlock ∨ v'.ownBlock = some w.heap.size) := by
  obtain ⟨i, hi, hz, hs, hb⟩ := info_parts infoR
  obtain ⟨v', w', h1, h2, h3, _, h5⟩ := run_append_own_at (P := Try.prog) w B 70 ty 37 i _ 5 32 Try.underlying70 hi hz hs hb rfl (by omega) v Q.length (rqsCs Q) hown ad M.length cap (rqsCs M) (rqsCs_len M) hcell (rqsCs_one M) (by unfold maxLen; omega) (by omega) hB
  exact ⟨v', w', h1, by rw [List.length_append, rqsCs_append]; exact h2, h3, h5⟩
theorem wp_app5 (w : World) {o : Oper} {a : Act} {K : Act → World → Prop} {Q0 : Exit → Act → World → Prop} (s x : Operand)
    (ho : o.op = .call { callee := .builtin .append, args := #[s, x], argTypes := #[70, 70] })
    (B : Nat) (v : Value) (Q M : List Rq) (ad : Addr) (cap n : Nat) (hn : n = M.length) (hs : a.eval s = v) (hx : a.eval x = .slice (some ad) n cap) (hown : w.ownsRow B 37 5 v Q.length (rqsCs Q)) (hcell : ∀ j u, (rqsCs M)[j]? = some u → w.cell? (ad.add j) = some u) (hl : Q.length + M.length ≤ 1000) (hB : B ≤ w.heap.size)
    (h : ∀ v' w', w'.ownsRow B 37 5 v' (Q ++ M).length (rqsCs (Q ++ M)) → w.grownBy w' v.ownBlock → (v'.ownBlock = v.ownBlock ∨ v'.ownBlock = some w.heap.size) → K (a.put o.dst v') w') : o.wp Try.prog a w K Q0 := by
  subst hn
  obtain ⟨v', w', hr, h2, h3, h4⟩ := run_app5 w o.type B v Q M ad cap hown hcell hl hB
  unfold Oper.wp execOp
  simp only [ho, resolve, invoke, builtin, Sem.run_bind, Sem.run_pure, Result.andThen_ok, List.map_toArray, List.map_cons, List.map_nil, hs, hx, hr]
  exact h v' w' h2 h3 h4
theorem step_app5 {w : World} {ops : Array Oper} {o : Oper} {a : Act} {K : Act → World → Prop} {Q0 : Exit → Act → World → Prop} {E : Prop} (hgd : o.guard = none) (s x : Operand)
    (ho : o.op = .call { callee := .builtin .append, args := #[s, x], argTypes := #[70, 70] })
    (B : Nat) (v : Value) (Q M : List Rq) (ad : Addr) (cap n : Nat) (hn : n = M.length) (hs : a.eval s = v) (hx : a.eval x = .slice (some ad) n cap) (hown : w.ownsRow B 37 5 v Q.length (rqsCs Q)) (hcell : ∀ j u, (rqsCs M)[j]? = some u → w.cell? (ad.add j) = some u) (hl : Q.length + M.length ≤ 1000) (hB : B ≤ w.heap.size)
    (h : ∀ v' w', w'.ownsRow B 37 5 v' (Q ++ M).length (rqsCs (Q ++ M)) → w.grownBy w' v.ownBlock → (v'.ownBlock = v.ownBlock ∨ v'.ownBlock = some w.heap.size) → K (a.put o.dst v') w') :
    if Region.wanted o (yielded ops a.tmps) = true then Oper.wp Try.prog o a w K Q0 else E := by
  have hw : Region.wanted o (yielded ops a.tmps) = true := by simp [Region.wanted, hgd]
  rw [if_pos hw]
  exact wp_app5 w s x ho B v Q M ad cap n hn hs hx hown hcell hl hB h
theorem rq_one (w : World) (r : Rq) : ∀ j u, (rqsCs [r])[j]? = some u → (w.alloc (.cells #[.int .u32 r.1, .bool r.2.1, .int .i64 r.2.2.1, .int .i64 r.2.2.2.1, .int .u8 r.2.2.2.2] 37)).cell? ((⟨w.heap.size, 0, none⟩ : Addr).add j) = some u := by
  intro j u hj
  rw [Addr.add_mid, Nat.zero_add, cell_of_row _ _ _ _ _ _ (heap_alloc_last w _)]
  simpa [rqsCs] using hj
theorem form5 {w : World} {B n : Nat} {t : TypeId} {v : Value} {xs : List Value} (h : w.ownsRow B t 5 v n xs) : ∃ a cap, v = .slice a n cap := by
  rcases h.2 with ⟨hv, h0⟩ | ⟨g, cap, cur, hv, _⟩
  · exact ⟨none, 0, by rw [h0]; exact hv⟩
  · exact ⟨_, _, hv⟩
theorem set3 {W : World} {b : Nat} {x y z u : Value} {t : TypeId} (h : W.heap[b]? = some (.cells #[x, y, z] t)) : (W.setCell ⟨b, 0, none⟩ u).heap[b]? = some (.cells #[u, y, z] t) ∧ (W.setCell ⟨b, 1, none⟩ u).heap[b]? = some (.cells #[x, u, z] t) ∧ (W.setCell ⟨b, 2, none⟩ u).heap[b]? = some (.cells #[x, y, u] t) := by
  have hlt := (Array.getElem?_eq_some_iff.1 h).1
  rw [Array.getElem?_eq_getElem hlt] at h
  injection h with h
  refine ⟨?_, ?_, ?_⟩ <;> simp [World.setCell, Array.getElem_modify, h, hlt]
set_option maxHeartbeats 2000000 in
theorem add_full (B db sb n : Nat) (S : List Int) (v : Value) (last : Int) (Q : List Rq) (r : Rq) (w : World) (h : Dk B w db sb n S v last Q) (hq : Q.length = 8) : Calls Try.prog 25 #[.pointer (some ⟨db, 0, none⟩), rqV r] w fun e w' => e = .returned (.tuple #[.int .u32 0, .int .i64 4]) ∧ Below w.heap.size w w' := by
  obtain ⟨C, hC, c0, c1, c2⟩ := h.c
  obtain ⟨a0, cap0, rfl⟩ := form5 h.own
  have hlt := h.lt
  have hge : (8 : Int) ≤ (Q.length : Int) := by omega
  obtain ⟨r0, r1, r2, r3, r4⟩ := r
  unfold rqV
  clear h hq
  go_enter Try.func25, Try.ntmps25
  go_wp2
  go_ret2
  exact ⟨rfl, (Below.refl _ w).alloc (Nat.le_refl _) _⟩
set_option maxHeartbeats 4000000 in
theorem add_ok (B db sb n : Nat) (S : List Int) (v : Value) (last : Int) (Q : List Rq) (r : Rq) (w : World) (h : Dk B w db sb n S v last Q) (hq : Q.length < 8) (hla : last < 1000000) (hB : B ≤ w.heap.size) : Calls Try.prog 25 #[.pointer (some ⟨db, 0, none⟩), rqV r] w fun e w' => e = .returned (.tuple #[.int .u32 (last + 1), .int .i64 0]) ∧ ∃ v', Dk B w' db sb n S v' (last + 1) (Q ++ [(last + 1, r.2)]) ∧ Apart (fun k => k = db ∨ some k = v.ownBlock) w w' ∧ (v'.ownBlock = v.ownBlock ∨ ∃ g, w.heap.size ≤ g ∧ v'.ownBlock = some g) := by
  obtain ⟨C, hC, c0, c1, c2⟩ := h.c
  obtain ⟨a0, cap0, rfl⟩ := form5 h.own
  have hlt := h.lt
  have hge : ¬ (8 : Int) ≤ (Q.length : Int) := by omega
  have hl0 := h.la.1
  have HD : Hid3 (Dk B w db sb n S (.slice a0 Q.length cap0) last Q) := ⟨h⟩
  have f1 : w.frozen? ⟨db, 1, none⟩ = false := by
    obtain ⟨C', _, e⟩ := h.blk
    simp [World.frozen?, e]
  have f0 : w.frozen? ⟨db, 0, none⟩ = false := by
    obtain ⟨C', _, e⟩ := h.blk
    simp [World.frozen?, e]
  have hne : db ≠ w.heap.size := by omega
  obtain ⟨r0, r1, r2, r3, r4⟩ := r
  unfold rqV
  clear h
  go_enter Try.func25, Try.ntmps25
  go_upto_region 5 with fail
  obtain ⟨C2, hC2, eb⟩ := HD.out.blk
  have zs : (w.setCell ⟨db, 1, none⟩ (.int .u32 (last + 1))).heap.size = w.heap.size := size_setCell _ _ _
  have HA2 : Hid3 (Apart (fun k => k = db ∨ some k = Value.ownBlock (.slice a0 Q.length cap0)) w ((w.setCell ⟨db, 1, none⟩ (.int .u32 (last + 1))).alloc (.cells #[.int .u32 (last + 1), .bool r1, .int .i64 r2, .int .i64 r3, .int .u8 r4] 37))) := ⟨((Apart.set w ⟨db, 1, none⟩ _).wide (fun k _ e => .inl e)).trans (Apart.of_below ((Below.refl _ _).alloc (Nat.le_refl _) _))⟩
  have hbk : ((w.setCell ⟨db, 1, none⟩ (.int .u32 (last + 1))).alloc (.cells #[.int .u32 (last + 1), .bool r1, .int .i64 r2, .int .i64 r3, .int .u8 r4] 37)).heap[db]? = some (.cells #[(.slice a0 Q.length cap0), .int .u32 (last + 1), .slice (some ⟨sb, 0, none⟩) n C2] 74) := (Lib.alloc_old _ _ _ (by rw [zs]; exact hlt)).trans (set3 eb).2.1
  have hbx : ((w.setCell ⟨db, 1, none⟩ (.int .u32 (last + 1))).alloc (.cells #[.int .u32 (last + 1), .bool r1, .int .i64 r2, .int .i64 r3, .int .u8 r4] 37)).heap[w.heap.size]? = some (.cells #[.int .u32 (last + 1), .bool r1, .int .i64 r2, .int .i64 r3, .int .u8 r4] 37) := by
    have := heap_alloc_last (w.setCell ⟨db, 1, none⟩ (.int .u32 (last + 1))) (.cells #[.int .u32 (last + 1), .bool r1, .int .i64 r2, .int .i64 r3, .int .u8 r4] 37)
    rw [zs] at this
    exact this
  have hw2 : ((w.setCell ⟨db, 1, none⟩ (.int .u32 (last + 1))).alloc (.cells #[.int .u32 (last + 1), .bool r1, .int .i64 r2, .int .i64 r3, .int .u8 r4] 37)).ownsRow B 37 5 (.slice a0 Q.length cap0) Q.length (rqsCs Q) := (Apart.own HD.out.own (Apart.set w ⟨db, 1, none⟩ (.int .u32 (last + 1))) (fun g hg e => (HD.out.apart g hg).2 e)).alloc _
  have hz2 : ((w.setCell ⟨db, 1, none⟩ (.int .u32 (last + 1))).alloc (.cells #[.int .u32 (last + 1), .bool r1, .int .i64 r2, .int .i64 r3, .int .u8 r4] 37)).heap.size = w.heap.size + 1 := by rw [World.size_alloc, zs]
  have hz3 := Nat.le_of_eq hz2.symm
  clear c0 c1 c2 f0 f1 eb zs hz2 hne hC
  generalize ((w.setCell ⟨db, 1, none⟩ (.int .u32 (last + 1))).alloc (.cells #[.int .u32 (last + 1), .bool r1, .int .i64 r2, .int .i64 r3, .int .u8 r4] 37)) = W2 at *
  have c0 : W2.cell? ⟨db, 0, none⟩ = some (.slice a0 Q.length cap0) := by rw [Lib.cell_of_heap hbk]; rfl
  obtain ⟨x0, x1, x2, x3, x4⟩ := b5m hbx
  have hlt2 : db < W2.heap.size := (Array.getElem?_eq_some_iff.1 hbk).1
  have hx2 : w.heap.size < W2.heap.size := (Array.getElem?_eq_some_iff.1 hbx).1
  have hX : Below W2.heap.size W2 (W2.alloc (.cells #[.int .u32 (last + 1), .bool r1, .int .i64 r2, .int .i64 r3, .int .u8 r4] 37)).drew := ((Below.refl _ W2).alloc (Nat.le_refl _) _).drew
  have HR : Hid3 ((W2.alloc (.cells #[.int .u32 (last + 1), .bool r1, .int .i64 r2, .int .i64 r3, .int .u8 r4] 37)).drew.ownsRow B 37 5 (.slice a0 Q.length cap0) Q.length (rqsCs Q)) := ⟨hw2.alloc _⟩
  have HM : Hid3 (∀ j u, (rqsCs [((last + 1, r1, r2, r3, r4) : Rq)])[j]? = some u → (W2.alloc (.cells #[.int .u32 (last + 1), .bool r1, .int .i64 r2, .int .i64 r3, .int .u8 r4] 37)).drew.cell? ((⟨W2.heap.size, 0, none⟩ : Addr).add j) = some u) := ⟨rq_one W2 (last + 1, r1, r2, r3, r4)⟩
  have hBs : Hid3 (B ≤ (W2.alloc (.cells #[.int .u32 (last + 1), .bool r1, .int .i64 r2, .int .i64 r3, .int .u8 r4] 37)).drew.heap.size) := ⟨Nat.le_trans hB (Nat.le_trans (by omega) hX.size)⟩
  have HF : Hid3 (∀ v' W4, W4.ownsRow B 37 5 v' (Q ++ [((last + 1, r1, r2, r3, r4) : Rq)]).length (rqsCs (Q ++ [((last + 1, r1, r2, r3, r4) : Rq)])) → (W2.alloc (.cells #[.int .u32 (last + 1), .bool r1, .int .i64 r2, .int .i64 r3, .int .u8 r4] 37)).drew.grownBy W4 (Value.ownBlock (.slice a0 Q.length cap0)) → (v'.ownBlock = Value.ownBlock (.slice a0 Q.length cap0) ∨ v'.ownBlock = some (W2.alloc (.cells #[.int .u32 (last + 1), .bool r1, .int .i64 r2, .int .i64 r3, .int .u8 r4] 37)).drew.heap.size) →
      W4.heap[db]? = some (.cells #[(.slice a0 Q.length cap0), .int .u32 (last + 1), .slice (some ⟨sb, 0, none⟩) n C2] 74) ∧ W4.heap[w.heap.size]? = some (.cells #[.int .u32 (last + 1), .bool r1, .int .i64 r2, .int .i64 r3, .int .u8 r4] 37) ∧ Dk B (W4.setCell ⟨db, 0, none⟩ v') db sb n S v' (last + 1) (Q ++ [((last + 1, r1, r2, r3, r4) : Rq)]) ∧ Apart (fun k => k = db ∨ some k = Value.ownBlock (.slice a0 Q.length cap0)) w (W4.setCell ⟨db, 0, none⟩ v') ∧ (v'.ownBlock = Value.ownBlock (.slice a0 Q.length cap0) ∨ ∃ g, w.heap.size ≤ g ∧ v'.ownBlock = some g)) := ⟨fun v' W4 ho hg ha => by
    have hdb : some db ≠ Value.ownBlock (.slice a0 Q.length cap0) := fun e => (HD.out.apart db e.symm).2 rfl
    have hsz := hg.size
    have hX2 := hX.size
    have k1 : W4.heap[db]? = some (.cells #[(.slice a0 Q.length cap0), .int .u32 (last + 1), .slice (some ⟨sb, 0, none⟩) n C2] 74) := (hg.block db (by omega) hdb).trans ((hX.block db hlt2).trans hbk)
    have hbn : some w.heap.size ≠ Value.ownBlock (.slice a0 Q.length cap0) := fun e => by
      have := (HD.out.own.lt w.heap.size e.symm).2
      omega
    have k2 : W4.heap[w.heap.size]? = some (.cells #[.int .u32 (last + 1), .bool r1, .int .i64 r2, .int .i64 r3, .int .u8 r4] 37) := (hg.block w.heap.size (by omega) hbn).trans ((hX.block _ hx2).trans hbx)
    have hA4 : Apart (fun k => k = db ∨ some k = Value.ownBlock (.slice a0 Q.length cap0)) w W4 := (HA2.out.trans (Apart.of_below hX)).trans (Apart.of_grown hg (fun k _ e => .inr e))
    have hA5 : Apart (fun k => k = db ∨ some k = Value.ownBlock (.slice a0 Q.length cap0)) w (W4.setCell ⟨db, 0, none⟩ v') := hA4.trans ((Apart.set W4 ⟨db, 0, none⟩ v').wide (fun k _ e => .inl e))
    have hv : v'.ownBlock = Value.ownBlock (.slice a0 Q.length cap0) ∨ ∃ g, w.heap.size ≤ g ∧ v'.ownBlock = some g := ha.imp id (fun e => ⟨_, by omega, e⟩)
    refine ⟨k1, k2, ⟨⟨C2, hC2, (set3 k1).1⟩, ?_, HD.out.len, Apart.own ho (Apart.set W4 ⟨db, 0, none⟩ v') (fun g hg e => ?_), HD.out.n1, HD.out.n64, ?_, HD.out.ge, HD.out.gs, by omega⟩, hA5, hv⟩
    · obtain ⟨rest, er⟩ := HD.out.row
      exact ⟨rest, (hA5.block sb HD.out.lts (fun e => by
        rcases e with e | e
        · exact HD.out.ne e.symm
        · exact (HD.out.apart sb e.symm).1 rfl)).trans er⟩
    · have e' : g = db := e
      subst e'
      rcases ha with h1 | h1
      · exact hdb (hg.symm.trans h1)
      · rw [h1] at hg
        have := Option.some.inj hg
        omega
    · rw [List.length_append, List.length_singleton]
      omega⟩
  clear hX hw2 hbk hbx HA2
  go_region_law ((refine step_app5 (by rfl) _ _ (by rfl) B _ Q [((last + 1, r1, r2, r3, r4) : Rq)] ⟨W2.heap.size, 0, none⟩ 1 1 (by rfl) (by rfl) (by rfl) (by exact HR.out) (by exact HM.out) (by simp only [List.length_cons, List.length_nil]; omega) (by exact hBs.out) ?_; intro v' W4 hown4 hgrow hat; obtain ⟨k1, k2, HD5, HA5, HV5⟩ := HF.out v' W4 hown4 hgrow hat; have y0 : W4.cell? ⟨db, 0, none⟩ = some (.slice a0 Q.length cap0) := (by rw [Lib.cell_of_heap k1]; rfl); have fz : W4.frozen? ⟨db, 0, none⟩ = false := (by simp [World.frozen?, k1]); obtain ⟨z0, z1, z2, z3, z4⟩ := b5m k2; have H5 : Hid3 (Dk B (W4.setCell ⟨db, 0, none⟩ v') db sb n S v' (last + 1) (Q ++ [((last + 1, r1, r2, r3, r4) : Rq)]) ∧ Apart (fun k => k = db ∨ some k = Value.ownBlock (.slice a0 Q.length cap0)) w (W4.setCell ⟨db, 0, none⟩ v') ∧ (v'.ownBlock = Value.ownBlock (.slice a0 Q.length cap0) ∨ ∃ g, w.heap.size ≤ g ∧ v'.ownBlock = some g)) := ⟨HD5, HA5, HV5⟩; obtain ⟨a5, cap5, e5⟩ := form5 hown4; have e6 : v' = .slice a5 (Q.length + 1) cap5 := (by rw [e5]; simp); clear e5; subst e6; clear hown4 hgrow hat k1 k2 HD5 HA5 HV5))
  all_goals
    clear HF HR HM hBs
    go_wp2
    go_ret2
    exact ⟨rfl, _, H5.out⟩
end Go.Proofs.Ytdmahmolhdbegaa
