/- The program's vm: Copy. -/
import Derived.Test.YtfmcoibpbcheiaaVmYa
import Derived.Test.YtfmcoibpbcheiaaVrU
import Derived.Shelf.SlMaps.Clone
import Derived.Deep.WholeRow
import Derived.Deep.MidRow
import Derived.Laws.Rows
namespace Go.Proofs.Ytfmcoibpbcheiaa
open Go.RowKit Go.Maps
set_option linter.unusedVariables false
set_option maxRecDepth 100000
theorem wpList_stores {ops : Array Oper} {rest : List Oper} {o : Oper} {a : Act} {w w' : World} {Q : Exit → Act → World → Prop} (hgd : o.guard = none) (ty : TypeId) (p x : Operand) (ho : o.op = .store ty p x) (v u : Value) (hp : a.eval p = v) (hx : a.eval x = u) (hL : (Instr.storeAt ty v u).run Try.prog w = .ok () w')
    (h : wpList Try.prog ops Q rest (a.put o.dst undef) w') : wpList Try.prog ops Q (o :: rest) a w :=
  wpList_plain hgd fun K hK => by
    unfold Oper.wp execOp
    simp only [ho, hp, hx, Sem.run_bind, hL, Result.andThen_ok, Sem.run_pure]
    exact hK _ _ h
def stV (m : Nat) (rf : List Int) (cp : Int) : List Value := .pointer (some ⟨m, 0, none⟩) :: (rf.map (Value.int .i64) ++ [.int .i64 cp])
def stZ : List Value := .pointer none :: ((List.replicate 64 (0 : Int)).map (Value.int .i64) ++ [.int .i64 0])
theorem stV_len (m : Nat) {rf : List Int} (cp : Int) (h : rf.length = 64) : (stV m rf cp).length = 66 := by simp [stV, h]
theorem stV_one (m : Nat) (rf : List Int) (cp : Int) : ∀ v ∈ stV m rf cp, v.oneCell' = true := by
  intro v hv
  unfold stV at hv
  rcases List.mem_cons.1 hv with rfl | hv
  · rfl
  · rcases List.mem_append.1 hv with hv | hv
    · obtain ⟨x, _, rfl⟩ := List.mem_map.1 hv
      rfl
    · rw [List.mem_singleton] at hv
      rw [hv]
      rfl
theorem st_zero : (Try.prog.info? 58).map (fun i => i.zero) = some (some (.agg stZ.toArray)) := by kernel_rfl
theorem st_size : (Try.prog.info? 58).map (·.size) = some 66 := by kernel_rfl
theorem Vb.st {B : Nat} {w : World} {l : Lo} {s : Vs} (h : Vb B w l s) : w.rangeAt l.b 6 (stV l.m s.rf s.cp) := fun j v hv => by
  have e : (vCs s.has l.r l.m s.rf s.cp)[6 + j]? = (stV l.m s.rf s.cp)[j]? := by
    rw [Nat.add_comm]
    rfl
  rw [h.c.cell, e]
  exact hv
theorem list66 {L : List Value} (h : L.length = 66) : L = (List.range 66).map (fun j => (L[j]?).getD undef) := by
  apply List.ext_getElem?
  intro j
  rw [List.getElem?_map]
  by_cases c : j < 66
  · rw [List.getElem?_range c, List.getElem?_eq_getElem (by omega)]
    simp [h, c]
  · rw [List.getElem?_eq_none (by omega), List.getElem?_eq_none (by simp; omega)]
    rfl
theorem cp_built (f : Nat → Value) : Try.prog.built 63 [(1, .agg ((List.range 66).map f).toArray)] = some ([Value.map none, Value.map none, Value.map none, Value.map none, Value.map none, Value.map none] ++ (List.range 66).map f).toArray := by kernel_rfl
theorem vm_built2 (m : Nat) {rf : List Int} (cp : Int) (h : rf.length = 64) : Try.prog.built 63 [(1, .agg (stV m rf cp).toArray)] = some (vCs (fun _ => false) (fun _ => 0) m rf cp).toArray := by
  have e := list66 (stV_len m cp h)
  have := cp_built (fun j => ((stV m rf cp)[j]?).getD undef)
  rw [← e] at this
  exact this
theorem cl_all {w : World} {b : Nat} {t : TypeId} {c vs : List Value} (h : Cl w b t c) (hl : vs.length = c.length) : Cl (w.setCells b 0 vs) b t vs := by
  obtain ⟨c', h1, h2, h3⟩ := cl_rowV vs c 0 h (by omega)
  have e : c' = vs := by
    apply List.ext_getElem?
    intro j
    rw [h3]
    by_cases q : j < vs.length
    · rw [if_pos (by omega), Nat.sub_zero]
    · rw [if_neg (by omega), List.getElem?_eq_none (by omega), List.getElem?_eq_none (by omega)]
  rw [e] at h1
  exact h1
set_option maxHeartbeats 2000000 in
theorem sfork_any (B : Nat) (l : Lo) (s : Vs) (w : World) (h : Vb B w l s) : Calls Try.prog 38 #[.pointer (some ⟨l.b, 6, none⟩)] w fun r w' => ∃ m, r = .returned (.agg (stV m s.rf s.cp).toArray) ∧ Mem w' m s.n s.L ∧ w.heap.size ≤ m ∧ Below w.heap.size w w' := by
  have hZl : stZ.toArray.size = 66 := by simp [stZ]
  have hSl := stV_len l.m s.cp h.len
  have hS1 : (stV l.m s.rf s.cp).toArray.all (·.oneCell') = true := all_oneCell_toArray (stV_one _ _ _)
  have hX0 := below_new w (.cells stZ.toArray 58)
  have hr0 := (h.below hX0).st
  have hX1 : Below w.heap.size w ((w.alloc (.cells stZ.toArray 58)).alloc (.cells (stV l.m s.rf s.cp).toArray 58)) := hX0.alloc hX0.size _
  have h2 := h.below hX1
  have c6 := h2.mem
  have hsz : ((w.alloc (.cells stZ.toArray 58)).alloc (.cells (stV l.m s.rf s.cp).toArray 58)).heap.size = w.heap.size + 1 + 1 := by simp
  have cF := fork_ok l.m s.n s.L _ h2.m
  rw [hsz] at cF
  have hC1 : Cl ((w.alloc (.cells stZ.toArray 58)).alloc (.cells (stV l.m s.rf s.cp).toArray 58)) (w.heap.size + 1) 58 (stV l.m s.rf s.cp) := by
    have := Cl.new (w.alloc (.cells stZ.toArray 58)) 58 (stV l.m s.rf s.cp)
    rw [World.size_alloc] at this
    exact this
  have hC0 : Cl ((w.alloc (.cells stZ.toArray 58)).alloc (.cells (stV l.m s.rf s.cp).toArray 58)) w.heap.size 58 stZ := (Cl.new w 58 stZ).alloc _
  have hst := run_storeAt_new (P := Try.prog) (w.alloc (.cells stZ.toArray 58)) 58 stZ.toArray (stV l.m s.rf s.cp).toArray (by rw [List.size_toArray, hSl]; exact st_size) (by rw [hZl, List.size_toArray, hSl]) hS1
  have hst0 := hst
  rw [World.size_alloc] at hst
  have hsz2 : (Try.prog.info? 58).map (·.size) = some (stV l.m s.rf s.cp).length := by rw [hSl]; exact st_size
  have hEnd : Hid3 (∀ W3, Below (w.heap.size + 1 + 1) ((w.alloc (.cells stZ.toArray 58)).alloc (.cells (stV l.m s.rf s.cp).toArray 58)) W3 → Mem W3 (w.heap.size + 1 + 1) s.n s.L →
      W3.cell? ⟨w.heap.size + 1, 0, none⟩ = some (.pointer (some ⟨l.m, 0, none⟩)) ∧ W3.frozen? ⟨w.heap.size + 1, 0, none⟩ = false ∧
      (W3.setCell ⟨w.heap.size + 1, 0, none⟩ (.pointer (some ⟨w.heap.size + 1 + 1, 0, none⟩))).heap[w.heap.size + 1]? = some (.cells (stV (w.heap.size + 1 + 1) s.rf s.cp).toArray 58 (0, 0)) ∧
      (W3.setCell ⟨w.heap.size + 1, 0, none⟩ (.pointer (some ⟨w.heap.size + 1 + 1, 0, none⟩))).there w.heap.size 0 66 ∧
      ((W3.setCell ⟨w.heap.size + 1, 0, none⟩ (.pointer (some ⟨w.heap.size + 1 + 1, 0, none⟩))).setCells w.heap.size 0 (stV (w.heap.size + 1 + 1) s.rf s.cp)).heap[w.heap.size]? = some (.cells (stV (w.heap.size + 1 + 1) s.rf s.cp).toArray 58 (0, 0)) ∧
      Mem ((W3.setCell ⟨w.heap.size + 1, 0, none⟩ (.pointer (some ⟨w.heap.size + 1 + 1, 0, none⟩))).setCells w.heap.size 0 (stV (w.heap.size + 1 + 1) s.rf s.cp)) (w.heap.size + 1 + 1) s.n s.L ∧
      Below w.heap.size w ((W3.setCell ⟨w.heap.size + 1, 0, none⟩ (.pointer (some ⟨w.heap.size + 1 + 1, 0, none⟩))).setCells w.heap.size 0 (stV (w.heap.size + 1 + 1) s.rf s.cp))) := ⟨fun W3 hB hM => by
    have hB' : Below ((w.alloc (.cells stZ.toArray 58)).alloc (.cells (stV l.m s.rf s.cp).toArray 58)).heap.size ((w.alloc (.cells stZ.toArray 58)).alloc (.cells (stV l.m s.rf s.cp).toArray 58)) W3 := by rw [hsz]; exact hB
    have k1 := hC1.below hB'
    have k0 := hC0.below hB'
    have q1 := k1.set 0 (.pointer (some ⟨w.heap.size + 1 + 1, 0, none⟩))
    have q0 := k0.other (d := w.heap.size + 1) (by omega) 0 (.pointer (some ⟨w.heap.size + 1 + 1, 0, none⟩))
    have q2 := cl_all q0 (vs := stV (w.heap.size + 1 + 1) s.rf s.cp) (by rw [stV_len _ _ h.len]; rfl)
    have a1 : Apart (fun k => k = w.heap.size + 1 ∨ k = w.heap.size) W3 ((W3.setCell ⟨w.heap.size + 1, 0, none⟩ (.pointer (some ⟨w.heap.size + 1 + 1, 0, none⟩))).setCells w.heap.size 0 (stV (w.heap.size + 1 + 1) s.rf s.cp)) := (Apart.at W3 _ 0 _ (.inl rfl)).trans (row_apart0 _ _ _ _ _ (.inr rfl))
    refine ⟨(k1.cell 0).trans rfl, k1.thaw 0, q1, fun j hj => ⟨?_, q0.thaw _⟩, q2, hM.stay a1 (fun e => by omega), hX1.trans ((hB'.mono (by rw [hsz]; omega)).trans (a1.below w.heap.size (fun k e => by omega) (by have := hB'.size; rw [hsz] at this; omega)))⟩
    rw [q0.cell, List.getElem?_eq_getElem (by show 0 + j < 66; omega)]
    rfl⟩
  have hlen := h.len
  clear h h2 hC1 hC0 hX1
  generalize hZ : stZ.toArray = Z at *
  have hz : (Try.prog.info? 58).map (fun i => i.zero) = some (some (.agg Z)) := by rw [← hZ]; exact st_zero
  generalize stV l.m s.rf s.cp = CS at *
  clear hZ
  go_enter Try.func38, Try.ntmps38
  go_wp2_with (first | (refine wpList_load_mid rfl 58 _ rfl l.b 6 rfl CS _ hr0 Try.underlying58 rfl hsz2 ?_) | (refine wpList_zalloc rfl 58 rfl _ rfl (.agg Z) Z rfl hz ?_) | (refine wpList_stores rfl 58 _ _ rfl _ (.agg CS.toArray) rfl rfl hst0 ?_) | (refine wpList_stores rfl 58 _ _ rfl _ (.agg CS.toArray) rfl rfl hst ?_))
  refine cF.mono ?_
  rintro e W3 ⟨rfl, hM, hB⟩
  obtain ⟨x0, f0, q1, th, q2, m2, b2⟩ := hEnd.out W3 hB hM
  have hl66 : (stV (w.heap.size + 1 + 1) s.rf s.cp).length = 66 := stV_len _ _ hlen
  have hi66 : (Try.prog.info? 58).map (·.size) = some (stV (w.heap.size + 1 + 1) s.rf s.cp).toArray.size := by rw [List.size_toArray, hl66]; exact st_size
  have h166 : (stV (w.heap.size + 1 + 1) s.rf s.cp).toArray.all (·.oneCell') = true := all_oneCell_toArray (stV_one _ _ _)
  have th2 : (W3.setCell ⟨w.heap.size + 1, 0, none⟩ (.pointer (some ⟨w.heap.size + 1 + 1, 0, none⟩))).there w.heap.size 0 (stV (w.heap.size + 1 + 1) s.rf s.cp).toArray.size := by have e : (stV (w.heap.size + 1 + 1) s.rf s.cp).toArray.size = 66 := hl66; rw [e]; exact th
  have HF := Hid3.mk (And.intro m2 b2)
  have hst2 := run_storeAt_mid (P := Try.prog) _ w.heap.size 0 58 _ th2 hi66 h166
  clear hM hB cF hEnd th m2 b2 hr0 hst hst0 hX0
  generalize hC2' : stV (w.heap.size + 1 + 1) s.rf s.cp = C2 at *
  have hC2 := Hid3.mk hC2'
  clear hC2'
  go_wp2_with (first | (refine wpList_load_row rfl 58 _ rfl _ rfl 58 C2.toArray (0, 0) _ q1 Try.underlying58 rfl hi66 ?_) | (refine wpList_stores rfl 58 _ _ rfl _ (.agg C2.toArray) rfl rfl hst2 ?_))
  exact bodyPost_ret (results_cell_row rfl _ _ w.heap.size 58 C2.toArray (0, 0) _ rfl q2 Try.underlying58 rfl hi66) rfl ⟨_, by rw [hC2.out], HF.out.1, by omega, HF.out.2⟩
end Go.Proofs.Ytfmcoibpbcheiaa
