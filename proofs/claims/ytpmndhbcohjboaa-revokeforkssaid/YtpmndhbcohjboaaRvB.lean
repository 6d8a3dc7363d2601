/- Maps whose keys are two bytes: what is looked up, laid, taken out. -/
import Derived.Test.YtpmndhbcohjboaaRvA
import Derived.StillTailTactics
namespace Go.Proofs.Ytpmndhbcohjboaa
open Go.RowKit Go.Maps
set_option linter.unusedVariables false
set_option maxRecDepth 100000
def dE (d : Dm) : Value × Value := (dkV d.1 d.2.1, .int .i64 d.2.2)
def Mq (w : World) (r : Nat) (L : List Dm) : Prop := ∃ (arr : Array MapEntry) (clock : Nat), w.heap[r]? = some (.map arr clock) ∧ arr.toList.map (fun e => (e.key, e.val)) = L.map dE
theorem Mq.lt {w : World} {r : Nat} {L : List Dm} (h : Mq w r L) : r < w.heap.size := by
  obtain ⟨_, _, h, _⟩ := h
  exact (Array.getElem?_eq_some_iff.1 h).1
theorem Mq.stay {w w' : World} {r : Nat} {L : List Dm} {X : Nat → Prop} (h : Mq w r L) (k : Apart X w w') (hx : ¬ X r) : Mq w' r L := by
  have hl := h.lt
  obtain ⟨arr, c, h1, h2⟩ := h
  exact ⟨arr, c, (k.block r hl hx).trans h1, h2⟩
theorem Mq.below {w w' : World} {r : Nat} {L : List Dm} (h : Mq w r L) (k : Below w.heap.size w w') : Mq w' r L := h.stay (Apart.of_below (X := fun _ => False) k) id
theorem Mq.new (w : World) : Mq (w.alloc (.map #[] 0)) w.heap.size [] := ⟨#[], 0, heap_alloc_new w _, rfl⟩
theorem dout_of {a b : Int} : ∀ {L : List Dm}, (∀ d ∈ L, hasK a b d = false) → dout L a b = L := fun h => List.filter_eq_self.2 (fun d hd => by simp [h d hd])
theorem find_d (w : World) (a b : Int) : ∀ (es : List MapEntry) (L : List Dm) (i : Nat), es.map (fun e => (e.key, e.val)) = L.map dE →
    ∃ o, (Instr.findAsking 63 (dkV a b) es i).run Try.prog w = .ok o w ∧ ((o = none ∧ dget L a b = none ∧ dout L a b = L) ∨ ∃ j u, o = some (i + j, .int .i64 u) ∧ dget L a b = some u ∧ j < es.length ∧ (KeysD L → dout L a b = L.eraseIdx j))
  | [], [], i, _ => ⟨none, rfl, .inl ⟨rfl, rfl, rfl⟩⟩
  | [], p :: r, i, h => by cases h
  | e :: es, [], i, h => by cases h
  | e :: es, d :: L, i, h => by
    simp only [List.map_cons, List.cons.injEq, dE, Prod.mk.injEq] at h
    obtain ⟨⟨h1, h2⟩, h3⟩ := h
    have hq := eqD w a b d.1 d.2.1
    by_cases hk : a = d.1 ∧ b = d.2.1
    · refine ⟨some (i, e.val), ?_, .inr ⟨0, d.2.2, by rw [h2]; rfl, ?_, by simp, fun hd => ?_⟩⟩
      · rw [Instr.findAsking, h1]
        have hd : decide (a = d.1 ∧ b = d.2.1) = true := decide_eq_true hk
        simp only [Sem.run_bind, hq, Result.andThen_ok, hd, if_true, Sem.run_pure]
      · simp [dget, hasK, hk]
      · have hh : hasK a b d = true := by simp [hasK, hk]
        unfold dout
        rw [List.filter_cons, hh]
        show dout L a b = L
        refine dout_of fun x hx => ?_
        have := (List.pairwise_cons.1 hd).1 x hx
        unfold hasK
        rw [decide_eq_false_iff_not]
        exact fun e => this ⟨by rw [e.1, hk.1], by rw [e.2, hk.2]⟩
    · obtain ⟨o, h4, h5⟩ := find_d w a b es L (i + 1) h3
      have hd0 : hasK a b d = false := by
        unfold hasK
        rw [decide_eq_false_iff_not]
        exact fun e => hk ⟨e.1.symm, e.2.symm⟩
      refine ⟨o, ?_, ?_⟩
      · rw [Instr.findAsking, h1]
        have : decide (a = d.1 ∧ b = d.2.1) = false := decide_eq_false hk
        simp only [Sem.run_bind, hq, Result.andThen_ok, this, Bool.false_eq_true, if_false, h4]
      · have hg : dget (d :: L) a b = dget L a b := by simp [dget, hd0]
        have ho : dout (d :: L) a b = d :: dout L a b := by simp [dout, hd0]
        rw [hg, ho]
        rcases h5 with ⟨h5, h6, h7⟩ | ⟨j, u, h5, h6, h7, h8⟩
        · exact .inl ⟨h5, h6, by rw [h7]⟩
        · exact .inr ⟨j + 1, u, by rw [h5]; congr 2; omega, h6, by simp; omega, fun hd => by rw [h8 (List.pairwise_cons.1 hd).2]; rfl⟩
theorem findk_d (w : World) (a b : Int) (es : List MapEntry) (L : List Dm) (h : es.map (fun e => (e.key, e.val)) = L.map dE) (o : Option (Nat × Value)) (ho : (Instr.findAsking 63 (dkV a b) es 0).run Try.prog w = .ok o w) : (Instr.findKey 63 (dkV a b) es).run Try.prog w = .ok o w := by
  unfold Instr.findKey
  simp only [Sem.run_bind, run_underlying Try.underlying63, Result.andThen_ok]
  cases es with
  | nil =>
    rw [← ho]
    rfl
  | cons e es =>
    cases L with
    | nil => cases h
    | cons d L =>
      simp only [List.map_cons, List.cons.injEq, dE, Prod.mk.injEq] at h
      have h1 := h.1.1
      have : ∀ fs : Array Field, Instr.findNow (.struct fs) (dkV a b) (e :: es) 0 = none := fun fs => by
        rw [Instr.findNow, h1]
        rfl
      rw [this]
      exact ho
theorem zeroI (w : World) : (zeroValue 3).run Try.prog w = .ok (.int .i64 0) w := by
  have h : (Try.prog.info? 3).map (fun i => i.zero) = some (some (.int .i64 0)) := by kernel_rfl
  rw [Option.map_eq_some_iff] at h
  obtain ⟨i, hi, hz⟩ := h
  simp [zeroValue, typeInfo, hi, hz]
theorem dlook_run {w : World} {r : Nat} {L : List Dm} (h : Mq w r L) (a b : Int) (c : Bool) : (Instr.lookup 57 (.map (some r)) (dkV a b) c).run Try.prog w = .ok (if c then .tuple #[.int .i64 ((dget L a b).getD 0), .bool (dget L a b).isSome] else .int .i64 ((dget L a b).getD 0)) w := by
  obtain ⟨arr, cl, h1, h2⟩ := h
  obtain ⟨o, h3, h4⟩ := find_d w a b arr.toList L 0 h2
  have h5 := findk_d w a b arr.toList L h2 o h3
  simp only [Instr.lookup, Sem.run_bind, run_underlying Try.underlying57, Result.andThen_ok, get_map h1, Sem.run_pure, keyD, h5]
  rcases h4 with ⟨rfl, h6, _⟩ | ⟨j, v, rfl, h6, _⟩
  · cases c <;> simp [h6]
  · cases c <;> simp [h6]
theorem dput_run {w : World} {r : Nat} {L : List Dm} (h : Mq w r L) (a b u : Int) (hn : dget L a b = none) :
    ∃ w', (Instr.mapUpdate 57 (.map (some r)) (dkV a b) (.int .i64 u)).run Try.prog w = .ok () w' ∧ Mq w' r (L ++ [(a, b, u)]) ∧ Apart (XB r) w w' := by
  have hl := h.lt
  obtain ⟨arr, cl, h1, h2⟩ := h
  obtain ⟨o, h3, h4⟩ := find_d w a b arr.toList L 0 h2
  have h5 := findk_d w a b arr.toList L h2 o h3
  simp only [Instr.mapUpdate, Sem.run_bind, run_underlying Try.underlying57, Result.andThen_ok, get_map h1, keyD, h5]
  rcases h4 with ⟨rfl, _⟩ | ⟨j, v, _, h6, _⟩
  · refine ⟨_, set_map _ h1, ⟨_, _, put_heap hl _, ?_⟩, apart_put w r _⟩
    simp [h2, dE]
  · rw [hn] at h6
    cases h6
theorem ddel_run {w : World} {r : Nat} {L : List Dm} (h : Mq w r L) (hK : KeysD L) (ty : TypeId) (a b : Int) :
    ∃ w', (Builtin.delete_ #[57, 63] ty #[.map (some r), dkV a b]).run Try.prog w = .ok (.tuple #[]) w' ∧ Mq w' r (dout L a b) ∧ Apart (XB r) w w' := by
  have hl := h.lt
  obtain ⟨arr, cl, h1, h2⟩ := h
  obtain ⟨o, h3, h4⟩ := find_d w a b arr.toList L 0 h2
  have h5 := findk_d w a b arr.toList L h2 o h3
  simp only [Builtin.delete_, List.getElem?_toArray, List.getElem?_cons_zero, List.getElem?_cons_succ, Sem.run_bind, run_underlying Try.underlying57, Result.andThen_ok, get_map h1, keyD, h5]
  rcases h4 with ⟨rfl, _, h7⟩ | ⟨j, v, rfl, _, h6, h8⟩
  · refine ⟨_, by (simp only [Sem.run_bind, set_map _ h1, Result.andThen_ok, Sem.run_pure]; try rfl), ⟨_, _, put_heap hl _, ?_⟩, apart_put w r _⟩
    rw [h7]
    exact h2
  · refine ⟨_, by (simp only [Sem.run_bind, set_map _ h1, Result.andThen_ok, Sem.run_pure]; rfl), ⟨_, _, put_heap hl _, ?_⟩, apart_put w r _⟩
    have hja : 0 + j < arr.size := by simpa using h6
    rw [h8 hK, Array.eraseIdxIfInBounds, dif_pos hja, Array.toList_eraseIdx, map_erase, h2, map_erase, Nat.zero_add]
theorem len_of {w : World} {r : Nat} {L : List Dm} (h : Mq w r L) : ∃ (arr : Array MapEntry) (clock : Nat), w.heap[r]? = some (.map arr clock) ∧ arr.size = L.length := by
  obtain ⟨arr, c, h1, h2⟩ := h
  refine ⟨arr, c, h1, ?_⟩
  have := congrArg List.length h2
  simpa using this
theorem wpList_look1 {ops : Array Oper} {rest : List Oper} {o : Oper} {a : Act} {w : World} {Q : Exit → Act → World → Prop} (hgd : o.guard = none) (t : TypeId) (x i : Operand) (c : Bool) (ho : o.op = .lookup t x i c) (xv iv u : Value) (hx : a.eval x = xv) (hi : a.eval i = iv) (hL : (Instr.lookup t xv iv c).run Try.prog w = .ok u w)
    (h : wpList Try.prog ops Q rest (a.put o.dst u) w) : wpList Try.prog ops Q (o :: rest) a w :=
  wpList_plain hgd fun K hK => by
    unfold Oper.wp execOp
    simp only [ho, hx, hi, Sem.run_bind, hL, Result.andThen_ok, Sem.run_pure]
    exact hK _ _ h
theorem wpList_mupd {ops : Array Oper} {rest : List Oper} {o : Oper} {a : Act} {w w' : World} {Q : Exit → Act → World → Prop} (hgd : o.guard = none) (t : TypeId) (x i v : Operand) (ho : o.op = .mapUpdate t x i v) (xv iv vv : Value) (hx : a.eval x = xv) (hi : a.eval i = iv) (hv : a.eval v = vv) (hL : (Instr.mapUpdate t xv iv vv).run Try.prog w = .ok () w')
    (h : wpList Try.prog ops Q rest (a.put o.dst undef) w') : wpList Try.prog ops Q (o :: rest) a w :=
  wpList_plain hgd fun K hK => by
    unfold Oper.wp execOp
    simp only [ho, hx, hi, hv, Sem.run_bind, hL, Result.andThen_ok, Sem.run_pure]
    exact hK _ _ h
theorem wpList_del {ops : Array Oper} {rest : List Oper} {o : Oper} {a : Act} {w w' : World} {Q : Exit → Act → World → Prop} (hgd : o.guard = none) (t ts : TypeId) (x i : Operand) (ho : o.op = .call { callee := .builtin .delete, args := #[x, i], argTypes := #[t, ts] }) (xv iv : Value) (hx : a.eval x = xv) (hi : a.eval i = iv) (hL : (Builtin.delete_ #[t, ts] o.type #[xv, iv]).run Try.prog w = .ok (.tuple #[]) w')
    (h : wpList Try.prog ops Q rest (a.put o.dst (.tuple #[])) w') : wpList Try.prog ops Q (o :: rest) a w :=
  wpList_plain hgd fun K hK => by
    unfold Oper.wp execOp
    simp only [ho, resolve, invoke, builtin, Sem.run_bind, Sem.run_pure, Result.andThen_ok, List.map_toArray, List.map_cons, List.map_nil, hx, hi, hL]
    exact hK _ _ h
theorem still_tail {id : Nat} {Q : Exit → Act → World → Prop} {a : Act} {w : World} {l : List Oper} (n : Nat) (hm : Try.prog.follows .mixedOrders = true) (hB : Region.lexTailB .any l.toArray n = true)
    (h : wpStill Try.prog l.toArray w.drew (fun a' => wpList Try.prog l.toArray Q (l.drop n) a' w.drew) (l.take n) a) : (Code.region id l.toArray true).wp Try.prog Q a w := wp_region_still_tail n hm hB h
theorem below_newd (w : World) (o : Obj) : Below w.heap.size w (w.alloc o).drew := by
  have h := below_new w o
  exact ⟨h.os, h.tape, h.output, h.size, h.block⟩
end Go.Proofs.Ytpmndhbcohjboaa
