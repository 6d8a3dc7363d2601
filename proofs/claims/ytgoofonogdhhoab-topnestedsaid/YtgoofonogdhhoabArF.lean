/- The program's area: what is kept; Return; what stands against an upcall. -/
import Derived.Test.YtgoofonogdhhoabArE
import Derived.StillTailTactics
namespace Go.Proofs.Ytgoofonogdhhoab
open Go.RowKit Go.Maps
set_option linter.unusedVariables false
set_option maxRecDepth 100000
/-- Nine cells that are registers. -/
structure C9 (w : World) (b o : Nat) (s : Rg) : Prop where
  c0 : w.cell? ⟨b, o, none⟩ = some (.int .u16 s.pc)
  c1 : w.cell? ⟨b, o + 1, none⟩ = some (.int .u16 s.a0)
  c2 : w.cell? ⟨b, o + 2, none⟩ = some (.int .u16 s.a1)
  c3 : w.cell? ⟨b, o + 3, none⟩ = some (.int .u16 s.a2)
  c4 : w.cell? ⟨b, o + 4, none⟩ = some (.int .u16 s.a3)
  c5 : w.cell? ⟨b, o + 5, none⟩ = some (.int .u16 s.a4)
  c6 : w.cell? ⟨b, o + 6, none⟩ = some (.int .u16 s.a5)
  c7 : w.cell? ⟨b, o + 7, none⟩ = some (.int .u16 s.a6)
  c8 : w.cell? ⟨b, o + 8, none⟩ = some (.int .u16 s.a7)
theorem C9.of {w : World} {b o : Nat} {t : TypeId} {cs : List Value} {s : Rg} (h : Cl w b t cs) (hx : (cs.drop o).take 9 = s.vs) : C9 w b o s := by
  have e : ∀ j v, s.vs[j]? = some v → w.cell? ⟨b, o + j, none⟩ = some v := fun j v hj => by
    rw [h.cell]
    rw [← hx, List.getElem?_take] at hj
    split at hj
    · rw [List.getElem?_drop] at hj; exact hj
    · cases hj
  exact ⟨e 0 _ rfl, e 1 _ rfl, e 2 _ rfl, e 3 _ rfl, e 4 _ rfl, e 5 _ rfl, e 6 _ rfl, e 7 _ rfl, e 8 _ rfl⟩
theorem wpStill_loads {ops : Array Oper} {w : World} {Q : Act → Prop} {rest : List Oper} {o : Oper} {a : Act} (hw : Region.wanted o (yielded ops a.tmps) = true) (ty : TypeId) (x : Operand) (ho : o.op = .load ty x) (v u : Value) (hx : a.eval x = v) (hL : (Instr.loadAt ty v).run Try.prog w = .ok u w) (h : wpStill Try.prog ops w Q rest (a.put o.dst u)) : wpStill Try.prog ops w Q (o :: rest) a := by
  unfold wpStill
  rw [if_pos hw]
  unfold Oper.still execOp
  simp only [ho, hx, Sem.run_bind, hL, Result.andThen_ok, Sem.run_pure]
  exact ⟨rfl, h⟩
theorem still_tail {id : Nat} {Q : Exit → Act → World → Prop} {a : Act} {w : World} {l : List Oper} (n : Nat) (hm : Try.prog.follows .mixedOrders = true) (hB : Region.lexTailB .any l.toArray n = true)
    (h : wpStill Try.prog l.toArray w.drew (fun a' => wpList Try.prog l.toArray Q (l.drop n) a' w.drew) (l.take n) a) : (Code.region id l.toArray true).wp Try.prog Q a w := wp_region_still_tail n hm hB h
def keepQ (s : Rg) (q : Ar) : Ar := { q with kp := q.kp ++ [s] }
theorem aCs_d (q : Ar) (x : Value) (n : Int) (hn : n = q.kp.length) : ((aCs q).set 46 x).set 46 (.int .i64 n) = aCs q := by
  subst hn
  rfl
theorem Ac.keep1 {B : Nat} {w : World} {b : Nat} {q : Ar} (h : Ac B w b q) (s : Rg) (n : Nat) (hn : q.kp.length = n) (h4 : n < 4) :
    (Instr.storeAt 26 (.pointer (some ⟨b, 10 + n * 9, none⟩)) (.agg s.vs.toArray)).run Try.prog w = .ok () (w.setRow b ((aCs (keepQ s q)).set 46 (.int .i64 n)).toArray) := by
  subst hn
  have := stores h.c 26 (10 + q.kp.length * 9) 9 s.vs sizR rfl (vs_one s) (by show _ ≤ 57; omega)
  rw [aCs_keep q s h4] at this
  exact this
theorem Ac.keep2 {B : Nat} {w : World} {b : Nat} {q : Ar} (h : Ac B w b q) (s : Rg) (n : Nat) (hn : q.kp.length = n) (h4 : n < 4) (hal : q.al = true) :
    AStp B w ((w.setRow b ((aCs (keepQ s q)).set 46 (.int .i64 n)).toArray).setCell ⟨b, 46, none⟩ (.int .i64 (n + 1))) b (keepQ s q) ∧ (w.setRow b ((aCs (keepQ s q)).set 46 (.int .i64 n)).toArray).cell? ⟨b, 46, none⟩ = some (.int .i64 n) ∧ (w.setRow b ((aCs (keepQ s q)).set 46 (.int .i64 n)).toArray).frozen? ⟨b, 46, none⟩ = false := by
  subst hn
  have k1 : Cl (w.setRow b ((aCs (keepQ s q)).set 46 (.int .i64 q.kp.length)).toArray) b 44 _ := h.c.row _
  have k2 := k1.set 46 (.int .i64 (q.kp.length + 1))
  rw [aCs_d (keepQ s q) _ (q.kp.length + 1) (by simp [keepQ])] at k2
  exact ⟨⟨⟨h.g, k2, by simp [keepQ]; omega, fun e => by rw [show q.al = false from e] at hal; cases hal⟩, (Apart.row w b _).trans (Apart.at (X := XB b) _ b _ _ rfl)⟩, k1.cell 46, k1.thaw 46⟩
set_option maxHeartbeats 2000000 in
theorem keep_any (B b : Nat) (q : Ar) (s : Rg) (w : World) (h : Ac B w b q) (h4 : q.kp.length < 4) (hal : q.al = true) : Calls Try.prog 13 #[.pointer (some ⟨b, 0, none⟩), s.V] w fun r w' => r = .returned (.tuple #[]) ∧ AStp B w w' b (keepQ s q) := by
  have hX := below_new w (.cells s.vs.toArray 26)
  have hXd := hX.trans ((below_drew _).mono hX.size)
  have hA := h.below hXd
  have hb1 := h.lt
  have c1 := h.k.cd
  have hl := Hid3.mk (load_box (Cl.new w 26 s.vs).drew)
  unfold Rg.V at *
  generalize hn : q.kp.length = n at *
  have hs := Hid3.mk (hA.keep1 s n hn h4)
  obtain ⟨HK, k1, k2⟩ := hA.keep2 s n hn h4 hal
  have HK' := Hid3.mk (HK.pre hXd)
  have hz : 0 ≤ (n : Int) := by omega
  have hz4 : (n : Int) < 4 := by omega
  clear h hA hX HK h4 hal hn hXd
  generalize ((aCs (keepQ s q)).set 46 (.int .i64 n)).toArray = D at *
  generalize s.vs.toArray = R at *
  go_enter Try.func13, Try.ntmps13
  go_wp2_with fail
  refine still_tail 9 (by kernel_rfl) (by kernel_rfl) ?_
  simp only [List.take_succ_cons, List.take_zero, List.drop_succ_cons, List.drop_zero]
  repeat (first | (refine wpStill_loads (by rfl) 26 _ rfl _ (.agg R) rfl hl.out ?_) | still_step)
  refine wpStill_nil ?_
  refine wpList_stores rfl 26 _ _ rfl _ (.agg R) rfl rfl hs.out ?_
  clear c1
  generalize ((w.alloc (.cells R 26)).drew.setRow b D) = W1 at *
  go_wp2
  go_end0
  exact ⟨rfl, HK'.out⟩
end Go.Proofs.Ytgoofonogdhhoab
