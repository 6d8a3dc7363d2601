/- vm: deeds; great allocs; stores in a region that draws its order (as in VmY, in a seat without VmOwn). -/
import Derived.Test.YtfmcoibpbcheiaaVmW
namespace Go.Proofs.Ytfmcoibpbcheiaa
open Go.RowKit Go.Maps
set_option linter.unusedVariables false
set_option maxRecDepth 100000
/-- A deed. -/
structure Dv where
  k : Int
  p : Int
  q : Int
  m : Int
  c : Int
  v : Value
  bs : List Int
structure Dv.Ok (B : Nat) (w : World) (d : Dv) : Prop where
  b : Byts B w d.v d.bs
  s : d.bs.length ≤ 9223372036854775807
  c : 0 ≤ d.c ∧ d.c ≤ 255
  p : -9223372036854775808 ≤ d.p ∧ d.p ≤ 9223372036854775807
  q : -9223372036854775808 ≤ d.q ∧ d.q ≤ 9223372036854775807
  m : -9223372036854775808 ≤ d.m ∧ d.m ≤ 9223372036854775807
/-- A slice of deeds that can be read. -/
def Dvs (B : Nat) (w : World) (v : Value) (l : List Dv) : Prop := ∃ a cap, v = .slice a l.length cap ∧ l.length ≤ 9223372036854775807 ∧ ∀ (j : Nat) d, l[j]? = some d → d.Ok B w ∧ ∃ g off, a = some ⟨g, off, none⟩ ∧ g < B ∧ w.cell? ⟨g, off + j * 6, none⟩ = some (.int .i64 d.k) ∧ w.cell? ⟨g, off + j * 6 + 1, none⟩ = some (.int .i64 d.p) ∧ w.cell? ⟨g, off + j * 6 + 2, none⟩ = some (.int .i64 d.q) ∧ w.cell? ⟨g, off + j * 6 + 3, none⟩ = some (.int .i64 d.m) ∧ w.cell? ⟨g, off + j * 6 + 4, none⟩ = some (.int .u8 d.c) ∧ w.cell? ⟨g, off + j * 6 + 5, none⟩ = some d.v
theorem Dvs.below {B : Nat} {w w' : World} {v : Value} {l : List Dv} (h : Dvs B w v l) (k : Below B w w') : Dvs B w' v l := by
  obtain ⟨a, cap, rfl, hl, hcell⟩ := h
  refine ⟨a, cap, rfl, hl, fun j d hj => ?_⟩
  obtain ⟨ok, g, off, rfl, hg, c0, c1, c2, c3, c4, c5⟩ := hcell j d hj
  have hb := k.block g hg
  refine ⟨⟨ok.b.below k, ok.s, ok.c, ok.p, ok.q, ok.m⟩, g, off, rfl, hg, ?_, ?_, ?_, ?_, ?_, ?_⟩ <;> (rw [World.cell?_of_block (w := w) hb]; assumption)
theorem wpList_zalloc {ops : Array Oper} {rest : List Oper} {o : Oper} {a : Act} {w : World} {Q : Exit → Act → World → Prop} (hg : o.guard = none) (t : TypeId) (ho : o.op = .alloc t) (dst : Option Tmp) (hdst : o.dst = dst) (z : Value) (cells : Array Value) (hc : z.cells = cells) (hz : (Try.prog.info? t).map (fun i => i.zero) = some (some z))
    (h : wpList Try.prog ops Q rest (a.put dst (.pointer (some ⟨w.heap.size, 0, none⟩))) (w.alloc (.cells cells t))) : wpList Try.prog ops Q (o :: rest) a w := by
  subst hdst hc
  rw [Option.map_eq_some_iff] at hz
  obtain ⟨i, hi, hz⟩ := hz
  have hZ : (zeroValue t).run Try.prog w = .ok z w := by simp [zeroValue, typeInfo, hi, hz]
  refine wpList_plain hg fun K hK => ?_
  unfold Oper.wp execOp
  simp only [ho, Sem.run_bind, Instr.alloc, newVar, newRow, hZ, run_newObj_alloc, Sem.run_pure, Result.andThen_ok]
  exact hK _ _ h
theorem step_store {w w' : World} {ops : Array Oper} {o : Oper} {a : Act} {K : Act → World → Prop} {Q : Exit → Act → World → Prop} {E : Prop} (d : Option Nat) (hd : o.dst = d) (hgd : o.guard = none) (ty : TypeId) (p x : Operand) (ho : o.op = .store ty p x) (v u : Value) (hp : a.eval p = v) (hx : a.eval x = u) (hL : (Instr.storeAt ty v u).run Try.prog w = .ok () w')
    (h : K (a.put d undef) w') : if Region.wanted o (yielded ops a.tmps) = true then Oper.wp Try.prog o a w K Q else E := by
  subst hd
  have hw : Region.wanted o (yielded ops a.tmps) = true := by simp [Region.wanted, hgd]
  rw [if_pos hw]
  unfold Oper.wp execOp
  simp only [ho, hp, hx, Sem.run_bind, hL, Result.andThen_ok, Sem.run_pure]
  exact h
theorem run_storeB (w : World) (b o : Nat) (x y : Bool) (hc : w.cell? ⟨b, o, none⟩ = some (.bool x)) (hf : w.frozen? ⟨b, o, none⟩ = false) : (Instr.storeAt 4 (.pointer (some ⟨b, o, none⟩)) (.bool y)).run Try.prog w = .ok () (w.setCell ⟨b, o, none⟩ (.bool y)) := by
  have hs : (Try.prog.info? 4).map (·.size) = some 1 := by kernel_rfl
  cases hq : Try.prog.info? 4 with
  | none => rw [hq] at hs; cases hs
  | some i =>
    rw [hq] at hs
    have hs' : i.size = 1 := by simpa using hs
    simp [Instr.storeAt, Instr.sureAddr, storeVar, sizeOf, typeInfo, hq, hs', go_sem, hc, hf, Value.cells]
end Go.Proofs.Ytfmcoibpbcheiaa
