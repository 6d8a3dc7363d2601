/- The program's table: Slots. -/
import Derived.Test.YtedknoadcdnioaaCaF
import Derived.Test.YtedknoadcdnioaaCaG
import Derived.Lib.SmallJoins
namespace Go.Proofs.Ytedknoadcdnioaa
open Go.RowKit Go.Shelf Go.Maps
set_option linter.unusedVariables false
set_option maxRecDepth 100000
attribute [local go_sem] Oper.semAt_some
def slV (k : Fin 12) : Array Value := #[.int .i64 k.1]
def slI (k : Fin 12) : Value := .int .i64 k.1
theorem infoI : (Try.prog.info? 3).map (fun i => (i.zero, i.size, i.bytes)) = some (some (.int .i64 0), 1, 8) := by kernel_rfl
theorem those_in (n : Nat) (p : Option Addr) (g : Fn) (r c : Array Value) (w : World) :
    CallsIn Fence.wide n Try.prog 19 #[.pointer p, .func g r c] w fun e w' => e = .returned (.func (.func 30) #[] #[.pointer (some ⟨w.heap.size, 0, none⟩), .pointer (some ⟨w.heap.size + 1, 0, none⟩)]) ∧ w' = (w.alloc (.cells #[.pointer p] 24)).alloc (.cells #[.func g r c] 33) := by
  refine callsIn_of_wp Try.func19 rfl trivial ?_ rfl
  simp only [Try.ntmps19, List.size_toArray, List.length_cons, List.length_nil, Nat.reduceAdd, Nat.reduceSub, Array.replicate_succ, Array.replicate_zero, List.push_toArray, List.append_toArray, List.nil_append, List.cons_append]
  gi_wp2
  go_ret
  exact ⟨rfl, rfl⟩
theorem KB.of {bf bx : Nat} {A B : World} (h : Below A.heap.size A B) : KB bf bx A B := (show KB bf bx A A from ⟨Nat.le_refl _, fun _ _ _ h => h⟩).below h
theorem KB.trans {bf bx : Nat} {A B C : World} (h : KB bf bx A B) (k : KB bf bx B C) : KB bf bx A C := ⟨Nat.le_trans h.1 k.1, fun a v hx hv => k.2 a v hx (h.2 a v hx hv)⟩
theorem th_stops (n : Nat) (hn : 1 ≤ n) (B bv bf bx b : Nat) (F : FuncId) (cs : Array Value) (hF : ∀ args w, (callFunc F args).run Try.prog w = .ok (.enter F args) w) (s : Sl) (q : Fin 12 → Bool) (w : World)
    (hv : w.cell? ⟨bv, 0, none⟩ = some (.pointer (some ⟨b, 0, none⟩))) (hf : w.cell? ⟨bf, 0, none⟩ = some (.func (.func F) #[] cs)) (ht : Tb 44 B w b s)
    (hA : ∀ (k : Fin 12) W', KB bf bx w W' → CallsIn Fence.wide (n - 1) Try.prog F (#[.agg #[.string (slF s k).1, .int .u8 (slF s k).2.toNat]] ++ cs) W' fun e W'' => e = .returned (.bool (q k)) ∧ Below W'.heap.size W' W'') :
    SeqStopsK Fence.wide n Try.prog 30 #[.pointer (some ⟨bv, 0, none⟩), .pointer (some ⟨bf, 0, none⟩)] slV (KpC (XB bf bx)) (fun ys => ys = thL q 12) (fun pre => pre <+: thL q 12) 12 w := fun l J Jx W hW hJ hJx hY h0 =>
  those1_in n hn l B bv bf bx b F cs hF s q J Jx W hJ hJx hY ((hW.cell (p := ⟨bv, 0, none⟩) (World.block_lt_of_cell? w _ hv)).trans hv) ((hW.cell (p := ⟨bf, 0, none⟩) (World.block_lt_of_cell? w _ hf)).trans hf) (ht.below hW) (fun k W' hk => hA k W' ((KB.of hW).trans hk)) h0
theorem kpB_of {bf : Nat} {W W' : World} {tf : TypeId} {xf : Value} (hk : KeepsWalks W W') (b3 : Boxed W bf tf xf) (b4 : Boxed W' bf tf xf) : KpC (XB bf bf) W W' := by
  refine ⟨hk, fun a v hx h => ?_⟩
  have h3 : W.heap[bf]? = some (.cells #[xf] tf (0, 0)) := b3
  rcases hx with rfl | rfl | rfl
  · rw [b3.cell] at h; cases h; exact b4.cell
  · rw [b3.cell] at h; cases h; exact b4.cell
  · rw [Lib.cell_of_heap h3] at h; simp at h
/-- The slots with one. -/
def slotsL (s : Sl) : List (Fin 12) := thL (fun k => (s k).isSome) 12
end Go.Proofs.Ytedknoadcdnioaa
