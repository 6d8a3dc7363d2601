/- The document's table: Fork. -/
import Derived.Test.YtioinppclejbhaaDoorCaV
import Derived.Deep.WholeRow
namespace Go.Proofs.YtioinppclejbhaaDoor
open Go.RowKit Go.Maps
set_option linter.unusedVariables false
set_option maxRecDepth 100000
theorem wpList_stores {ops : Array Oper} {rest : List Oper} {o : Oper} {a : Act} {w w' : World} {Q : Exit → Act → World → Prop} (hgd : o.guard = none) (ty : TypeId) (p x : Operand) (ho : o.op = .store ty p x) (v u : Value) (hp : a.eval p = v) (hx : a.eval x = u) (hL : (Instr.storeAt ty v u).run Tryd.prog w = .ok () w')
    (h : wpList Tryd.prog ops Q rest (a.put o.dst undef) w') : wpList Tryd.prog ops Q (o :: rest) a w :=
  wpList_plain hgd fun K hK => by
    unfold Oper.wp execOp
    simp only [ho, hp, hx, Sem.run_bind, hL, Result.andThen_ok, Sem.run_pure]
    exact hK _ _ h
set_option maxHeartbeats 400000 in
theorem rfork_any (B b : Nat) (s : Sl) (w : World) (h : Tb 61 B w b s) (B' : Nat) (hB : B' ≤ w.heap.size) : Calls Tryd.prog 24 #[.pointer (some ⟨b, 0, none⟩)] w fun r w' => r = .returned (.pointer (some ⟨w.heap.size, 0, none⟩)) ∧ Tb 61 B' w' w.heap.size s ∧ Below w.heap.size w w' := by
  have H : Hid (Tb 61 B' (w.alloc (.cells (csCs (slF s)).toArray 61)) w.heap.size s ∧ Below w.heap.size w (w.alloc (.cells (csCs (slF s)).toArray 61))) := ⟨⟨hB, Cl.new w _ _⟩, below_new w _⟩
  have hH : w.heap[b]? = some (.cells (csCs (slF s)).toArray 61 (0, 0)) := h.c
  have hi : (Tryd.prog.info? 61).map (·.size) = some (csCs (slF s)).toArray.size := by kernel_rfl
  have hsz : (csCs (slF s)).toArray.size = 24 := rfl
  have h1 : (csCs (slF s)).toArray.all (·.oneCell') = true := by simp [csCs, Value.oneCell']
  generalize (csCs (slF s)).toArray = C at *
  clear h hB
  go_enter Tryd.func24, Tryd.ntmps24
  go_wp2_with (first | (refine wpList_load_row rfl 61 _ rfl b rfl 61 C (0, 0) _ hH Tryd.underlying61 rfl hi ?_) | (refine wpList_stores rfl 61 _ _ rfl _ (.agg C) rfl rfl (run_storeAt_new w 61 _ C hi (by rw [hsz]; rfl) h1) ?_))
  go_ret
  exact ⟨rfl, H.out⟩
end Go.Proofs.YtioinppclejbhaaDoor
