/- Blocks of registers; what stops the processor. -/
import Derived.Test.YtbjklpdloglniaaDoorCpuT
namespace Go.Proofs.YtbjklpdloglniaaDoor
open Go.RowKit
set_option linter.unusedVariables false

def arC (r : Nat → Int) : Array Value := #[.int .u16 (r 0), .int .u16 (r 1), .int .u16 (r 2), .int .u16 (r 3), .int .u16 (r 4), .int .u16 (r 5), .int .u16 (r 6), .int .u16 (r 7)]
def rgC (pc : Int) (r : Nat → Int) : Array Value := #[.int .u16 pc, .int .u16 (r 0), .int .u16 (r 1), .int .u16 (r 2), .int .u16 (r 3), .int .u16 (r 4), .int .u16 (r 5), .int .u16 (r 6), .int .u16 (r 7)]
theorem eight {P : Nat → Prop} (h0 : P 0) (h1 : P 1) (h2 : P 2) (h3 : P 3) (h4 : P 4) (h5 : P 5) (h6 : P 6) (h7 : P 7) : ∀ k : Nat, k < 8 → P k
  | 0, _ => h0 | 1, _ => h1 | 2, _ => h2 | 3, _ => h3 | 4, _ => h4 | 5, _ => h5 | 6, _ => h6 | 7, _ => h7
  | k + 8, h => absurd h (by omega)
theorem rg_at (pc : Int) (r : Nat → Int) (k : Nat) (hk : k < 8) : (rgC pc r)[1 + k]? = some (.int .u16 (r k)) := by
  revert k
  exact eight rfl rfl rfl rfl rfl rfl rfl rfl
theorem ar_at (r : Nat → Int) (k : Nat) (hk : k < 8) : (arC r)[k]? = some (.int .u16 (r k)) := by
  revert k
  exact eight rfl rfl rfl rfl rfl rfl rfl rfl
theorem rg_set (pc : Int) (r : Nat → Int) (v : Int) (k : Nat) (hk : k < 8) : [Value.int .u16 pc, .int .u16 (r 0), .int .u16 (r 1), .int .u16 (r 2), .int .u16 (r 3), .int .u16 (r 4), .int .u16 (r 5), .int .u16 (r 6), .int .u16 (r 7)].set (1 + k) (.int .u16 v) = [Value.int .u16 pc, .int .u16 (upd r k v 0), .int .u16 (upd r k v 1), .int .u16 (upd r k v 2), .int .u16 (upd r k v 3), .int .u16 (upd r k v 4), .int .u16 (upd r k v 5), .int .u16 (upd r k v 6), .int .u16 (upd r k v 7)] := by
  revert k
  exact eight rfl rfl rfl rfl rfl rfl rfl rfl
/-- A block of registers, nothing of it frozen. -/
def Nine (W : World) (b : Nat) (pc : Int) (r : Nat → Int) : Prop := W.heap[b]? = some (.cells (rgC pc r) 26 (0, 0))
def Eight (W : World) (b : Nat) (r : Nat → Int) : Prop := W.heap[b]? = some (.cells (arC r) 24 (0, 0))
theorem Nine.new (w : World) (pc : Int) (r : Nat → Int) : Nine (w.alloc (.cells (rgC pc r) 26)) w.heap.size pc r := World.alloc_heap_new w _
theorem Eight.new (w : World) (r : Nat → Int) : Eight (w.alloc (.cells (arC r) 24)) w.heap.size r := World.alloc_heap_new w _
theorem Nine.below {W W' : World} {b B : Nat} {pc : Int} {r : Nat → Int} (h : Nine W b pc r) (hB : Below B W W') (hs : b < B) : Nine W' b pc r := (hB.block b hs).trans h
theorem Eight.below {W W' : World} {b B : Nat} {r : Nat → Int} (h : Eight W b r) (hB : Below B W W') (hs : b < B) : Eight W' b r := (hB.block b hs).trans h
theorem Nine.alloc {W : World} {b : Nat} {pc : Int} {r : Nat → Int} (h : Nine W b pc r) (o : Obj) : Nine (W.alloc o) b pc r := (Lib.alloc_old W o b (Array.getElem?_eq_some_iff.1 h).1).trans h
theorem Eight.alloc {W : World} {b : Nat} {r : Nat → Int} (h : Eight W b r) (o : Obj) : Eight (W.alloc o) b r := (Lib.alloc_old W o b (Array.getElem?_eq_some_iff.1 h).1).trans h
theorem Nine.pc {W : World} {b : Nat} {pc : Int} {r : Nat → Int} (h : Nine W b pc r) : W.cell? ⟨b, 0, none⟩ = some (.int .u16 pc) := by rw [Lib.cell_of_heap h]; rfl
theorem Nine.at {W : World} {b : Nat} {pc : Int} {r : Nat → Int} (h : Nine W b pc r) (k : Nat) (hk : k < 8) : W.cell? ⟨b, 1 + k, none⟩ = some (.int .u16 (r k)) := by
  rw [Lib.cell_of_heap h]
  revert k
  exact eight rfl rfl rfl rfl rfl rfl rfl rfl
theorem Eight.at {W : World} {b : Nat} {r : Nat → Int} (h : Eight W b r) (k : Nat) (hk : k < 8) : W.cell? ⟨b, k, none⟩ = some (.int .u16 (r k)) := by
  rw [Lib.cell_of_heap h]
  revert k
  exact eight rfl rfl rfl rfl rfl rfl rfl rfl
theorem Nine.f {W : World} {b : Nat} {pc : Int} {r : Nat → Int} (h : Nine W b pc r) (j : Nat) : W.frozen? ⟨b, j, none⟩ = false := Lib.frozen_of_heap h j
theorem Eight.f {W : World} {b : Nat} {r : Nat → Int} (h : Eight W b r) (j : Nat) : W.frozen? ⟨b, j, none⟩ = false := Lib.frozen_of_heap h j

theorem trap_any (e : Int) (w : World) : Calls Tryd.prog 17 #[.int .i64 e] w fun x w' => x = .returned (accV (7, 0, 0, 0, e)) ∧ w' = w.alloc (.cells #[.int .u8 7, .int .u16 0, .int .u16 0, .int .u8 0, .int .i64 e] 35) := by
  go_enter Tryd.func17, Tryd.ntmps17
  go_wp2
  exact bodyPost_ret (v := accV (7, 0, 0, 0, e)) (by simp [results, Tryd.results17, go_sem, accV]) rfl ⟨rfl, rfl⟩
set_option maxRecDepth 100000 in
theorem stops_div (pc : Int) (r : Nat → Int) (o a b m : Int) (w : World) (hb : 0 ≤ b) (hb2 : b < 8) :
    Calls Tryd.prog 11 #[rgV pc r, .iface 53 (insV o a b m)] w fun e w' => e = .returned (if r b.toNat = 0 then .tuple #[accV (7, 0, 0, 0, 14), .bool true] else .tuple #[accV (0, 0, 0, 0, 0), .bool false]) ∧ Below w.heap.size w w' := by
  have t1 := as_quotient_halt
  have t2 := as_quotient_quotient
  have hc : #[Value.int .u16 pc, .int .u16 (r 0), .int .u16 (r 1), .int .u16 (r 2), .int .u16 (r 3), .int .u16 (r 4), .int .u16 (r 5), .int .u16 (r 6), .int .u16 (r 7)][1 + b.toNat]? = some (.int .u16 (r b.toNat)) := rg_at pc r b.toNat (by omega)
  unfold rgV insV
  go_enter Tryd.func11, Tryd.ntmps11
  by_cases hz : r b.toNat = 0
  · rw [if_pos hz]
    rw [hz] at hc
    go_wp2_with (go_at_call 17; refine (trap_any _ _).mono ?_; rintro e W2 ⟨rfl, rfl⟩; unfold accV)
    exact bodyPost_ret (v := .tuple #[accV (7, 0, 0, 0, 14), .bool true]) (by simp [results, Tryd.results11, go_sem, accV]) rfl ⟨rfl, ((((((Below.refl _ w).alloc (Nat.le_refl _) _).alloc (by simp) _).alloc (by simp; omega) _).alloc (by simp; omega) _).alloc (by simp; omega) _)⟩
  · rw [if_neg hz]
    have hz' : (r b.toNat == 0) = false := by rw [beq_eq_false_iff_ne]; exact hz
    go_wp2
    exact bodyPost_ret (v := .tuple #[accV (0, 0, 0, 0, 0), .bool false]) (by simp [results, Tryd.results11, go_sem, accV]) rfl ⟨rfl, (((((Below.refl _ w).alloc (Nat.le_refl _) _).alloc (by simp) _).alloc (by simp; omega) _).alloc (by simp; omega) _)⟩
theorem nx {w W : World} (h : Below w.heap.size w W) (o : Obj) : Below w.heap.size w (W.alloc o) := h.alloc h.size _

set_option maxRecDepth 100000 in
set_option maxHeartbeats 2000000 in
theorem stops_not (pc : Int) (r : Nat → Int) (k : TypeId) (v : Value) (w : World)
    (t1 : ∀ w, (Instr.typeAssert (.iface k v) 44 63 true).run Tryd.prog w = .ok (.tuple #[.agg #[], .bool false]) w)
    (t2 : ∀ w, (Instr.typeAssert (.iface k v) 44 53 true).run Tryd.prog w = .ok (.tuple #[.agg #[.int .u8 0, .int .u8 0, .int .u8 0, .int .u16 0], .bool false]) w) :
    Calls Tryd.prog 11 #[rgV pc r, .iface k v] w fun e w' => e = .returned (.tuple #[accV (0, 0, 0, 0, 0), .bool false]) ∧ Below w.heap.size w w' := by
  unfold rgV
  go_enter Tryd.func11, Tryd.ntmps11
  go_wp2
  exact bodyPost_ret (v := .tuple #[accV (0, 0, 0, 0, 0), .bool false]) (by simp [results, Tryd.results11, go_sem, accV]) rfl ⟨rfl, nx (nx (nx (nx (Below.refl _ w) _) _) _) _⟩
set_option maxRecDepth 100000 in
theorem stops_nil (pc : Int) (r : Nat → Int) (w : World) :
    Calls Tryd.prog 11 #[rgV pc r, .nilIface] w fun e w' => e = .returned (.tuple #[accV (7, 0, 0, 0, 3), .bool true]) ∧ Below w.heap.size w w' := by
  unfold rgV
  go_enter Tryd.func11, Tryd.ntmps11
  go_wp2_with (go_at_call 17; refine (trap_any _ _).mono ?_; rintro e W2 ⟨rfl, rfl⟩; unfold accV)
  exact bodyPost_ret (v := .tuple #[accV (7, 0, 0, 0, 3), .bool true]) (by simp [results, Tryd.results11, go_sem, accV]) rfl ⟨rfl, nx (nx (nx (Below.refl _ w) _) _) _⟩
set_option maxRecDepth 100000 in
theorem stops_halt (pc : Int) (r : Nat → Int) (w : World) :
    Calls Tryd.prog 11 #[rgV pc r, .iface 63 (.agg #[])] w fun e w' => e = .returned (.tuple #[accV (6, 0, 0, 0, 0), .bool true]) ∧ Below w.heap.size w w' := by
  have t1 := as_halt_halt
  unfold rgV
  go_enter Tryd.func11, Tryd.ntmps11
  go_wp2
  exact bodyPost_ret (v := .tuple #[accV (6, 0, 0, 0, 0), .bool true]) (by simp [results, Tryd.results11, go_sem, accV]) rfl ⟨rfl, nx (nx (nx (Below.refl _ w) _) _) _⟩
end Go.Proofs.YtbjklpdloglniaaDoor
