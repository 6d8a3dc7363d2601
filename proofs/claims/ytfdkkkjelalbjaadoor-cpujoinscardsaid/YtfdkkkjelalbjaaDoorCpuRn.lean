/- Where two variables are made ahead of a call, or behind it. -/
import Derived.Test.YtfdkkkjelalbjaaDoorCpuQ
import Derived.Test.YtfdkkkjelalbjaaDoorCpuO
import Derived.Test.YtfdkkkjelalbjaaDoorCpuEq
import Derived.Deep.DeepCutAuto
namespace Go.Proofs.YtfdkkkjelalbjaaDoor
open Go.RowKit
set_option linter.unusedVariables false
set_option maxRecDepth 100000
theorem hide {p : Prop} (h : p) : Hid p := h
theorem bel_zero {W0 W1 : World} (h : Below W0.drew.heap.size W0.drew W1) : Below W0.heap.size W0 W1 := (Below.refl _ W0).drew.trans h
theorem bel_one {W0 W1 : World} {o : Obj} (h : Below (W0.alloc o).drew.heap.size (W0.alloc o).drew W1) : Below W0.heap.size W0 W1 := by
  have k : Below W0.heap.size W0 (W0.alloc o).drew := ((Below.refl _ W0).alloc (Nat.le_refl _) o).drew
  exact k.trans (h.mono k.size)
theorem bel_two {W0 W1 : World} {o o2 : Obj} (h : Below ((W0.alloc o).alloc o2).drew.heap.size ((W0.alloc o).alloc o2).drew W1) : Below W0.heap.size W0 W1 := by
  have k : Below W0.heap.size W0 ((W0.alloc o).alloc o2).drew := (((Below.refl _ W0).alloc (Nat.le_refl _) o).alloc (by simp) o2).drew
  exact k.trans (h.mono k.size)
theorem cel_one {W0 W1 : World} {xs : Array Value} {t : TypeId} (h : Below (W0.alloc (.cells xs t)).drew.heap.size (W0.alloc (.cells xs t)).drew W1) : Cel W1 W0.heap.size xs t := (h.block W0.heap.size (show W0.heap.size < (W0.alloc (.cells xs t)).heap.size by rw [World.size_alloc]; omega)).trans (Cel.new W0 xs t)
theorem cel_two {W0 W1 : World} {xs ys : Array Value} {t s : TypeId} (h : Below ((W0.alloc (.cells xs t)).alloc (.cells ys s)).drew.heap.size ((W0.alloc (.cells xs t)).alloc (.cells ys s)).drew W1) : Cel W1 W0.heap.size xs t ∧ Cel W1 (W0.heap.size + 1) ys s := by
  refine ⟨(h.block W0.heap.size (show W0.heap.size < ((W0.alloc (.cells xs t)).alloc (.cells ys s)).heap.size by rw [World.size_alloc, World.size_alloc]; omega)).trans ((Cel.new W0 xs t).alloc _), ?_⟩
  have k := Cel.new (W0.alloc (.cells xs t)) ys s
  rw [World.size_alloc] at k
  exact (h.block (W0.heap.size + 1) (show W0.heap.size + 1 < ((W0.alloc (.cells xs t)).alloc (.cells ys s)).heap.size by rw [World.size_alloc, World.size_alloc]; omega)).trans k
theorem b9 {W : World} {b : Nat} {x0 x1 x2 x3 x4 x5 x6 x7 x8 : Value} {t : TypeId} (h : Cel W b #[x0, x1, x2, x3, x4, x5, x6, x7, x8] t) : (W.cell? ⟨b, 0, none⟩ = some x0 ∧ W.cell? ⟨b, 1, none⟩ = some x1 ∧ W.cell? ⟨b, 2, none⟩ = some x2 ∧ W.cell? ⟨b, 3, none⟩ = some x3 ∧ W.cell? ⟨b, 4, none⟩ = some x4 ∧ W.cell? ⟨b, 5, none⟩ = some x5 ∧ W.cell? ⟨b, 6, none⟩ = some x6 ∧ W.cell? ⟨b, 7, none⟩ = some x7 ∧ W.cell? ⟨b, 8, none⟩ = some x8) ∧ ∀ j, W.frozen? ⟨b, j, none⟩ = false := ⟨⟨h.c 0, h.c 1, h.c 2, h.c 3, h.c 4, h.c 5, h.c 6, h.c 7, h.c 8⟩, h.f⟩
theorem b5c {W : World} {b : Nat} {x0 x1 x2 x3 x4 : Value} {t : TypeId} (h : Cel W b #[x0, x1, x2, x3, x4] t) : (W.cell? ⟨b, 0, none⟩ = some x0 ∧ W.cell? ⟨b, 1, none⟩ = some x1 ∧ W.cell? ⟨b, 2, none⟩ = some x2 ∧ W.cell? ⟨b, 3, none⟩ = some x3 ∧ W.cell? ⟨b, 4, none⟩ = some x4) ∧ ∀ j, W.frozen? ⟨b, j, none⟩ = false := ⟨⟨h.c 0, h.c 1, h.c 2, h.c 3, h.c 4⟩, h.f⟩
end Go.Proofs.YtfdkkkjelalbjaaDoor
