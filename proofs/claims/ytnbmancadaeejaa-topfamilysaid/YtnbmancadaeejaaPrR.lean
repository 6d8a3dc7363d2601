/- The document's table: New, State, Parent, Status, runs, Children, Running. -/
import Derived.Test.YtnbmancadaeejaaPrBa
namespace Go.Proofs.Ytnbmancadaeejaa
open Go.RowKit Go.Maps
set_option linter.unusedVariables false
set_option maxRecDepth 100000
structure RpC (w : World) (b : Nat) (s : Pt) : Prop where
  st : ∀ p : Fin 6, w.cell? ⟨b, p.1 * 3, none⟩ = some (.int .u8 (stI (s p)))
  ra : ∀ p : Fin 6, w.cell? ⟨b, p.1 * 3 + 1, none⟩ = some (.int .i64 (raI (s p)))
  su : ∀ p : Fin 6, w.cell? ⟨b, p.1 * 3 + 2, none⟩ = some (.int .i64 (suI (s p)))
  f : ∀ j, w.frozen? ⟨b, j, none⟩ = false
  l : b < w.heap.size
theorem Rp.cs {B : Nat} {w : World} {b : Nat} {s : Pt} (h : Rp B w b s) : RpC w b s :=
  ⟨fun p => (h.c.cell _).trans (rCs_st s p), fun p => (h.c.cell _).trans (rCs_ra s p), fun p => (h.c.cell _).trans (rCs_su s p), h.c.thaw, h.c.lt⟩
theorem RpC.below {w w' : World} {b : Nat} {s : Pt} {n : Nat} (h : RpC w b s) (k : Below n w w') (hn : b < n) : RpC w' b s :=
  ⟨fun p => (k.cell (p := ⟨b, p.1 * 3, none⟩) hn).trans (h.st p), fun p => (k.cell (p := ⟨b, p.1 * 3 + 1, none⟩) hn).trans (h.ra p), fun p => (k.cell (p := ⟨b, p.1 * 3 + 2, none⟩) hn).trans (h.su p), fun j => (k.frozen (p := ⟨b, j, none⟩) hn).trans (h.f j), Nat.lt_of_lt_of_le h.l k.size⟩
theorem stI_0 (x : Pr) : stI x = 0 ↔ x = .no := by cases x <;> simp [stI]
theorem raI_pa (x : Pr) (h : x ≠ .no) : raI x = paI x := by cases x <;> simp_all [raI, paI]
end Go.Proofs.Ytnbmancadaeejaa
