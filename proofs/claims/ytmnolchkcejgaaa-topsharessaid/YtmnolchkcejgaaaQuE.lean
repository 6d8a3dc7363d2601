/- The places of an environment. -/
import Derived.Test.YtmnolchkcejgaaaQuD
import Derived.Lib.SmallJoins
namespace Go.Proofs.Ytmnolchkcejgaaa
open Go.RowKit Go.Shelf Go.Maps
set_option linter.unusedVariables false
set_option maxRecDepth 100000
attribute [local go_sem] Oper.semAt_some

theorem infoI : (Try.prog.info? 3).map (fun i => (i.zero, i.size, i.bytes)) = some (some (.int .i64 0), 1, 8) := by kernel_rfl
def pcL (env : Int) (pre : List Pe) : List Nat := (pre.filter (fun x => (x.2.1 : Int) == env)).map (fun x => x.1.1)
def natV (n : Nat) : Value := .int .i64 n
theorem box_kept {W W' : World} {row : Option Nat} {B : Nat} {t : TypeId} {v : Value} (h : Boxed W B t v) (hg : W.grownBy W' row) (hr : ∀ r, row = some r → ∃ o : Obj, W.heap[r]? = some o ∧ o.isCells = false) : Boxed W' B t v :=
  h.kept hg (fun e => by
    obtain ⟨o, ho, hc⟩ := hr B e.symm
    have h' : W.heap[B]? = some (.cells #[v] t (0, 0)) := h
    rw [h'] at ho
    cases ho
    cases hc)
theorem row_block {W : World} {base : Nat} {e : TypeId} {v : Value} {k : Nat} {xs : List Value} (h : W.ownsRow base e 1 v k xs) {B : Nat} (hB : B < base) : some B ≠ v.ownBlock := by
  rcases h.2 with ⟨rfl, _⟩ | ⟨g, cap, cur, rfl, hb, _⟩
  · simp [Value.ownBlock]
  · simp [Value.ownBlock]; omega
theorem kpC_of {n bv bf vb pb : Nat} {w W W' : World} {tv tf : TypeId} {xv xf : Value} (hb : Below n w W) (hb' : Below n w W') (hk : KeepsWalks W W') (hv : vb < n) (hp : pb < n) (b1 : Boxed W bv tv xv) (b2 : Boxed W' bv tv xv) (b3 : Boxed W bf tf xf) (b4 : Boxed W' bf tf xf) : KpC (XA bv bf vb pb) W W' := by
  refine ⟨hk, fun a v hx h => ?_⟩
  rcases hx with (rfl | rfl) | (rfl | ⟨j, rfl⟩)
  · rw [b1.cell] at h; cases h; exact b2.cell
  · rw [b3.cell] at h; cases h; exact b4.cell
  · rw [hb'.cell (p := ⟨vb, 0, none⟩) hv, ← hb.cell (p := ⟨vb, 0, none⟩) hv]; exact h
  · rw [hb'.cell (p := ⟨pb, j, none⟩) hp, ← hb.cell (p := ⟨pb, j, none⟩) hp]; exact h

end Go.Proofs.Ytmnolchkcejgaaa
