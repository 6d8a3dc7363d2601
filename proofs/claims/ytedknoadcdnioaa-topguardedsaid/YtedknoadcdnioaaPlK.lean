/- The pool's live. -/
import Derived.Test.YtedknoadcdnioaaPlJ
namespace Go.Proofs.Ytedknoadcdnioaa
open Go.RowKit Go.Maps
set_option linter.unusedVariables false
set_option maxRecDepth 100000
structure Lv (w W : World) (b fb n : Nat) (v : Value) (q : Ps) : Prop where
  p : Pl w.heap.size W b fb n v q
  bl : Below w.heap.size w W
theorem own_ge {w : World} {B t size n : Nat} {v : Value} {xs : List Value} (h : w.ownsRow B t size v n xs) {k : Nat} (e : v.ownBlock = some k) : B ≤ k := by
  rcases h.2 with ⟨rfl, _⟩ | ⟨g, cap, cur, rfl, h1, _⟩
  · cases e
  · have e' : some g = some k := e
    injection e' with e'
    omega
theorem Lv.step {w W W' : World} {b fb n : Nat} {v : Value} {q q' : Ps} (h : Lv w W b fb n v q) (s : PStp w.heap.size W W' b fb n v q') : ∃ v', Lv w W' b fb n v' q' := by
  obtain ⟨v', h1, _⟩ := s.out
  refine ⟨v', h1, ⟨s.ap.os.trans h.bl.os, s.ap.tape.trans h.bl.tape, s.ap.output.trans h.bl.output, Nat.le_trans h.bl.size s.ap.size, fun k hk => (s.ap.block k (Nat.lt_of_lt_of_le hk h.bl.size) (fun e => ?_)).trans (h.bl.block k hk)⟩⟩
  rcases e with e | e | e
  · have := h.p.g; omega
  · have := h.p.gf; omega
  · have := own_ge h.p.e e; omega
theorem Lv.low {w W W' : World} {b fb n : Nat} {v : Value} {q : Ps} (h : Lv w W b fb n v q) (k : Below W.heap.size W W') : Lv w W' b fb n v q := ⟨h.p.low k, h.bl.trans (k.mono h.bl.size)⟩
def lq1 : Ps := grQ 8 (newP 8) 0 5 (⟨#[47, 97]⟩, 0)
def lq2 : Ps := shQ 8 lq1 0 1 5
def lq3 : Ps := frQ 8 lq2 0 5
theorem le1 : grE 8 (newP 8) 0 5 (⟨#[47, 97]⟩, 0) = 0 := by decide +kernel
theorem le2 : shE 8 lq1 0 1 5 = 0 := by decide +kernel
theorem le3 : hadE 8 lq2 0 5 = 0 ∧ frB 8 lq2 0 5 = false := by decide +kernel
theorem le4 : (oF 8 lq3 5).testBit 1 = true ∧ (oF 8 lq3 5).testBit 0 = false ∧ grE 8 lq3 2 5 (⟨#[47]⟩, 0) = 6 := by decide +kernel
theorem ln1 : lq1.E.length = 1 := by decide +kernel
theorem ln2 : lq2.E.length = 2 := by decide +kernel
theorem ln3 : lq3.E.length = 3 := by decide +kernel
theorem ln0 : (newP 8).E.length = 0 := rfl
end Go.Proofs.Ytedknoadcdnioaa
