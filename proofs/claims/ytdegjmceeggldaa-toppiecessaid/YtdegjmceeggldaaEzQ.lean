/- What must be whatever is asked. -/
import Derived.Test.YtdegjmceeggldaaEyC
import Derived.Test.YtdegjmceeggldaaEyA
namespace Go.Proofs.Ytdegjmceeggldaa
open Go.RowKit Go.Maps
set_option linter.unusedVariables false
set_option maxRecDepth 100000
def nmA : ByteArray := ⟨#[47, 97]⟩
theorem nmA_right : rightB nmA.data.toList ((0 : BitVec 8).toNat : Int) = true := by decide +kernel
def lx1 : Ex := (nEx 0 2 6 nmA 0 (by decide)).num 1
def lx2 : Ex := lx1.len (5 - lx1.st) (by decide)
def lx3 : Ex := (lx1.cut 5 (by decide)).num 2
def ls1 : Xt := ⟨16, [lx1], 1⟩
def ls2 : Xt := ⟨16, [lx2, lx3], 2⟩
def lx4 : Ex := lx2.len (lx2.ln + lx3.ln) (by decide)
def ls3 : Xt := ⟨16, [lx4], 2⟩
theorem sameG_refl (x : Ex) : sameG x x = true := by unfold sameG; simp
/-- Above a world. -/
structure Lt (w W : World) (T : Nat) (L : Lo) (s : Xt) : Prop where
  t : L.t = T
  p : Pt w.heap.size W L s
  bl : Below w.heap.size w W
theorem Lt.low {w W W' : World} {T : Nat} {L : Lo} {s : Xt} (h : Lt w W T L s) (k : Below W.heap.size W W') : Lt w W' T L s := ⟨h.t, h.p.below k, h.bl.trans (k.mono h.bl.size)⟩
theorem Lt.step {w W W' : World} {T : Nat} {L : Lo} {s s' : Xt} (h : Lt w W T L s) (k : TStp w.heap.size W W' L s') : ∃ L', Lt w W' T L' s' := by
  obtain ⟨L', e, hP, _⟩ := k.out
  exact ⟨L', e.trans h.t, hP, h.bl.trans (k.low h.p h.bl.size)⟩
end Go.Proofs.Ytdegjmceeggldaa
