/- live, without the document's calls. -/
import Derived.Test.YtmnolchkcejgaaaQuF
namespace Go.Proofs.Ytmnolchkcejgaaa
open Go.RowKit Go.Maps
set_option linter.unusedVariables false
set_option maxRecDepth 100000
theorem goS_le : ∀ (l : List Pe) (pen : Fin 6 → Nat) (e : Fin 6), (goS l pen).1 e ≤ pen e
  | [], pen, e => Nat.le_refl _
  | x :: l, pen, e => by
    simp only [goS]
    split
    · exact Nat.le_refl _
    · refine Nat.le_trans (goS_le l _ e) ?_
      unfold upd
      split
      · rename_i e2; subst e2; omega
      · exact Nat.le_refl _
theorem ok_turn {q : Qs} (h : q.Ok) : (turnQ q).Ok := fun e => Nat.le_trans (goS_le _ _ e) (h e)
def lv1 : Qs := takeQ 1 0 q0
def lv2 : Qs := takeQ 2 3 lv1
theorem VStp.belowB {B : Nat} {w w' : World} {vb pb : Nat} {q q' : Qs} (s : VStp B w w' vb pb q') (h : Vec B w vb pb q) (hB : B ≤ w.heap.size) : Below B w w' :=
  s.ap.below B (fun i e => by
    rcases e with e | e
    · exact e ▸ h.gv
    · exact e ▸ h.gp) hB
end Go.Proofs.Ytmnolchkcejgaaa
