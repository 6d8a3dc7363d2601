/- PipeEnds, PipeForks: the walks. -/
import Derived.Test.YtpjnadgjohbhbabPiU
namespace Go.Proofs.Ytpjnadgjohbhbab
open Go.RowKit Go.Maps
set_option linter.unusedVariables false
set_option maxRecDepth 100000
/-- A pipe above a world, and the world below as it was. -/
structure Po (w W : World) (b : Nat) (T : List UInt8) (rd wr : Nat) : Prop where
  p : Pp w.heap.size W b T rd wr
  bl : Below w.heap.size w W
theorem Po.step {w W W' : World} {b : Nat} {T T' : List UInt8} {rd wr rd' wr' : Nat} (h : Po w W b T rd wr) (k : PStp w.heap.size W W' b T' rd' wr') : Po w W' b T' rd' wr' := ⟨k.p, h.bl.trans (k.below (w := w) h.bl.size)⟩
theorem Po.low {w W W' : World} {b : Nat} {T : List UInt8} {rd wr : Nat} (h : Po w W b T rd wr) (k : Below W.heap.size W W') : Po w W' b T rd wr := ⟨h.p.below k, h.bl.trans (k.mono h.bl.size)⟩
def cntAt (W : World) (b j : Nat) : Nat := match W.cell? ⟨b, j, none⟩ with
  | some (.int _ x) => x.toNat
  | _ => 0
theorem cntAt_26 {B : Nat} {W : World} {b : Nat} {T : List UInt8} {rd wr : Nat} (h : Pp B W b T rd wr) : cntAt W b 26 = rd := by
  obtain ⟨f, hc⟩ := h.cells
  unfold cntAt
  rw [hc.c26]
  simp
theorem cntAt_27 {B : Nat} {W : World} {b : Nat} {T : List UInt8} {rd wr : Nat} (h : Pp B W b T rd wr) : cntAt W b 27 = wr := by
  obtain ⟨f, hc⟩ := h.cells
  unfold cntAt
  rw [hc.c27]
  simp
/-- Both pairs of pipes. -/
structure Fk (w W : World) (b rb fb gb : Nat) (T : List UInt8) (rd wr : Nat) : Prop where
  a : Two w.heap.size W b rb T rd wr
  f : ∃ T' rd' wr', Two w.heap.size W fb gb T' rd' wr'
  n1 : b ≠ fb
  n2 : rb ≠ gb
  bl : Below w.heap.size w W
theorem Two.cross {B B' : Nat} {w : World} {b rb fb gb : Nat} {T T' : List UInt8} {rd wr rd' wr' : Nat} (h : Two B w b rb T rd wr) (k : Two B' w fb gb T' rd' wr') : b ≠ gb := by
  obtain ⟨C, f, h1, h2⟩ := h.p.ex
  exact h1.ne k.r.c (by decide)
theorem Fk.step {w W W' : World} {b rb fb gb : Nat} {T : List UInt8} {rd wr : Nat} (h : Fk w W b rb fb gb T rd wr) {T' : List UInt8} {rd' wr' : Nat} (k : Mv w.heap.size W W' fb gb T' rd' wr') : Fk w W' b rb fb gb T rd wr := by
  obtain ⟨T1, r1, w1, hf⟩ := h.f
  exact ⟨h.a.stay k.ap (fun e => e.elim h.n1 (h.a.cross hf)) (fun e => e.elim (fun e => hf.cross h.a e.symm) h.n2), ⟨_, _, _, k.two⟩, h.n1, h.n2, h.bl.trans (k.below h.bl.size)⟩
end Go.Proofs.Ytpjnadgjohbhbab
