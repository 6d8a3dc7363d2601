/- Deeds on both pipes: play; PipePlays, PipeForks, PipeNone: the walks. -/
import Derived.Test.YtpjnadgjohbhbabPiT
namespace Go.Proofs.Ytpjnadgjohbhbab
open Go.RowKit Go.Maps
set_option linter.unusedVariables false
set_option maxRecDepth 100000
/-- A slice of deeds that can be read. -/
def Dds (w : World) (v : Value) (l : List Dd) : Prop := ∃ a cap, v = .slice a l.length cap ∧ ∀ (j : Nat) (d : Dd), l[j]? = some d → ∃ g off, a = some ⟨g, off, none⟩ ∧ w.cell? ⟨g, off + j * 4, none⟩ = some (.int .i64 d.k) ∧ w.cell? ⟨g, off + j * 4 + 1, none⟩ = some (.int .i64 d.n) ∧ w.cell? ⟨g, off + j * 4 + 2, none⟩ = some (.bool d.on) ∧ w.cell? ⟨g, off + j * 4 + 3, none⟩ = some (.string ⟨d.s.toArray⟩)
theorem Dds.below {w w' : World} {v : Value} {l : List Dd} (h : Dds w v l) (k : Below w.heap.size w w') : Dds w' v l := by
  obtain ⟨a, cap, rfl, hcell⟩ := h
  refine ⟨a, cap, rfl, fun j d hj => ?_⟩
  obtain ⟨g, off, rfl, c0, c1, c2, c3⟩ := hcell j d hj
  have hb := k.block g (World.block_lt_of_cell? w _ c0)
  refine ⟨g, off, rfl, ?_, ?_, ?_, ?_⟩ <;> (rw [World.cell?_of_block (w := w) hb]; assumption)
/-- Both, whatever is in them, above a world. -/
structure Bo (w W : World) (b rb : Nat) : Prop where
  ex : ∃ T rd wr, Two w.heap.size W b rb T rd wr
  bl : Below w.heap.size w W
theorem Bo.step {w W W' : World} {b rb : Nat} {T : List UInt8} {rd wr : Nat} (h : Bo w W b rb) (k : Mv w.heap.size W W' b rb T rd wr) : Bo w W' b rb := ⟨⟨_, _, _, k.two⟩, h.bl.trans (k.below h.bl.size)⟩
end Go.Proofs.Ytpjnadgjohbhbab
