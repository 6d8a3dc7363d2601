/- Registers as they come in. -/
import Derived.Test.YtgoofonogdhhoabArA
import Derived.ProofKit
import Derived.OpenShut
import Derived.Lib.SmallJoins
import Derived.ChangeSlices
import Derived.Carry
import Derived.Deep.Slices
import Derived.Deep.SlicePairs
namespace Go.Proofs.Ytgoofonogdhhoab
open Go.ChangeShapes Go.WideShapes Go.ChangeAt Go.RowKit Go.ChangeMaps Go.Joins
set_option linter.unusedVariables false
theorem laidOut : laidOutB Try.prog = true := by kernel_rfl
theorem own : ownKnob Try.prog.godebug = none := by kernel_rfl
theorem wf8 {x : Int} (h : (Lit.int .u8 x).wf = true) : 0 ≤ x ∧ x ≤ 255 := by simpa [Lit.wf, IntKind.min, IntKind.max, IntKind.signed, IntKind.bits] using h
theorem plain_add (g off j : Nat) : (⟨g, off, none⟩ : Addr).add j = ⟨g, off + j, none⟩ := by unfold Addr.add; split <;> simp_all
section
variable {H : Type} {enc : TypeId × Value → H} {W : World} {base : Nat} {spare : Nat → Bool} {held : Bool}
theorem list9 {α : Type} {cs : List α} (h : cs.length = 9) : ∃ c0 c1 c2 c3 c4 c5 c6 c7 c8, cs = [c0, c1, c2, c3, c4, c5, c6, c7, c8] := by
  match cs, h with
  | [c0, c1, c2, c3, c4, c5, c6, c7, c8], _ => exact ⟨c0, c1, c2, c3, c4, c5, c6, c7, c8, rfl⟩
theorem trod_array8 {P : Program} {t e : TypeId} {fuel : Nat} {cs : List Value} {x : DataW H × List MemPlace} (ht : P.underlying t = some (.array 8 e)) (hce : P.cellsOf e = 1)
    (h : DataW.trod enc P W base spare held fuel t cs = some x) :
    ∃ n, ∀ i, i < 8 → ∃ y, DataW.trod enc P W base spare held n e ((cs.drop i).take 1) = some y := by
  cases fuel with
  | zero => simp [DataW.trod] at h
  | succ n =>
    simp only [DataW.trod, ht, hce, Nat.mul_one] at h
    split at h
    · obtain ⟨xs, hm, hx⟩ := Option.map_eq_some_iff.1 h
      refine ⟨n, fun i hi => ?_⟩
      obtain ⟨b, hb, hf⟩ := Lib.mapM_at hm i i (by simp [hi])
      exact ⟨b, hf⟩
    · cases h
theorem word_cell {P : Program} {t : TypeId} {n : Nat} {c : Value} {y : DataW H × List MemPlace} (ht : P.underlying t = some (.int .u16)) (h : DataW.trod enc P W base spare held n t [c] = some y) : ∃ x, c = .int .u16 x := by
  obtain ⟨x, e0, e1, w0⟩ := DataW.trod_int ht h
  cases e0
  exact ⟨x, rfl⟩
set_option maxRecDepth 100000 in
set_option maxHeartbeats 1000000 in
theorem rg_cells {n : Nat} {cs : List Value} {x : DataW H × List MemPlace} (hf : DataW.trod enc Try.prog W base spare held n 26 cs = some x) : ∃ s : Rg, cs = s.vs := by
  have hC : Try.prog.cellsOf 26 = 9 := by kernel_rfl
  have hA : Try.prog.cellsOf 24 = 8 := by kernel_rfl
  have hE : Try.prog.cellsOf 23 = 1 := by kernel_rfl
  obtain ⟨y0, y1, n, hx, hl, h0, h1⟩ := trod_struct2 Try.underlying26 hf
  obtain ⟨c0, c1, c2, c3, c4, c5, c6, c7, c8, rfl⟩ := list9 (hl.trans hC)
  simp only [hE, hA] at h0 h1
  obtain ⟨x0, rfl⟩ := word_cell (c := c0) Try.underlying23 h0
  obtain ⟨m, hm⟩ := trod_array8 Try.underlying24 hE h1
  obtain ⟨_, g1⟩ := hm 0 (by decide)
  obtain ⟨_, g2⟩ := hm 1 (by decide)
  obtain ⟨_, g3⟩ := hm 2 (by decide)
  obtain ⟨_, g4⟩ := hm 3 (by decide)
  obtain ⟨_, g5⟩ := hm 4 (by decide)
  obtain ⟨_, g6⟩ := hm 5 (by decide)
  obtain ⟨_, g7⟩ := hm 6 (by decide)
  obtain ⟨_, g8⟩ := hm 7 (by decide)
  obtain ⟨x1, rfl⟩ := word_cell (c := c1) Try.underlying23 g1
  obtain ⟨x2, rfl⟩ := word_cell (c := c2) Try.underlying23 g2
  obtain ⟨x3, rfl⟩ := word_cell (c := c3) Try.underlying23 g3
  obtain ⟨x4, rfl⟩ := word_cell (c := c4) Try.underlying23 g4
  obtain ⟨x5, rfl⟩ := word_cell (c := c5) Try.underlying23 g5
  obtain ⟨x6, rfl⟩ := word_cell (c := c6) Try.underlying23 g6
  obtain ⟨x7, rfl⟩ := word_cell (c := c7) Try.underlying23 g7
  obtain ⟨x8, rfl⟩ := word_cell (c := c8) Try.underlying23 g8
  exact ⟨⟨x0, x1, x2, x3, x4, x5, x6, x7, x8⟩, rfl⟩
theorem rg_open {r : Reach} {b0 : Nat} {v : Value} {d : DataW H} {p : List MemPlace} (hv : Value.okWide Try.prog W r b0 26 v) (h : DataW.Trod enc Try.prog W base spare held 26 v d p) : ∃ s : Rg, v = s.V := by
  obtain ⟨cs, rfl, hsz⟩ := okWide_struct Try.underlying26 hv
  obtain ⟨fuel, hf⟩ := h
  obtain ⟨s, hs⟩ := rg_cells hf
  refine ⟨s, ?_⟩
  have hs : cs.toList = s.vs := hs
  unfold Rg.V
  rw [← hs]
end
end Go.Proofs.Ytgoofonogdhhoab
