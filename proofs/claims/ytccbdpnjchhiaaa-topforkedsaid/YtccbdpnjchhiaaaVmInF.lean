/- A byte and six bytes as they come in. -/
import Derived.Test.YtccbdpnjchhiaaaVmL
import Derived.ProofKit
import Derived.OpenShut
import Derived.Lib.SmallJoins
import Derived.ChangeSlices
import Derived.Carry
import Derived.Deep.Slices
import Derived.Deep.SlicePairs
namespace Go.Proofs.Ytccbdpnjchhiaaa
open Go.ChangeShapes Go.WideShapes Go.ChangeAt Go.RowKit Go.ChangeMaps Go.Joins
set_option linter.unusedVariables false
theorem laidOut : laidOutB Try.prog = true := by kernel_rfl
theorem own : ownKnob Try.prog.godebug = none := by kernel_rfl
theorem u8_nat {x : Int} (h : (Lit.int .u8 x).wf = true) : ∃ r : Nat, x = (r : Int) ∧ r ≤ 255 := by
  have b : 0 ≤ x ∧ x ≤ 255 := by simpa [Lit.wf, IntKind.min, IntKind.max, IntKind.signed, IntKind.bits] using h
  exact ⟨x.toNat, by omega, by omega⟩
theorem list6 {α : Type} {l : List α} (h : l.length = 6) : ∃ a b c d e f, l = [a, b, c, d, e, f] := by
  match l, h with
  | [a, b, c, d, e, f], _ => exact ⟨a, b, c, d, e, f, rfl⟩
set_option maxRecDepth 100000 in
theorem arr6_open {H : Type} {enc : TypeId × Value → H} {W : World} {base b0 : Nat} {spare : Nat → Bool} {held : Bool} {r : Reach} {v : Value} {d : DataW H} {p : List MemPlace} (hv : Value.okWide Try.prog W r b0 22 v) (h : DataW.Trod enc Try.prog W base spare held 22 v d p) :
    ∃ y0 y1 y2 y3 y4 y5 : Nat, v = .agg #[.int .u8 y0, .int .u8 y1, .int .u8 y2, .int .u8 y3, .int .u8 y4, .int .u8 y5] ∧ y0 ≤ 255 ∧ y1 ≤ 255 ∧ y2 ≤ 255 ∧ y3 ≤ 255 ∧ y4 ≤ 255 ∧ y5 ≤ 255 := by
  have hC : Try.prog.cellsOf 22 = 6 := by kernel_rfl
  have hE : Try.prog.cellsOf 5 = 1 := by kernel_rfl
  simp only [Value.okWide, Try.underlying22] at hv
  obtain ⟨cs, rfl, hsz, _⟩ := hv
  obtain ⟨c0, c1, c2, c3, c4, c5, hcs⟩ := list6 (l := cs.toList) (by rw [Array.length_toList]; exact hsz.trans hC)
  obtain rfl : cs = #[c0, c1, c2, c3, c4, c5] := by
    apply Array.ext'
    exact hcs
  obtain ⟨fuel, hf⟩ := h
  obtain ⟨xs, m, _, _, _, hxl, hx⟩ := DataW.trod_array Try.underlying22 hf
  rw [hE] at hx
  obtain ⟨y0, y1, y2, y3, y4, y5, rfl⟩ := list6 hxl
  have g0 := hx 0 (by omega)
  have g1 := hx 1 (by omega)
  have g2 := hx 2 (by omega)
  have g3 := hx 3 (by omega)
  have g4 := hx 4 (by omega)
  have g5 := hx 5 (by omega)
  obtain ⟨x0, e0, _, w0⟩ := DataW.trod_int Try.underlying5 g0
  obtain ⟨x1, e1, _, w1⟩ := DataW.trod_int Try.underlying5 g1
  obtain ⟨x2, e2, _, w2⟩ := DataW.trod_int Try.underlying5 g2
  obtain ⟨x3, e3, _, w3⟩ := DataW.trod_int Try.underlying5 g3
  obtain ⟨x4, e4, _, w4⟩ := DataW.trod_int Try.underlying5 g4
  obtain ⟨x5, e5, _, w5⟩ := DataW.trod_int Try.underlying5 g5
  cases e0
  cases e1
  cases e2
  cases e3
  cases e4
  cases e5
  obtain ⟨z0, rfl, l0⟩ := u8_nat w0
  obtain ⟨z1, rfl, l1⟩ := u8_nat w1
  obtain ⟨z2, rfl, l2⟩ := u8_nat w2
  obtain ⟨z3, rfl, l3⟩ := u8_nat w3
  obtain ⟨z4, rfl, l4⟩ := u8_nat w4
  obtain ⟨z5, rfl, l5⟩ := u8_nat w5
  exact ⟨z0, z1, z2, z3, z4, z5, rfl, l0, l1, l2, l3, l4, l5⟩
end Go.Proofs.Ytccbdpnjchhiaaa
