/- Four bytes as they come in. -/
import Derived.Test.YteoappoacapdhabDoorIsaFrame
import Derived.Laws.IdiomArrays
import Derived.Carry
namespace Go.Proofs.YteoappoacapdhabDoor
open Go.ChangeShapes Go.WideShapes Go.ChangeAt Go.RowKit Go.ChangeMaps Go.Joins
theorem laidOutA : laidOutB Tryd.prog = true := by kernel_rfl
set_option maxRecDepth 100000 in
theorem arr_open {H : Type} {enc : TypeId × Value → H} {W : World} {base b0 : Nat} {spare : Nat → Bool} {held : Bool} {r : Reach} {v : Value} {d : DataW H} {p : List MemPlace} (hv : Value.okWide Tryd.prog W r b0 22 v) (h : DataW.Trod enc Tryd.prog W base spare held 22 v d p) :
    ∃ x y z t, v = .agg #[.int .u8 x, .int .u8 y, .int .u8 z, .int .u8 t] ∧ p = [] ∧ (0 ≤ x ∧ x ≤ 255) ∧ (0 ≤ y ∧ y ≤ 255) ∧ (0 ≤ z ∧ z ≤ 255) ∧ (0 ≤ t ∧ t ≤ 255) := by
  have hC : Tryd.prog.cellsOf 22 = 4 := by kernel_rfl
  have hE : Tryd.prog.cellsOf 5 = 1 := by kernel_rfl
  simp only [Value.okWide, Tryd.underlying22] at hv
  obtain ⟨cs, rfl, hsz, _⟩ := hv
  obtain ⟨c0, c1, c2, c3, rfl⟩ := array4 (hsz.trans hC)
  obtain ⟨fuel, hf⟩ := h
  obtain ⟨y0, y1, y2, y3, n, hx, h0, h1, h2, h3⟩ := trod_array4 Tryd.underlying22 hE hf
  obtain ⟨x, e0, rfl, w0⟩ := DataW.trod_int Tryd.underlying5 h0
  obtain ⟨y, e1, rfl, w1⟩ := DataW.trod_int Tryd.underlying5 h1
  obtain ⟨z, e2, rfl, w2⟩ := DataW.trod_int Tryd.underlying5 h2
  obtain ⟨t, e3, rfl, w3⟩ := DataW.trod_int Tryd.underlying5 h3
  cases e0
  cases e1
  cases e2
  cases e3
  simp only [Prod.mk.injEq] at hx
  exact ⟨x, y, z, t, rfl, by simpa using hx.2, wf8 w0, wf8 w1, wf8 w2, wf8 w3⟩
end Go.Proofs.YteoappoacapdhabDoor
