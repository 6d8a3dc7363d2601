/- A deed on a pool, as it comes in. -/
import Derived.Test.YtalhlbhhgddddaaDoorPlA
import Derived.ProofKit
import Derived.OpenShut
import Derived.Lib.SmallJoins
import Derived.ChangeSlices
import Derived.Carry
import Derived.Deep.Slices
import Derived.LaidMore
import Derived.Lay
import Derived.SevenTiedAt
import Derived.Stop.Joined
import Derived.PinnedBridge
namespace Go.Proofs.YtalhlbhhgddddaaDoor
open Go.ChangeShapes Go.WideShapes Go.ChangeAt Go.RowKit Go.ChangeMaps Go.Joins
set_option linter.unusedVariables false
set_option maxRecDepth 100000
theorem laidOut : laidOutB Tryd.prog = true := by kernel_rfl
theorem nown : ownKnob Tryd.prog.godebug = none := by kernel_rfl
theorem u8_nat {x : Int} (h : (Lit.int .u8 x).wf = true) : ∃ r : Nat, x = (r : Int) ∧ r ≤ 255 := by
  have b : 0 ≤ x ∧ x ≤ 255 := by simpa [Lit.wf, IntKind.min, IntKind.max, IntKind.signed, IntKind.bits] using h
  exact ⟨x.toNat, by omega, by omega⟩
theorem pd_cells {H : Type} {enc : TypeId × Value → H} {W : World} {base n : Nat} {spare : Nat → Bool} {held : Bool} {cs : List Value} {x : DataW H × List MemPlace} (h : DataW.trod enc Tryd.prog W base spare held n 45 cs = some x) :
    ∃ (k m : Int) (e t f : Nat) (s : ByteArray) (r : Nat), cs = [.int .i64 k, .int .i64 m, .int .u8 e, .int .u8 t, .int .u8 f, .string s, .int .u8 r] ∧ e ≤ 255 ∧ t ≤ 255 ∧ f ≤ 255 ∧ r ≤ 255 := by
  obtain ⟨xs, m, _, _, hl, hxl, hf⟩ := DataW.trod_struct Tryd.underlying45 h
  have hc : Tryd.prog.cellsOf 45 = 7 := by kernel_rfl
  have c1 : Tryd.prog.cellsOf 3 = 1 := by kernel_rfl
  have c2 : Tryd.prog.cellsOf 5 = 1 := by kernel_rfl
  have c3 : Tryd.prog.cellsOf 43 = 2 := by kernel_rfl
  have c4 : Tryd.prog.cellsOf 9 = 1 := by kernel_rfl
  rw [hc] at hl
  match xs, hxl, cs, hl with
  | [y0, y1, y2, y3, y4, y5], _, [v0, v1, v2, v3, v4, v5, v6], _ =>
    have g0 := hf 0 _ rfl
    have g1 := hf 1 _ rfl
    have g2 := hf 2 _ rfl
    have g3 := hf 3 _ rfl
    have g4 := hf 4 _ rfl
    have g5 := hf 5 _ rfl
    simp [c1, c2, c3] at g0 g1 g2 g3 g4 g5
    obtain ⟨z0, z1, n', hz, _, q0, q1⟩ := trod_struct2 Tryd.underlying43 g5
    simp only [c4, c2, List.drop_succ_cons, List.drop_zero, List.take_succ_cons, List.take_zero] at q0 q1
    obtain ⟨r0, e0, _, w0⟩ := DataW.trod_int Tryd.underlying3 g0
    obtain ⟨r1, e1, _, w1⟩ := DataW.trod_int Tryd.underlying3 g1
    obtain ⟨r2, e2, _, w2⟩ := DataW.trod_int Tryd.underlying5 g2
    obtain ⟨r3, e3, _, w3⟩ := DataW.trod_int Tryd.underlying5 g3
    obtain ⟨r4, e4, _, w4⟩ := DataW.trod_int Tryd.underlying5 g4
    obtain ⟨s, e5, _, hs⟩ := DataW.trod_string Tryd.underlying9 q0
    obtain ⟨r6, e6, _, w6⟩ := DataW.trod_int Tryd.underlying5 q1
    obtain ⟨a2, rfl, b2⟩ := u8_nat w2
    obtain ⟨a3, rfl, b3⟩ := u8_nat w3
    obtain ⟨a4, rfl, b4⟩ := u8_nat w4
    obtain ⟨a6, rfl, b6⟩ := u8_nat w6
    cases e0
    cases e1
    cases e2
    cases e3
    cases e4
    cases e5
    cases e6
    exact ⟨r0, r1, a2, a3, a4, s, a6, rfl, b2, b3, b4, b6⟩
theorem pd_open {H : Type} {enc : TypeId × Value → H} {W : World} {base b0 : Nat} {r : Reach} {v : Value} {d : DataW H} {p : List MemPlace} (hv : Value.okWide Tryd.prog W r b0 45 v) (h : DataW.Trod enc Tryd.prog W base (fun _ => true) true 45 v d p) :
    ∃ (k m : Int) (e t f : Nat) (s : ByteArray) (r : Nat), v = .agg #[.int .i64 k, .int .i64 m, .int .u8 e, .int .u8 t, .int .u8 f, .string s, .int .u8 r] ∧ e ≤ 255 ∧ t ≤ 255 ∧ f ≤ 255 ∧ r ≤ 255 := by
  obtain ⟨cs, rfl, hsz⟩ := okWide_struct Tryd.underlying45 hv
  obtain ⟨fuel, hf⟩ := h
  obtain ⟨k, m, e, t, f, s, r, hs, b⟩ := pd_cells (cs := cs.toList) hf
  exact ⟨k, m, e, t, f, s, r, by rw [← hs], b⟩
end Go.Proofs.YtalhlbhhgddddaaDoor
