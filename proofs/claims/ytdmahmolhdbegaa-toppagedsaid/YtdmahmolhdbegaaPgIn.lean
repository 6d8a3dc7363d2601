/- Arrays as they come in: 32 bytes, 4 bytes. -/
import Derived.Test.YtdmahmolhdbegaaDevI
import Derived.ProofKit
import Derived.OpenShut
import Derived.Lib.SmallJoins
import Derived.ChangeSlices
import Derived.Carry
import Derived.Deep.Slices
import Derived.Deep.SlicePairs
namespace Go.Proofs.Ytdmahmolhdbegaa
open Go.ChangeShapes Go.WideShapes Go.ChangeAt Go.RowKit Go.ChangeMaps Go.Joins
set_option linter.unusedVariables false
theorem laidOut : laidOutB Try.prog = true := by kernel_rfl
theorem own : ownKnob Try.prog.godebug = none := by kernel_rfl
theorem wf8 {x : Int} (h : (Lit.int .u8 x).wf = true) : 0 ≤ x ∧ x ≤ 255 := by simpa [Lit.wf, IntKind.min, IntKind.max, IntKind.signed, IntKind.bits] using h
set_option maxRecDepth 100000 in
theorem arr4_open {H : Type} {enc : TypeId × Value → H} {W : World} {base b0 : Nat} {spare : Nat → Bool} {held : Bool} {r : Reach} {v : Value} {d : DataW H} {p : List MemPlace} (hv : Value.okWide Try.prog W r b0 23 v) (h : DataW.Trod enc Try.prog W base spare held 23 v d p) :
    ∃ x y z u, v = .agg #[.int .u8 x, .int .u8 y, .int .u8 z, .int .u8 u] ∧ (0 ≤ x ∧ x ≤ 255) ∧ (0 ≤ y ∧ y ≤ 255) ∧ (0 ≤ z ∧ z ≤ 255) ∧ (0 ≤ u ∧ u ≤ 255) := by
  have hC : Try.prog.cellsOf 23 = 4 := by kernel_rfl
  have hE : Try.prog.cellsOf 5 = 1 := by kernel_rfl
  simp only [Value.okWide, Try.underlying23] at hv
  obtain ⟨cs, rfl, hsz, _⟩ := hv
  obtain ⟨c0, c1, c2, c3, rfl⟩ : ∃ c0 c1 c2 c3, cs = #[c0, c1, c2, c3] := by
    have h3 := hsz.trans hC
    obtain ⟨cl⟩ := cs
    match cl, h3 with
    | [a, b, c, e], _ => exact ⟨a, b, c, e, rfl⟩
  obtain ⟨fuel, hf⟩ := h
  cases fuel with
  | zero => simp [DataW.trod] at hf
  | succ n =>
    simp only [DataW.trod, Try.underlying23, hE, Nat.mul_one] at hf
    split at hf
    · obtain ⟨xs, hm, hx⟩ := Option.map_eq_some_iff.1 hf
      obtain ⟨y0, _, h0⟩ := Lib.mapM_at hm 0 0 (by simp)
      obtain ⟨y1, _, h1⟩ := Lib.mapM_at hm 1 1 (by simp)
      obtain ⟨y2, _, h2⟩ := Lib.mapM_at hm 2 2 (by simp)
      obtain ⟨y3, _, h3⟩ := Lib.mapM_at hm 3 3 (by simp)
      obtain ⟨x, e0, _, w0⟩ := DataW.trod_int Try.underlying5 h0
      obtain ⟨y, e1, _, w1⟩ := DataW.trod_int Try.underlying5 h1
      obtain ⟨z, e2, _, w2⟩ := DataW.trod_int Try.underlying5 h2
      obtain ⟨u, e3, _, w3⟩ := DataW.trod_int Try.underlying5 h3
      cases e0
      cases e1
      cases e2
      cases e3
      exact ⟨x, y, z, u, rfl, wf8 w0, wf8 w1, wf8 w2, wf8 w3⟩
    · cases hf
set_option maxRecDepth 100000 in
theorem arr32_open {H : Type} {enc : TypeId × Value → H} {W : World} {base b0 : Nat} {spare : Nat → Bool} {held : Bool} {r : Reach} {v : Value} {d : DataW H} {p : List MemPlace} (hv : Value.okWide Try.prog W r b0 22 v) (h : DataW.Trod enc Try.prog W base spare held 22 v d p) :
    ∃ xs : List Int, xs.length = 32 ∧ v = .agg (xs.map (Value.int .u8)).toArray ∧ ∀ x ∈ xs, 0 ≤ x ∧ x ≤ 255 := by
  have hC : Try.prog.cellsOf 22 = 32 := by kernel_rfl
  have hE : Try.prog.cellsOf 5 = 1 := by kernel_rfl
  simp only [Value.okWide, Try.underlying22] at hv
  obtain ⟨cs, rfl, hsz, _⟩ := hv
  have h32 := hsz.trans hC
  obtain ⟨fuel, hf⟩ := h
  cases fuel with
  | zero => simp [DataW.trod] at hf
  | succ n =>
    simp only [DataW.trod, Try.underlying22, hE, Nat.mul_one] at hf
    split at hf
    · obtain ⟨ys, hm, hx⟩ := Option.map_eq_some_iff.1 hf
      have each : ∀ i, i < 32 → ∃ x : Int, (0 ≤ x ∧ x ≤ 255) ∧ cs.toList[i]? = some (.int .u8 x) := by
        intro i hi
        obtain ⟨y, _, hy⟩ := Lib.mapM_at hm i i (by rw [List.getElem?_range hi])
        obtain ⟨x, e, _, w0⟩ := DataW.trod_int Try.underlying5 hy
        refine ⟨x, wf8 w0, ?_⟩
        have := congrArg (fun l : List Value => l[0]?) e
        simpa [Value.cells] using this
      obtain ⟨q, hq⟩ := Deep.choose_lt each
      refine ⟨(List.range 32).map q, by simp, ?_, fun x hx => ?_⟩
      · congr 1
        apply Array.ext'
        refine List.ext_getElem? fun i => ?_
        by_cases hi : i < 32
        · rw [(hq i hi).2, List.map_map, List.getElem?_map, List.getElem?_range hi]
          rfl
        · rw [List.getElem?_eq_none (by simp; omega), List.getElem?_eq_none (by simp; omega)]
      · obtain ⟨j, hj, rfl⟩ := List.mem_map.1 hx
        exact (hq j (List.mem_range.1 hj)).1
    · cases hf
end Go.Proofs.Ytdmahmolhdbegaa
