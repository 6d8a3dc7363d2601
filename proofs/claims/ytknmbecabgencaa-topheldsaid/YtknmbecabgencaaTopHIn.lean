/- Pairs as they come in. -/
import Derived.Test.YtknmbecabgencaaLawTopH
import Derived.ProofKit
import Derived.OpenShut
import Derived.Lib.SmallJoins
import Derived.ChangeSlices
import Derived.Carry
import Derived.Deep.Slices
import Derived.Deep.SlicePairs
namespace Go.Proofs.Ytknmbecabgencaa
open Go.ChangeShapes Go.WideShapes Go.ChangeAt Go.RowKit Go.ChangeMaps Go.Joins
set_option linter.unusedVariables false
theorem laidOut : laidOutB Try.prog = true := by kernel_rfl
theorem own : ownKnob Try.prog.godebug = none := by kernel_rfl
theorem wf8 {x : Int} (h : (Lit.int .u8 x).wf = true) : 0 ≤ x ∧ x ≤ 255 := by simpa [Lit.wf, IntKind.min, IntKind.max, IntKind.signed, IntKind.bits] using h
theorem plain_add (g off j : Nat) : (⟨g, off, none⟩ : Addr).add j = ⟨g, off + j, none⟩ := by unfold Addr.add; split <;> simp_all
set_option maxRecDepth 100000 in
theorem pr_cells {H : Type} {enc : TypeId × Value → H} {W : World} {base n : Nat} {cs : List Value} {x : DataW H × List MemPlace} (hl : cs.length = 2) (h : DataW.trod enc Try.prog W base (fun _ => true) true n 25 cs = some x) : ∃ d : Int × Int, cs = [.int .u8 d.1, .int .u8 d.2] ∧ (0 ≤ d.1 ∧ d.1 ≤ 255 ∧ 0 ≤ d.2 ∧ d.2 ≤ 255) := by
  have hE : Try.prog.cellsOf 5 = 1 := by kernel_rfl
  match cs, hl with
  | [c0, c1], _ =>
    cases n with
    | zero => simp [DataW.trod] at h
    | succ n =>
      simp only [DataW.trod, Try.underlying25, hE, Nat.mul_one] at h
      split at h
      · obtain ⟨xs, hm, hx⟩ := Option.map_eq_some_iff.1 h
        obtain ⟨y0, _, h0⟩ := Lib.mapM_at hm 0 0 (by simp)
        obtain ⟨y1, _, h1⟩ := Lib.mapM_at hm 1 1 (by simp)
        obtain ⟨x, e0, _, w0⟩ := DataW.trod_int Try.underlying5 h0
        obtain ⟨y, e1, _, w1⟩ := DataW.trod_int Try.underlying5 h1
        cases e0
        cases e1
        exact ⟨(x, y), rfl, (wf8 w0).1, (wf8 w0).2, (wf8 w1).1, (wf8 w1).2⟩
      · cases h
set_option maxRecDepth 100000 in
theorem prs_open {H : Type} {enc : TypeId × Value → H} {W : World} {base b0 : Nat} {r : Reach} {v : Value} {d : DataW H} {p : List MemPlace} (hv : Value.okWide Try.prog W r b0 22 v) (h : DataW.Trod enc Try.prog W base (fun _ => true) true 22 v d p) : ∃ l, Prs W v l := by
  obtain ⟨a0, len, cap, rfl⟩ := okWide_slice Try.underlying22 hv
  obtain ⟨fuel, hf⟩ := h
  have hc : Try.prog.cellsOf 25 = 2 := by kernel_rfl
  rcases Deep.open_slice Try.underlying22 hf with ⟨hcs, _⟩ | ⟨a, len', cap', m, n, D, Pl, hcs, _, hl, hm, hmm, _, hx⟩
  · simp [Value.cells] at hcs
    obtain ⟨rfl, rfl, rfl⟩ := hcs
    exact ⟨[], none, 0, rfl, fun j i h => by cases h⟩
  · simp [Value.cells] at hcs
    obtain ⟨rfl, rfl, rfl⟩ := hcs
    simp only [if_true] at hmm
    rw [hc] at hx
    have each : ∀ i, i < len → ∃ q : Int × Int, (0 ≤ q.1 ∧ q.1 ≤ 255 ∧ 0 ≤ q.2 ∧ q.2 ≤ 255) ∧ ∀ j x, [Value.int .u8 q.1, Value.int .u8 q.2][j]? = some x → W.cell? ((a.add (i * 2)).add j) = some x := by
      intro i hi
      obtain ⟨cs', h1, h2⟩ := hx i (by omega)
      obtain ⟨_, hlen, hcell⟩ := World.cells?_some h1
      obtain ⟨q, rfl, hok⟩ := pr_cells (by simpa using hlen) h2
      exact ⟨q, hok, fun j x hj => (hcell j (by have := (List.getElem?_eq_some_iff.1 hj).1; exact this)).trans hj⟩
    have hinh : Inhabited (Int × Int) := ⟨(0, 0)⟩
    obtain ⟨q, hq⟩ := Deep.choose_lt each
    refine ⟨(List.range len).map q, some a, cap, by simp, fun j i hi => ?_⟩
    rw [List.getElem?_map] at hi
    by_cases hj : j < len
    · rw [List.getElem?_range hj] at hi
      simp only [Option.map_some, Option.some.injEq] at hi
      subst hi
      obtain ⟨hok, k0⟩ := hq j hj
      obtain ⟨ab, ao, spot⟩ := a
      have hspot : spot = none := by
        have h0 := World.cell?_spot ((hq 0 (by omega)).2 0 _ rfl)
        simpa [Addr.add] using h0
      subst hspot
      have e0 := k0 0 _ rfl
      have e1 := k0 1 _ rfl
      rw [plain_add, plain_add] at e0 e1
      exact ⟨hok, ab, ao, rfl, e0, e1⟩
    · rw [List.getElem?_eq_none (by simp; omega)] at hi
      cases hi
end Go.Proofs.Ytknmbecabgencaa
