/- Deeds, capabilities, texts as they come in. -/
import Derived.Test.YtioinppclejbhaaDoorCaN
import Derived.ProofKit
import Derived.OpenShut
import Derived.Lib.SmallJoins
import Derived.ChangeSlices
import Derived.Carry
import Derived.Deep.Slices
import Derived.Deep.SlicePairs
namespace Go.Proofs.YtioinppclejbhaaDoor
open Go.ChangeShapes Go.WideShapes Go.ChangeAt Go.RowKit Go.ChangeMaps Go.Joins
set_option linter.unusedVariables false
theorem laidOut : laidOutB Tryd.prog = true := by kernel_rfl
theorem u8_bits {x : Int} (h : (Lit.int .u8 x).wf = true) : ∃ r : BitVec 8, x = (r.toNat : Int) := by
  have b : 0 ≤ x ∧ x ≤ 255 := by simpa [Lit.wf, IntKind.min, IntKind.max, IntKind.signed, IntKind.bits] using h
  refine ⟨BitVec.ofNat 8 x.toNat, ?_⟩
  rw [BitVec.toNat_ofNat]
  omega
theorem plain_add (g off j : Nat) : (⟨g, off, none⟩ : Addr).add j = ⟨g, off + j, none⟩ := by unfold Addr.add; split <;> simp_all
set_option maxRecDepth 100000 in
theorem dd_cells {H : Type} {enc : TypeId × Value → H} {W : World} {base n0 : Nat} {cs : List Value} {x : DataW H × List MemPlace} (hl : cs.length = 5) (hf : DataW.trod enc Tryd.prog W base (fun _ => true) true n0 39 cs = some x) : ∃ d : Dd, cs = d.vs := by
  match cs, hl with
  | [c0, c1, c2, c3, c4], _ =>
    obtain ⟨y0, y1, y2, y3, n, hx, _, h0, h1, h2, h3⟩ := trod_struct4 Tryd.underlying39 hf
    have k3 : Tryd.prog.cellsOf 3 = 1 := by kernel_rfl
    have k9 : Tryd.prog.cellsOf 9 = 1 := by kernel_rfl
    have k5 : Tryd.prog.cellsOf 5 = 1 := by kernel_rfl
    have kC : Tryd.prog.cellsOf 31 = 2 := by kernel_rfl
    simp only [k3, kC, List.drop_succ_cons, List.drop_zero, List.take_succ_cons, List.take_zero] at h0 h1 h2 h3
    obtain ⟨z0, z1, n', hz, _, g0, g1⟩ := trod_struct2 Tryd.underlying31 h3
    simp only [k9, k5, List.drop_succ_cons, List.drop_zero, List.take_succ_cons, List.take_zero] at g0 g1
    obtain ⟨a, e0, _, w0⟩ := DataW.trod_int Tryd.underlying3 h0
    obtain ⟨b, e1, _, w1⟩ := DataW.trod_int Tryd.underlying3 h1
    obtain ⟨c, e2, _, w2⟩ := DataW.trod_int Tryd.underlying3 h2
    obtain ⟨s, e3, _, hs⟩ := DataW.trod_string Tryd.underlying9 g0
    obtain ⟨x, e4, _, hx8⟩ := DataW.trod_int Tryd.underlying5 g1
    obtain ⟨q, rfl⟩ := u8_bits hx8
    cases e0
    cases e1
    cases e2
    cases e3
    cases e4
    exact ⟨⟨a, b, c, s, q⟩, rfl⟩
theorem dd_open {H : Type} {enc : TypeId × Value → H} {W : World} {base b0 : Nat} {r : Reach} {v : Value} {d : DataW H} {p : List MemPlace} (hv : Value.okWide Tryd.prog W r b0 39 v) (h : DataW.Trod enc Tryd.prog W base (fun _ => true) true 39 v d p) : ∃ m : Dd, v = m.V := by
  obtain ⟨cs, rfl, hsz⟩ := okWide_struct Tryd.underlying39 hv
  obtain ⟨fuel, hf⟩ := h
  have hc : Tryd.prog.cellsOf 39 = 5 := by kernel_rfl
  obtain ⟨s, hs⟩ := dd_cells (cs := cs.toList) (by rw [Array.length_toList]; exact hsz.trans hc) hf
  exact ⟨s, by unfold Dd.V; rw [← hs]⟩
theorem cap_open {H : Type} {enc : TypeId × Value → H} {W : World} {base : Nat} {spare : Nat → Bool} {held : Bool} {r : Reach} {b0 : Nat} {v : Value} {d : DataW H} {p : List MemPlace} (hv : Value.okWide Tryd.prog W r b0 31 v) (h : DataW.Trod enc Tryd.prog W base spare held 31 v d p) :
    ∃ n x, v = .agg #[.string n, .int .u8 ((x : BitVec 8).toNat : Int)] := by
  obtain ⟨v0, v1, y0, y1, m, rfl, rfl, rfl, h0, h1⟩ := open_agg2 Tryd.underlying31 (by kernel_rfl) (by kernel_rfl) hv h
  obtain ⟨s, e0, rfl, hs⟩ := DataW.trod_string Tryd.underlying9 h0
  obtain ⟨x, e1, rfl, hx⟩ := DataW.trod_int Tryd.underlying5 h1
  obtain ⟨r, rfl⟩ := u8_bits hx
  cases e0
  cases e1
  exact ⟨s, r, rfl⟩
set_option maxRecDepth 100000 in
theorem dds_open {H : Type} {enc : TypeId × Value → H} {W : World} {base b0 : Nat} {r : Reach} {v : Value} {d : DataW H} {p : List MemPlace} (hv : Value.okWide Tryd.prog W r b0 22 v) (h : DataW.Trod enc Tryd.prog W base (fun _ => true) true 22 v d p) : ∃ l, Dds W v l := by
  obtain ⟨a0, len, cap, rfl⟩ := okWide_slice Tryd.underlying22 hv
  obtain ⟨fuel, hf⟩ := h
  have hc : Tryd.prog.cellsOf 39 = 5 := by kernel_rfl
  rcases Deep.open_slice Tryd.underlying22 hf with ⟨hcs, _⟩ | ⟨a, len', cap', m, n, D, Pl, hcs, _, hl, hm, hmm, _, hx⟩
  · simp [Value.cells] at hcs
    obtain ⟨rfl, rfl, rfl⟩ := hcs
    exact ⟨[], none, 0, rfl, fun j i h => by cases h⟩
  · simp [Value.cells] at hcs
    obtain ⟨rfl, rfl, rfl⟩ := hcs
    simp only [if_true] at hmm
    rw [hc] at hx
    have each : ∀ i, i < len → ∃ q : Dd, ∀ j x, q.vs[j]? = some x → W.cell? ((a.add (i * 5)).add j) = some x := by
      intro i hi
      obtain ⟨cs', h1, h2⟩ := hx i (by omega)
      obtain ⟨_, hlen, hcell⟩ := World.cells?_some h1
      obtain ⟨q, rfl⟩ := dd_cells (by simpa using hlen) h2
      exact ⟨q, fun j x hj => (hcell j (by have := (List.getElem?_eq_some_iff.1 hj).1; exact this)).trans hj⟩
    have hinh : Inhabited Dd := ⟨⟨0, 0, 0, ⟨#[]⟩, 0#8⟩⟩
    obtain ⟨q, hq⟩ := Deep.choose_lt each
    refine ⟨(List.range len).map q, some a, cap, by simp, fun j i hi => ?_⟩
    rw [List.getElem?_map] at hi
    by_cases hj : j < len
    · rw [List.getElem?_range hj] at hi
      simp only [Option.map_some, Option.some.injEq] at hi
      subst hi
      have k0 := hq j hj
      obtain ⟨ab, ao, spot⟩ := a
      have hspot : spot = none := by
        have h0 := World.cell?_spot ((hq 0 (by omega)) 0 _ rfl)
        simpa [Addr.add] using h0
      subst hspot
      refine ⟨ab, ao, rfl, fun i x hi => ?_⟩
      have := k0 i x hi
      rw [plain_add, plain_add] at this
      exact this
    · rw [List.getElem?_eq_none (by simp; omega)] at hi
      cases hi
end Go.Proofs.YtioinppclejbhaaDoor
