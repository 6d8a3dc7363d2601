/- Registers, instructions and bytes as they come in. -/
import Derived.Test.YtbjklpdloglniaaDoorTie
import Derived.Test.YtbjklpdloglniaaDoorCpuI
import Derived.ProofKit
import Derived.OpenShut
import Derived.LaidMore
import Derived.Lay
import Derived.SevenTiedAt
import Derived.Stop.Joined
import Derived.PinnedBridge
import Derived.Lib.LaidTab
import Derived.Lib.SmallJoins
import Derived.Laws.IdiomArrays
import Derived.ChangeSlices
import Derived.Carry
import Derived.Deep.Slices
import Derived.Deep.SlicePairs
namespace Go.Proofs.YtbjklpdloglniaaDoor
open Go.ChangeShapes Go.WideShapes Go.ChangeAt Go.RowKit Go.ChangeMaps Go.Joins
theorem iown : ownKnob Tryd.prog.godebug = none := by kernel_rfl
theorem laidOut : laidOutB Tryd.prog = true := by kernel_rfl
theorem wf8 {x : Int} (h : (Lit.int .u8 x).wf = true) : 0 ≤ x ∧ x ≤ 255 := by simpa [Lit.wf, IntKind.min, IntKind.max, IntKind.signed, IntKind.bits] using h
theorem wf16 {x : Int} (h : (Lit.int .u16 x).wf = true) : 0 ≤ x ∧ x ≤ 65535 := by simpa [Lit.wf, IntKind.min, IntKind.max, IntKind.signed, IntKind.bits] using h
section
variable {H : Type} {enc : TypeId × Value → H} {W : World} {base : Nat} {spare : Nat → Bool} {held : Bool}
theorem array9 {α : Type} {cs : Array α} (h : cs.size = 9) : ∃ c0 c1 c2 c3 c4 c5 c6 c7 c8, cs = #[c0, c1, c2, c3, c4, c5, c6, c7, c8] := by
  obtain ⟨l⟩ := cs
  match l, h with
  | [c0, c1, c2, c3, c4, c5, c6, c7, c8], _ => exact ⟨c0, c1, c2, c3, c4, c5, c6, c7, c8, rfl⟩
theorem trod_array8 {P : Program} {t e : TypeId} {fuel : Nat} {cs : List Value} {x : DataW H × List MemPlace} (ht : P.underlying t = some (.array 8 e)) (hce : P.cellsOf e = 1)
    (h : DataW.trod enc P W base spare held fuel t cs = some x) :
    ∃ n, ∀ i, i < 8 → ∃ y, DataW.trod enc P W base spare held n e ((cs.drop i).take 1) = some y := by
  cases fuel with
  | zero => simp [DataW.trod] at h
  | succ n =>
    simp only [DataW.trod, ht, hce, Nat.mul_one] at h
    split at h
    · obtain ⟨xs, hm, hx⟩ := Option.map_eq_some_iff.1 h
      refine ⟨n, fun i hi => ?_⟩
      obtain ⟨b, hb, hf⟩ := Lib.mapM_at hm i i (by simp [hi])
      exact ⟨b, hf⟩
    · cases h
theorem word_cell {P : Program} {t : TypeId} {n : Nat} {c : Value} {y : DataW H × List MemPlace} (ht : P.underlying t = some (.int .u16)) (h : DataW.trod enc P W base spare held n t [c] = some y) : ∃ x, c = .int .u16 x ∧ y.2 = [] ∧ Wd x := by
  obtain ⟨x, e0, e1, w0⟩ := DataW.trod_int ht h
  cases e0
  exact ⟨x, rfl, by rw [e1], wf16 w0⟩
set_option maxRecDepth 100000 in
set_option maxHeartbeats 1000000 in
theorem rg_open {r : Reach} {b0 : Nat} {v : Value} {d : DataW H} {p : List MemPlace} (hv : Value.okWide Tryd.prog W r b0 26 v) (h : DataW.Trod enc Tryd.prog W base spare held 26 v d p) :
    ∃ (pc : Int) (rr : Nat → Int), v = rgV pc rr ∧ Wd pc ∧ (∀ k, Wd (rr k)) := by
  have hC : Tryd.prog.cellsOf 26 = 9 := by kernel_rfl
  have hA : Tryd.prog.cellsOf 24 = 8 := by kernel_rfl
  have hE : Tryd.prog.cellsOf 23 = 1 := by kernel_rfl
  obtain ⟨cs, rfl, hsz⟩ := okWide_struct Tryd.underlying26 hv
  obtain ⟨c0, c1, c2, c3, c4, c5, c6, c7, c8, rfl⟩ := array9 (hsz.trans hC)
  obtain ⟨fuel, hf⟩ := h
  obtain ⟨y0, y1, n, hx, _, h0, h1⟩ := trod_struct2 Tryd.underlying26 hf
  simp only [hE, hA] at h0 h1
  obtain ⟨x0, rfl, _, w0⟩ := word_cell (c := c0) Tryd.underlying23 h0
  obtain ⟨m, hm⟩ := trod_array8 Tryd.underlying24 hE h1
  obtain ⟨_, g1⟩ := hm 0 (by decide)
  obtain ⟨_, g2⟩ := hm 1 (by decide)
  obtain ⟨_, g3⟩ := hm 2 (by decide)
  obtain ⟨_, g4⟩ := hm 3 (by decide)
  obtain ⟨_, g5⟩ := hm 4 (by decide)
  obtain ⟨_, g6⟩ := hm 5 (by decide)
  obtain ⟨_, g7⟩ := hm 6 (by decide)
  obtain ⟨_, g8⟩ := hm 7 (by decide)
  obtain ⟨x1, rfl, _, w1⟩ := word_cell (c := c1) Tryd.underlying23 g1
  obtain ⟨x2, rfl, _, w2⟩ := word_cell (c := c2) Tryd.underlying23 g2
  obtain ⟨x3, rfl, _, w3⟩ := word_cell (c := c3) Tryd.underlying23 g3
  obtain ⟨x4, rfl, _, w4⟩ := word_cell (c := c4) Tryd.underlying23 g4
  obtain ⟨x5, rfl, _, w5⟩ := word_cell (c := c5) Tryd.underlying23 g5
  obtain ⟨x6, rfl, _, w6⟩ := word_cell (c := c6) Tryd.underlying23 g6
  obtain ⟨x7, rfl, _, w7⟩ := word_cell (c := c7) Tryd.underlying23 g7
  obtain ⟨x8, rfl, _, w8⟩ := word_cell (c := c8) Tryd.underlying23 g8
  refine ⟨x0, fun k => match k with | 0 => x1 | 1 => x2 | 2 => x3 | 3 => x4 | 4 => x5 | 5 => x6 | 6 => x7 | 7 => x8 | _ => 0, rfl, w0, fun k => ?_⟩
  match k with
  | 0 => exact w1
  | 1 => exact w2
  | 2 => exact w3
  | 3 => exact w4
  | 4 => exact w5
  | 5 => exact w6
  | 6 => exact w7
  | 7 => exact w8
  | k + 8 => exact ⟨by show (0 : Int) ≤ 0; decide, by show (0 : Int) ≤ 65535; decide⟩
set_option maxRecDepth 100000 in
theorem insc_open {r : Reach} {b0 : Nat} {v : Value} {d : DataW H} {p : List MemPlace} (hv : Value.okWide Tryd.prog W r b0 29 v) (h : DataW.Trod enc Tryd.prog W base spare held 29 v d p) :
    ∃ o a b m, v = insV o a b m ∧ InsOk o a b m := by
  obtain ⟨v0, v1, v2, v3, y0, y1, y2, y3, n, rfl, rfl, rfl, h0, h1, h2, h3⟩ := open_agg4 Tryd.underlying29 (by kernel_rfl) (by kernel_rfl) hv h
  obtain ⟨o, e0, _, w0⟩ := DataW.trod_int Tryd.underlying27 h0
  obtain ⟨a, e1, _, w1⟩ := DataW.trod_int Tryd.underlying5 h1
  obtain ⟨b, e2, _, w2⟩ := DataW.trod_int Tryd.underlying5 h2
  obtain ⟨m, e3, _, w3⟩ := DataW.trod_int Tryd.underlying23 h3
  cases e0
  cases e1
  cases e2
  cases e3
  exact ⟨o, a, b, m, rfl, (wf8 w0).1, (wf8 w0).2, (wf8 w1).1, (wf8 w1).2, (wf8 w2).1, (wf8 w2).2, (wf16 w3).1, (wf16 w3).2⟩
end
set_option maxRecDepth 100000 in
theorem btsc_open {H : Type} {enc : TypeId × Value → H} {W : World} {base b0 : Nat} {r : Reach} {v : Value} {d : DataW H} {p : List MemPlace} (hv : Value.okWide Tryd.prog W r b0 30 v) (h : DataW.Trod enc Tryd.prog W base (fun _ => true) true 30 v d p) :
    ∃ bs, Bts W v bs := by
  obtain ⟨a0, len, cap, rfl⟩ := okWide_slice Tryd.underlying30 hv
  obtain ⟨fuel, hf⟩ := h
  rcases open_ints Tryd.underlying30 Tryd.underlying5 (by kernel_rfl) hf with ⟨hcs, _⟩ | ⟨a, len', cap', zs, hcs, _, hl, hm, hz, _, hcell, hwz⟩
  · simp [Value.cells] at hcs
    obtain ⟨rfl, rfl, rfl⟩ := hcs
    exact ⟨[], Bts.nil W⟩
  · simp [Value.cells] at hcs
    obtain ⟨rfl, rfl, rfl⟩ := hcs
    simp only [if_true] at hz
    have hlen : ((zs.take len).map fun n => UInt8.ofNat n.toNat).length = len := by simp; omega
    refine ⟨(zs.take len).map fun n => UInt8.ofNat n.toNat, some a, cap, by rw [hlen], by omega, hm, fun j x hx => ?_⟩
    rw [List.getElem?_map, List.getElem?_take] at hx
    split at hx
    · rename_i hj
      have hjz : j < zs.length := by omega
      rw [List.getElem?_eq_getElem hjz] at hx
      simp only [Option.map_some, Option.some.injEq] at hx
      have hc := hcell j hjz
      have hcj : zs.getD j 0 = zs[j] := by simp [List.getD, List.getElem?_eq_getElem hjz]
      rw [hcj] at hc
      have hw := hwz zs[j] (List.getElem_mem hjz)
      have hb := wf8 hw
      obtain ⟨ab, ao, spot⟩ := a
      have hspot : spot = none := by simpa [Addr.add] using World.cell?_spot (hcell 0 (by omega))
      subst hspot
      have hplain : (⟨ab, ao, none⟩ : Addr).add j = ⟨ab, ao + j, none⟩ := by unfold Addr.add; split <;> simp_all
      rw [hplain] at hc
      refine ⟨ab, ao, rfl, hc.trans ?_⟩
      rw [← hx]
      have e8 := ofNat_toNat8 (zs[j]).toNat (by omega)
      rw [e8]
      congr 2
      omega
    · cases hx
end Go.Proofs.YtbjklpdloglniaaDoor
