/- Bytes and instructions as they come in. -/
import Derived.Test.YteoappoacapdhaaDoorIsaFrame
import Derived.Test.YteoappoacapdhaaDoorIsaC
import Derived.ChangeSlices
import Derived.Carry
import Derived.Deep.Slices
import Derived.Deep.SlicePairs
namespace Go.Proofs.YteoappoacapdhaaDoor
open Go.ChangeShapes Go.WideShapes Go.ChangeAt Go.RowKit Go.ChangeMaps Go.Joins
theorem laidOut : laidOutB Tryd.prog = true := by kernel_rfl
set_option maxRecDepth 100000 in
theorem bts_open {H : Type} {enc : TypeId × Value → H} {W : World} {base b0 : Nat} {r : Reach} {v : Value} {d : DataW H} {p : List MemPlace} (hv : Value.okWide Tryd.prog W r b0 27 v) (h : DataW.Trod enc Tryd.prog W base (fun _ => true) true 27 v d p) :
    ∃ bs, Bts W v bs := by
  obtain ⟨a0, len, cap, rfl⟩ := okWide_slice Tryd.underlying27 hv
  obtain ⟨fuel, hf⟩ := h
  rcases open_ints Tryd.underlying27 Tryd.underlying5 (by kernel_rfl) hf with ⟨hcs, _⟩ | ⟨a, len', cap', zs, hcs, _, hl, hm, hz, _, hcell, hwz⟩
  · simp [Value.cells] at hcs
    obtain ⟨rfl, rfl, rfl⟩ := hcs
    exact ⟨[], Bts.nil W⟩
  · simp [Value.cells] at hcs
    obtain ⟨rfl, rfl, rfl⟩ := hcs
    simp only [if_true] at hz
    have hlen : ((zs.take len).map fun n => UInt8.ofNat n.toNat).length = len := by simp; omega
    refine ⟨(zs.take len).map fun n => UInt8.ofNat n.toNat, some a, cap, by rw [hlen], by omega, hm, fun j x hx => ?_⟩
    rw [List.getElem?_map, List.getElem?_take] at hx
    split at hx
    · rename_i hj
      have hjz : j < zs.length := by omega
      rw [List.getElem?_eq_getElem hjz] at hx
      simp only [Option.map_some, Option.some.injEq] at hx
      have hc := hcell j hjz
      have hcj : zs.getD j 0 = zs[j] := by simp [List.getD, List.getElem?_eq_getElem hjz]
      rw [hcj] at hc
      have hw := hwz zs[j] (List.getElem_mem hjz)
      have hb := wf8 hw
      obtain ⟨ab, ao, spot⟩ := a
      have hspot : spot = none := by simpa [Addr.add] using World.cell?_spot (hcell 0 (by omega))
      subst hspot
      have hplain : (⟨ab, ao, none⟩ : Addr).add j = ⟨ab, ao + j, none⟩ := by unfold Addr.add; split <;> simp_all
      rw [hplain] at hc
      refine ⟨ab, ao, rfl, hc.trans ?_⟩
      rw [← hx]
      have e8 := ofNat_toNat8 (zs[j]).toNat (by omega)
      rw [e8]
      congr 2
      omega
    · cases hx
theorem plain_add (g off j : Nat) : (⟨g, off, none⟩ : Addr).add j = ⟨g, off + j, none⟩ := by unfold Addr.add; split <;> simp_all
set_option maxRecDepth 100000 in
theorem ins_cells {H : Type} {enc : TypeId × Value → H} {W : World} {base n : Nat} {spare : Nat → Bool} {held : Bool} {cs : List Value} {x : DataW H × List MemPlace} (h : DataW.trod enc Tryd.prog W base spare held n 26 cs = some x) :
    ∃ o a b m, cs = [.int .u8 o, .int .u8 a, .int .u8 b, .int .u16 m] ∧ InsOk o a b m := by
  obtain ⟨xs, k, _, _, hl, hxl, hf⟩ := DataW.trod_struct Tryd.underlying26 h
  have hc : Tryd.prog.cellsOf 26 = 4 := by kernel_rfl
  have c0 : Tryd.prog.cellsOf 22 = 1 := by kernel_rfl
  have c1 : Tryd.prog.cellsOf 5 = 1 := by kernel_rfl
  have c3 : Tryd.prog.cellsOf 24 = 1 := by kernel_rfl
  rw [hc] at hl
  match xs, hxl, cs, hl with
  | [y0, y1, y2, y3], _, [v0, v1, v2, v3], _ =>
    have g0 := hf 0 _ rfl
    have g1 := hf 1 _ rfl
    have g2 := hf 2 _ rfl
    have g3 := hf 3 _ rfl
    simp [c0, c1, c3] at g0 g1 g2 g3
    obtain ⟨o, e0, _, w0⟩ := DataW.trod_int Tryd.underlying22 g0
    obtain ⟨a, e1, _, w1⟩ := DataW.trod_int Tryd.underlying5 g1
    obtain ⟨b, e2, _, w2⟩ := DataW.trod_int Tryd.underlying5 g2
    obtain ⟨m, e3, _, w3⟩ := DataW.trod_int Tryd.underlying24 g3
    cases e0
    cases e1
    cases e2
    cases e3
    exact ⟨o, a, b, m, rfl, (wf8 w0).1, (wf8 w0).2, (wf8 w1).1, (wf8 w1).2, (wf8 w2).1, (wf8 w2).2, (wf16 w3).1, (wf16 w3).2⟩
set_option maxRecDepth 100000 in
theorem inss_open {H : Type} {enc : TypeId × Value → H} {W : World} {base b0 : Nat} {r : Reach} {v : Value} {d : DataW H} {p : List MemPlace} (hv : Value.okWide Tryd.prog W r b0 36 v) (h : DataW.Trod enc Tryd.prog W base (fun _ => true) true 36 v d p) :
    ∃ l, Inss W v l ∧ (∀ i ∈ l, InsOk4 i) ∧ ∀ a n c, v = .slice a n c → n ≤ c := by
  obtain ⟨a0, len, cap, rfl⟩ := okWide_slice Tryd.underlying36 hv
  obtain ⟨fuel, hf⟩ := h
  have hc : Tryd.prog.cellsOf 26 = 4 := by kernel_rfl
  rcases Deep.open_slice Tryd.underlying36 hf with ⟨hcs, _⟩ | ⟨a, len', cap', m, n, D, Pl, hcs, _, hl, hm, hmm, _, hx⟩
  · simp [Value.cells] at hcs
    obtain ⟨rfl, rfl, rfl⟩ := hcs
    exact ⟨[], ⟨none, 0, rfl, fun j i h => by cases h⟩, (fun i h => by cases h), fun a n c e => by cases e; exact Nat.le_refl _⟩
  · simp [Value.cells] at hcs
    obtain ⟨rfl, rfl, rfl⟩ := hcs
    simp only [if_true] at hmm
    rw [hc] at hx
    have each : ∀ i, i < len → ∃ q : Int × Int × Int × Int, InsOk4 q ∧ W.cell? (a.add (i * 4)) = some (.int .u8 q.1) ∧ W.cell? ((a.add (i * 4)).add 1) = some (.int .u8 q.2.1) ∧ W.cell? ((a.add (i * 4)).add 2) = some (.int .u8 q.2.2.1) ∧ W.cell? ((a.add (i * 4)).add 3) = some (.int .u16 q.2.2.2) := by
      intro i hi
      obtain ⟨cs', h1, h2⟩ := hx i (by omega)
      obtain ⟨o, x, y, z, rfl, hok⟩ := ins_cells h2
      obtain ⟨_, _, hcell⟩ := World.cells?_some h1
      have k0 := hcell 0 (by omega)
      have k1 := hcell 1 (by omega)
      have k2 := hcell 2 (by omega)
      have k3 := hcell 3 (by omega)
      refine ⟨(o, x, y, z), hok, ?_, by simpa using k1, by simpa using k2, by simpa using k3⟩
      have e0 : (a.add (i * 4)).add 0 = a.add (i * 4) := by unfold Addr.add; split <;> simp_all
      rw [← e0]
      simpa using k0
    obtain ⟨q, hq⟩ := Deep.choose_lt each
    refine ⟨(List.range len).map q, ⟨some a, cap, by simp, fun j i hi => ?_⟩, (fun i hi => ?_), fun a n c e => by cases e; exact hl⟩
    · rw [List.getElem?_map] at hi
      by_cases hj : j < len
      · rw [List.getElem?_range hj] at hi
        simp only [Option.map_some, Option.some.injEq] at hi
        subst hi
        obtain ⟨_, k0, k1, k2, k3⟩ := hq j hj
        obtain ⟨ab, ao, spot⟩ := a
        have hspot : spot = none := by
          have h0 := World.cell?_spot (hq 0 (by omega)).2.1
          simpa [Addr.add] using h0
        subst hspot
        rw [plain_add] at k0 k1 k2 k3
        rw [plain_add] at k1 k2 k3
        exact ⟨ab, ao, rfl, k0, k1, k2, k3⟩
      · rw [List.getElem?_eq_none (by simp; omega)] at hi
        cases hi
    · obtain ⟨j, hj, rfl⟩ := List.mem_map.1 hi
      exact (hq j (List.mem_range.1 hj)).1
end Go.Proofs.YteoappoacapdhaaDoor
