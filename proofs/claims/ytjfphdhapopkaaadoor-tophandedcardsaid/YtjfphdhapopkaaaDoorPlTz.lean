/- The table of math/bits out of what the row lists; bytes as they come in. -/
import Derived.Test.YtjfphdhapopkaaaDoorPlIn
import Derived.Test.YtjfphdhapopkaaaDoorLawTopHd
import Derived.Lib.LaidU8
namespace Go.Proofs.YtjfphdhapopkaaaDoor
open Go.ChangeShapes Go.WideShapes Go.ChangeAt Go.RowKit Go.ChangeMaps Go.Joins
set_option linter.unusedVariables false
set_option maxRecDepth 100000
theorem tz_data : (Rows.laid_math_bits_deBruijn64tab : DataW Unit) = Lib.tabData .u8 (Lib.deBruijn64tab.map fun n : Nat => (n : Int)) := by kernel_rfl
theorem tztab_of {W : World} (h : laidMetH Tryd.prog Rows.topHandedRow.laid W) : TzTab W := by
  rw [MakeChecks.laidMetH_plain _ _ _ (by kernel_rfl)] at h
  have hr : Lib.VarReads Tryd.prog W "math/bits.deBruijn64tab" (Lib.tabData .u8 (Lib.deBruijn64tab.map fun n : Nat => (n : Int))) := tz_data ▸ Lib.laidMet.reads h (.head _)
  obtain ⟨g, t, cs, fuel, p, hg, hty, hvar, hd⟩ := hr
  obtain rfl := Option.some.inj ((show Tryd.prog.globalNamed "math/bits.deBruijn64tab" = some 0 by kernel_rfl).symm.trans hg)
  obtain rfl := Option.some.inj ((show (Tryd.prog.globals[0]?).map (·.type) = some 76 by kernel_rfl).symm.trans hty)
  have hcs := Lib.cells_of_tab Tryd.underlying76 Tryd.underlying5 (by kernel_rfl) (by kernel_rfl) hd
  intro j hj
  rw [World.var?_cell hg hvar j, ← Array.getElem?_toList, hcs, List.getElem?_map, List.getElem?_map, List.getElem?_eq_getElem hj]
  simp [List.getD, List.getElem?_eq_getElem hj]
theorem bt_open {H : Type} {enc : TypeId × Value → H} {W : World} {base b0 : Nat} {r : Reach} {v : Value} {d : DataW H} {p : List MemPlace} (hv : Value.okWide Tryd.prog W r b0 22 v) (h : DataW.Trod enc Tryd.prog W base (fun _ => true) true 22 v d p) :
    ∃ bs, Bt W v bs := by
  obtain ⟨a0, len, cap, rfl⟩ := okWide_slice Tryd.underlying22 hv
  obtain ⟨fuel, hf⟩ := h
  rcases open_ints Tryd.underlying22 Tryd.underlying5 (by kernel_rfl) hf with ⟨hcs, _⟩ | ⟨a, len', cap', zs, hcs, _, hl, hm, hz, _, hcell, hwz⟩
  · simp [Value.cells] at hcs
    obtain ⟨rfl, rfl, rfl⟩ := hcs
    exact ⟨[], none, 0, rfl, Nat.le_refl _, fun x hx => (by cases hx), fun j x hx => by simp at hx⟩
  · simp [Value.cells] at hcs
    obtain ⟨rfl, rfl, rfl⟩ := hcs
    simp only [if_true] at hz
    have hlen : ((zs.take len).map fun n => n.toNat).length = len := by simp; omega
    refine ⟨(zs.take len).map fun n => n.toNat, some a, cap, by rw [hlen], by omega, fun x hx => ?_, fun j x hx => ?_⟩
    · obtain ⟨z, hz1, rfl⟩ := List.mem_map.1 hx
      obtain ⟨r, rfl, hr⟩ := u8_nat (hwz z (List.mem_of_mem_take hz1))
      simpa using hr
    · rw [List.getElem?_map, List.getElem?_take] at hx
      split at hx
      · rename_i hj
        have hjz : j < zs.length := by omega
        rw [List.getElem?_eq_getElem hjz] at hx
        simp only [Option.map_some, Option.some.injEq] at hx
        have hc := hcell j hjz
        have hcj : zs.getD j 0 = zs[j] := by simp [List.getD, List.getElem?_eq_getElem hjz]
        rw [hcj] at hc
        obtain ⟨r, hb, hr⟩ := u8_nat (hwz zs[j] (List.getElem_mem hjz))
        obtain ⟨ab, ao, spot⟩ := a
        have hspot : spot = none := by simpa [Addr.add] using World.cell?_spot (hcell 0 (by omega))
        subst hspot
        have hplain : (⟨ab, ao, none⟩ : Addr).add j = ⟨ab, ao + j, none⟩ := by unfold Addr.add; split <;> simp_all
        rw [hplain] at hc
        refine ⟨ab, ao, rfl, hc.trans ?_⟩
        rw [← hx, hb]
        simp
      · cases hx
end Go.Proofs.YtjfphdhapopkaaaDoor
