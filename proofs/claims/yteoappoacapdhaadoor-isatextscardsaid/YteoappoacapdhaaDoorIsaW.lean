/- The words of operations: the program. -/
import Derived.Test.YteoappoacapdhaaDoorIsaT
import Derived.Test.YteoappoacapdhaaDoorIsaQ
import Derived.Maps.OwnSet
import Derived.Deep.MidRow
import Derived.StringKeys
namespace Go.Proofs.YteoappoacapdhaaDoor
open Go.RowKit Go.Maps
set_option linter.unusedVariables false

/-- The table of the operations' words is as the program's text lays it. -/
def Wds (w : World) : Prop := ∀ k x, wordsL[k]? = some x → w.cell? ⟨0, k, none⟩ = some (.string ⟨x.toArray⟩)
theorem Wds.later {w w' : World} (h : Wds w) (hb : Below w.heap.size w w') : Wds w' := fun k x hx =>
  (hb.cell (p := ⟨0, k, none⟩) (World.block_lt_of_cell? _ _ (h k x hx))).trans (h k x hx)
theorem Wds.alloc {w : World} (h : Wds w) (o : Obj) : Wds (w.alloc o) := h.later ((Below.refl _ w).alloc (Nat.le_refl _) o)
theorem word_any (o : Int) (w : World) (h0 : 0 ≤ o) (hW : Wds w) :
    Calls Tryd.prog 27 #[.int .u8 o] w fun e w' => e = .returned (.string ⟨(wordT o).toArray⟩) ∧ w' = w := by
  by_cases h1 : 23 < o
  · rw [word_none o h1]
    go_enter Tryd.func27, Tryd.ntmps27
    go_wp2
    go_ret
    exact ⟨rfl, rfl⟩
  · have h2 : o < 24 := by omega
    have hc := hW o.toNat (wordT o) (by
      unfold wordT
      rw [List.getD_eq_getElem?_getD, List.getElem?_eq_getElem (by have : wordsL.length = 24 := rfl
                                                                   omega)]
      rfl)
    go_enter Tryd.func27, Tryd.ntmps27
    go_wp2
    go_ret
    exact ⟨rfl, rfl⟩
set_option maxRecDepth 100000 in
theorem run_makeW (w : World) : (Instr.makeMap 64 (some (.int .i64 24))).run Tryd.prog w = .ok (.map (some w.heap.size)) (w.alloc (.map #[] 0)) := by simp [go_sem, Instr.makeMap]
def wordsVs : List Value := wordsL.map fun x => .string ⟨x.toArray⟩
theorem wordsVs_get (k : Nat) (h : k < 24) : wordsVs[k]? = some (.string ⟨(wordsL.getD k []).toArray⟩) := by
  unfold wordsVs
  have hl : wordsL.length = 24 := rfl
  rw [List.getElem?_map, List.getElem?_eq_getElem (by omega), List.getD_eq_getElem?_getD, List.getElem?_eq_getElem (by omega)]
  rfl
theorem Wds.row {w : World} (h : Wds w) : w.rangeAt 0 0 wordsVs := by
  intro j v hv
  unfold wordsVs at hv
  rw [List.getElem?_map] at hv
  cases hx : wordsL[j]? with
  | none => rw [hx] at hv; cases hv
  | some x =>
    rw [hx] at hv
    injection hv with hv
    subst hv
    rw [Nat.zero_add]
    exact h j x hx
theorem words_size : (Tryd.prog.info? 66).map (·.size) = some wordsVs.length := by kernel_rfl
theorem run_ixW (k : Nat) (h : k < 24) (w : World) : (Instr.index 66 (.agg wordsVs.toArray) (.int .i64 (k : Int))).run Tryd.prog w = .ok (.string ⟨(wordsL.getD k []).toArray⟩) w := by
  have h1 := wordsVs_get k h
  have h2 : (k : Int) < 24 := by omega
  have h3 : (0 : Int) ≤ (k : Int) := by omega
  have hs : wordsVs.toArray[k]? = some (.string ⟨(wordsL.getD k []).toArray⟩) := by simpa using h1
  simp [Instr.index, run_underlying Tryd.underlying66, asIntOf, go_sem]
  rw [if_pos h, h1]
  simp
/-- The words up to a place, each with its operation. -/
def wordsM (k : Nat) : DataW Unit := (List.range k).foldl (fun m j => m.put (.string (wordsL.getD j [])) (.lit (.int .u8 (j : Int)))) (.map [])
theorem wordsM_step (k : Nat) : wordsM (k + 1) = (wordsM k).put (.string (wordsL.getD k [])) (.lit (.int .u8 (k : Int))) := by
  unfold wordsM
  rw [List.range_succ, List.foldl_append]
  rfl
theorem lawS : Keyed Tryd.prog 9 := string_keyed Tryd.underlying9
set_option maxHeartbeats 2000000 in
set_option maxRecDepth 100000 in
theorem oper_any (w : World) (hW : Wds w) :
    Calls Tryd.prog 39 #[] w fun e w' => e = .returned (.map (some w.heap.size)) ∧ w'.ownsMap Tryd.prog 9 (plainElem Tryd.prog 22) w.heap.size 24 (wordsM 24) ∧ Below w.heap.size w w' := by
  have hmm := run_makeW
  have hrow := (hW.alloc (.map #[] 0)).row
  have hsize := words_size
  have hix := run_ixW
  generalize wordsVs = vs at hrow hsize hix
  go_enter Tryd.func39, Tryd.ntmps39
  go_wp2_with (refine wpList_load_mid rfl 66 _ rfl 0 0 rfl vs _ hrow Tryd.underlying66 rfl hsize ?_)
  go_loopw [6] (fun i wr => ∃ k : Nat, k ≤ 24 ∧ i = .int .i64 k ∧ wr.ownsMap Tryd.prog 9 (plainElem Tryd.prog 22) w.heap.size k (wordsM k) ∧ Below w.heap.size w wr) (fun i _ => 24 - (intOf i).toNat)
  case atStart => exact ⟨0, by omega, rfl, World.ownsMap_made _ _ _ _, (Below.refl _ _).alloc (Nat.le_refl _) _⟩
  case round =>
    obtain ⟨k, hk, rfl, hown, hB⟩ := hrel
    by_cases hlt : k < 24
    · have hlt' : (k : Int) < 24 := by omega
      have hx := hix k hlt
      have hwr : IntKind.u8.wrap (k : Int) = (k : Int) := by rw [IntKind.wrap_u8]; omega
      have hst := wordsM_step k
      have hsz : (wordsL.getD k []).length ≤ 4 := by
        have key : ∀ k : Nat, k < 24 → (wordsL.getD k []).length ≤ 4 := by decide +kernel
        exact key k hlt
      generalize wordsL.getD k [] = x at hx hst hsz
      clear hix hrow hsize
      have hkey : keyOf Tryd.prog 9 (.string ⟨x.toArray⟩) = some (.string x) := Go.WideMaps.keyOf_string_mk Tryd.underlying9 (by show x.length ≤ maxLen; unfold maxLen; omega)
      go_wp2_with (first | (at_mapUpdate; refine wpList_mapUpdate_own _ rfl _ _ _ 64 rfl 9 22 lawS Tryd.underlying64 _ w.heap.size k _ rfl hown (by unfold maxLen; omega) _ _ _ rfl rfl hkey _ [] (plainElem_int Tryd.underlying22 (by simp [Lit.wf, IntKind.min, IntKind.max, IntKind.signed, IntKind.bits]; omega)) ?_; intro w1 hown1 hgrow1) | go_in)
      have hB1 := hB.grown hgrow1 hB.size (fun j hj => by cases hj; exact Nat.le_refl _)
      go_roundw
      case rel => exact ⟨k + 1, by omega, by go_num, hst.symm ▸ hown1, hB1⟩
      case measure => simp [intOf]; omega
    · have hlt' : ¬ (k : Int) < 24 := by omega
      have hke : k = 24 := by omega
      subst hke
      clear hix hrow hsize
      go_wp2
      go_ret
      exact ⟨rfl, hown, hB⟩
end Go.Proofs.YteoappoacapdhaaDoor
