/- The document's answer for a name's labels. -/
import Derived.Test.YtmepnnlmhlndmaaDoorRefL
import Derived.Laws.OwnMore
import Derived.StillTail
import Derived.StillTactics
namespace Go.Proofs.YtmepnnlmhlndmaaDoor
open Go.RowKit Go.Shelf
set_option linter.unusedVariables false

theorem joinL_cut (cur m : List UInt8) : joinL (cutS cur m) = 47 :: (cur ++ m) := by
  induction m generalizing cur with
  | nil => simp [cutS, joinL]
  | cons b t ih =>
    simp only [cutS]
    split
    · rename_i h
      subst h
      have e : joinL (cur :: cutS [] t) = 47 :: (cur ++ joinL (cutS [] t)) := by simp [joinL]
      rw [e, ih]
      simp
    · rw [ih]
      simp
theorem splitO_len {l : List UInt8} {ls : List (List UInt8)} (h : splitO l = some ls) : l.length ≤ 150 := by
  have hq := splitO_some h
  unfold splitO at h
  split at h
  · rename_i e; rw [e]; decide
  · split at h
    · cases h
    · rename_i h2
      unfold okO at h
      split at h
      · cases h
        have e := joinL_cut [] (l.drop 1)
        have := joinL_len _ 24 (fun x hx => lab_len (hq.2.1 x hx))
        rw [e] at this
        simp only [List.nil_append, List.length_cons, List.length_drop] at this
        omega
      · cases h
theorem cut_len (cur m : List UInt8) : (cutS cur m).length ≤ m.length + 1 := by
  induction m generalizing cur with
  | nil => simp [cutS]
  | cons b t ih =>
    simp only [cutS]
    split
    · have := ih []; simp; omega
    · have := ih (cur ++ [b]); simp; omega

theorem own_below {w w' : World} {B e size n : Nat} {v : Value} {xs : List Value} (h : w.ownsRow B e size v n xs) (hb : Below w.heap.size w w') : w'.ownsRow B e size v n xs := by
  refine h.kept (row := none) ⟨hb.os, hb.tape, hb.output, hb.size, fun k hk _ => hb.block k hk⟩ ?_
  rcases h.2 with ⟨rfl, _⟩ | ⟨g, cap, cur, rfl, _⟩
  · exact .inl rfl
  · exact .inr (by simp [Value.ownBlock])
/-- The pieces so far, and what they will be. -/
def Pcs (l : List UInt8) (k : Nat) (acc : List (List UInt8)) : Prop := (k = 0 ∧ acc = []) ∨ (1 ≤ k ∧ ∃ done cur, acc = done ++ [cur] ∧ done ++ cutS cur (l.drop k) = cutS [] (l.drop 1) ∧ cur.length ≤ k)
theorem drop_list (s : ByteArray) (k : Nat) (h : k < s.size) : s.data.toList.drop k = s[k] :: s.data.toList.drop (k + 1) := by
  rw [List.drop_eq_getElem_cons (by rw [← Lib.size_eq]; exact h)]
  congr 1

set_option maxHeartbeats 4000000 in
set_option maxRecDepth 100000 in
theorem rsplit_in (s : ByteArray) (w : World) (hT : NTabs w) (h1 : (s.toList == [47]) = false) (h2 : s.data.toList.head? = some 47) (hl : s.size ≤ 200) :
    Calls Tryd.prog 75 #[.string s] w fun e W' => ∃ v err, e = .returned (.tuple #[v, .int .i64 err]) ∧ SplitsTo w W' (okO (cutS [] (s.data.toList.drop 1))) v err ∧ Below w.heap.size w W' := by
  obtain ⟨i0, hi, hz0, hz1, hz2⟩ := info_parts infoS
  have hp : 0 < s.size := by
    rw [Lib.size_eq]
    cases hc : s.data.toList with
    | nil => rw [hc] at h2; cases h2
    | cons a t => simp
  have hb0 : s[0] = 47 := by
    have := drop_list s 0 hp
    rw [List.drop_zero] at this
    rw [this] at h2
    simpa using h2
  have he : (s.toList == []) = false := by
    rw [beq_eq_false_iff_ne, Lib.toList_data]
    intro e
    rw [Lib.size_eq, e] at hp
    simp at hp
  have hp' : (0 : Int) < (s.size : Int) := by omega
  have hl' : ¬ (200 : Int) < (s.size : Int) := by omega
  obtain ⟨L, hL⟩ : ∃ L, cutS [] (s.data.toList.drop 1) = L := ⟨_, rfl⟩
  have hLl : L.length ≤ 201 := by
    have := cut_len [] (s.data.toList.drop 1)
    rw [hL, List.length_drop, ← Lib.size_eq] at this
    omega
  have hLm : ∀ x ∈ L, x.length ≤ 200 := fun x hx => by
    have := cutS_len [] (s.data.toList.drop 1) x (hL ▸ hx)
    rw [List.length_drop, ← Lib.size_eq] at this
    simp at this
    omega
  rw [hL]
  have HL : Hid (cutS [] (s.data.toList.drop 1) = L ∧ (∀ x ∈ L, x.length ≤ 200)) := ⟨hL, hLm⟩
  clear hL hLm h2
  go_enter Tryd.func75, Tryd.ntmps75
  go_wp2
  go_loopw [4, 5] (fun v i W => ∃ (k : Nat) (acc : List (List UInt8)), k ≤ s.size ∧ i = .int .i64 k ∧ Pcs s.data.toList k acc ∧ acc.length ≤ k ∧ W.ownsRow w.heap.size 9 1 v acc.length (acc.map strV) ∧ Below w.heap.size w W) (fun _ i _ => 201 - (intOf i).toNat)
  case atStart => exact ⟨0, [], by omega, rfl, .inl ⟨rfl, rfl⟩, by simp, World.ownsRow_nil _ _ _ _, Below.refl _ _⟩
  case round =>
    obtain ⟨k, acc, hk, rfl, hpc, hal, hown, hB⟩ := hrel
    obtain ⟨a0, cap0, rfl⟩ : ∃ a cap, u4 = .slice a acc.length cap := by
      rcases hown.2 with ⟨hv, h0⟩ | ⟨g, cap, cur, hv, _⟩
      · exact ⟨none, 0, by rw [h0]; exact hv⟩
      · exact ⟨_, _, hv⟩
    have hBs := hB.size
    by_cases hlt : k < s.size
    · have hlt' : (k : Int) < (s.size : Int) := by omega
      have hdr := drop_list s k hlt
      have HP : Hid (Pcs s.data.toList k acc) := hpc
      clear hpc
      by_cases h47 : s[k].toNat = 47
      · have hb : ((s[k].toNat : Int) == 47) = true := by rw [h47]; rfl
        have h47' : s[k] = 47 := UInt8.toNat_inj.1 h47
        have HP2 : Hid (Pcs s.data.toList (k + 1) (acc ++ [[]])) := by
          show Pcs _ _ _
          rw [h47'] at hdr
          rcases HP.out with ⟨rfl, rfl⟩ | ⟨hk1, done, cur, rfl, he2, hcl⟩
          · exact .inr ⟨by omega, [], [], rfl, by simp, by simp⟩
          · refine .inr ⟨by omega, done ++ [cur], [], rfl, ?_, by simp⟩
            rw [hdr] at he2
            simp only [cutS, if_true] at he2
            rw [← he2]
            simp
        clear HP hdr h47 h47'
        go_wp2_with (at_builtin; refine wpList_append_own _ rfl _ _ 90 rfl w.heap.size 9 i0 (.string ⟨#[]⟩) 1 16 Tryd.underlying90 hi hz0 hz1 hz2 rfl (by decide) _ _ _ rfl (hown.alloc _) ⟨wr.heap.size, 0, none⟩ 1 1 [.string ⟨#[]⟩] rfl rfl (cell_one_new _ _ _) (by simp [Value.oneCell']) (by unfold maxLen; omega) (by omega) (by simp; omega) ?_; intro v' w1 hown' hgrow _; obtain ⟨g', cap', rfl⟩ := ownsRow_succ hown')
        have hB2 : Below w.heap.size w w1 := (hB.alloc hBs _).grown hgrow (by simp; omega) (fun j hj => (hown.lt j hj).1)
        go_roundw
        case rel => exact ⟨k + 1, acc ++ [[]], by omega, by go_num, HP2.out, by simp; omega, by rw [List.length_append, List.map_append]; exact hown', hB2⟩
        case measure => simp [intOf]; omega
      · have hb : ((s[k].toNat : Int) == 47) = false := by rw [beq_eq_false_iff_ne]; omega
        have h47' : s[k] ≠ 47 := fun e => h47 (by rw [e]; rfl)
        obtain ⟨done, cur, hacc, HP2, hcl⟩ : ∃ done cur, acc = done ++ [cur] ∧ Hid (Pcs s.data.toList (k + 1) (done ++ [cur ++ [s[k]]])) ∧ cur.length ≤ k := by
          rcases HP.out with ⟨rfl, rfl⟩ | ⟨hk1, done, cur, rfl, he2, hcl⟩
          · exact absurd hb0 h47'
          · refine ⟨done, cur, rfl, .inr ⟨by omega, done, cur ++ [s[k]], rfl, ?_, by simp; omega⟩, hcl⟩
            rw [hdr] at he2
            simp only [cutS] at he2
            rw [if_neg h47'] at he2
            exact he2
        subst hacc
        have hlen : (done ++ [cur]).length = done.length + 1 := by simp
        rw [hlen] at hown
        simp only [hlen] at hal ⊢
        obtain ⟨g, cap, hv⟩ := ownsRow_succ hown
        cases hv
        have hcell : wr.cell? ⟨g, done.length, none⟩ = some (.string ⟨cur.toArray⟩) := by
          rw [hown.cellAt done.length (by omega)]
          simp [strV]
        have hfz := hown.frozenAt done.length
        have hB' : w.heap.size ≤ g := (hown.lt g rfl).1
        have hst := (hown.stored done.length (.string ⟨(cur ++ [s[k]]).toArray⟩)).1
        have hset : (List.map strV (done ++ [cur])).set done.length (.string ⟨(cur ++ [s[k]]).toArray⟩) = List.map strV (done ++ [cur ++ [s[k]]]) := by
          simp [strV]
        rw [hset] at hst
        have hone : (s.extract k (k + 1)).data.toList = [s[k]] := by
          rw [extract_mk s k (k + 1) (by omega)]
          have e1 : s.data.toList.drop k = s[k] :: s.data.toList.drop (k + 1) := hdr
          show (List.drop k (List.take (k + 1) s.data.toList)).toArray.toList = _
          rw [List.drop_take, e1]
          simp
        have hcat : (⟨cur.toArray⟩ : ByteArray) ++ s.extract k (k + 1) = ⟨(cur ++ [s[k]]).toArray⟩ := by
          apply ByteArray.ext
          apply Array.toList_inj.1
          rw [ByteArray.data_append, Array.toList_append, hone]
        have hone' : (s.extract k (k + 1)).size = 1 := by rw [Lib.size_eq, hone]; rfl
        have hk1 : (k : Int) + 1 ≤ (s.size : Int) := by omega
        have hcs : ¬ 9223372036854775807 < cur.length + 1 := by omega
        have HS : Hid ((wr.setCell ⟨g, done.length, none⟩ (.string ⟨(cur ++ [s[k]]).toArray⟩)).ownsRow w.heap.size 9 1 (.slice (some ⟨g, 0, none⟩) (done.length + 1) cap0) (done.length + 1) (List.map strV (done ++ [cur ++ [s[k]]]))) := hst
        clear hst hset hown hlen HP hdr h47 h47'
        generalize hd : done.length = d at *
        have hw1 : IntKind.i64.wrap (d : Int) = (d : Int) := by rw [IntKind.wrap_i64]; omega
        have hw2 : IntKind.i64.wrap ((k : Int) + 1) = (k : Int) + 1 := by rw [IntKind.wrap_i64]; omega
        have hw3 : (d : Int) < (d : Int) + 1 := by omega
        have hw4 : (0 : Int) ≤ (d : Int) := by omega
        have hw5 : (0 : Int) ≤ (k : Int) + 1 := by omega
        have hw6 : (k : Int) ≤ (k : Int) + 1 := by omega
        go_wp2
        refine wp_region_still_tail 13 (by kernel_rfl) (by kernel_rfl) ?_
        simp only [List.take_succ_cons, List.take_zero, List.drop_succ_cons, List.drop_zero]
        repeat still_step
        refine wpStill_nil ?_
        go_wp2
        have hB2 : Below w.heap.size w (wr.setCell ⟨g, d, none⟩ (.string ⟨(cur ++ [s[k]]).toArray⟩)).drew := (hB.setCell (p := ⟨g, d, none⟩) hB' _).drew
        go_roundw
        case rel =>
          refine ⟨k + 1, done ++ [cur ++ [s[k]]], by omega, by go_num, HP2.out, by simp; omega, ?_, hB2⟩
          rw [List.length_append, hd]
          exact HS.out
        case measure => simp [intOf]; omega
    · have hlt' : ¬ (k : Int) < (s.size : Int) := by omega
      have hke : k = s.size := by omega
      have hacc : acc = L := by
        have e1 := HL.out.1
        rcases hpc with ⟨h0, _⟩ | ⟨hk1, done, cur, rfl, he2, hcl⟩
        · omega
        · rw [e1, hke, List.drop_eq_nil_of_le (by rw [← Lib.size_eq]; exact Nat.le_refl _)] at he2
          rw [← he2]
          simp [cutS]
      subst hacc
      have hLx : Hid (∀ x ∈ acc, x.length ≤ 200) := HL.out.2
      have hcp : (Row wr (.slice a0 acc.length cap0) acc) := Row.of_own hown
      obtain ⟨a1, c1, hv1, hc1, hcells⟩ := hcp
      cases hv1
      have HC : Hid (∀ j x, acc[j]? = some x → ∃ g off, a0 = some ⟨g, off, none⟩ ∧ wr.cell? ⟨g, off + j, none⟩ = some (strV x)) := hcells
      have HO : Hid (wr.ownsRow w.heap.size 9 1 (.slice a0 acc.length cap0) acc.length (acc.map strV)) := hown
      clear hpc hcells hown HL
      rename World => W0
      go_wp2
      go_loopw [6] (fun i W => ∃ j : Nat, j ≤ acc.length ∧ i = .int .i64 j ∧ (∀ x ∈ acc.take j, labB ⟨x.toArray⟩ = true) ∧ Below W0.heap.size W0 W) (fun i _ => 201 - (intOf i).toNat)
      case atStart => exact ⟨0, by omega, rfl, by simp, Below.refl _ _⟩
      case round =>
        obtain ⟨j, hj, rfl, hgood, hBw⟩ := hrel
        have hB2 : Below w.heap.size w wr := hB.trans (hBw.mono hBs)
        have hB2s := hB2.size
        have HG : Hid (∀ x ∈ acc.take j, labB ⟨x.toArray⟩ = true) := hgood
        clear hgood
        by_cases hjl : j < acc.length
        · have hjl' : (j : Int) < (acc.length : Int) := by omega
          obtain ⟨g, off, rfl, hcell⟩ := HC.out j _ (List.getElem?_eq_getElem hjl)
          have hg : g < W0.heap.size := World.block_lt_of_cell? _ _ hcell
          have hcell' : wr.cell? ⟨g, off + j, none⟩ = some (.string ⟨(acc[j]'hjl).toArray⟩) := (hBw.cell (p := ⟨g, off + j, none⟩) hg).trans hcell
          have hxs : (acc[j]'hjl).length ≤ 200 := hLx.out _ (List.getElem_mem hjl)
          have HX : Hid ((acc[j]'hjl) ∈ acc) := List.getElem_mem hjl
          have HTk : Hid (acc.take (j + 1) = acc.take j ++ [acc[j]'hjl]) := List.take_succ_eq_append_getElem hjl
          clear hcell
          generalize acc[j]'hjl = x at *
          have cL := rlabel_any ⟨x.toArray⟩ wr (by show x.length ≤ _; omega) (hT.later hB2)
          cases hlb : labB ⟨x.toArray⟩ with
          | false =>
            rw [hlb] at cL
            have hO2 : okO acc = none := by
              unfold okO
              rw [if_neg]
              intro hh
              have := ((labelsB_iff _).1 hh).2 x HX.out
              rw [hlb] at this
              cases this
            have HO2 : Hid (okO acc = none) := hO2
            clear hlb hO2
            go_wp2_with fail
            refine cL.mono ?_
            rintro e W3 ⟨rfl, hB3⟩
            go_wp2
            go_ret2
            exact ⟨_, _, rfl, by rw [HO2.out]; exact ⟨rfl, rfl⟩, hB2.trans (hB3.mono hB2s)⟩
          | true =>
            rw [hlb] at cL
            have HLb : Hid (labB ⟨x.toArray⟩ = true) := hlb
            clear hlb
            go_wp2_with fail
            refine cL.mono ?_
            rintro e W3 ⟨rfl, hB3⟩
            go_wp2
            go_roundw
            case rel =>
              refine ⟨j + 1, by omega, by go_num, ?_, hBw.trans (hB3.mono hBw.size)⟩
              rw [HTk.out]
              intro y hy
              rcases List.mem_append.1 hy with hy | hy
              · exact HG.out y hy
              · simp at hy; subst hy; exact HLb.out
            case measure => simp [intOf]; omega
        · have hjl' : ¬ (j : Int) < (acc.length : Int) := by omega
          obtain rfl : j = acc.length := by omega
          have hall : ∀ x ∈ acc, labB ⟨x.toArray⟩ = true := by have := HG.out; rwa [List.take_length] at this
          have hown2 : wr.ownsRow w.heap.size 9 1 (.slice a0 acc.length cap0) acc.length (acc.map strV) := by
            exact own_below HO.out hBw
          by_cases h6 : acc.length ≤ 6
          · have hO2 : okO acc = some acc := by
              unfold okO
              rw [if_pos ((labelsB_iff _).2 ⟨h6, hall⟩)]
            have HO2 : Hid (okO acc = some acc) := hO2
            clear hO2 hall
            have h6' : ¬ (6 : Int) < (acc.length : Int) := by omega
            go_wp2
            go_ret2
            exact ⟨_, _, rfl, by rw [HO2.out]; exact ⟨rfl, hown2⟩, hB2⟩
          · have hO2 : okO acc = none := by
              unfold okO
              rw [if_neg]
              intro hh
              exact h6 ((labelsB_iff _).1 hh).1
            have HO2 : Hid (okO acc = none) := hO2
            clear hO2 hall
            have h6' : (6 : Int) < (acc.length : Int) := by omega
            go_wp2
            go_ret2
            exact ⟨_, _, rfl, by rw [HO2.out]; exact ⟨rfl, rfl⟩, hB2⟩
end Go.Proofs.YtmepnnlmhlndmaaDoor
