/- Labels in a row; the name of labels; how many two rows share. -/
import Derived.Test.YtbkllkkgnhdibaaNameC
import Derived.Test.YtbkllkkgnhdibaaBuild
namespace Go.Proofs.Ytbkllkkgnhdibaa
open Go.RowKit Go.Shelf
set_option linter.unusedVariables false

/-- A slice of texts that can be read. -/
def Row (w : World) (v : Value) (ls : List (List UInt8)) : Prop := ∃ a cap, v = .slice a ls.length cap ∧ ls.length ≤ cap ∧ ∀ j x, ls[j]? = some x → ∃ g off, a = some ⟨g, off, none⟩ ∧ w.cell? ⟨g, off + j, none⟩ = some (strV x)
theorem Row.below {w w' : World} {v : Value} {ls : List (List UInt8)} {B : Nat} (h : Row w v ls) (hB : Below B w w') (hs : w.heap.size ≤ B) : Row w' v ls := by
  obtain ⟨a, cap, hv, hc, h⟩ := h
  refine ⟨a, cap, hv, hc, fun j x hx => ?_⟩
  obtain ⟨g, off, ha, hcl⟩ := h j x hx
  have hg : g < w.heap.size := World.block_lt_of_cell? _ _ hcl
  exact ⟨g, off, ha, (hB.cell (p := ⟨g, off + j, none⟩) (show g < B by omega)).trans hcl⟩
theorem Row.nil (w : World) : Row w (.slice none 0 0) [] := ⟨none, 0, rfl, Nat.le_refl _, fun j x h => by cases h⟩
theorem Row.of_own {w : World} {base : Nat} {v : Value} {n : Nat} {ls : List (List UInt8)} (h : w.ownsRow base 9 1 v n (ls.map strV)) : Row w v ls := by
  have hn : n = ls.length := by have := h.1; simpa using this.symm
  subst hn
  rcases h.2 with ⟨rfl, h0⟩ | ⟨g, cap, cur, rfl, _, hb, hk, _, _, htk⟩
  · obtain rfl : ls = [] := List.eq_nil_of_length_eq_zero h0
    exact Row.nil w
  · refine ⟨_, cap, rfl, hk, fun j x hx => ⟨g, 0, rfl, ?_⟩⟩
    have h1 : (List.take (ls.length * 1) cur.toList)[j]? = some (strV x) := by rw [htk, List.getElem?_map, hx]; rfl
    have hj : j < ls.length := (List.getElem?_eq_some_iff.1 hx).1
    rw [List.getElem?_take, if_pos (by omega)] at h1
    simp only [Nat.zero_add, World.cell?, hb]
    simpa using h1
theorem Row.take {w : World} {a : Option Addr} {n cap : Nat} {ls : List (List UInt8)} (h : Row w (.slice a n cap) ls) (k : Nat) (hk : k ≤ n) : Row w (.slice a k cap) (ls.take k) := by
  obtain ⟨a', cap', hv, hc, h⟩ := h
  cases hv
  refine ⟨a, cap, by rw [List.length_take, Nat.min_eq_left hk], by rw [List.length_take]; omega, fun j x hx => ?_⟩
  rw [List.getElem?_take] at hx
  split at hx
  · exact h j x hx
  · cases hx

theorem Bld.alloc {B b : Nat} {l : List UInt8} {w : World} (h : Bld B b l w) (o : Obj) : Bld B b l (w.alloc o) := by
  rcases h with h | h
  · obtain ⟨hB, v, hb, hown, hne⟩ := h
    exact .inl ⟨hB, v, (Lib.alloc_old w o b (Array.getElem?_eq_some_iff.1 hb).1).trans hb, hown.alloc o, hne⟩
  · obtain ⟨hB, v, hb, hown, hne⟩ := h
    exact .inr ⟨hB, v, (Lib.alloc_old w o b (Array.getElem?_eq_some_iff.1 hb).1).trans hb, hown.alloc o, hne⟩

def joinL (ls : List (List UInt8)) : List UInt8 := (ls.map fun x => 47 :: x).flatten
/-- The name of labels, and the error. -/
def joinO (ls : List (List UInt8)) : List UInt8 × Int :=
  if 6 < ls.length then ([], 4) else if ls = [] then ([47], 0) else if ls.all (fun x => labB ⟨x.toArray⟩) then (joinL ls, 0) else ([], 3)
def textV (o : List UInt8 × Int) : Value := .tuple #[.string ⟨o.1.toArray⟩, .int .i64 o.2]
theorem joinL_len (ls : List (List UInt8)) (m : Nat) (h : ∀ x ∈ ls, x.length ≤ m) : (joinL ls).length ≤ ls.length * (m + 1) := by
  induction ls with
  | nil => simp [joinL]
  | cons x t ih =>
    have h1 := h x (by simp)
    have h2 := ih (fun y hy => h y (by simp [hy]))
    simp only [joinL, List.map_cons, List.flatten_cons, List.length_append, List.length_cons] at *
    rw [Nat.add_mul]
    omega
theorem joinL_snoc (ls : List (List UInt8)) (x : List UInt8) : joinL (ls ++ [x]) = joinL ls ++ [47] ++ x := by
  simp [joinL]

set_option maxHeartbeats 4000000 in
set_option maxRecDepth 100000 in
theorem join_in (v : Value) (ls : List (List UInt8)) (w : World) (hr : Row w v ls) (hm : ∀ x ∈ ls, x.length ≤ 1000) (h6 : ls.length ≤ 6) (hne : ls ≠ []) :
    Calls Try.prog 14 #[v] w fun e w' => e = .returned (textV (if ls.all (fun x => labB ⟨x.toArray⟩) then (joinL ls, 0) else ([], 3))) ∧ Below w.heap.size w w' := by
  obtain ⟨O, hO⟩ : ∃ O, (if ls.all (fun x => labB ⟨x.toArray⟩) then (joinL ls, (0 : Int)) else ([], 3)) = O := ⟨_, rfl⟩
  rw [hO]
  have HO : Hid ((if ls.all (fun x => labB ⟨x.toArray⟩) then (joinL ls, (0 : Int)) else ([], 3)) = O) := hO
  clear hO
  obtain ⟨a, cap, rfl, hcap, hcells⟩ := hr
  have hpos : 0 < ls.length := List.length_pos_iff.2 hne
  have hb1 : ¬ (6 : Int) < (ls.length : Int) := by omega
  have hb2 : ((ls.length : Int) == 0) = false := by rw [beq_eq_false_iff_ne]; omega
  have hm' : Hid (∀ x ∈ ls, x.length ≤ 1000) := hm
  have hne' : Hid (ls ≠ []) := hne
  have hc' : Hid (∀ j x, ls[j]? = some x → ∃ g off, a = some ⟨g, off, none⟩ ∧ w.cell? ⟨g, off + j, none⟩ = some (strV x)) := hcells
  clear hm hne hcells
  go_enter Try.func14, Try.ntmps14
  go_wp2
  go_loopw [15] (fun i W => ∃ k : Nat, k ≤ ls.length ∧ i = .int .i64 k ∧ Bld w.heap.size w.heap.size (joinL (ls.take k)) W ∧ Below w.heap.size w W ∧ ∀ x ∈ ls.take k, labB ⟨x.toArray⟩ = true) (fun i _ => 6 - (intOf i).toNat)
  case atStart => exact ⟨0, by omega, rfl, Lib.fresh_isBuilder _ _ _, (Below.refl _ _).alloc (Nat.le_refl _) _, by simp⟩
  case round =>
    obtain ⟨k, hk, rfl, hbld, hB, hgood⟩ := hrel
    by_cases hlt : k < ls.length
    · have hlt' : (k : Int) < (ls.length : Int) := by omega
      obtain ⟨g, off, rfl, hcell⟩ := hc'.out k _ (List.getElem?_eq_getElem hlt)
      have hg : g < w.heap.size := World.block_lt_of_cell? _ _ hcell
      have hcell' : wr.cell? ⟨g, off + k, none⟩ = some (.string ⟨(ls[k]'hlt).toArray⟩) := (hB.cell (p := ⟨g, off + k, none⟩) hg).trans hcell
      have hG : Hid (∀ x ∈ ls.take k, labB ⟨x.toArray⟩ = true) := hgood
      have hxs : (ls[k]'hlt).length ≤ 1000 := hm'.out _ (List.getElem_mem hlt)
      have hjl := joinL_len (ls.take k) 1000 (fun x hx => hm'.out x (List.mem_of_mem_take hx))
      have htl : (ls.take k).length = k := by rw [List.length_take]; omega
      rw [htl] at hjl
      have hxm := List.getElem_mem hlt
      have htk : ls.take (k + 1) = ls.take k ++ [ls[k]'hlt] := List.take_succ_eq_append_getElem hlt
      have HT : Hid (ls.take (k + 1) = ls.take k ++ [ls[k]'hlt]) := htk
      have HX : Hid ((ls[k]'hlt) ∈ ls) := hxm
      clear hgood hcell htk hxm
      generalize hx : ls[k]'hlt = x at *
      have hwsz := hB.size
      have cL := fun w => label_any ⟨x.toArray⟩ w
      cases hlb : labB ⟨x.toArray⟩ with
      | false =>
        rw [hlb] at cL
        have hO2 : O = ([], 3) := by
          rw [← HO.out, if_neg]
          intro hh
          rw [List.all_eq_true] at hh
          have := hh x HX.out
          rw [hlb] at this
          cases this
        subst hO2
        clear hlb hx HO
        go_wp2_with (go_at_call 9; refine (cL _).mono ?_; rintro e w' ⟨rfl, pos, rfl⟩)
        go_ret2
        exact ⟨rfl, hB.trans ((iter_below _ _ _).mono hwsz)⟩
      | true =>
        rw [hlb] at cL
        have HL : Hid (labB ⟨x.toArray⟩ = true) := hlb
        clear hlb hx
        go_wp2_with fail
        refine (cL _).mono ?_
        rintro e w' ⟨rfl, pos, rfl⟩
        have hbld1 : Bld w.heap.size w.heap.size (joinL (ls.take k)) (wr.iter ⟨x.toArray⟩ pos) := hbld.alloc _
        have hB1 : Below w.heap.size w (wr.iter ⟨x.toArray⟩ pos) := hB.trans ((iter_below _ _ _).mono hwsz)
        generalize wr.iter ⟨x.toArray⟩ pos = W1 at *
        have hs1 := hB1.size
        go_wp2_with fail
        refine (write_text w.heap.size w.heap.size (joinL (ls.take k)) ⟨#[47]⟩ W1 hbld1 (by show (joinL (ls.take k)).length + 1 ≤ _; omega) hs1).mono ?_
        rintro e W2 ⟨⟨v2, rfl⟩, hbld2, hB2, _⟩
        have hs2 := hB2.size
        go_wp2_with fail
        refine (write_text w.heap.size w.heap.size (joinL (ls.take k) ++ [47]) ⟨x.toArray⟩ W2 hbld2 (by show (joinL (ls.take k) ++ [47]).length + x.length ≤ _; simp only [List.length_append, List.length_cons, List.length_nil]; omega) (by omega)).mono ?_
        rintro e W3 ⟨⟨v3, rfl⟩, hbld3, hB3, _⟩
        go_wp2
        go_roundw
        case rel =>
          refine ⟨k + 1, by omega, by go_num, ?_, (hB1.trans hB2).trans hB3, ?_⟩
          · rw [HT.out, joinL_snoc]
            exact hbld3
          · rw [HT.out]
            intro y hy
            rcases List.mem_append.1 hy with hy | hy
            · exact hG.out y hy
            · simp at hy; subst hy; exact HL.out
        case measure => simp [intOf]; omega
    · have hlt' : ¬ (k : Int) < (ls.length : Int) := by omega
      obtain rfl : k = ls.length := by omega
      have hO2 : O = (joinL ls, 0) := by
        rw [← HO.out, if_pos]
        rw [List.all_eq_true]
        rw [List.take_length] at hgood
        exact hgood
      subst hO2
      rw [List.take_length] at hbld
      have hwsz := hB.size
      clear hgood HO
      go_wp2_with fail
      refine (built w.heap.size w.heap.size (joinL ls) wr hbld hwsz).mono ?_
      rintro e W2 ⟨rfl, hB2⟩
      go_wp2
      go_ret2
      exact ⟨rfl, hB.trans hB2⟩
end Go.Proofs.Ytbkllkkgnhdibaa
