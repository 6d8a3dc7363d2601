/- A name's labels, or the error. -/
import Derived.Test.YtdegjmceeggldaaNameB
import Derived.Test.YtdegjmceeggldaaShelf
import Derived.Lib.SmallJoins
import Derived.Lib.IndexBytes
import Derived.RangeFuncWrites
import Derived.RangeFuncFrom
namespace Go.Proofs.Ytdegjmceeggldaa
open Go.RowKit Go.Shelf
set_option linter.unusedVariables false
attribute [local go_sem] Oper.semAt_some

def strV (x : List UInt8) : Value := .string ⟨x.toArray⟩
def labelsB (ls : List (List UInt8)) : Bool := decide (ls.length ≤ 6) && ls.all fun x => labB ⟨x.toArray⟩
theorem labelsB_iff (ls : List (List UInt8)) : labelsB ls = true ↔ ls.length ≤ 6 ∧ ∀ x ∈ ls, labB ⟨x.toArray⟩ = true := by
  unfold labelsB
  rw [Bool.and_eq_true, decide_eq_true_eq, List.all_eq_true]
theorem labelsB_part {a b : List (List UInt8)} (h : a <+: b) (hb : labelsB b = true) : labelsB a = true := by
  rw [labelsB_iff] at *
  exact ⟨Nat.le_trans h.length_le hb.1, fun x hx => hb.2 x (h.subset hx)⟩
def okO (ls : List (List UInt8)) : Option (List (List UInt8)) := if labelsB ls then some ls else none
def splitO (l : List UInt8) : Option (List (List UInt8)) :=
  if l = [47] then some [] else if l.head? ≠ some 47 then none else okO (cutS [] (l.drop 1))
def SplitsTo (w w' : World) (o : Option (List (List UInt8))) (v : Value) (err : Int) : Prop := match o with
  | some ls => err = 0 ∧ w'.ownsRow w.heap.size 9 1 v ls.length (ls.map strV)
  | none => err = 3 ∧ v = .slice none 0 0
theorem infoS : (Try.prog.info? 9).map (fun i => (i.zero, i.size, i.bytes)) = some (some (.string ⟨#[]⟩), 1, 16) := by kernel_rfl

theorem box_kept {W W' : World} {row : Option Nat} {B : Nat} {t : TypeId} {v : Value} (h : Boxed W B t v) (hg : W.grownBy W' row) (hr : ∀ r, row = some r → ∃ o : Obj, W.heap[r]? = some o ∧ o.isCells = false) : Boxed W' B t v :=
  h.kept hg (fun e => by
    obtain ⟨o, ho, hc⟩ := hr B e.symm
    have h' : W.heap[B]? = some (.cells #[v] t (0, 0)) := h
    rw [h'] at ho
    cases ho
    cases hc)
theorem row_block {W : World} {base : Nat} {e : TypeId} {v : Value} {k : Nat} {xs : List Value} (h : W.ownsRow base e 1 v k xs) {B : Nat} (hB : B < base) : some B ≠ v.ownBlock := by
  rcases h.2 with ⟨rfl, _⟩ | ⟨g, cap, cur, rfl, hb, _⟩
  · simp [Value.ownBlock]
  · simp [Value.ownBlock]; omega

theorem split_root (w : World) :
    Calls Try.prog 20 #[.string ⟨#[47]⟩] w fun e w' => e = .returned (.tuple #[.slice none 0 0, .int .i64 0]) ∧ Below w.heap.size w w' := by
  go_enter Try.func20, Try.ntmps20
  go_wp2
  exact bodyPost_ret (v := .tuple #[.slice none 0 0, .int .i64 0]) (by simp [results, Try.results20, go_sem]) rfl ⟨rfl, ((Below.refl _ _).alloc (Nat.le_refl _) _).alloc (by simp) _⟩
theorem split_no (s : ByteArray) (w : World) (h1 : (s.toList == [47]) = false) (h2 : Lib.hasPrefix s.data.toList [47] = false) :
    Calls Try.prog 20 #[.string s] w fun e w' => e = .returned (.tuple #[.slice none 0 0, .int .i64 3]) ∧ Below w.heap.size w w' := by
  have cP := fun w => Try.strings_HasPrefix s ⟨#[47]⟩ w
  have e2 : Lib.hasPrefix s.data.toList (⟨#[47]⟩ : ByteArray).data.toList = false := h2
  rw [e2] at cP
  go_enter Try.func20, Try.ntmps20
  go_wp2_with (go_at_call 27; refine (cP _).mono ?_; rintro e w' ⟨rfl, rfl⟩)
  exact bodyPost_ret (v := .tuple #[.slice none 0 0, .int .i64 3]) (by simp [results, Try.results20, go_sem]) rfl ⟨rfl, ((Below.refl _ _).alloc (Nat.le_refl _) _).alloc (by simp) _⟩

set_option maxRecDepth 100000 in
set_option maxHeartbeats 4000000 in
theorem split_in (s : ByteArray) (w : World) (hs : s.size ≤ 9223372036854775807) (h1 : (s.toList == [47]) = false) (h2 : Lib.hasPrefix s.data.toList [47] = true) (hp : 0 < s.size) (n : Nat) (hn : 5 ≤ n) :
    CallsIn Fence.wide n Try.prog 20 #[.string s] w fun e W' => ∃ v err, e = .returned (.tuple #[v, .int .i64 err]) ∧ SplitsTo w W' (okO (cutS [] (s.data.toList.drop 1))) v err ∧ Below w.heap.size w W' := by
  have cP := fun w => Try.strings_HasPrefix s ⟨#[47]⟩ w
  have e2 : Lib.hasPrefix s.data.toList (⟨#[47]⟩ : ByteArray).data.toList = true := h2
  rw [e2] at cP
  clear h2 e2
  have hl1 : (1 : Int) ≤ (s.size : Int) := by omega
  have hE : (s.extract 1 s.size).data.toList = s.data.toList.drop 1 := Lib.extract_to_end s 1
  have hEs : (s.extract 1 s.size).size ≤ 9223372036854775807 := by rw [Lib.size_eq, hE, List.length_drop, ← Lib.size_eq]; omega
  rw [← hE]
  generalize hT : s.extract 1 s.size = T at *
  generalize hxs : cutS [] T.data.toList = xs at *
  have hw1 : 1 ≤ n := by omega
  have hro : Fence.wide.round = none := rfl
  obtain ⟨i0, hi, hz0, hz1, hz2⟩ := info_parts infoS
  refine callsIn_of_wp_marks Try.func20 rfl trivial ?_ rfl
  simp only [Try.ntmps20, List.size_toArray, List.length_cons, List.length_nil, Nat.reduceAdd, Nat.reduceSub, Array.replicate_succ, Array.replicate_zero, List.push_toArray, List.append_toArray, List.nil_append, List.cons_append]
  gi_wp2_with (first | (refine ⟨trivial, ?_⟩; gi_at_call 27; refine (callsIn_wide.2 (cP _)).mono ?_; rintro e w' ⟨rfl, rfl⟩) | (refine ⟨trivial, ?_⟩; gi_at_call 28; refine (cut_in Fence.wide (n - 1) trivial rfl _ _).mono ?_; rintro e w' ⟨rfl, rfl⟩))
  have bR := Boxed.new w 55 (.slice none 0 0)
  have bE := Boxed.new (w.alloc (.cells #[.slice none 0 0] 55)) 25 (.int .i64 0)
  have bL := Boxed.new ((w.alloc (.cells #[.slice none 0 0] 55)).alloc (.cells #[.int .i64 0] 25)) 55 (.slice none 0 0)
  have bT := Boxed.new (((w.alloc (.cells #[.slice none 0 0] 55)).alloc (.cells #[.int .i64 0] 25)).alloc (.cells #[.slice none 0 0] 55)) 9 (.string T)
  simp only [World.size_alloc] at bE bL bT
  have hB0 : Below w.heap.size w ((((w.alloc (.cells #[.slice none 0 0] 55)).alloc (.cells #[.int .i64 0] 25)).alloc (.cells #[.slice none 0 0] 55)).alloc (.cells #[.string T] 9)) := ((((Below.refl _ w).alloc (Nat.le_refl _) _).alloc (by simp) _).alloc (by simp; omega) _).alloc (by simp; omega) _
  have bR0 := ((bR.alloc (.cells #[.int .i64 0] 25)).alloc (.cells #[.slice none 0 0] 55)).alloc (.cells #[.string T] 9)
  have bE0 := (bE.alloc (.cells #[.slice none 0 0] 55)).alloc (.cells #[.string T] 9)
  have bL0 := bL.alloc (.cells #[.string T] 9)
  clear bR bE bL
  refine wpIn_rangeFunc_ownG hro hw1 (gf := 34) (lb := #[.pointer (some ⟨w.heap.size + 1 + 1 + 1, 0, none⟩)]) rfl trivial (enters_of Try.func34 (by kernel_rfl) rfl)
    (cut_stops Fence.wide (n - 1) trivial rfl (by omega) (w.heap.size + 1 + 1 + 1) T hEs _ (by simp) bT.cell) keepsK_t keepsK_b (Below.refl _ _) (fun _ => rfl)
    (fun pre W => ((∃ v, Boxed W (w.heap.size + 1 + 1) 55 v ∧ W.ownsRow (w.heap.size + 1 + 1 + 1 + 1) 9 1 v pre.length (pre.map strV) ∧ True) ∧ (Boxed W w.heap.size 55 (.slice none 0 0) ∧ Boxed W (w.heap.size + 1) 25 (.int .i64 0) ∧ Boxed W (w.heap.size + 1 + 1 + 1) 9 (.string T) ∧ labelsB pre = true)) ∧ Below w.heap.size w W)
    (fun c pre W => (c = .ret ∧ labelsB pre = false ∧ Boxed W w.heap.size 55 (.slice none 0 0) ∧ Boxed W (w.heap.size + 1) 25 (.int .i64 3)) ∧ Below w.heap.size w W)
    (OwnFrom.and (OwnFrom.and (Own.from (holdsRow_own (w.heap.size + 1 + 1 + 1 + 1) (w.heap.size + 1 + 1) 55 9 1 (fun pre : List (List UInt8) => pre.length) (fun pre : List (List UInt8) => pre.map strV) (fun _ _ => True)) _) (Own.from (fun s A B row hs hg hr => ⟨box_kept hs.1 hg hr, box_kept hs.2.1 hg hr, box_kept hs.2.2.1 hg hr, hs.2.2.2⟩) _)) (ownFrom_below (Nat.le_refl _) (by simp; omega)))
    (fun c => OwnFrom.and (Own.from (fun s A B row hs hg hr => ⟨hs.1, hs.2.1, box_kept hs.2.2.1 hg hr, box_kept hs.2.2.2 hg hr⟩) _) (ownFrom_below (Nat.le_refl _) (by simp; omega)))
    ⟨⟨⟨_, bL0, World.ownsRow_nil _ _ _ _, trivial⟩, bR0, bE0, bT, rfl⟩, hB0⟩
    (fun x => { tmps := #[.string s, undef, .pointer (some ⟨w.heap.size, 0, none⟩), .pointer (some ⟨w.heap.size + 1, 0, none⟩), .pointer (some ⟨w.heap.size + 1 + 1, 0, none⟩), .string ⟨x.toArray⟩, .string s, .bool false, .string s, .bool true, .bool false, .string s, .string T, .func (.func 34) #[] #[.pointer (some ⟨w.heap.size + 1 + 1 + 1, 0, none⟩)], .string ⟨x.toArray⟩, undef, undef, undef, undef, undef, undef, undef, undef, undef, undef, undef, undef, undef], defers := [] }) ?assign ?body ?done ?stop
  case assign =>
    intro l x W K hK
    gi_wp2
    exact hK
  case body =>
    rintro l pre x W ⟨⟨⟨v, hv, hrow, _⟩, hR, hE3, hTb, hlab⟩, hB⟩ hlt
    obtain ⟨a0, cap0, hvf⟩ : ∃ a cap, v = .slice a pre.length cap := by
      rcases hrow.2 with ⟨hv0, hk0⟩ | ⟨g, cap, cur, hv0, _⟩
      · exact ⟨none, 0, by rw [hk0]; exact hv0⟩
      · exact ⟨_, _, hv0⟩
    subst hvf
    have hcv := hv.cell
    have hcR := hR.cell
    have hfR := hR.frozen
    have hcE := hE3.cell
    have hfE := hE3.frozen
    have hpl := (labelsB_iff pre).1 hlab
    have hsE : W.frozen? ⟨w.heap.size + 1, 0, none⟩ = false := hfE
    by_cases h6 : pre.length = 6
    · have h6' : ((pre.length : Int) == 6) = true := by rw [h6]; rfl
      have hbad : labelsB (pre ++ [x]) = false := by
        cases hh : labelsB (pre ++ [x]) with
        | false => rfl
        | true => have := ((labelsB_iff _).1 hh).1; simp at this; omega
      clear hpl hlab hrow hv
      gi_wp2
      refine ⟨trivial, ?_⟩
      gi_wp2
      have hB2 := (hB.setCell (p := ⟨w.heap.size, 0, none⟩) (Nat.le_refl _) (.slice none 0 0)).setCell (p := ⟨w.heap.size + 1, 0, none⟩) (by show w.heap.size ≤ w.heap.size + 1; omega) (.int .i64 3)
      exact ⟨((KeepsOthers.setCell _ _ _).trans (KeepsOthers.setCell _ _ _)).from _, ⟨rfl, hbad, (hR.set (.slice none 0 0)).other (by omega) _, (hE3.other (by omega) _).set _⟩, hB2⟩
    · have h6' : ((pre.length : Int) == 6) = false := by rw [beq_eq_false_iff_ne]; omega
      have cL := fun w => label_any ⟨x.toArray⟩ w
      cases hx : labB ⟨x.toArray⟩ with
      | false =>
        rw [hx] at cL
        have hbad : labelsB (pre ++ [x]) = false := by
          cases hh : labelsB (pre ++ [x]) with
          | false => rfl
          | true => have := ((labelsB_iff _).1 hh).2 x (by simp); rw [hx] at this; cases this
        clear hpl hlab hrow hv hx
        gi_wp2_with fail
        refine ⟨trivial, fun _ => by omega, ?_⟩
        refine (CallsIn.inRound l (callsIn_wide.2 (cL W))).mono ?_
        rintro e w' ⟨rfl, pos, rfl⟩
        have hR1 := hR.alloc (.stringIter ⟨x.toArray⟩ pos)
        have hE1 := hE3.alloc (.stringIter ⟨x.toArray⟩ pos)
        have hcR1 := hR1.cell
        have hfR1 := hR1.frozen
        have hcE1 := hE1.cell
        have hfE1 := hE1.frozen
        have hB1 := hB.alloc hB.size (.stringIter ⟨x.toArray⟩ pos)
        have hK1 := KeepsOthers.alloc W (.stringIter ⟨x.toArray⟩ pos)
        change Boxed (W.iter ⟨x.toArray⟩ pos) _ _ _ at hR1
        change Boxed (W.iter ⟨x.toArray⟩ pos) _ _ _ at hE1
        change (W.iter ⟨x.toArray⟩ pos).cell? _ = _ at hcR1
        change (W.iter ⟨x.toArray⟩ pos).frozen? _ = _ at hfR1
        change (W.iter ⟨x.toArray⟩ pos).cell? _ = _ at hcE1
        change (W.iter ⟨x.toArray⟩ pos).frozen? _ = _ at hfE1
        change Below _ _ (W.iter ⟨x.toArray⟩ pos) at hB1
        change KeepsOthers _ (W.iter ⟨x.toArray⟩ pos) at hK1
        generalize W.iter ⟨x.toArray⟩ pos = W1 at *
        gi_wp2
        have hB2 := (hB1.setCell (p := ⟨w.heap.size, 0, none⟩) (Nat.le_refl _) (.slice none 0 0)).setCell (p := ⟨w.heap.size + 1, 0, none⟩) (by show w.heap.size ≤ w.heap.size + 1; omega) (.int .i64 3)
        exact ⟨(hK1.trans ((KeepsOthers.setCell _ _ _).trans (KeepsOthers.setCell _ _ _))).from _, ⟨rfl, hbad, (hR1.set (.slice none 0 0)).other (by omega) _, (hE1.other (by omega) _).set _⟩, hB2⟩
      | true =>
        rw [hx] at cL
        have hgood : labelsB (pre ++ [x]) = true := (labelsB_iff _).2 ⟨by simp; omega, fun y hy => by
          rcases List.mem_append.1 hy with hy | hy
          · exact hpl.2 y hy
          · simp at hy; subst hy; exact hx⟩
        clear hx
        gi_wp2_with fail
        refine ⟨trivial, fun _ => by omega, ?_⟩
        refine (CallsIn.inRound l (callsIn_wide.2 (cL W))).mono ?_
        rintro e w' ⟨rfl, pos, rfl⟩
        have hR1 := hR.alloc (.stringIter ⟨x.toArray⟩ pos)
        have hE1 := hE3.alloc (.stringIter ⟨x.toArray⟩ pos)
        have hv1 := hv.alloc (.stringIter ⟨x.toArray⟩ pos)
        have hT1 := hTb.alloc (.stringIter ⟨x.toArray⟩ pos)
        have hrow1 := hrow.alloc (.stringIter ⟨x.toArray⟩ pos)
        have hB1 := hB.alloc hB.size (.stringIter ⟨x.toArray⟩ pos)
        have hK1 := KeepsOthers.alloc W (.stringIter ⟨x.toArray⟩ pos)
        change Boxed (W.iter ⟨x.toArray⟩ pos) _ _ _ at hR1
        change Boxed (W.iter ⟨x.toArray⟩ pos) _ _ _ at hE1
        change Boxed (W.iter ⟨x.toArray⟩ pos) _ _ _ at hv1
        change Boxed (W.iter ⟨x.toArray⟩ pos) _ _ _ at hT1
        change (W.iter ⟨x.toArray⟩ pos).ownsRow _ _ _ _ _ _ at hrow1
        change Below _ _ (W.iter ⟨x.toArray⟩ pos) at hB1
        change KeepsOthers _ (W.iter ⟨x.toArray⟩ pos) at hK1
        generalize W.iter ⟨x.toArray⟩ pos = W1 at *
        have hcv1 := hv1.cell
        have hsz1 : w.heap.size + 1 + 1 + 1 + 1 ≤ W1.heap.size := hT1.lt
        clear hcv hcR hfR hcE hfE hsE
        gi_wp2_with (gi_at_builtin; refine wpListIn_append_own _ rfl _ _ 55 rfl (w.heap.size + 1 + 1 + 1 + 1) 9 i0 (.string ⟨#[]⟩) 1 16 Try.underlying55 hi hz0 hz1 hz2 rfl (by decide) _ _ _ rfl (hrow1.alloc _) ⟨W1.heap.size, 0, none⟩ 1 1 [strV x] rfl rfl (cell_one_new _ _ _) (by simp [Value.oneCell', strV]) (by unfold maxLen; omega) (by omega) (by simp; omega) ?_; intro v' w1 hown' hgrow _; obtain ⟨g', cap', rfl⟩ := ownsRow_succ hown'; have hv1' := (hv1.alloc _).kept hgrow (row_block hrow1 (by omega)); have hv1c := hv1'.cell; have hv1f := hv1'.frozen)
        obtain ⟨_, hA2, _, hA4, hA5⟩ := Boxed.appended (n₀ := w.heap.size) hv1 (by decide) (Go.Joins.ownsRow_le hrow1 (by omega)) (by omega) (by omega) (Go.Joins.ownsRow_le hown' (by omega)) hgrow
        have hrn : ∀ B, B < w.heap.size + 1 + 1 + 1 + 1 → some B ≠ (Value.slice a0 pre.length cap0).ownBlock := fun B hb => row_block hrow1 hb
        have hT2 := (((hT1.alloc _).kept hgrow (hrn _ (by omega))).other (B' := w.heap.size + 1 + 1) (by omega) (.slice (some ⟨g', 0, none⟩) (pre.length + 1) cap'))
        have hR2 := (((hR1.alloc _).kept hgrow (hrn _ (by omega))).other (B' := w.heap.size + 1 + 1) (by omega) (.slice (some ⟨g', 0, none⟩) (pre.length + 1) cap'))
        have hE2 := (((hE1.alloc _).kept hgrow (hrn _ (by omega))).other (B' := w.heap.size + 1 + 1) (by omega) (.slice (some ⟨g', 0, none⟩) (pre.length + 1) cap'))
        refine ⟨(hK1.trans hA4).from _, ⟨(hK1.trans hA4).walks, fun v hv => ?_⟩, ⟨⟨_, hA2, ?_, trivial⟩, hR2, hE2, hT2, hgood⟩, hB1.trans hA5⟩
        · rw [hTb.cell] at hv
          cases hv
          exact hT2.cell
        · rw [List.length_append, List.map_append]
          exact hown'.kept (grownBy_setCell' w1 _ _) (.inr (row_block hown' (by omega)).symm)
  case done =>
    rintro D ys W hD rfl ⟨⟨⟨v, hv, hrow, _⟩, hR, hE3, hTb, hlab⟩, hB⟩ hK
    obtain ⟨a0, k0, cap0, hvf⟩ : ∃ a k cap, v = .slice a k cap := by
      rcases hrow.2 with ⟨hv0, hk0⟩ | ⟨g, cap, cur, hv0, _⟩
      · exact ⟨none, 0, 0, hv0⟩
      · exact ⟨_, _, _, hv0⟩
    subst hvf
    have hcv := hv.cell
    have hcR := hR.cell
    have hfR := hR.frozen
    have hcE := hE3.cell
    have hfE := hE3.frozen
    gi_wp2
    have hK' := ((KeepsOthers.setCell W ⟨w.heap.size, 0, none⟩ (.slice a0 k0 cap0)).trans (KeepsOthers.setCell _ ⟨w.heap.size + 1, 0, none⟩ (.int .i64 0))).same D _ hK rfl
    have hB2 := (hB.setCell (p := ⟨w.heap.size, 0, none⟩) (Nat.le_refl _) (.slice a0 k0 cap0)).setCell (p := ⟨w.heap.size + 1, 0, none⟩) (by show w.heap.size ≤ w.heap.size + 1; omega) (.int .i64 0)
    have hR2 := box_kept ((hR.set (.slice a0 k0 cap0)).other (B' := w.heap.size + 1) (by omega) (.int .i64 0)) (grownBy_putObj' _ D (.deferred none)) (fun r e => by cases e; exact ⟨_, hK', rfl⟩)
    have hE2 := box_kept ((hE3.other (B' := w.heap.size) (by omega) (.slice a0 k0 cap0)).set (.int .i64 0)) (grownBy_putObj' _ D (.deferred none)) (fun r e => by cases e; exact ⟨_, hK', rfl⟩)
    have hcR2 := hR2.cell
    have hcE2 := hE2.cell
    have hrow2 := ownsRow_putObj ((hrow.kept (grownBy_setCell' W w.heap.size (.slice a0 k0 cap0)) (.inr (row_block hrow (by omega)).symm)).kept (grownBy_setCell' _ (w.heap.size + 1) (.int .i64 0)) (.inr (row_block hrow (by omega)).symm)) (.deferred none) hK' rfl
    refine ⟨by simp, .inl ⟨_, _, rfl, run_takeDeferred hK', ?_⟩⟩
    refine ⟨.tuple #[.slice a0 k0 cap0, .int .i64 0], by simp [results, Try.f20, go_sem, hcR2, hcE2], _, _, rfl, ?_, hB2.trans (belowK_b (w := w) (Nat.le_refl _) _ D _ _ (by simp at hD; omega) hK' rfl rfl)⟩
    rw [hxs] at hlab hrow2
    unfold okO
    rw [hlab]
    exact ⟨rfl, Go.Joins.ownsRow_le hrow2 (by omega)⟩
  case stop =>
    rintro D c pre W hD hpre ⟨⟨rfl, hin, hR, hE3⟩, hB⟩ hK
    gi_wp2
    have hcR2 := (box_kept hR (grownBy_putObj' _ D (.deferred none)) (fun r e => by cases e; exact ⟨_, hK, rfl⟩)).cell
    have hcE2 := (box_kept hE3 (grownBy_putObj' _ D (.deferred none)) (fun r e => by cases e; exact ⟨_, hK, rfl⟩)).cell
    refine ⟨by simp, .inl ⟨_, _, rfl, run_takeDeferred hK, ?_⟩⟩
    refine ⟨.tuple #[.slice none 0 0, .int .i64 3], by simp [results, Try.f20, go_sem, hcR2, hcE2], _, _, rfl, ?_, hB.trans (belowK_b (w := w) (Nat.le_refl _) _ D _ _ (by simp at hD; omega) hK rfl rfl)⟩
    rw [hxs] at hpre
    have hno : labelsB xs = false := by
      cases hh : labelsB xs with
      | false => rfl
      | true => rw [labelsB_part hpre hh] at hin; cases hin
    unfold okO
    rw [hno]
    exact ⟨rfl, rfl⟩

/-- A name's labels, or 3. -/
theorem split_any (s : ByteArray) (w : World) (hs : s.size ≤ 9223372036854775807) :
    Calls Try.prog 20 #[.string s] w fun e W' => ∃ v err, e = .returned (.tuple #[v, .int .i64 err]) ∧ SplitsTo w W' (splitO s.data.toList) v err ∧ Below w.heap.size w W' := by
  by_cases h1 : s.data.toList = [47]
  · obtain rfl : s = ⟨#[47]⟩ := by
      cases s with | mk d => simp at h1; rw [show d = #[47] from Array.toList_inj.1 h1]
    refine (split_root w).mono ?_
    rintro e W' ⟨rfl, hB⟩
    exact ⟨_, _, rfl, ⟨rfl, World.ownsRow_nil _ _ _ _⟩, hB⟩
  · have h1' : (s.toList == [47]) = false := by rw [beq_eq_false_iff_ne, Lib.toList_data]; exact h1
    by_cases h2 : s.data.toList.head? = some 47
    · have h2' : Lib.hasPrefix s.data.toList [47] = true := by
        cases hc : s.data.toList with
        | nil => rw [hc] at h2; cases h2
        | cons a t => rw [hc] at h2; simp at h2; subst h2; simp [Lib.hasPrefix]
      have hp : 0 < s.size := by
        rw [Lib.size_eq]
        cases hc : s.data.toList with
        | nil => rw [hc] at h2; cases h2
        | cons a t => simp
      refine ((callsIn_wide (n := 5)).1 (split_in s w hs h1' h2' hp 5 (by omega))).mono ?_
      rintro e W' ⟨v, err, rfl, hS, hB⟩
      refine ⟨v, err, rfl, ?_, hB⟩
      unfold splitO
      rw [if_neg h1, if_neg (by simp [h2])]
      exact hS
    · have h2' : Lib.hasPrefix s.data.toList [47] = false := by
        cases hc : s.data.toList with
        | nil => rfl
        | cons a t => rw [hc] at h2; simp at h2; simp [Lib.hasPrefix, List.isPrefixOf]; exact fun e => h2 (Eq.symm e)
      refine (split_no s w h1' h2').mono ?_
      rintro e W' ⟨rfl, hB⟩
      refine ⟨_, _, rfl, ?_, hB⟩
      unfold splitO
      rw [if_neg h1, if_pos h2]
      exact ⟨rfl, rfl⟩
end Go.Proofs.Ytdegjmceeggldaa
