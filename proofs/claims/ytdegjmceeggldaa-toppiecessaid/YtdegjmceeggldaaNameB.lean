/- A name is cut at its strokes: the function that yields the pieces. -/
import Derived.Test.YtdegjmceeggldaaNameA
import Derived.RangeFuncNested
import Derived.RangeFuncBound
import Derived.RangeFuncCalls
import Derived.RangeFuncLeaves
import Derived.RangeFuncBox
import Derived.Shelf.Abstract
import Derived.Shelf.RegionOpen
import Derived.OwnWalkIn
import Derived.TacticsInMore
import Derived.LoopNIn
import Derived.LoopIn
import Derived.Maps.AppendAt
import Derived.Lib.OthersKept
namespace Go.Proofs.Ytdegjmceeggldaa
open Go.RowKit Go.Shelf
set_option linter.unusedVariables false
attribute [local go_sem] Oper.semAt_some

/-- The pieces between the strokes, the first one begun with cur. -/
def cutS (cur : List UInt8) : List UInt8 → List (List UInt8)
  | [] => [cur]
  | b :: l => if b = 47 then cur :: cutS [] l else cutS (cur ++ [b]) l
theorem cutS_pass : ∀ (m cur l : List UInt8), (∀ b ∈ m, b ≠ 47) → cutS cur (m ++ l) = cutS (cur ++ m) l
  | [], cur, l, _ => by simp
  | b :: m, cur, l, h => by
    simp only [List.cons_append, cutS]
    rw [if_neg (h b (by simp)), cutS_pass m (cur ++ [b]) l (fun c hc => h c (by simp [hc]))]
    simp
theorem decodeN_form (n b0 b1 b2 b3 : Nat) : ∃ c k, Lib.decodeN n b0 b1 b2 b3 = (c, k) ∧ ((k = 1 ∧ ((c = b0 ∧ b0 < 128) ∨ (c = 65533 ∧ 128 ≤ b0))) ∨ (k = 2 ∧ 128 ≤ c ∧ 128 ≤ b0 ∧ 128 ≤ b1 ∧ 1 < n) ∨ (k = 3 ∧ 2048 ≤ c ∧ 128 ≤ b0 ∧ 128 ≤ b1 ∧ 128 ≤ b2 ∧ 2 < n) ∨ (k = 4 ∧ 2048 ≤ c ∧ 128 ≤ b0 ∧ 128 ≤ b1 ∧ 128 ≤ b2 ∧ 128 ≤ b3 ∧ 3 < n)) := by
  unfold Lib.decodeN
  repeat' split
  all_goals exact ⟨_, _, rfl, by omega⟩
theorem decodeN_47 (n b0 b1 b2 b3 : Nat) (hn : 1 ≤ n) :
    ((Lib.decodeN n b0 b1 b2 b3).1 = 47 → b0 = 47 ∧ (Lib.decodeN n b0 b1 b2 b3).2 = 1) ∧
    ((Lib.decodeN n b0 b1 b2 b3).1 ≠ 47 → b0 ≠ 47 ∧ (2 ≤ (Lib.decodeN n b0 b1 b2 b3).2 → b1 ≠ 47) ∧ (3 ≤ (Lib.decodeN n b0 b1 b2 b3).2 → b2 ≠ 47) ∧ (4 ≤ (Lib.decodeN n b0 b1 b2 b3).2 → b3 ≠ 47)) ∧
    (Lib.decodeN n b0 b1 b2 b3).2 ≤ n ∧ (Lib.decodeN n b0 b1 b2 b3).2 ≤ 4 := by
  obtain ⟨c, k, e, h⟩ := decodeN_form n b0 b1 b2 b3
  rw [e]
  simp only
  omega
theorem get_list (s : ByteArray) (j : Nat) (h : j < s.size) : s.get! j = s[j]'h := by
  show s.data[j]! = _
  exact getElem!_pos s.data j h
/-- A stroke is read as one; of what is read as something else no byte is a stroke. -/
theorem decode_stroke (s : ByteArray) (pos : Nat) (h : pos < s.size) :
    ((Utf8.decode s pos).1 = 47 → (s[pos]'h) = 47 ∧ (Utf8.decode s pos).2 = 1) ∧
    ((Utf8.decode s pos).1 ≠ 47 → ∀ b ∈ (s.data.toList.drop pos).take (Utf8.decode s pos).2, b ≠ 47) ∧ pos + (Utf8.decode s pos).2 ≤ s.size := by
  have hd := Lib.decode_at s pos
  have key := decodeN_47 (s.size - pos) (s.get! pos).toNat (s.get! (pos + 1)).toNat (s.get! (pos + 2)).toNat (s.get! (pos + 3)).toNat (by omega)
  rw [← hd] at key
  obtain ⟨k1, k2, k3, k4⟩ := key
  refine ⟨fun e => ?_, fun e b hb => ?_, by omega⟩
  · obtain ⟨a1, a2⟩ := k1 e
    rw [get_list s pos h] at a1
    exact ⟨UInt8.toNat_inj.1 a1, a2⟩
  · obtain ⟨a0, a1, a2, a3⟩ := k2 e
    obtain ⟨j, hj, rfl⟩ := List.getElem_of_mem hb
    have hj' : j < (Utf8.decode s pos).2 := by simp at hj; omega
    have hjs : pos + j < s.size := by omega
    have e1 : ((s.data.toList.drop pos).take (Utf8.decode s pos).2)[j] = s.get! (pos + j) := by
      rw [get_list s (pos + j) hjs, List.getElem_take, List.getElem_drop]; rfl
    rw [e1]
    intro g
    have g' : (s.get! (pos + j)).toNat = 47 := by rw [g]; rfl
    match j, hj', g' with
    | 0, _, g' => exact a0 g'
    | 1, hj', g' => exact a1 (by omega) g'
    | 2, hj', g' => exact a2 (by omega) g'
    | 3, hj', g' => exact a3 (by omega) g'
    | j + 4, hj', _ => omega
theorem extract_mk (s : ByteArray) (a b : Nat) (h : b ≤ s.size) : s.extract a b = ⟨((s.data.toList.take b).drop a).toArray⟩ := by
  have e : (s.extract a b).data.toList = (s.data.toList.take b).drop a := by
    have := Lib.extract_toList s a b
    rw [Lib.toList_data] at this
    rw [this, List.drop_take]
  generalize s.extract a b = E at *
  obtain ⟨⟨l⟩⟩ := E
  simp only at e
  rw [e]

/-- What a round that goes on keeps: walks, and the text that is cut. -/
def Keeps (Bn : Nat) (W W' : World) : Prop := KeepsWalks W W' ∧ ∀ v, W.cell? ⟨Bn, 0, none⟩ = some v → W'.cell? ⟨Bn, 0, none⟩ = some v
theorem cutS_ne (cur l : List UInt8) : ∃ x t, cutS cur l = x :: t := by
  induction l generalizing cur with
  | nil => exact ⟨_, _, rfl⟩
  | cons b l ih =>
    simp only [cutS]
    split
    · exact ⟨_, _, rfl⟩
    · exact ih _

set_option maxRecDepth 100000 in
set_option maxHeartbeats 2000000 in
theorem cut1_in (F : Fence) (n : Nat) (hF : F.fn 34) (hro : F.round = none) (hn : 1 ≤ n) (l Bn : Nat) (s : ByteArray) (hs : s.size ≤ 9223372036854775807) (J Jx : List (List UInt8) → World → Prop) (W : World)
    (hJ : AbidesFrom W.heap.size J) (hJx : AbidesFrom W.heap.size Jx)
    (hY : ∀ pre x W1, J pre W1 → pre.length < (cutS [] s.data.toList).length → YieldAt F (n - 1) Try.prog l #[.string ⟨x.toArray⟩] W1 fun e W' =>
      (e = .returned (.bool true) ∧ J (pre ++ [x]) W' ∧ Keeps Bn W1 W') ∨ (e = .returned (.bool false) ∧ Jx (pre ++ [x]) W'))
    (hBn : W.cell? ⟨Bn, 0, none⟩ = some (.string s)) (hBn2 : Bn < W.heap.size) (h0 : J [] W) :
    CallsIn F n Try.prog 34 #[.func (.yield l) #[] #[], .pointer (some ⟨Bn, 0, none⟩)] W fun e W' => (∃ v, e = .returned v) ∧
      ((∃ ys, ys = cutS [] s.data.toList ∧ J ys W') ∨ (∃ pre, pre <+: cutS [] s.data.toList ∧ Jx pre W')) := by
  refine callsIn_of_wp Try.func34 rfl hF ?_ hro
  simp only [Try.ntmps34, List.size_toArray, List.length_cons, List.length_nil, Nat.reduceAdd, Nat.reduceSub, Array.replicate_succ, Array.replicate_zero, List.push_toArray, List.append_toArray, List.nil_append, List.cons_append]
  gi_wp2
  gi_loopw [3] (fun st wr => ∃ (pre : List (List UInt8)) (start pos : Nat), st = .int .i64 start ∧ start ≤ pos ∧ pos ≤ s.size ∧ cutS [] s.data.toList = pre ++ cutS ((s.data.toList.take pos).drop start) (s.data.toList.drop pos) ∧ wr.heap[W.heap.size]? = some (.stringIter s pos) ∧ wr.cell? ⟨Bn, 0, none⟩ = some (.string s) ∧ J pre wr) (fun _ wr => s.size - wr.iterPos W.heap.size)
  case atStart =>
    refine ⟨[], 0, 0, rfl, Nat.le_refl _, Nat.zero_le _, by simp, World.iter_heap W s 0, ?_, hJ [] W _ none h0 (World.grownBy_alloc W _ none) (fun r e => by cases e)⟩
    exact (((Below.refl W.heap.size W).alloc (Nat.le_refl _) (.stringIter s 0)).cell (p := ⟨Bn, 0, none⟩) (by show Bn < _; omega)).trans hBn
  case round =>
    obtain ⟨pre, start, pos, rfl, hsp, hps, hx, hit, hcell, hJs⟩ := hrel
    by_cases hp : pos < s.size
    · obtain ⟨d1, d2, d3⟩ := decode_stroke s pos hp
      have hnx := fun ty => Lib.run_next_any_at (P := Try.prog) wr W.heap.size s pos ty hit hp
      have hit2 := Lib.iterAt_heap wr W.heap.size s pos (pos + (Utf8.decode s pos).2) hit
      have hJ2 : J pre (wr.iterAt W.heap.size s (pos + (Utf8.decode s pos).2)) := hJ pre wr _ (some W.heap.size) hJs (grownBy_putObj' wr W.heap.size _) (fun r e => by cases e; exact ⟨Nat.le_refl _, _, hit, rfl⟩)
      have hcell2 : (wr.iterAt W.heap.size s (pos + (Utf8.decode s pos).2)).cell? ⟨Bn, 0, none⟩ = some (.string s) := ((Lib.below_iterAt (Below.refl W.heap.size wr) (Nat.le_refl _) s (pos + (Utf8.decode s pos).2)).cell (p := ⟨Bn, 0, none⟩) (by show Bn < _; omega)).trans hcell
      generalize hwr2 : wr.iterAt W.heap.size s (pos + (Utf8.decode s pos).2) = wr2 at *
      by_cases h47 : (Utf8.decode s pos).1 = 47
      · obtain ⟨hs47, hw1⟩ := d1 h47
        have hdr : s.data.toList.drop pos = 47 :: s.data.toList.drop (pos + 1) := by
          rw [List.drop_eq_getElem_cons (by rw [← Lib.size_eq]; exact hp)]
          congr 1
        rw [hdr] at hx
        simp only [cutS, if_true] at hx
        have Y := hY pre ((s.data.toList.take pos).drop start) wr2 hJ2 (by rw [hx]; simp)
        rw [← extract_mk s start pos hps] at Y
        obtain ⟨fn, tmps, assign, body, hy, hR⟩ := Y
        have hb : (((Utf8.decode s pos).1 : Int) != 47) = false := by rw [h47]; rfl
        have hm0 : wr.iterPos W.heap.size = pos := iterPos_of hit
        have b1 : (start : Int) ≤ (pos : Int) := by omega
        have b2 : (pos : Int) ≤ (s.size : Int) := by omega
        have HX : Hid (cutS [] s.data.toList = (pre ++ [(s.data.toList.take pos).drop start]) ++ cutS ((s.data.toList.take (pos + 1)).drop (pos + 1)) (s.data.toList.drop (pos + 1))) := by
          show _ = _
          have e0 : (s.data.toList.take (pos + 1)).drop (pos + 1) = [] := List.drop_eq_nil_of_le (by rw [List.length_take]; omega)
          rw [hx, e0, List.append_assoc]
          rfl
        rw [hw1] at hit2
        clear hx d1 d2 d3 hY hwr2 hdr
        generalize Utf8.decode s pos = dd at *
        gi_wp2
        refine hR.mono ?_
        rintro e W3 (⟨rfl, hJ3, hk3⟩ | ⟨rfl, hJx3⟩)
        · have hit3 := hk3.1.same _ _ hit2 rfl
          have hcell3 := hk3.2 _ hcell2
          have hm3 : W3.iterPos W.heap.size = pos + 1 := iterPos_of hit3
          gi_wp2
          go_roundw
          case rel => exact ⟨pre ++ [(s.data.toList.take pos).drop start], pos + 1, pos + 1, by go_num, Nat.le_refl _, by omega, HX.out, hit3, hcell3, hJ3⟩
          case measure => rw [hm3, hm0]; omega
        · gi_wp2
          refine bodyPost_ret (results_none rfl _ _ _) rfl ?_
          exact ⟨⟨_, rfl⟩, .inr ⟨_, ⟨_, HX.out.symm⟩, hJx3⟩⟩
      · have hb : (((Utf8.decode s pos).1 : Int) != 47) = true := by rw [bne_iff_ne]; omega
        have hw := width_pos s pos hp
        have hpass := d2 h47
        have HX : Hid (cutS [] s.data.toList = pre ++ cutS ((s.data.toList.take (pos + (Utf8.decode s pos).2)).drop start) (s.data.toList.drop (pos + (Utf8.decode s pos).2))) := by
          show _ = _
          rw [hx]
          congr 1
          have e1 : s.data.toList.drop pos = (s.data.toList.drop pos).take (Utf8.decode s pos).2 ++ s.data.toList.drop (pos + (Utf8.decode s pos).2) := by
            rw [← List.drop_drop, List.take_append_drop]
          rw [e1, cutS_pass _ _ _ hpass]
          congr 1
          rw [List.take_add, List.drop_append_of_le_length (by simp; omega)]
        have hm : wr2.iterPos W.heap.size = pos + (Utf8.decode s pos).2 := iterPos_of hit2
        have hm0 : wr.iterPos W.heap.size = pos := iterPos_of hit
        clear hx hpass d1 d2 hY hwr2
        generalize hdd : Utf8.decode s pos = dd at *
        gi_wp2
        go_roundw
        case rel => exact ⟨pre, start, pos + dd.2, rfl, by omega, by omega, HX.out, hit2, hcell2, hJ2⟩
        case measure => rw [hm, hm0]; omega
    · have hnx := fun ty => Lib.run_next_end_at (P := Try.prog) wr W.heap.size s pos ty hit hp
      have hpe : pos = s.size := by omega
      have e0 : s.data.toList.drop pos = [] := List.drop_eq_nil_of_le (by rw [← Lib.size_eq]; omega)
      rw [e0] at hx
      simp only [cutS] at hx
      have Y := hY pre ((s.data.toList.take pos).drop start) wr hJs (by rw [hx]; simp)
      rw [← extract_mk s start pos hps] at Y
      obtain ⟨fn, tmps, assign, body, hy, hR⟩ := Y
      have b1 : (start : Int) ≤ (s.size : Int) := by omega
      subst hpe
      clear hY
      gi_wp2
      refine hR.mono ?_
      rintro e W3 (⟨rfl, hJ3, hk3⟩ | ⟨rfl, hJx3⟩)
      · gi_wp2
        go_end0
        exact ⟨⟨_, rfl⟩, .inl ⟨_, hx.symm, hJ3⟩⟩
      · gi_wp2
        go_end0
        exact ⟨⟨_, rfl⟩, .inr ⟨_, ⟨[], by rw [hx]; simp⟩, hJx3⟩⟩

set_option maxHeartbeats 1000000 in
theorem cut_in (F : Fence) (n : Nat) (hF : F.fn 28) (hro : F.round = none) (s : ByteArray) (w : World) :
    CallsIn F n Try.prog 28 #[.string s] w fun e w' => e = .returned (.func (.func 34) #[] #[.pointer (some ⟨w.heap.size, 0, none⟩)]) ∧ w' = w.alloc (.cells #[.string s] 9) := by
  refine callsIn_of_wp Try.func28 rfl hF ?_ hro
  simp only [Try.ntmps28, List.size_toArray, List.length_cons, List.length_nil, Nat.reduceAdd, Nat.reduceSub, Array.replicate_succ, Array.replicate_zero, List.push_toArray, List.append_toArray, List.nil_append, List.cons_append]
  gi_wp2
  go_ret
  exact ⟨rfl, rfl⟩
theorem cut_stops (F : Fence) (n : Nat) (hF : F.fn 34) (hro : F.round = none) (hn : 1 ≤ n) (Bn : Nat) (s : ByteArray) (hs : s.size ≤ 9223372036854775807) (w : World) (hBn : Bn < w.heap.size) (hc : w.cell? ⟨Bn, 0, none⟩ = some (.string s)) :
    SeqStopsK F n Try.prog 34 #[.pointer (some ⟨Bn, 0, none⟩)] (fun x : List UInt8 => #[Value.string ⟨x.toArray⟩]) (Keeps Bn) (fun ys => ys = cutS [] s.data.toList) (fun pre => pre <+: cutS [] s.data.toList) (cutS [] s.data.toList).length w := fun l J Jx W hW hJ hJx hY h0 =>
  cut1_in F n hF hro hn l Bn s hs J Jx W hJ hJx hY ((hW.cell (p := ⟨Bn, 0, none⟩) hBn).trans hc) (Nat.lt_of_lt_of_le hBn hW.size) h0
theorem keepsK_t {Bn : Nat} {A B C : World} (h : Keeps Bn A B) (k : Keeps Bn B C) : Keeps Bn A C := ⟨h.1.trans k.1, fun v hv => k.2 v (h.2 v hv)⟩
theorem keepsK_b {Bn : Nat} {w : World} (W : World) (l : Nat) (o o' : Obj) (hl : w.heap.size ≤ l) (h : W.heap[l]? = some o) (h1 : o.isCells = false) (h2 : o.isWalk = false) : Keeps Bn W (W.putObj l o') :=
  ⟨walksK_b (w := w) W l o o' hl h h1 h2, fun v hv => cell_kept hv (grownBy_putObj' W l o') (fun r e => by cases e; exact ⟨_, h, h1⟩)⟩
theorem KeepsFrom.walks {B : Nat} {W W' : World} (h : KeepsOthers W W') : KeepsWalks W W' := ⟨h.size, fun k o hk hw => h.same k o hk (Obj.not_cells_of_walk hw)⟩
end Go.Proofs.Ytdegjmceeggldaa
