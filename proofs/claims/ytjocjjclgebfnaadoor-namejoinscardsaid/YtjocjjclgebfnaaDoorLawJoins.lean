/- NameJoins: the name of some labels, or the error; what is joined is split again: as the document says. -/
import Derived.Test.YtjocjjclgebfnaaDoorRefT
namespace Go.Proofs.YtjocjjclgebfnaaDoor
open Go.RowKit Go.Shelf
set_option linter.unusedVariables false

/-- A slice of texts that came in. -/
def Came (w : World) (v : Value) (ss : List ByteArray) : Prop := ∃ ao cap, v = .slice ao ss.length cap ∧ ss.length ≤ cap ∧ ∀ i x, ss[i]? = some x → ∃ ad, ao = some ad ∧ w.cell? (ad.add i) = some (.string x)
def fewL (ss : List ByteArray) : List (List UInt8) := (ss.take 9).map fun x => (shortS x).data.toList
theorem fewL_len (ss : List ByteArray) : (fewL ss).length ≤ 9 := by
  simp [fewL]
  omega
theorem fewL_mem (ss : List ByteArray) : ∀ x ∈ fewL ss, x.length ≤ 300 := by
  intro x hx
  obtain ⟨y, _, rfl⟩ := List.mem_map.1 hx
  have := shortS_size y
  rw [Lib.size_eq] at this
  exact this
set_option maxHeartbeats 2000000 in
set_option maxRecDepth 100000 in
theorem few_in (ao : Option Addr) (n cap : Nat) (ts : List ByteArray) (T : List (List UInt8)) (w : World) (h9 : ts.length ≤ 9) (hT : T = ts.map fun x => (shortS x).data.toList)
    (hc : ∀ i x, ts[i]? = some x → ∃ ad, ao = some ad ∧ w.cell? (ad.add i) = some (.string x)) (hn : (9 < n ∧ ts.length = 9 ∧ n ≤ cap) ∨ (n ≤ 9 ∧ ts.length = n)) :
    Calls Tryd.prog 5 #[.slice ao n cap] w fun e W' => ∃ v, e = .returned v ∧ W'.ownsRow w.heap.size 9 1 v T.length (T.map strV) ∧ Below w.heap.size w W' := by
  obtain ⟨i0, hi, hz0, hz1, hz2⟩ := info_parts infoS
  have HC : Hid (∀ i x, ts[i]? = some x → ∃ ad, ao = some ad ∧ w.cell? (ad.add i) = some (.string x)) := hc
  have HT : Hid (T = ts.map fun x => (shortS x).data.toList) := hT
  have hTl : Hid (T.length = ts.length) := by show _ = _; rw [hT]; simp
  clear hc hT
  rcases hn with ⟨hn, ht, hcap⟩ | ⟨hn, ht⟩
  · have hn' : (9 : Int) < (n : Int) := by omega
    have hcap' : (9 : Int) ≤ (cap : Int) := by omega
    go_enter Tryd.func5, Tryd.ntmps5
    go_wp2
    go_loopw [3, 4] (fun v i W => ∃ k : Nat, k ≤ ts.length ∧ i = .int .i64 k ∧ W.ownsRow w.heap.size 9 1 v k ((T.take k).map strV) ∧ Below w.heap.size w W) (fun _ i _ => 9 - (intOf i).toNat)
    case atStart => exact ⟨0, by omega, rfl, World.ownsRow_nil _ _ _ _, Below.refl _ _⟩
    case round =>
      obtain ⟨k, hk, rfl, hown, hB⟩ := hrel
      obtain ⟨a0, cap0, rfl⟩ : ∃ a cap, u3 = .slice a k cap := by
        rcases hown.2 with ⟨hv, h0⟩ | ⟨g, cap, cur, hv, _⟩
        · exact ⟨none, 0, by rw [h0]; exact hv⟩
        · exact ⟨_, _, hv⟩
      have hBs := hB.size
      by_cases hlt : k < ts.length
      · have hlt' : (k : Int) < (9 : Int) := by omega
        obtain ⟨ad, rfl, hcell⟩ := HC.out k _ (List.getElem?_eq_getElem hlt)
        have hg : (ad.add k).block < w.heap.size := World.block_lt_of_cell? _ _ hcell
        have hcell' : wr.cell? (ad.add k) = some (.string (ts[k]'hlt)) := (hB.cell (p := ad.add k) hg).trans hcell
        have cS := fun w => short_any (ts[k]'hlt) w
        have HX : Hid (T.take (k + 1) = T.take k ++ [(shortS (ts[k]'hlt)).data.toList]) := by
          show _ = _
          rw [List.take_succ_eq_append_getElem (by have := hTl.out; omega)]
          congr 2
          have := HT.out
          subst this
          simp
        clear hcell
        generalize ts[k]'hlt = x at *
        go_wp2_with (first | (go_at_call 11; refine (cS _).mono ?_; rintro e w' ⟨rfl, hw'⟩; rw [hw']; clear hw' w') | (at_builtin; refine wpList_append_own _ rfl _ _ 22 rfl w.heap.size 9 i0 (.string ⟨#[]⟩) 1 16 Tryd.underlying22 hi hz0 hz1 hz2 rfl (by decide) _ _ _ rfl (hown.alloc _) ⟨wr.heap.size, 0, none⟩ 1 1 [.string (shortS x)] rfl rfl (cell_one_new _ _ _) (by simp [Value.oneCell']) (by unfold maxLen; omega) (by omega) (by simp; omega) ?_; intro v' w1 hown' hgrow _; obtain ⟨g', cap', rfl⟩ := ownsRow_succ hown'))
        have hB2 : Below w.heap.size w w1 := (hB.alloc hBs _).grown hgrow (by simp; omega) (fun j hj => (hown.lt j hj).1)
        go_roundw
        case rel =>
          refine ⟨k + 1, by omega, by go_num, ?_, hB2⟩
          rw [HX.out, List.map_append]
          exact hown'
        case measure => simp [intOf]; omega
      · have hlt' : ¬ (k : Int) < (9 : Int) := by omega
        have hke : k = T.length := by have := hTl.out; omega
        subst hke
        rw [List.take_length] at hown
        have HO : Hid (wr.ownsRow w.heap.size 9 1 (.slice a0 T.length cap0) T.length (T.map strV)) := hown
        clear hown HT
        go_wp2
        go_ret
        exact ⟨_, rfl, HO.out, hB⟩
  · have hn' : ¬ (9 : Int) < (n : Int) := by omega
    subst ht
    go_enter Tryd.func5, Tryd.ntmps5
    go_wp2
    go_loopw [3, 4] (fun v i W => ∃ k : Nat, k ≤ ts.length ∧ i = .int .i64 k ∧ W.ownsRow w.heap.size 9 1 v k ((T.take k).map strV) ∧ Below w.heap.size w W) (fun _ i _ => 9 - (intOf i).toNat)
    case atStart => exact ⟨0, by omega, rfl, World.ownsRow_nil _ _ _ _, Below.refl _ _⟩
    case round =>
      obtain ⟨k, hk, rfl, hown, hB⟩ := hrel
      obtain ⟨a0, cap0, rfl⟩ : ∃ a cap, u3 = .slice a k cap := by
        rcases hown.2 with ⟨hv, h0⟩ | ⟨g, cap, cur, hv, _⟩
        · exact ⟨none, 0, by rw [h0]; exact hv⟩
        · exact ⟨_, _, hv⟩
      have hBs := hB.size
      by_cases hlt : k < ts.length
      · have hlt' : (k : Int) < (ts.length : Int) := by omega
        obtain ⟨ad, rfl, hcell⟩ := HC.out k _ (List.getElem?_eq_getElem hlt)
        have hg : (ad.add k).block < w.heap.size := World.block_lt_of_cell? _ _ hcell
        have hcell' : wr.cell? (ad.add k) = some (.string (ts[k]'hlt)) := (hB.cell (p := ad.add k) hg).trans hcell
        have cS := fun w => short_any (ts[k]'hlt) w
        have HX : Hid (T.take (k + 1) = T.take k ++ [(shortS (ts[k]'hlt)).data.toList]) := by
          show _ = _
          rw [List.take_succ_eq_append_getElem (by have := hTl.out; omega)]
          congr 2
          have := HT.out
          subst this
          simp
        clear hcell
        generalize ts[k]'hlt = x at *
        go_wp2_with (first | (go_at_call 11; refine (cS _).mono ?_; rintro e w' ⟨rfl, hw'⟩; rw [hw']; clear hw' w') | (at_builtin; refine wpList_append_own _ rfl _ _ 22 rfl w.heap.size 9 i0 (.string ⟨#[]⟩) 1 16 Tryd.underlying22 hi hz0 hz1 hz2 rfl (by decide) _ _ _ rfl (hown.alloc _) ⟨wr.heap.size, 0, none⟩ 1 1 [.string (shortS x)] rfl rfl (cell_one_new _ _ _) (by simp [Value.oneCell']) (by unfold maxLen; omega) (by omega) (by simp; omega) ?_; intro v' w1 hown' hgrow _; obtain ⟨g', cap', rfl⟩ := ownsRow_succ hown'))
        have hB2 : Below w.heap.size w w1 := (hB.alloc hBs _).grown hgrow (by simp; omega) (fun j hj => (hown.lt j hj).1)
        go_roundw
        case rel =>
          refine ⟨k + 1, by omega, by go_num, ?_, hB2⟩
          rw [HX.out, List.map_append]
          exact hown'
        case measure => simp [intOf]; omega
      · have hlt' : ¬ (k : Int) < (ts.length : Int) := by omega
        have hke : k = T.length := by have := hTl.out; omega
        subst hke
        rw [List.take_length] at hown
        have HO : Hid (wr.ownsRow w.heap.size 9 1 (.slice a0 T.length cap0) T.length (T.map strV)) := hown
        clear hown HT
        go_wp2
        go_ret
        exact ⟨_, rfl, HO.out, hB⟩
theorem few_any (v : Value) (ss : List ByteArray) (w : World) (h : Came w v ss) :
    Calls Tryd.prog 5 #[v] w fun e W' => ∃ v', e = .returned v' ∧ W'.ownsRow w.heap.size 9 1 v' (fewL ss).length ((fewL ss).map strV) ∧ Below w.heap.size w W' := by
  obtain ⟨ao, cap, rfl, hcap, hc⟩ := h
  refine few_in ao ss.length cap (ss.take 9) (fewL ss) w (by simp; omega) rfl (fun i x hx => ?_) (by simp; omega)
  rw [List.getElem?_take] at hx
  split at hx
  · exact hc i x hx
  · cases hx
set_option maxHeartbeats 2000000 in
theorem joins_walk (v : Value) (ss : List ByteArray) (W : World) (hC : Came W v ss) (hT : NTabs W) :
    Calls Tryd.prog 3 #[v] W fun e W' => e = .returned (.bool true) ∧ Below W.heap.size W W' := by
  have c0 := few_any v ss W hC
  have l9 := fewL_len ss
  have lm : Hid (∀ x ∈ fewL ss, x.length ≤ 1000) := fun x hx => by have := fewL_mem ss x hx; omega
  generalize fewL ss = L at *
  obtain ⟨o1, o2, hO⟩ : ∃ o1 o2, joinO L = (o1, o2) := ⟨_, _, rfl⟩
  have cJ : Hid (∀ v w, Row w v L → Calls Tryd.prog 6 #[v] w fun e w' => e = .returned (.tuple #[.string ⟨o1.toArray⟩, .int .i64 o2]) ∧ Below w.heap.size w w') := fun v w hr => by
    have := join_any v L w hr lm.out (by omega)
    rw [hO] at this
    exact this
  have cR : Hid (∀ v w, NTabs w → Row w v L → Calls Tryd.prog 7 #[v] w fun e w' => e = .returned (.tuple #[.string ⟨o1.toArray⟩, .int .i64 o2]) ∧ Below w.heap.size w w') := fun v w hT hr => by
    have := rjoin_any v L w hr lm.out (by omega) hT
    rw [hO] at this
    exact this
  have cV := fun w => live2_any w
  have cS := fun u v w ha hb => same_any u v L L w ha hb (by omega) (by omega)
  rw [decide_eq_true rfl] at cS
  have HS : Hid (∀ u v w, Row w u L → Row w v L → Calls Tryd.prog 10 #[u, v] w fun e w' => e = .returned (.bool true) ∧ Below w.heap.size w w') := cS
  clear cS
  by_cases h0 : o2 = 0
  · subst h0
    obtain ⟨hb1, hb2⟩ := joinO_back hO
    have cP := fun w => split_some ⟨o1.toArray⟩ w (by show o1.length ≤ 1000; omega) hb1
    clear hO hb1 hb2
    go_enter Tryd.func3, Tryd.ntmps3
    go_wp2_with fail
    refine c0.mono ?_
    rintro e W1 ⟨v1, rfl, hown1, hB1⟩
    have hR1 := Row.of_own hown1
    clear hown1
    go_wp2_with fail
    refine (cJ.out _ W1 hR1).mono ?_
    rintro e W2 ⟨rfl, hB2⟩
    have hR2 := hR1.below hB2 (Nat.le_refl _)
    have hB2' := hB1.trans (hB2.mono hB1.size)
    go_wp2_with fail
    refine (cR.out _ W2 (hT.later hB2') hR2).mono ?_
    rintro e W3 ⟨rfl, hB3⟩
    have hR3 := hR2.below hB3 (Nat.le_refl _)
    have hB3' := hB2'.trans (hB3.mono hB2'.size)
    go_wp2_with fail
    refine (cP W3).mono ?_
    rintro e W4 ⟨a, cap, rfl, hown4, hB4⟩
    have hR4 := hR3.below hB4 (Nat.le_refl _)
    have hR5 := Row.of_own hown4
    have hB4' := hB3'.trans (hB4.mono hB3'.size)
    clear hown4
    go_wp2_with fail
    refine (cV W4).mono ?_
    rintro e W5 ⟨rfl, hB5⟩
    have hR6 := hR4.below hB5 (Nat.le_refl _)
    have hR7 := hR5.below hB5 (Nat.le_refl _)
    have hB5' := hB4'.trans (hB5.mono hB4'.size)
    go_wp2_with fail
    refine (HS.out _ _ W5 hR7 hR6).mono ?_
    rintro e W6 ⟨rfl, hB6⟩
    go_wp2
    go_ret
    exact ⟨rfl, hB5'.trans (hB6.mono hB5'.size)⟩
  · have h0' : (o2 != 0) = true := bne_iff_ne.2 h0
    clear hO
    go_enter Tryd.func3, Tryd.ntmps3
    go_wp2_with fail
    refine c0.mono ?_
    rintro e W1 ⟨v1, rfl, hown1, hB1⟩
    have hR1 := Row.of_own hown1
    clear hown1
    go_wp2_with fail
    refine (cJ.out _ W1 hR1).mono ?_
    rintro e W2 ⟨rfl, hB2⟩
    have hR2 := hR1.below hB2 (Nat.le_refl _)
    have hB2' := hB1.trans (hB2.mono hB1.size)
    go_wp2_with fail
    refine (cR.out _ W2 (hT.later hB2') hR2).mono ?_
    rintro e W3 ⟨rfl, hB3⟩
    have hB3' := hB2'.trans (hB3.mono hB2'.size)
    go_wp2_with fail
    refine (cV W3).mono ?_
    rintro e W5 ⟨rfl, hB5⟩
    go_wp2
    go_ret
    exact ⟨rfl, hB3'.trans (hB5.mono hB3'.size)⟩
end Go.Proofs.YtjocjjclgebfnaaDoor
