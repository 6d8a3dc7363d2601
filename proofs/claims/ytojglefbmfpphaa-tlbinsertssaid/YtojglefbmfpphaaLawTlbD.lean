/- TlbInserts: the walk. -/
import Derived.Test.YtojglefbmfpphaaTlbT
namespace Go.Proofs.Ytojglefbmfpphaa
open Go.RowKit Go.Maps
set_option linter.unusedVariables false
set_option maxRecDepth 100000
/-- START -/
theorem pl_ins (l : List Dd) (h : ∀ d ∈ l, DdOk d) : Good (playL (l.take 60) []) := good_play _ _ (fun d hd => h d (List.mem_of_mem_take hd)) Good.nil
theorem insL_last (m : Mp) (L : List Mp) : ∃ N, insL m L = N ++ [m] := by
  unfold insL
  split
  · exact ⟨_, rfl⟩
  · exact ⟨_, rfl⟩
theorem fd_ins {m : Mp} {L : List Mp} (hG : Good (insL m L)) : fdM m.1 m.2.1 (insL m L) = m ∧ fdB m.1 m.2.1 (insL m L) = true := by
  obtain ⟨N, hN⟩ := insL_last m L
  rw [hN] at hG ⊢
  have hl : N.length < (N ++ [m]).length := by simp
  have hlast : (N ++ [m])[N.length] = m := by simp
  cases e : (N ++ [m]).findIdx? (ofB m.1 m.2.1) with
  | none =>
    have := idx_none e N.length hl
    rw [hlast] at this
    simp [ofB] at this
  | some j =>
    obtain ⟨hj, h1, _⟩ := idx_some e
    rw [ofB_iff] at h1
    have := hG.kd.uniq j N.length hj hl (by rw [hlast]; exact h1.1) (by rw [hlast]; exact h1.2)
    subst this
    refine ⟨?_, ?_⟩
    · unfold fdM
      rw [e]
      simp [hlast]
    · unfold fdB
      rw [e]
      rfl
theorem ins_len (m : Mp) (L : List Mp) : (insL m L).length = if (insK m L).isSome = true then L.length else L.length + 1 := by
  unfold insL
  cases e : insK m L with
  | none => simp
  | some k =>
    have hk := insK_lt e
    simp [List.length_eraseIdx, hk]
    omega
theorem fd_gone {m : Mp} {L : List Mp} (hG : Good L) (hs : (insK m L).isSome = true) (hne : ¬ ((insO m L).1 = m.1 ∧ (insO m L).2.1 = m.2.1)) : fdB (insO m L).1 (insO m L).2.1 (insL m L) = false ∧ fdM (insO m L).1 (insO m L).2.1 (insL m L) = zM ∧ L.length = 8 := by
  obtain ⟨k, hk⟩ := Option.isSome_iff_exists.1 hs
  have hkl := insK_lt hk
  have ho : insO m L = L[k] := by unfold insO; rw [hk]; simp [List.getElem?_eq_getElem hkl]
  have hi : insL m L = L.eraseIdx k ++ [m] := by unfold insL; rw [hk]
  rw [ho] at hne ⊢
  rw [hi]
  have h8 : L.length = 8 := by
    unfold insK at hk
    split at hk
    · rename_i k' e
      injection hk with hk
      subst hk
      obtain ⟨_, h1, _⟩ := idx_some e
      rw [ofB_iff] at h1
      exact absurd h1 hne
    · split at hk
      · assumption
      · cases hk
  have he : L.filter (fun x => !ofB L[k].1 L[k].2.1 x) = L.eraseIdx k := filter_erase _ L k hkl (by simp [ofB]) (fun j hj h => by
    rw [ofB_iff] at h
    exact hG.kd.uniq j k hj hkl h.1 h.2)
  have hn : (L.eraseIdx k ++ [m]).findIdx? (ofB L[k].1 L[k].2.1) = none := by
    rw [List.findIdx?_eq_none_iff]
    intro x hx
    rcases List.mem_append.1 hx with hx | hx
    · rw [← he] at hx
      simpa using (List.mem_filter.1 hx).2
    · have : x = m := by simpa using hx
      subst this
      rw [← Bool.not_eq_true, ofB_iff]
      exact fun h => hne ⟨h.1.symm, h.2.symm⟩
  exact ⟨by unfold fdB; rw [hn]; rfl, by unfold fdM; rw [hn], h8⟩
set_option maxHeartbeats 8000000 in
theorem tins_bad (v : Value) (l : List Dd) (m0 m1 m2 : Int) (m3 : Bool) (w : World) (hd : Dds w v l) (hok : ∀ d ∈ l, DdOk d) (hm : MpOk (m0, m1, m2, m3)) (hr : rngB (m0, m1, m2, m3) = false) : Calls Try.prog 7 #[v, .agg #[.int .u8 m0, .int .u8 m1, .int .u8 m2, .bool m3]] w fun e w' => e = .returned (.bool true) ∧ Below w.heap.size w w' := by
  have hG := pl_ins l hok
  have hL := hG.few
  have hw0 : Below w.heap.size w (w.alloc (.cells #[.int .u8 m0, .int .u8 m1, .int .u8 m2, .bool m3] 33)) := (Below.refl _ w).alloc (Nat.le_refl _) _
  have hbx := heap_alloc_new w (.cells #[.int .u8 m0, .int .u8 m1, .int .u8 m2, .bool m3] 33)
  have cP := play_any v l _ (hd.below hw0) hok
  generalize playL (l.take 60) [] = L at *
  clear hd hok
  go_enter Try.func7, Try.ntmps7
  go_wp2_with fail
  refine cP.mono ?_
  rintro e W1 ⟨tb, rb, x, y, rfl, hT, hB1⟩
  have cL := live_any W1
  have hb1 := hw0.trans (hB1.mono hw0.size)
  replace hbx := (hB1.block w.heap.size (by simp)).trans hbx
  go_wp2_with fail
  refine cL.mono ?_
  rintro e W2 ⟨rfl, hB2⟩
  have hs1 := (Array.getElem?_eq_some_iff.1 hbx).1
  replace hbx := (hB2.block w.heap.size hs1).trans hbx
  have hs2 := (Array.getElem?_eq_some_iff.1 hbx).1
  have hT2 := hT.below hB2
  have hge := hT2.t.ge
  have hgr : ∀ g, x.ownBlock = some g → w.heap.size + 1 ≤ g := fun g e => by have := (hT2.t.row.lt g e).1; simp at this; omega
  have htb : w.heap.size + 1 ≤ tb := by simp at hge; omega
  have hb2 := hb1.trans (hB2.mono hb1.size)
  have hBs : (w.alloc (.cells #[.int .u8 m0, .int .u8 m1, .int .u8 m2, .bool m3] 33)).heap.size ≤ W2.heap.size := by rw [World.size_alloc]; omega
  have c1 := list_any _ tb x L W2 hT2.t (by omega)
  go_wp2_with fail
  refine c1.mono ?_
  rintro e W3 ⟨v1, rfl, hr1, hB3⟩
  have hb3 := hb2.trans (hB3.mono hb2.size)
  replace hbx := (hB3.block w.heap.size hs2).trans hbx
  have hO3 := hT2.t.below hB3
  have hs3 := hB3.size
  have htl := hT2.t.lt
  have htr : ∀ g, x.ownBlock = some g → g < W2.heap.size := fun g e => (hT2.t.row.lt g e).2
  have cI := insert_bad tb (m0, m1, m2, m3) W3 hm hr
  obtain ⟨⟨x0, x1, x2, x3⟩, _⟩ := b4 hbx
  clear c1 cP cL hT
  unfold mpV zM at cI
  simp only at cI
  go_wp2_with fail
  refine cI.mono ?_
  rintro e W4 ⟨rfl, hB4⟩
  have hB4a : Below W3.heap.size W3 (W4.alloc (.cells #[.int .u8 0, .int .u8 0, .int .u8 0, .bool false] 33)) := hB4.alloc hB4.size _
  have c2 := list_any _ tb x L (W4.alloc (.cells #[.int .u8 0, .int .u8 0, .int .u8 0, .bool false] 33)) (hO3.below hB4a) (by omega)
  have HR : Hid (Mps (W4.alloc (.cells #[.int .u8 0, .int .u8 0, .int .u8 0, .bool false] 33)) v1 L) := (Mps.of_own hr1).below hB4a
  have hb4 := hb3.trans (hB4a.mono hb3.size)
  clear cI hr1 hO3 hT2
  go_wp2_with fail
  refine c2.mono ?_
  rintro e W5 ⟨v5, rfl, hr5, hB5⟩
  have c3 := same_any v5 v1 L L W5 (Mps.of_own hr5) (HR.out.below hB5) (by omega) (by omega) rfl
  have hb5 := hb4.trans (hB5.mono hb4.size)
  clear c2 hr5
  go_wp2_with fail
  refine c3.mono ?_
  rintro e W6 ⟨rfl, hB6⟩
  clear c3
  go_wp2
  go_ret
  exact ⟨rfl, hb5.trans (hB6.mono hb5.size)⟩
set_option maxHeartbeats 8000000 in
theorem tins_no (v : Value) (l : List Dd) (m0 m1 m2 : Int) (m3 : Bool) (w : World) (hd : Dds w v l) (hok : ∀ d ∈ l, DdOk d) (hm : MpOk (m0, m1, m2, m3)) (hr : rngB (m0, m1, m2, m3) = true) (hcase : ∀ L, Good L → L = playL (l.take 60) [] → (insK (m0, m1, m2, m3) L).isSome = false) : Calls Try.prog 7 #[v, .agg #[.int .u8 m0, .int .u8 m1, .int .u8 m2, .bool m3]] w fun e w' => e = .returned (.bool true) ∧ Below w.heap.size w w' := by
  have hG := pl_ins l hok
  have hL := hG.few
  have hw0 : Below w.heap.size w (w.alloc (.cells #[.int .u8 m0, .int .u8 m1, .int .u8 m2, .bool m3] 33)) := (Below.refl _ w).alloc (Nat.le_refl _) _
  have hbx := heap_alloc_new w (.cells #[.int .u8 m0, .int .u8 m1, .int .u8 m2, .bool m3] 33)
  have cP := play_any v l _ (hd.below hw0) hok
  have hcs := hcase _ hG rfl
  clear hcase
  generalize playL (l.take 60) [] = L at *
  clear hd hok
  go_enter Try.func7, Try.ntmps7
  go_wp2_with fail
  refine cP.mono ?_
  rintro e W1 ⟨tb, rb, x, y, rfl, hT, hB1⟩
  have cL := live_any W1
  have hb1 := hw0.trans (hB1.mono hw0.size)
  replace hbx := (hB1.block w.heap.size (by simp)).trans hbx
  go_wp2_with fail
  refine cL.mono ?_
  rintro e W2 ⟨rfl, hB2⟩
  have hs1 := (Array.getElem?_eq_some_iff.1 hbx).1
  replace hbx := (hB2.block w.heap.size hs1).trans hbx
  have hs2 := (Array.getElem?_eq_some_iff.1 hbx).1
  have hT2 := hT.below hB2
  have hge := hT2.t.ge
  have hgr : ∀ g, x.ownBlock = some g → w.heap.size + 1 ≤ g := fun g e => by have := (hT2.t.row.lt g e).1; simp at this; omega
  have htb : w.heap.size + 1 ≤ tb := by simp at hge; omega
  have hb2 := hb1.trans (hB2.mono hb1.size)
  have hBs : (w.alloc (.cells #[.int .u8 m0, .int .u8 m1, .int .u8 m2, .bool m3] 33)).heap.size ≤ W2.heap.size := by rw [World.size_alloc]; omega
  have c1 := list_any _ tb x L W2 hT2.t (by omega)
  go_wp2_with fail
  refine c1.mono ?_
  rintro e W3 ⟨v1, rfl, hr1, hB3⟩
  have hb3 := hb2.trans (hB3.mono hb2.size)
  replace hbx := (hB3.block w.heap.size hs2).trans hbx
  have hO3 := hT2.t.below hB3
  have hs3 := hB3.size
  have htl := hT2.t.lt
  have htr : ∀ g, x.ownBlock = some g → g < W2.heap.size := fun g e => (hT2.t.row.lt g e).2
  have cI := insert_any _ tb x L (m0, m1, m2, m3) W3 hO3 hG hm hr (by omega)
  obtain ⟨⟨x0, x1, x2, x3⟩, _⟩ := b4 hbx
  clear c1 cP cL hT
  have hG2 := hG.ins (m0, m1, m2, m3) hm hr
  have hlen := ins_len (m0, m1, m2, m3) L
  obtain ⟨hf1, hf2⟩ := fd_ins hG2
  have hmo2 := hG2.few
  rw [if_neg (by rw [hcs]; decide)] at hlen
  rw [hcs] at cI
  simp only at hf1 hf2
  generalize insO (m0, m1, m2, m3) L = q at *
  generalize insL (m0, m1, m2, m3) L = L2 at *
  obtain ⟨q0, q1, q2, q3⟩ := q
  unfold mpV at cI
  simp only at cI 
  go_wp2_with fail
  refine cI.mono ?_
  rintro e W4 ⟨rfl, x', hS⟩
  have hA := hS.ap
  have hx4 := (hA.block w.heap.size (Array.getElem?_eq_some_iff.1 hbx).1 (fun e => by
    rcases e with e | e
    · omega
    · have := hgr _ e.symm
      omega)).trans hbx
  have hb4 : Below w.heap.size w W4 := hb3.trans (hA.below w.heap.size (fun k e => by
    rcases e with e | e
    · omega
    · have := hgr _ e.symm
      omega) hb3.size)
  obtain ⟨a1, cap1, ev1, _⟩ := Mps.of_own hr1
  subst ev1
  have hB4a : Below W4.heap.size W4 (W4.alloc (.cells #[.int .u8 q0, .int .u8 q1, .int .u8 q2, .bool q3] 33)) := (Below.refl _ _).alloc (Nat.le_refl _) _
  have hb4a := hb4.trans (hB4a.mono hb4.size)
  have HO4 : Hid (Ob (w.alloc (.cells #[.int .u8 m0, .int .u8 m1, .int .u8 m2, .bool m3] 33)).heap.size 55 (W4.alloc (.cells #[.int .u8 q0, .int .u8 q1, .int .u8 q2, .bool q3] 33)) tb x' L2) := hS.ob.below hB4a
  have hx4a := (hB4a.block w.heap.size (Array.getElem?_eq_some_iff.1 hx4).1).trans hx4
  have HG4 : Hid ((W4.alloc (.cells #[.int .u8 q0, .int .u8 q1, .int .u8 q2, .bool q3] 33)).heap[W4.heap.size]? = some (.cells #[.int .u8 q0, .int .u8 q1, .int .u8 q2, .bool q3] 33)) := heap_alloc_new W4 _
  have HX4 : Hid ((W4.alloc (.cells #[.int .u8 q0, .int .u8 q1, .int .u8 q2, .bool q3] 33)).heap[w.heap.size]? = some (.cells #[.int .u8 m0, .int .u8 m1, .int .u8 m2, .bool m3] 33)) := hx4a
  have c2 := find_any _ tb x' L2 m0 m1 (W4.alloc (.cells #[.int .u8 q0, .int .u8 q1, .int .u8 q2, .bool q3] 33)) HO4.out (by omega)
  rw [hf1, hf2] at c2
  unfold mpV at c2
  simp only at c2
  clear x0 x1 x2 x3
  obtain ⟨⟨x0, x1, x2, x3⟩, _⟩ := b4 hx4a
  clear hr1 cI hS hA hx4 hb4 hb3 hb2 hb1 hB1 hB2 hB3 hB4a hO3 hT2 hbx hx4a hge hgr htb hs1 hs2 hs3 htl htr hw0 hBs
  go_wp2_with fail
  refine c2.mono ?_
  rintro e W5 ⟨rfl, hB5⟩
  have hB5a : Below (W4.alloc (.cells #[.int .u8 q0, .int .u8 q1, .int .u8 q2, .bool q3] 33)).heap.size (W4.alloc (.cells #[.int .u8 q0, .int .u8 q1, .int .u8 q2, .bool q3] 33)) (W5.alloc (.cells #[.int .u8 m0, .int .u8 m1, .int .u8 m2, .bool m3] 33)) := hB5.alloc hB5.size _
  have hb5 := hb4a.trans (hB5a.mono hb4a.size)
  have HO5 : Hid (Ob (w.alloc (.cells #[.int .u8 m0, .int .u8 m1, .int .u8 m2, .bool m3] 33)).heap.size 55 (W5.alloc (.cells #[.int .u8 m0, .int .u8 m1, .int .u8 m2, .bool m3] 33)) tb x' L2) := HO4.out.below hB5a
  have hx5 := (hB5a.block w.heap.size (Array.getElem?_eq_some_iff.1 HX4.out).1).trans HX4.out
  have hg5 := (hB5a.block W4.heap.size (by simp)).trans HG4.out
  have hy5 := heap_alloc_new W5 (.cells #[.int .u8 m0, .int .u8 m1, .int .u8 m2, .bool m3] 33)
  have HX5 : Hid ((W5.alloc (.cells #[.int .u8 m0, .int .u8 m1, .int .u8 m2, .bool m3] 33)).heap[w.heap.size]? = some (.cells #[.int .u8 m0, .int .u8 m1, .int .u8 m2, .bool m3] 33)) := hx5
  have HY5 : Hid ((W5.alloc (.cells #[.int .u8 m0, .int .u8 m1, .int .u8 m2, .bool m3] 33)).heap[W5.heap.size]? = some (.cells #[.int .u8 m0, .int .u8 m1, .int .u8 m2, .bool m3] 33)) := hy5
  have eG := eqGuardM
  have eM := fun w => eqM w m0 m1 m2 m0 m1 m2 m3 m3
  simp only [decide_true] at eM
  clear x0 x1 x2 x3 c2
  obtain ⟨⟨x0, x1, x2, x3⟩, _⟩ := b4 hx5
  obtain ⟨⟨g0, g1, g2, g3⟩, _⟩ := b4 hg5
  obtain ⟨⟨y0, y1, y2, y3⟩, _⟩ := b4 hy5
  have n1 : w.heap.size ≠ W5.heap.size := by have := (Array.getElem?_eq_some_iff.1 HX4.out).1; have := hB5.size; omega
  have hq : ((L2.length : Int) == (L.length : Int) + 1) = true := by rw [beq_iff_eq]; omega
  have c4 := list_any _ tb x' L2 (W5.alloc (.cells #[.int .u8 m0, .int .u8 m1, .int .u8 m2, .bool m3] 33)) HO5.out (by omega)
  clear hx5 hg5 hy5 hf1 hf2 hlen
  go_wp2_with fail
  refine c4.mono ?_
  rintro e W7 ⟨v7, rfl, hr7, hB7⟩
  obtain ⟨a7, cap7, ev7, _⟩ := Mps.of_own hr7
  subst ev7
  have hb7 := hb5.trans (hB7.mono hb5.size)
  clear hr7 c4
  go_wp2
  go_ret
  exact ⟨rfl, hb7⟩
set_option maxHeartbeats 8000000 in
theorem tins_same (v : Value) (l : List Dd) (m0 m1 m2 : Int) (m3 : Bool) (w : World) (hd : Dds w v l) (hok : ∀ d ∈ l, DdOk d) (hm : MpOk (m0, m1, m2, m3)) (hr : rngB (m0, m1, m2, m3) = true) (hcase : ∀ L, Good L → L = playL (l.take 60) [] → (insK (m0, m1, m2, m3) L).isSome = true ∧ (insO (m0, m1, m2, m3) L).1 = m0 ∧ (insO (m0, m1, m2, m3) L).2.1 = m1) : Calls Try.prog 7 #[v, .agg #[.int .u8 m0, .int .u8 m1, .int .u8 m2, .bool m3]] w fun e w' => e = .returned (.bool true) ∧ Below w.heap.size w w' := by
  have hG := pl_ins l hok
  have hL := hG.few
  have hw0 : Below w.heap.size w (w.alloc (.cells #[.int .u8 m0, .int .u8 m1, .int .u8 m2, .bool m3] 33)) := (Below.refl _ w).alloc (Nat.le_refl _) _
  have hbx := heap_alloc_new w (.cells #[.int .u8 m0, .int .u8 m1, .int .u8 m2, .bool m3] 33)
  have cP := play_any v l _ (hd.below hw0) hok
  have hcs := hcase _ hG rfl
  clear hcase
  generalize playL (l.take 60) [] = L at *
  clear hd hok
  go_enter Try.func7, Try.ntmps7
  go_wp2_with fail
  refine cP.mono ?_
  rintro e W1 ⟨tb, rb, x, y, rfl, hT, hB1⟩
  have cL := live_any W1
  have hb1 := hw0.trans (hB1.mono hw0.size)
  replace hbx := (hB1.block w.heap.size (by simp)).trans hbx
  go_wp2_with fail
  refine cL.mono ?_
  rintro e W2 ⟨rfl, hB2⟩
  have hs1 := (Array.getElem?_eq_some_iff.1 hbx).1
  replace hbx := (hB2.block w.heap.size hs1).trans hbx
  have hs2 := (Array.getElem?_eq_some_iff.1 hbx).1
  have hT2 := hT.below hB2
  have hge := hT2.t.ge
  have hgr : ∀ g, x.ownBlock = some g → w.heap.size + 1 ≤ g := fun g e => by have := (hT2.t.row.lt g e).1; simp at this; omega
  have htb : w.heap.size + 1 ≤ tb := by simp at hge; omega
  have hb2 := hb1.trans (hB2.mono hb1.size)
  have hBs : (w.alloc (.cells #[.int .u8 m0, .int .u8 m1, .int .u8 m2, .bool m3] 33)).heap.size ≤ W2.heap.size := by rw [World.size_alloc]; omega
  have c1 := list_any _ tb x L W2 hT2.t (by omega)
  go_wp2_with fail
  refine c1.mono ?_
  rintro e W3 ⟨v1, rfl, hr1, hB3⟩
  have hb3 := hb2.trans (hB3.mono hb2.size)
  replace hbx := (hB3.block w.heap.size hs2).trans hbx
  have hO3 := hT2.t.below hB3
  have hs3 := hB3.size
  have htl := hT2.t.lt
  have htr : ∀ g, x.ownBlock = some g → g < W2.heap.size := fun g e => (hT2.t.row.lt g e).2
  have cI := insert_any _ tb x L (m0, m1, m2, m3) W3 hO3 hG hm hr (by omega)
  obtain ⟨⟨x0, x1, x2, x3⟩, _⟩ := b4 hbx
  clear c1 cP cL hT
  have hG2 := hG.ins (m0, m1, m2, m3) hm hr
  have hlen := ins_len (m0, m1, m2, m3) L
  obtain ⟨hf1, hf2⟩ := fd_ins hG2
  have hmo2 := hG2.few
  obtain ⟨hcs, he0, he1⟩ := hcs
  rw [if_pos hcs] at hlen
  rw [hcs] at cI
  simp only at hf1 hf2
  generalize insO (m0, m1, m2, m3) L = q at *
  generalize insL (m0, m1, m2, m3) L = L2 at *
  obtain ⟨q0, q1, q2, q3⟩ := q
  unfold mpV at cI
  simp only at cI he0 he1
  have p0 : (q0 != m0) = false := by simpa using he0
  have p1 : (q1 != m1) = false := by simpa using he1
  clear he0 he1
  go_wp2_with fail
  refine cI.mono ?_
  rintro e W4 ⟨rfl, x', hS⟩
  have hA := hS.ap
  have hx4 := (hA.block w.heap.size (Array.getElem?_eq_some_iff.1 hbx).1 (fun e => by
    rcases e with e | e
    · omega
    · have := hgr _ e.symm
      omega)).trans hbx
  have hb4 : Below w.heap.size w W4 := hb3.trans (hA.below w.heap.size (fun k e => by
    rcases e with e | e
    · omega
    · have := hgr _ e.symm
      omega) hb3.size)
  obtain ⟨a1, cap1, ev1, _⟩ := Mps.of_own hr1
  subst ev1
  have hB4a : Below W4.heap.size W4 (W4.alloc (.cells #[.int .u8 q0, .int .u8 q1, .int .u8 q2, .bool q3] 33)) := (Below.refl _ _).alloc (Nat.le_refl _) _
  have hb4a := hb4.trans (hB4a.mono hb4.size)
  have HO4 : Hid (Ob (w.alloc (.cells #[.int .u8 m0, .int .u8 m1, .int .u8 m2, .bool m3] 33)).heap.size 55 (W4.alloc (.cells #[.int .u8 q0, .int .u8 q1, .int .u8 q2, .bool q3] 33)) tb x' L2) := hS.ob.below hB4a
  have hx4a := (hB4a.block w.heap.size (Array.getElem?_eq_some_iff.1 hx4).1).trans hx4
  have HG4 : Hid ((W4.alloc (.cells #[.int .u8 q0, .int .u8 q1, .int .u8 q2, .bool q3] 33)).heap[W4.heap.size]? = some (.cells #[.int .u8 q0, .int .u8 q1, .int .u8 q2, .bool q3] 33)) := heap_alloc_new W4 _
  have HX4 : Hid ((W4.alloc (.cells #[.int .u8 q0, .int .u8 q1, .int .u8 q2, .bool q3] 33)).heap[w.heap.size]? = some (.cells #[.int .u8 m0, .int .u8 m1, .int .u8 m2, .bool m3] 33)) := hx4a
  have c2 := find_any _ tb x' L2 m0 m1 (W4.alloc (.cells #[.int .u8 q0, .int .u8 q1, .int .u8 q2, .bool q3] 33)) HO4.out (by omega)
  rw [hf1, hf2] at c2
  unfold mpV at c2
  simp only at c2
  clear x0 x1 x2 x3
  obtain ⟨⟨x0, x1, x2, x3⟩, _⟩ := b4 hx4a
  clear hr1 cI hS hA hx4 hb4 hb3 hb2 hb1 hB1 hB2 hB3 hB4a hO3 hT2 hbx hx4a hge hgr htb hs1 hs2 hs3 htl htr hw0 hBs
  go_wp2_with fail
  refine c2.mono ?_
  rintro e W5 ⟨rfl, hB5⟩
  have hB5a : Below (W4.alloc (.cells #[.int .u8 q0, .int .u8 q1, .int .u8 q2, .bool q3] 33)).heap.size (W4.alloc (.cells #[.int .u8 q0, .int .u8 q1, .int .u8 q2, .bool q3] 33)) (W5.alloc (.cells #[.int .u8 m0, .int .u8 m1, .int .u8 m2, .bool m3] 33)) := hB5.alloc hB5.size _
  have hb5 := hb4a.trans (hB5a.mono hb4a.size)
  have HO5 : Hid (Ob (w.alloc (.cells #[.int .u8 m0, .int .u8 m1, .int .u8 m2, .bool m3] 33)).heap.size 55 (W5.alloc (.cells #[.int .u8 m0, .int .u8 m1, .int .u8 m2, .bool m3] 33)) tb x' L2) := HO4.out.below hB5a
  have hx5 := (hB5a.block w.heap.size (Array.getElem?_eq_some_iff.1 HX4.out).1).trans HX4.out
  have hg5 := (hB5a.block W4.heap.size (by simp)).trans HG4.out
  have hy5 := heap_alloc_new W5 (.cells #[.int .u8 m0, .int .u8 m1, .int .u8 m2, .bool m3] 33)
  have HX5 : Hid ((W5.alloc (.cells #[.int .u8 m0, .int .u8 m1, .int .u8 m2, .bool m3] 33)).heap[w.heap.size]? = some (.cells #[.int .u8 m0, .int .u8 m1, .int .u8 m2, .bool m3] 33)) := hx5
  have HY5 : Hid ((W5.alloc (.cells #[.int .u8 m0, .int .u8 m1, .int .u8 m2, .bool m3] 33)).heap[W5.heap.size]? = some (.cells #[.int .u8 m0, .int .u8 m1, .int .u8 m2, .bool m3] 33)) := hy5
  have eG := eqGuardM
  have eM := fun w => eqM w m0 m1 m2 m0 m1 m2 m3 m3
  simp only [decide_true] at eM
  clear x0 x1 x2 x3 c2
  obtain ⟨⟨x0, x1, x2, x3⟩, _⟩ := b4 hx5
  obtain ⟨⟨g0, g1, g2, g3⟩, _⟩ := b4 hg5
  obtain ⟨⟨y0, y1, y2, y3⟩, _⟩ := b4 hy5
  have n1 : w.heap.size ≠ W5.heap.size := by have := (Array.getElem?_eq_some_iff.1 HX4.out).1; have := hB5.size; omega
  have hq : ((L2.length : Int) == (L.length : Int) + 1 - 1) = true := by rw [beq_iff_eq]; omega
  have hq2 : ((L2.length : Int) == (L.length : Int)) = true := by rw [beq_iff_eq]; omega
  have c4 := list_any _ tb x' L2 (W5.alloc (.cells #[.int .u8 m0, .int .u8 m1, .int .u8 m2, .bool m3] 33)) HO5.out (by omega)
  clear hx5 hg5 hy5 hf1 hf2 hlen
  go_wp2_with fail
  refine c4.mono ?_
  rintro e W7 ⟨v7, rfl, hr7, hB7⟩
  obtain ⟨a7, cap7, ev7, _⟩ := Mps.of_own hr7
  subst ev7
  have hb7 := hb5.trans (hB7.mono hb5.size)
  clear hr7 c4
  go_wp2
  go_ret
  exact ⟨rfl, hb7⟩
set_option maxHeartbeats 8000000 in
theorem tins_diff (v : Value) (l : List Dd) (m0 m1 m2 : Int) (m3 : Bool) (w : World) (hd : Dds w v l) (hok : ∀ d ∈ l, DdOk d) (hm : MpOk (m0, m1, m2, m3)) (hr : rngB (m0, m1, m2, m3) = true) (hcase : ∀ L, Good L → L = playL (l.take 60) [] → (insK (m0, m1, m2, m3) L).isSome = true ∧ ¬ ((insO (m0, m1, m2, m3) L).1 = m0 ∧ (insO (m0, m1, m2, m3) L).2.1 = m1)) : Calls Try.prog 7 #[v, .agg #[.int .u8 m0, .int .u8 m1, .int .u8 m2, .bool m3]] w fun e w' => e = .returned (.bool true) ∧ Below w.heap.size w w' := by
  have hG := pl_ins l hok
  have hL := hG.few
  have hw0 : Below w.heap.size w (w.alloc (.cells #[.int .u8 m0, .int .u8 m1, .int .u8 m2, .bool m3] 33)) := (Below.refl _ w).alloc (Nat.le_refl _) _
  have hbx := heap_alloc_new w (.cells #[.int .u8 m0, .int .u8 m1, .int .u8 m2, .bool m3] 33)
  have cP := play_any v l _ (hd.below hw0) hok
  have hcs := hcase _ hG rfl
  clear hcase
  generalize playL (l.take 60) [] = L at *
  clear hd hok
  go_enter Try.func7, Try.ntmps7
  go_wp2_with fail
  refine cP.mono ?_
  rintro e W1 ⟨tb, rb, x, y, rfl, hT, hB1⟩
  have cL := live_any W1
  have hb1 := hw0.trans (hB1.mono hw0.size)
  replace hbx := (hB1.block w.heap.size (by simp)).trans hbx
  go_wp2_with fail
  refine cL.mono ?_
  rintro e W2 ⟨rfl, hB2⟩
  have hs1 := (Array.getElem?_eq_some_iff.1 hbx).1
  replace hbx := (hB2.block w.heap.size hs1).trans hbx
  have hs2 := (Array.getElem?_eq_some_iff.1 hbx).1
  have hT2 := hT.below hB2
  have hge := hT2.t.ge
  have hgr : ∀ g, x.ownBlock = some g → w.heap.size + 1 ≤ g := fun g e => by have := (hT2.t.row.lt g e).1; simp at this; omega
  have htb : w.heap.size + 1 ≤ tb := by simp at hge; omega
  have hb2 := hb1.trans (hB2.mono hb1.size)
  have hBs : (w.alloc (.cells #[.int .u8 m0, .int .u8 m1, .int .u8 m2, .bool m3] 33)).heap.size ≤ W2.heap.size := by rw [World.size_alloc]; omega
  have c1 := list_any _ tb x L W2 hT2.t (by omega)
  go_wp2_with fail
  refine c1.mono ?_
  rintro e W3 ⟨v1, rfl, hr1, hB3⟩
  have hb3 := hb2.trans (hB3.mono hb2.size)
  replace hbx := (hB3.block w.heap.size hs2).trans hbx
  have hO3 := hT2.t.below hB3
  have hs3 := hB3.size
  have htl := hT2.t.lt
  have htr : ∀ g, x.ownBlock = some g → g < W2.heap.size := fun g e => (hT2.t.row.lt g e).2
  have cI := insert_any _ tb x L (m0, m1, m2, m3) W3 hO3 hG hm hr (by omega)
  obtain ⟨⟨x0, x1, x2, x3⟩, _⟩ := b4 hbx
  clear c1 cP cL hT
  have hG2 := hG.ins (m0, m1, m2, m3) hm hr
  have hlen := ins_len (m0, m1, m2, m3) L
  obtain ⟨hf1, hf2⟩ := fd_ins hG2
  have hmo2 := hG2.few
  obtain ⟨hcs, hne⟩ := hcs
  rw [if_pos hcs] at hlen
  obtain ⟨hg1, hg2, h8⟩ := fd_gone hG hcs hne
  rw [hcs] at cI
  simp only at hf1 hf2
  generalize insO (m0, m1, m2, m3) L = q at *
  generalize insL (m0, m1, m2, m3) L = L2 at *
  obtain ⟨q0, q1, q2, q3⟩ := q
  unfold mpV at cI
  simp only at cI hne hg1 hg2
  have HNE : Hid (¬ (q0 = m0 ∧ q1 = m1)) := hne
  have H8 : Hid (L.length = 8) := h8
  clear hne h8
  go_wp2_with fail
  refine cI.mono ?_
  rintro e W4 ⟨rfl, x', hS⟩
  have hA := hS.ap
  have hx4 := (hA.block w.heap.size (Array.getElem?_eq_some_iff.1 hbx).1 (fun e => by
    rcases e with e | e
    · omega
    · have := hgr _ e.symm
      omega)).trans hbx
  have hb4 : Below w.heap.size w W4 := hb3.trans (hA.below w.heap.size (fun k e => by
    rcases e with e | e
    · omega
    · have := hgr _ e.symm
      omega) hb3.size)
  obtain ⟨a1, cap1, ev1, _⟩ := Mps.of_own hr1
  subst ev1
  have hB4a : Below W4.heap.size W4 (W4.alloc (.cells #[.int .u8 q0, .int .u8 q1, .int .u8 q2, .bool q3] 33)) := (Below.refl _ _).alloc (Nat.le_refl _) _
  have hb4a := hb4.trans (hB4a.mono hb4.size)
  have HO4 : Hid (Ob (w.alloc (.cells #[.int .u8 m0, .int .u8 m1, .int .u8 m2, .bool m3] 33)).heap.size 55 (W4.alloc (.cells #[.int .u8 q0, .int .u8 q1, .int .u8 q2, .bool q3] 33)) tb x' L2) := hS.ob.below hB4a
  have hx4a := (hB4a.block w.heap.size (Array.getElem?_eq_some_iff.1 hx4).1).trans hx4
  have HG4 : Hid ((W4.alloc (.cells #[.int .u8 q0, .int .u8 q1, .int .u8 q2, .bool q3] 33)).heap[W4.heap.size]? = some (.cells #[.int .u8 q0, .int .u8 q1, .int .u8 q2, .bool q3] 33)) := heap_alloc_new W4 _
  have HX4 : Hid ((W4.alloc (.cells #[.int .u8 q0, .int .u8 q1, .int .u8 q2, .bool q3] 33)).heap[w.heap.size]? = some (.cells #[.int .u8 m0, .int .u8 m1, .int .u8 m2, .bool m3] 33)) := hx4a
  have c2 := find_any _ tb x' L2 m0 m1 (W4.alloc (.cells #[.int .u8 q0, .int .u8 q1, .int .u8 q2, .bool q3] 33)) HO4.out (by omega)
  rw [hf1, hf2] at c2
  unfold mpV at c2
  simp only at c2
  clear x0 x1 x2 x3
  obtain ⟨⟨x0, x1, x2, x3⟩, _⟩ := b4 hx4a
  clear hr1 cI hS hA hx4 hb4 hb3 hb2 hb1 hB1 hB2 hB3 hB4a hO3 hT2 hbx hx4a hge hgr htb hs1 hs2 hs3 htl htr hw0 hBs
  go_wp2_with fail
  refine c2.mono ?_
  rintro e W5 ⟨rfl, hB5⟩
  have hB5a : Below (W4.alloc (.cells #[.int .u8 q0, .int .u8 q1, .int .u8 q2, .bool q3] 33)).heap.size (W4.alloc (.cells #[.int .u8 q0, .int .u8 q1, .int .u8 q2, .bool q3] 33)) (W5.alloc (.cells #[.int .u8 m0, .int .u8 m1, .int .u8 m2, .bool m3] 33)) := hB5.alloc hB5.size _
  have hb5 := hb4a.trans (hB5a.mono hb4a.size)
  have HO5 : Hid (Ob (w.alloc (.cells #[.int .u8 m0, .int .u8 m1, .int .u8 m2, .bool m3] 33)).heap.size 55 (W5.alloc (.cells #[.int .u8 m0, .int .u8 m1, .int .u8 m2, .bool m3] 33)) tb x' L2) := HO4.out.below hB5a
  have hx5 := (hB5a.block w.heap.size (Array.getElem?_eq_some_iff.1 HX4.out).1).trans HX4.out
  have hg5 := (hB5a.block W4.heap.size (by simp)).trans HG4.out
  have hy5 := heap_alloc_new W5 (.cells #[.int .u8 m0, .int .u8 m1, .int .u8 m2, .bool m3] 33)
  have HX5 : Hid ((W5.alloc (.cells #[.int .u8 m0, .int .u8 m1, .int .u8 m2, .bool m3] 33)).heap[w.heap.size]? = some (.cells #[.int .u8 m0, .int .u8 m1, .int .u8 m2, .bool m3] 33)) := hx5
  have HY5 : Hid ((W5.alloc (.cells #[.int .u8 m0, .int .u8 m1, .int .u8 m2, .bool m3] 33)).heap[W5.heap.size]? = some (.cells #[.int .u8 m0, .int .u8 m1, .int .u8 m2, .bool m3] 33)) := hy5
  have eG := eqGuardM
  have eM := fun w => eqM w m0 m1 m2 m0 m1 m2 m3 m3
  simp only [decide_true] at eM
  clear x0 x1 x2 x3 c2
  obtain ⟨⟨x0, x1, x2, x3⟩, _⟩ := b4 hx5
  obtain ⟨⟨g0, g1, g2, g3⟩, _⟩ := b4 hg5
  obtain ⟨⟨y0, y1, y2, y3⟩, _⟩ := b4 hy5
  have n1 : w.heap.size ≠ W5.heap.size := by have := (Array.getElem?_eq_some_iff.1 HX4.out).1; have := hB5.size; omega
  have hq : ((L2.length : Int) == (L.length : Int) + 1 - 1) = true := by rw [beq_iff_eq]; omega
  have hq2 : ((L2.length : Int) == (L.length : Int)) = true := by rw [beq_iff_eq]; omega
  have h8' : ((L.length : Int) != 8) = false := by have := H8.out; simp; omega
  have c3 := find_any _ tb x' L2 q0 q1 (W5.alloc (.cells #[.int .u8 m0, .int .u8 m1, .int .u8 m2, .bool m3] 33)) HO5.out (by omega)
  rw [hg1, hg2] at c3
  unfold mpV zM at c3
  simp only at c3
  clear hx5 hg5 hy5 hf1 hf2 hlen hg1 hg2
  by_cases e0 : q0 = m0
  · have e1 : q1 ≠ m1 := fun e => HNE.out ⟨e0, e⟩
    have p0 : (q0 != m0) = false := by simpa using e0
    have p1 : (q1 != m1) = true := by simpa using e1
    clear HNE e1 e0
    go_wp2_with fail
    refine c3.mono ?_
    rintro e W6 ⟨rfl, hB6⟩
    have hB6a : Below (W5.alloc (.cells #[.int .u8 m0, .int .u8 m1, .int .u8 m2, .bool m3] 33)).heap.size (W5.alloc (.cells #[.int .u8 m0, .int .u8 m1, .int .u8 m2, .bool m3] 33)) (W6.alloc (.cells #[.int .u8 0, .int .u8 0, .int .u8 0, .bool false] 33)) := hB6.alloc hB6.size _
    have hb6 := hb5.trans (hB6a.mono hb5.size)
    have c4 := list_any _ tb x' L2 (W6.alloc (.cells #[.int .u8 0, .int .u8 0, .int .u8 0, .bool false] 33)) (HO5.out.below hB6a) (by omega)
    have hx6 := (hB6a.block w.heap.size (Array.getElem?_eq_some_iff.1 HX5.out).1).trans HX5.out
    have hy6 := (hB6a.block W5.heap.size (by simp)).trans HY5.out
    clear x0 x1 x2 x3 y0 y1 y2 y3
    obtain ⟨⟨x0, x1, x2, x3⟩, _⟩ := b4 hx6
    obtain ⟨⟨y0, y1, y2, y3⟩, _⟩ := b4 hy6
    clear hx6 hy6 c3
    go_wp2_with fail
    refine c4.mono ?_
    rintro e W7 ⟨v7, rfl, hr7, hB7⟩
    obtain ⟨a7, cap7, ev7, _⟩ := Mps.of_own hr7
    subst ev7
    have hb7 := hb6.trans (hB7.mono hb6.size)
    clear hr7 c4
    go_wp2
    go_ret
    exact ⟨rfl, hb7⟩
  · have p0 : (q0 != m0) = true := by simpa using e0
    clear HNE e0
    go_wp2_with fail
    refine c3.mono ?_
    rintro e W6 ⟨rfl, hB6⟩
    have hB6a : Below (W5.alloc (.cells #[.int .u8 m0, .int .u8 m1, .int .u8 m2, .bool m3] 33)).heap.size (W5.alloc (.cells #[.int .u8 m0, .int .u8 m1, .int .u8 m2, .bool m3] 33)) (W6.alloc (.cells #[.int .u8 0, .int .u8 0, .int .u8 0, .bool false] 33)) := hB6.alloc hB6.size _
    have hb6 := hb5.trans (hB6a.mono hb5.size)
    have c4 := list_any _ tb x' L2 (W6.alloc (.cells #[.int .u8 0, .int .u8 0, .int .u8 0, .bool false] 33)) (HO5.out.below hB6a) (by omega)
    have hx6 := (hB6a.block w.heap.size (Array.getElem?_eq_some_iff.1 HX5.out).1).trans HX5.out
    have hy6 := (hB6a.block W5.heap.size (by simp)).trans HY5.out
    clear x0 x1 x2 x3 y0 y1 y2 y3
    obtain ⟨⟨x0, x1, x2, x3⟩, _⟩ := b4 hx6
    obtain ⟨⟨y0, y1, y2, y3⟩, _⟩ := b4 hy6
    clear hx6 hy6 c3
    go_wp2_with fail
    refine c4.mono ?_
    rintro e W7 ⟨v7, rfl, hr7, hB7⟩
    obtain ⟨a7, cap7, ev7, _⟩ := Mps.of_own hr7
    subst ev7
    have hb7 := hb6.trans (hB7.mono hb6.size)
    clear hr7 c4
    go_wp2
    go_ret
    exact ⟨rfl, hb7⟩
theorem tins_law (v : Value) (l : List Dd) (m : Mp) (w : World) (hd : Dds w v l) (hok : ∀ d ∈ l, DdOk d) (hm : MpOk m) : Calls Try.prog 7 #[v, mpV m] w fun e w' => e = .returned (.bool true) ∧ Below w.heap.size w w' := by
  obtain ⟨m0, m1, m2, m3⟩ := m
  by_cases hr : rngB (m0, m1, m2, m3) = true
  · by_cases hk : (insK (m0, m1, m2, m3) (playL (l.take 60) [])).isSome = true
    · by_cases he : (insO (m0, m1, m2, m3) (playL (l.take 60) [])).1 = m0 ∧ (insO (m0, m1, m2, m3) (playL (l.take 60) [])).2.1 = m1
      · exact tins_same v l m0 m1 m2 m3 w hd hok hm hr (fun L _ e => by rw [e]; exact ⟨hk, he⟩)
      · exact tins_diff v l m0 m1 m2 m3 w hd hok hm hr (fun L _ e => by rw [e]; exact ⟨hk, he⟩)
    · exact tins_no v l m0 m1 m2 m3 w hd hok hm hr (fun L _ e => by rw [e]; simpa using hk)
  · exact tins_bad v l m0 m1 m2 m3 w hd hok hm (by simpa using hr)
end Go.Proofs.Ytojglefbmfpphaa
