/- TlbGone: the walk. -/
import Derived.Test.YtojglefbmfpphaaTlbT
namespace Go.Proofs.Ytojglefbmfpphaa
open Go.RowKit Go.Maps
set_option linter.unusedVariables false
set_option maxRecDepth 100000
/-- START -/
theorem pl_gon (l : List Dd) (h : ∀ d ∈ l, DdOk d) : Good (playL (l.take 60) []) := good_play _ _ (fun d hd => h d (List.mem_of_mem_take hd)) Good.nil
theorem bel_drw {B : Nat} {a w : World} (n : Nat) (h : Below B a w) : Below B a (w.drewN n) := ⟨h.os, h.tape, h.output, h.size, h.block⟩
set_option maxHeartbeats 8000000 in
theorem gone_asid (v : Value) (l : List Dd) (m0 m1 m2 : Int) (m3 : Bool) (w : World) (hd : Dds w v l) (hok : ∀ d ∈ l, DdOk d) : Calls Try.prog 6 #[v, .agg #[.int .u8 m0, .int .u8 m1, .int .u8 m2, .bool m3], .bool true] w fun e w' => e = .returned (.bool true) ∧ Below w.heap.size w w' := by
  have hG := pl_gon l hok
  have hL := hG.few
  have hw0 : Below w.heap.size w (w.alloc (.cells #[.int .u8 m0, .int .u8 m1, .int .u8 m2, .bool m3] 33)) := (Below.refl _ w).alloc (Nat.le_refl _) _
  have hbx := heap_alloc_new w (.cells #[.int .u8 m0, .int .u8 m1, .int .u8 m2, .bool m3] 33)
  have cP := play_any v l _ (hd.below hw0) hok
  generalize playL (l.take 60) [] = L at *
  clear hd hok hG
  go_enter Try.func6, Try.ntmps6
  go_wp2_with fail
  refine cP.mono ?_
  rintro e W1 ⟨tb, rb, x, y, rfl, hT, hB1⟩
  have cL := live_any W1
  have hb1 := hw0.trans (hB1.mono hw0.size)
  replace hbx := (hB1.block w.heap.size (by simp)).trans hbx
  go_wp2_with fail
  refine cL.mono ?_
  rintro e W2 ⟨rfl, hB2⟩
  have hs1 := (Array.getElem?_eq_some_iff.1 hbx).1
  replace hbx := (hB2.block w.heap.size hs1).trans hbx
  have hs2 := (Array.getElem?_eq_some_iff.1 hbx).1
  have hT2 := hT.below hB2
  have hge := hT2.t.ge
  have hgr : ∀ g, x.ownBlock = some g → w.heap.size + 1 ≤ g := fun g e => by have := (hT2.t.row.lt g e).1; simp at this; omega
  have htb : w.heap.size + 1 ≤ tb := by simp at hge; omega
  have hb2 := hb1.trans (hB2.mono hb1.size)
  have c1 := list_any _ tb x L W2 hT2.t (by omega)
  go_wp2_with fail
  refine c1.mono ?_
  rintro e W3 ⟨v1, rfl, hr1, hB3⟩
  have hb3 := hb2.trans (hB3.mono hb2.size)
  replace hbx := (hB3.block w.heap.size hs2).trans hbx
  have hO3 := hT2.t.below hB3
  have c2 := asid_any _ tb x L m0 W3 hO3 (by omega)
  obtain ⟨⟨x0, x1, x2, x3⟩, _⟩ := b4 hbx
  clear c1 cP cL
  go_wp2_with fail
  refine c2.mono ?_
  rintro e W4 ⟨rfl, x', hS⟩
  have hA := hS.ap
  have hx4 := (hA.block w.heap.size (Array.getElem?_eq_some_iff.1 hbx).1 (fun e => by
    rcases e with e | e
    · omega
    · have := hgr _ e.symm
      omega)).trans hbx
  have hb4 : Below w.heap.size w W4 := hb3.trans (hA.below w.heap.size (fun k e => by
    rcases e with e | e
    · omega
    · have := hgr _ e.symm
      omega) hb3.size)
  have hMw : Mps W4 v1 L := (Mps.of_own hr1).stay hA (fun g hg e => by
    have := (hr1.lt g hg).1
    rcases e with e | e
    · have := hT2.t.lt
      omega
    · have := (hT2.t.row.lt g e.symm).2
      omega)
  have HO4 : Hid (Ob _ 55 W4 tb x' (L.filter (fun x : Mp => !decide (x.1 = m0)))) := hS.ob
  obtain ⟨ad, cap, rfl, hcap, _, hcell⟩ := hMw
  have HC : Hid (∀ j m, L[j]? = some m → ∃ g off, ad = some ⟨g, off, none⟩ ∧ W4.cell? ⟨g, off + j * 4, none⟩ = some (.int .u8 m.1) ∧ W4.cell? ⟨g, off + j * 4 + 1, none⟩ = some (.int .u8 m.2.1) ∧ W4.cell? ⟨g, off + j * 4 + 2, none⟩ = some (.int .u8 m.2.2.1) ∧ W4.cell? ⟨g, off + j * 4 + 3, none⟩ = some (.bool m.2.2.2)) := hcell
  have HX : Hid (W4.heap[w.heap.size]? = some (.cells #[.int .u8 m0, .int .u8 m1, .int .u8 m2, .bool m3] 33)) := hx4
  have HB : Hid (Below w.heap.size w W4) := hb4
  clear hcell hr1 c2 hS hA hx4 hb4 hb3 hB3 hO3 hT2 hT hb2 hb1 hB1 hB2 hw0 hbx hge hgr htb hs1 hs2 x0 x1 x2 x3
  go_wp2_with fail
  go_loopw [12, 13] (fun s12 s13 wr => ∃ (i : Nat), i ≤ L.length ∧ s13 = .int .i64 i ∧ Hid (Below W4.heap.size W4 wr) ∧ Hid (wr.ownsRow W4.heap.size 33 4 s12 ((L.take i).filter (fun x : Mp => !decide (x.1 = m0))).length (mpsCs ((L.take i).filter (fun x : Mp => !decide (x.1 = m0)))))) (fun _ s13 _ => L.length - (intOf s13).toNat)
  case atStart => exact ⟨0, Nat.zero_le _, rfl, Below.refl _ _, World.ownsRow_nil _ _ _ _⟩
  case round =>
    obtain ⟨i, hil, rfl, HBr, HR⟩ := hrel
    have hsr := HBr.out.size
    by_cases hlt : i < L.length
    · have hltz : (i : Int) < (L.length : Int) := by omega
      obtain ⟨g, off, rfl, c0, c1, c2, c3⟩ := HC.out i L[i] (List.getElem?_eq_getElem hlt)
      have hg : g < W4.heap.size := World.block_lt_of_cell? W4 _ c0
      have hxs := (Array.getElem?_eq_some_iff.1 HX.out).1
      obtain ⟨⟨x0, x1, x2, x3⟩, _⟩ := b4 ((HBr.out.block w.heap.size hxs).trans HX.out)
      rw [← HBr.out.cell (p := ⟨g, off + i * 4, none⟩) hg] at c0
      rw [← HBr.out.cell (p := ⟨g, off + i * 4 + 1, none⟩) hg] at c1
      rw [← HBr.out.cell (p := ⟨g, off + i * 4 + 2, none⟩) hg] at c2
      rw [← HBr.out.cell (p := ⟨g, off + i * 4 + 3, none⟩) hg] at c3
      have HK : Hid (∀ z : Mp, L[i] = z → z.1 ≠ m0 → (L.take (i + 1)).filter (fun x : Mp => !decide (x.1 = m0)) = (L.take i).filter (fun x : Mp => !decide (x.1 = m0)) ++ [z]) := fun z hz hne => by
        rw [List.take_succ_eq_append_getElem hlt, List.filter_append, hz, List.filter_cons_of_pos (by simpa using hne), List.filter_nil]
      have HD : Hid (∀ z : Mp, L[i] = z → z.1 = m0 → (L.take (i + 1)).filter (fun x : Mp => !decide (x.1 = m0)) = (L.take i).filter (fun x : Mp => !decide (x.1 = m0))) := fun z hz he => by
        rw [List.take_succ_eq_append_getElem hlt, List.filter_append, hz, List.filter_cons_of_neg (by simpa using he), List.filter_nil, List.append_nil]
      have hfl : ((L.take i).filter (fun x : Mp => !decide (x.1 = m0))).length ≤ 8 := by
        have := List.length_filter_le (fun x : Mp => !decide (x.1 = m0)) (L.take i)
        rw [List.length_take] at this
        omega
      generalize L[i] = z at *
      obtain ⟨y0, y1, y2, y3⟩ := z
      simp only at c0 c1 c2 c3
      by_cases he : y0 = m0
      · have HE := HD.out _ rfl he
        have p0 : (y0 != m0) = false := by simpa using he
        have HR2 : Hid (wr.ownsRow W4.heap.size 33 4 u12 ((L.take (i + 1)).filter (fun x : Mp => !decide (x.1 = m0))).length (mpsCs ((L.take (i + 1)).filter (fun x : Mp => !decide (x.1 = m0))))) := by rw [HE]; exact HR.out
        clear HK HD HE he
        go_wp2_with fail
        go_quiet (fail)
        go_wp2
        go_roundw
        case rel => exact ⟨i + 1, by omega, by go_num, bel_drw _ HBr.out, HR2.out⟩
        case measure => simp [intOf]; omega
      · have HE := HK.out _ rfl he
        have p0 : (y0 != m0) = true := by simpa using he
        have HL : Hid ((L.take (i + 1)).filter (fun x : Mp => !decide (x.1 = m0)) = (L.take i).filter (fun x : Mp => !decide (x.1 = m0)) ++ [(y0, y1, y2, y3)]) := HE
        clear HK HD HE he
        generalize (L.take i).filter (fun x : Mp => !decide (x.1 = m0)) = N1 at *
        go_wp2_with fail
        go_quiet (fail)
        rename_i nq
        have hBq : Below W4.heap.size W4 (wr.drewN nq) := bel_drw nq HBr.out
        have HBq : Hid (Below W4.heap.size W4 ((wr.drewN nq).alloc (.cells #[.int .u8 y0, .int .u8 y1, .int .u8 y2, .bool y3] 33))) := hBq.alloc hBq.size _
        have HRq : Hid (((wr.drewN nq).alloc (.cells #[.int .u8 y0, .int .u8 y1, .int .u8 y2, .bool y3] 33)).ownsRow W4.heap.size 33 4 u12 N1.length (mpsCs N1)) := (show (wr.drewN nq).ownsRow W4.heap.size 33 4 u12 N1.length (mpsCs N1) from HR.out).alloc _
        have HMq : Hid (Mps ((wr.drewN nq).alloc (.cells #[.int .u8 y0, .int .u8 y1, .int .u8 y2, .bool y3] 33)) (.slice (some ⟨(wr.drewN nq).heap.size, 0, none⟩) 1 1) [(y0, y1, y2, y3)]) := mps_one (wr.drewN nq) y0 y1 y2 y3
        clear hBq
        go_wp2_with (at_builtin; refine wpList_app rfl _ _ rfl W4.heap.size u12 N1 _ [(y0, y1, y2, y3)] rfl rfl HRq.out HMq.out (by simp only [List.length_cons, List.length_nil]; omega) HBq.out.size ?_; intro va Wa owna growa ata; have HBa : Hid (Below W4.heap.size W4 Wa) := HBq.out.grown growa HBq.out.size (fun k e => (HR.out.lt k e).1); have HOa : Hid (Wa.ownsRow W4.heap.size 33 4 va (N1 ++ [(y0, y1, y2, y3)]).length (mpsCs (N1 ++ [(y0, y1, y2, y3)]))) := owna; clear owna growa ata)
        go_roundw
        case rel => exact ⟨i + 1, by omega, by go_num, HBa.out, by show World.ownsRow _ _ _ _ _ _ _; rw [HL.out]; exact HOa.out⟩
        case measure => simp [intOf]; omega
    · have hltz : ¬ (i : Int) < (L.length : Int) := by omega
      obtain rfl : i = L.length := by omega
      rw [List.take_length] at HR
      have hfl : (L.filter (fun x : Mp => !decide (x.1 = m0))).length ≤ L.length := List.length_filter_le _ _
      have c1 := list_any _ tb x' (L.filter (fun x : Mp => !decide (x.1 = m0))) wr (HO4.out.below HBr.out) (by omega)
      have HRm : Hid (Mps wr u12 (L.filter (fun x : Mp => !decide (x.1 = m0)))) := Mps.of_own HR.out
      obtain ⟨a12, cap12, e12, _⟩ := HRm.out
      subst e12
      have hb5 := HB.out.trans (HBr.out.mono HB.out.size)
      generalize L.filter (fun x : Mp => !decide (x.1 = m0)) = N1 at *
      have q0 : ((L.length : Int) - (N1.length : Int) == (L.length : Int) - (N1.length : Int)) = true := by simp
      go_wp2_with fail
      refine c1.mono ?_
      rintro e W5 ⟨v5, rfl, hr5, hB5⟩
      have c2 := same_any v5 _ N1 N1 W5 (Mps.of_own hr5) (HRm.out.below hB5) (by omega) (by omega) rfl
      have hb6 := hb5.trans (hB5.mono hb5.size)
      clear c1 hr5
      go_wp2_with fail
      refine c2.mono ?_
      rintro e W6 ⟨rfl, hB6⟩
      clear c2
      go_wp2
      go_ret
      exact ⟨rfl, hb6.trans (hB6.mono hb6.size)⟩
set_option maxHeartbeats 8000000 in
theorem gone_frame (v : Value) (l : List Dd) (m0 m1 m2 : Int) (m3 : Bool) (w : World) (hd : Dds w v l) (hok : ∀ d ∈ l, DdOk d) : Calls Try.prog 6 #[v, .agg #[.int .u8 m0, .int .u8 m1, .int .u8 m2, .bool m3], .bool false] w fun e w' => e = .returned (.bool true) ∧ Below w.heap.size w w' := by
  have hG := pl_gon l hok
  have hL := hG.few
  have hw0 : Below w.heap.size w (w.alloc (.cells #[.int .u8 m0, .int .u8 m1, .int .u8 m2, .bool m3] 33)) := (Below.refl _ w).alloc (Nat.le_refl _) _
  have hbx := heap_alloc_new w (.cells #[.int .u8 m0, .int .u8 m1, .int .u8 m2, .bool m3] 33)
  have cP := play_any v l _ (hd.below hw0) hok
  generalize playL (l.take 60) [] = L at *
  clear hd hok hG
  go_enter Try.func6, Try.ntmps6
  go_wp2_with fail
  refine cP.mono ?_
  rintro e W1 ⟨tb, rb, x, y, rfl, hT, hB1⟩
  have cL := live_any W1
  have hb1 := hw0.trans (hB1.mono hw0.size)
  replace hbx := (hB1.block w.heap.size (by simp)).trans hbx
  go_wp2_with fail
  refine cL.mono ?_
  rintro e W2 ⟨rfl, hB2⟩
  have hs1 := (Array.getElem?_eq_some_iff.1 hbx).1
  replace hbx := (hB2.block w.heap.size hs1).trans hbx
  have hs2 := (Array.getElem?_eq_some_iff.1 hbx).1
  have hT2 := hT.below hB2
  have hge := hT2.t.ge
  have hgr : ∀ g, x.ownBlock = some g → w.heap.size + 1 ≤ g := fun g e => by have := (hT2.t.row.lt g e).1; simp at this; omega
  have htb : w.heap.size + 1 ≤ tb := by simp at hge; omega
  have hb2 := hb1.trans (hB2.mono hb1.size)
  have c1 := list_any _ tb x L W2 hT2.t (by omega)
  go_wp2_with fail
  refine c1.mono ?_
  rintro e W3 ⟨v1, rfl, hr1, hB3⟩
  have hb3 := hb2.trans (hB3.mono hb2.size)
  replace hbx := (hB3.block w.heap.size hs2).trans hbx
  have hO3 := hT2.t.below hB3
  have c2 := frame_any _ tb x L m2 W3 hO3 (by omega)
  obtain ⟨⟨x0, x1, x2, x3⟩, _⟩ := b4 hbx
  clear c1 cP cL
  go_wp2_with fail
  refine c2.mono ?_
  rintro e W4 ⟨rfl, x', hS⟩
  have hA := hS.ap
  have hx4 := (hA.block w.heap.size (Array.getElem?_eq_some_iff.1 hbx).1 (fun e => by
    rcases e with e | e
    · omega
    · have := hgr _ e.symm
      omega)).trans hbx
  have hb4 : Below w.heap.size w W4 := hb3.trans (hA.below w.heap.size (fun k e => by
    rcases e with e | e
    · omega
    · have := hgr _ e.symm
      omega) hb3.size)
  have hMw : Mps W4 v1 L := (Mps.of_own hr1).stay hA (fun g hg e => by
    have := (hr1.lt g hg).1
    rcases e with e | e
    · have := hT2.t.lt
      omega
    · have := (hT2.t.row.lt g e.symm).2
      omega)
  have HO4 : Hid (Ob _ 55 W4 tb x' (L.filter (fun x : Mp => !decide (x.2.2.1 = m2)))) := hS.ob
  obtain ⟨ad, cap, rfl, hcap, _, hcell⟩ := hMw
  have HC : Hid (∀ j m, L[j]? = some m → ∃ g off, ad = some ⟨g, off, none⟩ ∧ W4.cell? ⟨g, off + j * 4, none⟩ = some (.int .u8 m.1) ∧ W4.cell? ⟨g, off + j * 4 + 1, none⟩ = some (.int .u8 m.2.1) ∧ W4.cell? ⟨g, off + j * 4 + 2, none⟩ = some (.int .u8 m.2.2.1) ∧ W4.cell? ⟨g, off + j * 4 + 3, none⟩ = some (.bool m.2.2.2)) := hcell
  have HX : Hid (W4.heap[w.heap.size]? = some (.cells #[.int .u8 m0, .int .u8 m1, .int .u8 m2, .bool m3] 33)) := hx4
  have HB : Hid (Below w.heap.size w W4) := hb4
  clear hcell hr1 c2 hS hA hx4 hb4 hb3 hB3 hO3 hT2 hT hb2 hb1 hB1 hB2 hw0 hbx hge hgr htb hs1 hs2 x0 x1 x2 x3
  go_wp2_with fail
  go_loopw [12, 13] (fun s12 s13 wr => ∃ (i : Nat), i ≤ L.length ∧ s13 = .int .i64 i ∧ Hid (Below W4.heap.size W4 wr) ∧ Hid (wr.ownsRow W4.heap.size 33 4 s12 ((L.take i).filter (fun x : Mp => !decide (x.2.2.1 = m2))).length (mpsCs ((L.take i).filter (fun x : Mp => !decide (x.2.2.1 = m2)))))) (fun _ s13 _ => L.length - (intOf s13).toNat)
  case atStart => exact ⟨0, Nat.zero_le _, rfl, Below.refl _ _, World.ownsRow_nil _ _ _ _⟩
  case round =>
    obtain ⟨i, hil, rfl, HBr, HR⟩ := hrel
    have hsr := HBr.out.size
    by_cases hlt : i < L.length
    · have hltz : (i : Int) < (L.length : Int) := by omega
      obtain ⟨g, off, rfl, c0, c1, c2, c3⟩ := HC.out i L[i] (List.getElem?_eq_getElem hlt)
      have hg : g < W4.heap.size := World.block_lt_of_cell? W4 _ c0
      have hxs := (Array.getElem?_eq_some_iff.1 HX.out).1
      obtain ⟨⟨x0, x1, x2, x3⟩, _⟩ := b4 ((HBr.out.block w.heap.size hxs).trans HX.out)
      rw [← HBr.out.cell (p := ⟨g, off + i * 4, none⟩) hg] at c0
      rw [← HBr.out.cell (p := ⟨g, off + i * 4 + 1, none⟩) hg] at c1
      rw [← HBr.out.cell (p := ⟨g, off + i * 4 + 2, none⟩) hg] at c2
      rw [← HBr.out.cell (p := ⟨g, off + i * 4 + 3, none⟩) hg] at c3
      have HK : Hid (∀ z : Mp, L[i] = z → z.2.2.1 ≠ m2 → (L.take (i + 1)).filter (fun x : Mp => !decide (x.2.2.1 = m2)) = (L.take i).filter (fun x : Mp => !decide (x.2.2.1 = m2)) ++ [z]) := fun z hz hne => by
        rw [List.take_succ_eq_append_getElem hlt, List.filter_append, hz, List.filter_cons_of_pos (by simpa using hne), List.filter_nil]
      have HD : Hid (∀ z : Mp, L[i] = z → z.2.2.1 = m2 → (L.take (i + 1)).filter (fun x : Mp => !decide (x.2.2.1 = m2)) = (L.take i).filter (fun x : Mp => !decide (x.2.2.1 = m2))) := fun z hz he => by
        rw [List.take_succ_eq_append_getElem hlt, List.filter_append, hz, List.filter_cons_of_neg (by simpa using he), List.filter_nil, List.append_nil]
      have hfl : ((L.take i).filter (fun x : Mp => !decide (x.2.2.1 = m2))).length ≤ 8 := by
        have := List.length_filter_le (fun x : Mp => !decide (x.2.2.1 = m2)) (L.take i)
        rw [List.length_take] at this
        omega
      generalize L[i] = z at *
      obtain ⟨y0, y1, y2, y3⟩ := z
      simp only at c0 c1 c2 c3
      by_cases he : y2 = m2
      · have HE := HD.out _ rfl he
        have p0 : (y2 != m2) = false := by simpa using he
        have HR2 : Hid (wr.ownsRow W4.heap.size 33 4 u12 ((L.take (i + 1)).filter (fun x : Mp => !decide (x.2.2.1 = m2))).length (mpsCs ((L.take (i + 1)).filter (fun x : Mp => !decide (x.2.2.1 = m2))))) := by rw [HE]; exact HR.out
        clear HK HD HE he
        go_wp2_with fail
        go_quiet (fail)
        go_wp2
        go_roundw
        case rel => exact ⟨i + 1, by omega, by go_num, bel_drw _ HBr.out, HR2.out⟩
        case measure => simp [intOf]; omega
      · have HE := HK.out _ rfl he
        have p0 : (y2 != m2) = true := by simpa using he
        have HL : Hid ((L.take (i + 1)).filter (fun x : Mp => !decide (x.2.2.1 = m2)) = (L.take i).filter (fun x : Mp => !decide (x.2.2.1 = m2)) ++ [(y0, y1, y2, y3)]) := HE
        clear HK HD HE he
        generalize (L.take i).filter (fun x : Mp => !decide (x.2.2.1 = m2)) = N1 at *
        go_wp2_with fail
        go_quiet (fail)
        rename_i nq
        have hBq : Below W4.heap.size W4 (wr.drewN nq) := bel_drw nq HBr.out
        have HBq : Hid (Below W4.heap.size W4 ((wr.drewN nq).alloc (.cells #[.int .u8 y0, .int .u8 y1, .int .u8 y2, .bool y3] 33))) := hBq.alloc hBq.size _
        have HRq : Hid (((wr.drewN nq).alloc (.cells #[.int .u8 y0, .int .u8 y1, .int .u8 y2, .bool y3] 33)).ownsRow W4.heap.size 33 4 u12 N1.length (mpsCs N1)) := (show (wr.drewN nq).ownsRow W4.heap.size 33 4 u12 N1.length (mpsCs N1) from HR.out).alloc _
        have HMq : Hid (Mps ((wr.drewN nq).alloc (.cells #[.int .u8 y0, .int .u8 y1, .int .u8 y2, .bool y3] 33)) (.slice (some ⟨(wr.drewN nq).heap.size, 0, none⟩) 1 1) [(y0, y1, y2, y3)]) := mps_one (wr.drewN nq) y0 y1 y2 y3
        clear hBq
        go_wp2_with (at_builtin; refine wpList_app rfl _ _ rfl W4.heap.size u12 N1 _ [(y0, y1, y2, y3)] rfl rfl HRq.out HMq.out (by simp only [List.length_cons, List.length_nil]; omega) HBq.out.size ?_; intro va Wa owna growa ata; have HBa : Hid (Below W4.heap.size W4 Wa) := HBq.out.grown growa HBq.out.size (fun k e => (HR.out.lt k e).1); have HOa : Hid (Wa.ownsRow W4.heap.size 33 4 va (N1 ++ [(y0, y1, y2, y3)]).length (mpsCs (N1 ++ [(y0, y1, y2, y3)]))) := owna; clear owna growa ata)
        go_roundw
        case rel => exact ⟨i + 1, by omega, by go_num, HBa.out, by show World.ownsRow _ _ _ _ _ _ _; rw [HL.out]; exact HOa.out⟩
        case measure => simp [intOf]; omega
    · have hltz : ¬ (i : Int) < (L.length : Int) := by omega
      obtain rfl : i = L.length := by omega
      rw [List.take_length] at HR
      have hfl : (L.filter (fun x : Mp => !decide (x.2.2.1 = m2))).length ≤ L.length := List.length_filter_le _ _
      have c1 := list_any _ tb x' (L.filter (fun x : Mp => !decide (x.2.2.1 = m2))) wr (HO4.out.below HBr.out) (by omega)
      have HRm : Hid (Mps wr u12 (L.filter (fun x : Mp => !decide (x.2.2.1 = m2)))) := Mps.of_own HR.out
      obtain ⟨a12, cap12, e12, _⟩ := HRm.out
      subst e12
      have hb5 := HB.out.trans (HBr.out.mono HB.out.size)
      generalize L.filter (fun x : Mp => !decide (x.2.2.1 = m2)) = N1 at *
      have q0 : ((L.length : Int) - (N1.length : Int) == (L.length : Int) - (N1.length : Int)) = true := by simp
      go_wp2_with fail
      refine c1.mono ?_
      rintro e W5 ⟨v5, rfl, hr5, hB5⟩
      have c2 := same_any v5 _ N1 N1 W5 (Mps.of_own hr5) (HRm.out.below hB5) (by omega) (by omega) rfl
      have hb6 := hb5.trans (hB5.mono hb5.size)
      clear c1 hr5
      go_wp2_with fail
      refine c2.mono ?_
      rintro e W6 ⟨rfl, hB6⟩
      clear c2
      go_wp2
      go_ret
      exact ⟨rfl, hb6.trans (hB6.mono hb6.size)⟩
theorem gone_law (v : Value) (l : List Dd) (m : Mp) (b : Bool) (w : World) (hd : Dds w v l) (hok : ∀ d ∈ l, DdOk d) : Calls Try.prog 6 #[v, mpV m, .bool b] w fun e w' => e = .returned (.bool true) ∧ Below w.heap.size w w' := by
  cases b with
  | true => exact gone_asid v l m.1 m.2.1 m.2.2.1 m.2.2.2 w hd hok
  | false => exact gone_frame v l m.1 m.2.1 m.2.2.1 m.2.2.2 w hd hok
end Go.Proofs.Ytojglefbmfpphaa
