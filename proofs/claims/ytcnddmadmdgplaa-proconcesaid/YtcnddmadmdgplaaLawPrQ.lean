/- ProcOnce: the walk. -/
import Derived.Test.YtcnddmadmdgplaaLawPrT
namespace Go.Proofs.Ytcnddmadmdgplaa
open Go.RowKit Go.Maps
set_option linter.unusedVariables false
set_option maxRecDepth 100000
theorem thL_nodup (q : Fin 6 → Bool) : ∀ n, n ≤ 6 → (thL q n).Nodup
  | 0, _ => by simp [thL]
  | n + 1, h => by
    rw [thL_snoc q n (by omega)]
    have ih := thL_nodup q n (by omega)
    split
    · rw [List.nodup_append]
      refine ⟨ih, by simp, fun a ha b hb e => ?_⟩
      rw [List.mem_singleton] at hb
      rw [e, hb, thL_mem q n (by omega)] at ha
      simp at ha
    · simpa using ih
/-- Those that ended. -/
def zL (s : Pt) (l : List (Fin 6)) : List (Fin 6) := l.filter (fun x => zomb (s x))
def hdZ (s : Pt) : List (Fin 6) → Option (Fin 6 × Int)
  | [] => none
  | x :: _ => some (x, suI (s x))
theorem fstZ_zL (s : Pt) : ∀ l, fstZ s l = hdZ s (zL s l)
  | [] => rfl
  | y :: l => by
    have ih := fstZ_zL s l
    show (match s y with
      | .zom _ n => some (y, n)
      | _ => fstZ s l) = _
    cases hy : s y with
    | no => simp only [zL, List.filter_cons, hy, zomb, Bool.false_eq_true, if_false]; exact ih
    | run p => simp only [zL, List.filter_cons, hy, zomb, Bool.false_eq_true, if_false]; exact ih
    | zom p n => simp only [zL, List.filter_cons, hy, zomb, if_true, hdZ, suI]
theorem thL_without (q q' : Fin 6 → Bool) (x : Fin 6) (h : ∀ i, q' i = (q i && (i != x))) : ∀ n, thL q' n = (thL q n).filter (fun i => i != x)
  | 0 => rfl
  | n + 1 => by
    have ih := thL_without q q' x h n
    by_cases hn : n < 6
    · rw [thL_snoc _ _ hn, thL_snoc _ _ hn, ih, List.filter_append, h]
      congr 1
      cases hq : q ⟨n, hn⟩ <;> cases hx : ((⟨n, hn⟩ : Fin 6) != x) <;> simp [hx]
    · have e : ∀ r : Fin 6 → Bool, thL r (n + 1) = thL r n := fun r => by simp [thL, hn]
      rw [e, e, ih]
theorem chs_without (s : Pt) (p x : Fin 6) : chs (upd s x .no) p = (chs s p).filter (fun i => i != x) := by
  refine thL_without _ _ x (fun i => ?_) 6
  unfold qCh
  by_cases e : i = x
  · subst e
    rw [upd_same]
    simp [paI]
  · rw [upd_other _ _ _ _ e]
    simp [e]
theorem zL_without (s : Pt) (x : Fin 6) (l : List (Fin 6)) : zL (upd s x .no) (l.filter (fun i => i != x)) = (zL s l).filter (fun i => i != x) := by
  unfold zL
  rw [List.filter_filter, List.filter_filter]
  refine List.filter_congr (fun i _ => ?_)
  by_cases e : i = x
  · subst e; simp
  · rw [upd_other _ _ _ _ e, Bool.and_comm]
theorem zL_nodup (s : Pt) (p : Fin 6) : (zL s (chs s p)).Nodup := (thL_nodup _ 6 (Nat.le_refl _)).sublist List.filter_sublist
theorem filter_head (x : Fin 6) (r : List (Fin 6)) (h : (x :: r).Nodup) : (x :: r).filter (fun i => i != x) = r := by
  rw [← h.erase_eq_filter x, List.erase_cons_head]
/-- One that is waited for. -/
structure Wt1 (s : Pt) (p x : Fin 6) (r : List (Fin 6)) : Prop where
  ans : wtX s p = ((x.1 : Int), suI (s x), 0, upd s x .no)
  z : zL (upd s x .no) (chs (upd s x .no) p) = r
  len : (chs (upd s x .no) p).length + 1 = (chs s p).length
  run : runs (upd s x .no p) = runs (s p)
theorem wt1 (s : Pt) (p x : Fin 6) (r : List (Fin 6)) (hr : runs (s p) = true) (h : zL s (chs s p) = x :: r) : Wt1 s p x r := by
  have hmz : x ∈ zL s (chs s p) := by rw [h]; exact List.mem_cons_self
  have hm := (List.mem_filter.1 hmz).1
  have hzx : zomb (s x) = true := (List.mem_filter.1 hmz).2
  refine ⟨?_, ?_, ?_, ?_⟩
  · unfold wtX
    rw [fstZ_zL, h]
    rfl
  · rw [chs_without, zL_without, h]
    have := zL_nodup s p
    rw [h] at this
    exact filter_head x r this
  · have hnd : (chs s p).Nodup := thL_nodup (qCh s p) 6 (Nat.le_refl _)
    rw [chs_without, ← hnd.erase_eq_filter x]
    have := List.length_erase_of_mem hm
    have h2 := List.length_pos_of_mem hm
    omega
  · have : p ≠ x := fun e => run_zomb (s p) hr (e ▸ hzx)
    rw [upd_other _ _ _ _ this]
theorem wt0 (s : Pt) (p : Fin 6) (h : zL s (chs s p) = []) : wtX s p = (0, 0, if chs s p = [] then 3 else 12, s) := by
  unfold wtX
  rw [fstZ_zL, h]
  rfl
theorem zL_snoc_yes (s : Pt) (l : List (Fin 6)) (x : Fin 6) (h : zomb (s x) = true) : zL s (l ++ [x]) = zL s l ++ [x] := by simp [zL, h]
theorem zL_snoc_no (s : Pt) (l : List (Fin 6)) (x : Fin 6) (h : zomb (s x) = false) : zL s (l ++ [x]) = zL s l := by simp [zL, h]
theorem zL_len (s : Pt) (l : List (Fin 6)) : (zL s l).length ≤ l.length := List.length_filter_le _ _
theorem Ints.low {w w' : World} {v : Value} {L : List Nat} {n : Nat} (h : Ints w v L) (k : Below n w w') (hn : ∀ g, v.ownBlock = some g → g < n) : Ints w' v L := by
  obtain ⟨a, cap, rfl, hcell⟩ := h
  refine ⟨a, cap, rfl, fun j m hj => ?_⟩
  obtain ⟨g, off, rfl, c0⟩ := hcell j m hj
  exact ⟨g, off, rfl, (k.cell (p := ⟨g, off + j, none⟩) (hn g rfl)).trans c0⟩
theorem Ints.lt {w : World} {v : Value} {L : List Nat} (h : Ints w v L) (hL : L ≠ []) : ∀ g, v.ownBlock = some g → g < w.heap.size := fun g hg => by
  obtain ⟨a, cap, rfl, hcell⟩ := h
  match L, hL with
  | x :: r, _ =>
    obtain ⟨g', off, rfl, c0⟩ := hcell 0 x rfl
    have : g' = g := by injection hg
    subst this
    exact World.block_lt_of_cell? w _ c0
set_option maxHeartbeats 4000000 in
theorem once_law (v : Value) (l : List Dd) (x0 : Nat) (h0 : x0 ≤ 255) (w : World) (hd : Dds w v l) : Calls Try.prog 5 #[v, .int .u8 x0] w fun r w' => r = .returned (.bool true) ∧ Below w.heap.size w w' := by
  have cP := play_any v l w hd
  obtain ⟨ad, cap, rfl, _⟩ := id hd
  clear hd
  obtain ⟨P, hP⟩ : ∃ P : Fin 6, P.1 = x0 % 6 := ⟨⟨x0 % 6, Nat.mod_lt _ (by decide)⟩, rfl⟩
  have hPz : (x0 : Int) % 6 = (P.1 : Int) := by omega
  obtain ⟨i0, hi0, hz0, hz1, hz2⟩ := iparts infoI
  go_enter Try.func5, Try.ntmps5
  go_wp2_with fail
  refine cP.mono ?_
  rintro r W1 ⟨tb, rb, rfl, hPb⟩
  have HB := Hid3.mk hPb
  have cL := live_any W1
  clear cP hPb hP
  go_wp2_with fail
  refine cL.mono ?_
  rintro r W2 ⟨rfl, hb⟩
  obtain ⟨⟨s, hT⟩, hB2⟩ := HB.out.low hb
  have c1 := children_any _ tb s P.1 W2 hT.t
  have HS := Hid3.mk (Lo2.mk hT.t hB2)
  clear cL hb hT hB2 HB
  go_wp2_with fail
  refine c1.mono ?_
  rintro r W3 ⟨v3, rfl, hown3, hb⟩
  have hcl := chA_len s P.1
  obtain ⟨hI3, _⟩ := Ints.of_own hown3
  obtain ⟨a3, cap3, rfl⟩ := slice_of hown3
  have hlt3 : ∀ g, (Value.slice a3 (chA s P.1).length cap3).ownBlock = some g → g < W3.heap.size := fun g hg => (hown3.lt g hg).2
  have HI3 := Hid3.mk hI3
  have HL3 := Hid3.mk hlt3
  have HS3 := Hid3.mk (HS.out.low hb)
  obtain ⟨c, hc⟩ : ∃ c, c = chA s P.1 := ⟨_, rfl⟩
  have HC := Hid3.mk hc
  rw [← hc] at HI3 HL3 hcl ⊢
  clear c1 hb hown3 hI3 hlt3 HS hc
  go_wp2_with fail
  go_loopw [9, 11] (fun d i wr => ∃ m : Nat, m ≤ c.length ∧ i = .int .i64 m ∧ wr.ownsRow W3.heap.size 3 1 d (zL s (c.take m)).length ((zL s (c.take m)).map slI) ∧ Hid3 (Below W3.heap.size W3 wr)) (fun _ i _ => c.length - (intOf i).toNat)
  case atStart => exact ⟨0, by omega, rfl, World.ownsRow_nil _ _ _ _, ⟨Below.refl _ _⟩⟩
  case round =>
    obtain ⟨m, hm, rfl, hown, HV⟩ := hrel
    obtain ⟨a0, cap0, rfl⟩ := slice_of hown
    have hsv := HV.out.size
    have HO := Hid3.mk hown
    by_cases hml : m < c.length
    · have hmz : (m : Int) < (c.length : Int) := by omega
      have htk : c.take (m + 1) = c.take m ++ [c[m]] := List.take_succ_eq_append_getElem hml
      obtain ⟨_, _, e1, hc⟩ := HI3.out.low HV.out HL3.out
      rw [List.length_map] at e1
      injection e1 with e2 e3 e4
      obtain ⟨g, off, e5, c4⟩ := hc m c[m].1 (by rw [List.getElem?_map, List.getElem?_eq_getElem hml]; rfl)
      rw [← e2] at e5
      subst e5
      have c5 := pstate_any _ tb s c[m].1 _ (HS3.out.low HV.out).t
      rw [gt_in] at c5
      have hzl := zL_len s (c.take m)
      have htl : (c.take m).length ≤ 6 := by rw [List.length_take]; omega
      clear hc e2 e3 e4
      generalize c[m] = x at *
      by_cases hz : zomb (s x) = true
      · rw [(stI_2 _).2 hz] at c5
        have HL : Hid3 (zL s (c.take (m + 1)) = zL s (c.take m) ++ [x]) := ⟨by rw [htk]; exact zL_snoc_yes s _ x hz⟩
        generalize zL s (c.take m) = zs at *
        clear hz htk hown
        go_wp2_with fail
        refine c5.mono ?_
        rintro r V1 ⟨rfl, hb⟩
        have hown : V1.ownsRow W3.heap.size 3 1 (.slice a0 zs.length cap0) zs.length (zs.map slI) := HO.out.kept ⟨hb.os, hb.tape, hb.output, hb.size, fun j hj _ => hb.block j hj⟩ (Classical.em _)
        have HV1 : Hid3 (Below W3.heap.size W3 V1) := ⟨HV.out.trans (hb.mono HV.out.size)⟩
        have hsV := HV1.out.size
        have c6 := (hb.cell (World.block_lt_of_cell? wr _ c4)).trans c4
        clear c5 hb c4
        go_wp2_with (at_builtin; refine wpList_append_own _ rfl _ _ 33 rfl W3.heap.size 3 i0 (.int .i64 0) 1 8 Try.underlying33 hi0 hz0 hz1 hz2 rfl (by decide) _ _ _ rfl (hown.alloc _) ⟨V1.heap.size, 0, none⟩ 1 1 [.int .i64 (x.1 : Int)] rfl rfl (cell_one V1 (.int .i64 (x.1 : Int)) 3) (by simp [Value.oneCell']) (by unfold maxLen; omega) (by omega) (by simp; omega) ?_; intro v' w1 hown' hgrow _)
        have hb3 : Below W3.heap.size W3 w1 := (HV1.out.alloc HV1.out.size _).grown hgrow (by simp; omega) (fun j hj => (hown.lt j hj).1)
        go_roundw
        case rel =>
          refine ⟨m + 1, by omega, by go_num, ?_, ⟨hb3⟩⟩
          rw [HL.out, List.length_append, List.map_append]
          exact hown'
        case measure => simp [intOf]; omega
      · have hzf : zomb (s x) = false := by simpa using hz
        have hb2 : (stI (s x) == 2) = false := by rw [beq_eq_false_iff_ne]; exact fun e => hz ((stI_2 _).1 e)
        have HL : Hid3 (zL s (c.take (m + 1)) = zL s (c.take m)) := ⟨by rw [htk]; exact zL_snoc_no s _ x hzf⟩
        generalize zL s (c.take m) = zs at *
        generalize stI (s x) = y at *
        clear hz hzf htk hown
        go_wp2_with fail
        refine c5.mono ?_
        rintro r V1 ⟨rfl, hb⟩
        have HO1 : Hid3 (V1.ownsRow W3.heap.size 3 1 (.slice a0 zs.length cap0) zs.length (zs.map slI)) := ⟨HO.out.kept ⟨hb.os, hb.tape, hb.output, hb.size, fun j hj _ => hb.block j hj⟩ (Classical.em _)⟩
        have HV1 : Hid3 (Below W3.heap.size W3 V1) := ⟨HV.out.trans (hb.mono HV.out.size)⟩
        clear c5 hb c4
        go_wp2
        go_roundw
        case rel => exact ⟨m + 1, by omega, by go_num, by rw [HL.out]; exact HO1.out, HV1⟩
        case measure => simp [intOf]; omega
    · have hmz : ¬ (m : Int) < (c.length : Int) := by omega
      obtain rfl : m = c.length := by omega
      rw [List.take_length] at hown HO ⊢
      obtain ⟨hI4, hge4⟩ := Ints.of_own hown
      have HS4 := Hid3.mk (HS3.out.low HV.out)
      have HI4 := Hid3.mk hI4
      have HG4 := Hid3.mk hge4
      have HBW := Hid3.mk (HS4.out.bl)
      clear hown hI4 hge4
      rcases runs_cases s P.1 with hr | ⟨p, q, hpP, hp⟩
      · have c5 := pstate_any _ tb s P.1 _ HS4.out.t
        have hb1 : (stI (gt s P.1) != 1) = true := by
          have : stI (gt s P.1) ≠ 1 := by cases hx : gt s P.1 <;> rw [hx] at hr <;> simp_all [runs, stI]
          simpa using this
        have c6 := fun W (h : Tp w.heap.size W tb s) => wait_err _ tb s P.1 W h hr
        have H6 := Hid3.mk c6
        generalize stI (gt s P.1) = y at *
        clear c6 hr
        go_wp2_with fail
        refine c5.mono ?_
        rintro r V1 ⟨rfl, hb⟩
        have HS5 := Hid3.mk (HS4.out.low hb)
        have c7 := H6.out _ HS5.out.t
        clear c5 hb
        go_wp2_with fail
        refine c7.mono ?_
        rintro r V2 ⟨rfl, hb⟩
        have HS6 := Hid3.mk (HS5.out.low hb)
        clear c7 hb
        go_wp2
        go_ret
        exact ⟨rfl, HS6.out.bl⟩
      · have hPp : P = p := Fin.ext (by omega)
        subst hPp
        have hru : runs (s P) = true := by rw [hp]; rfl
        have c5 := pstate_any _ tb s P.1 _ HS4.out.t
        rw [gt_in, hp] at c5
        simp only [stI] at c5
        have hcc : c = chs s P := by rw [HC.out]; exact chA_in s P (run_there _ hru)
        have hzl := zL_len s c
        have HZ0 : Hid3 (zL s (chs s P) = (zL s c).drop 0 ∧ (chs s P).length + 0 = c.length ∧ runs (s P) = true) := ⟨⟨by rw [hcc]; rfl, by rw [hcc]; rfl, hru⟩⟩
        generalize zL s c = D at *
        clear hp hpP hru hcc
        go_wp2_with fail
        refine c5.mono ?_
        rintro r V1 ⟨rfl, hb⟩
        have HS5 := Hid3.mk (HS4.out.low hb)
        have HV5 := Hid3.mk (HV.out.trans (hb.mono HV.out.size))
        have HI5 := Hid3.mk (HI4.out.below hb)
        clear c5 hb HS4 HI4
        have htb : tb < W3.heap.size := HS3.out.t.c.lt
        go_wp2_with fail
        go_loopw [15] (fun i wr => ∃ (m : Nat) (s2 : Pt), m ≤ D.length ∧ i = .int .i64 m ∧ Hid3 (zL s2 (chs s2 P) = D.drop m ∧ (chs s2 P).length + m = c.length ∧ runs (s2 P) = true) ∧ Hid3 (Lo2 w wr tb s2) ∧ Hid3 (Ints wr (.slice a0 D.length cap0) (D.map (·.1)))) (fun i _ => D.length - (intOf i).toNat)
        case atStart => exact ⟨0, s, by omega, rfl, HZ0, HS5, HI5⟩
        case round =>
          obtain ⟨m, s2, hm2, rfl, HZ, HS6, HI6⟩ := hrel
          clear HS5 HI5 HZ0
          by_cases hml : m < D.length
          · have hmz : (m : Int) < (D.length : Int) := by omega
            have hdr : D.drop m = D[m] :: D.drop (m + 1) := List.drop_eq_getElem_cons hml
            have hw := wt1 s2 P D[m] (D.drop (m + 1)) HZ.out.2.2 (HZ.out.1.trans hdr)
            obtain ⟨_, _, e1, hc⟩ := id HI6.out
            rw [List.length_map] at e1
            injection e1 with e2 e3 e4
            obtain ⟨g, off, e5, c4⟩ := hc m D[m].1 (by rw [List.getElem?_map, List.getElem?_eq_getElem hml]; rfl)
            rw [← e2] at e5
            subst e5
            have HZ2 : Hid3 (zL (upd s2 D[m] .no) (chs (upd s2 D[m] .no) P) = D.drop (m + 1) ∧ (chs (upd s2 D[m] .no) P).length + (m + 1) = c.length ∧ runs (upd s2 D[m] .no P) = true) := ⟨⟨hw.z, by have h1 := hw.len; have h2 := HZ.out.2.1; omega, hw.run.trans HZ.out.2.2⟩⟩
            have hans := hw.ans
            have c5 := pstatus_any _ tb s2 D[m].1 _ HS6.out.t
            rw [gt_in] at c5
            have H7 := Hid3.mk (fun W h => wait_any w.heap.size tb s2 P W h HZ.out.2.2)
            rw [hans] at H7
            have hgt : g ≠ tb := fun e => by have := HG4.out g rfl; omega
            clear hw hans hc e2 e3 e4 hdr
            generalize D[m] = x at *
            have H8 := Hid3.mk (fun W h => pstate_any w.heap.size tb (upd s2 x .no) x.1 W h)
            have h8g : gt (upd s2 x .no) x.1 = .no := by rw [gt_in, upd_same]
            rw [h8g] at H8
            simp only [stI] at H8
            generalize suI (s2 x) = sx at *
            have hss : (sx != sx) = false := by simp
            have hxx : ((x.1 : Int) != (x.1 : Int)) = false := by simp
            clear h8g
            go_wp2_with fail
            refine c5.mono ?_
            rintro r V2 ⟨rfl, hb⟩
            have HS7 := Hid3.mk (HS6.out.low hb)
            have HI7 := Hid3.mk (HI6.out.below hb)
            have c6 := H7.out _ HS7.out.t
            have c4' := (hb.cell (World.block_lt_of_cell? wr _ c4)).trans c4
            clear c5 hb c4 HS6 HI6
            go_wp2_with fail
            refine c6.mono ?_
            rintro r V3 ⟨rfl, hs⟩
            have HS8 : Hid3 (Lo2 w V3 tb (upd s2 x .no)) := ⟨⟨hs.t, HS7.out.bl.trans (hs.ap.below w.heap.size (fun i e => e ▸ HS7.out.t.g) HS7.out.bl.size)⟩⟩
            have HI8 : Hid3 (Ints V3 (.slice (some ⟨g, off, none⟩) D.length cap0) (D.map (·.1))) := ⟨HI7.out.stay hs.ap (fun g' hg' e => by have : g = g' := by injection hg'
                                                                                                                                            exact hgt (this.trans e))⟩
            have c4'' := cell_stay c4' hs.ap hgt
            have c7 := H8.out _ HS8.out.t
            clear c6 hs c4' HS7 HI7 HZ
            go_wp2_with fail
            refine c7.mono ?_
            rintro r V4 ⟨rfl, hb⟩
            have HS9 := Hid3.mk (HS8.out.low hb)
            have HI9 := Hid3.mk (HI8.out.below hb)
            clear c7 hb c4''
            go_wp2
            go_roundw
            case rel => exact ⟨m + 1, _, by omega, by go_num, HZ2, HS9, HI9⟩
            case measure => simp [intOf]; omega
          · have hmz : ¬ (m : Int) < (D.length : Int) := by omega
            obtain rfl : m = D.length := by omega
            have hz0 : zL s2 (chs s2 P) = [] := by rw [HZ.out.1, List.drop_length]
            have hw := wt0 s2 P hz0
            have c5 := wait_any w.heap.size tb s2 P wr HS6.out.t HZ.out.2.2
            rw [hw] at c5
            have hlen := HZ.out.2.1
            by_cases hn : chs s2 P = []
            · rw [if_pos hn] at c5
              rw [hn] at hlen
              simp only [List.length_nil, Nat.zero_add] at hlen
              have hll : ((D.length : Int) == (c.length : Int)) = true := by rw [hlen]; simp
              clear hw hz0 hn hlen
              go_wp2_with fail
              refine c5.mono ?_
              rintro r V2 ⟨rfl, hs⟩
              have HS7 : Hid3 (Below w.heap.size w V2) := ⟨HS6.out.bl.trans (hs.ap.below w.heap.size (fun i e => e ▸ HS6.out.t.g) HS6.out.bl.size)⟩
              clear c5 hs
              go_wp2
              go_ret
              exact ⟨rfl, HS7.out⟩
            · rw [if_neg hn] at c5
              have hpos := List.length_pos_iff.2 hn
              have hll : (D.length : Int) < (c.length : Int) := by omega
              clear hw hz0 hn hlen hpos
              go_wp2_with fail
              refine c5.mono ?_
              rintro r V2 ⟨rfl, hs⟩
              have HS7 : Hid3 (Below w.heap.size w V2) := ⟨HS6.out.bl.trans (hs.ap.below w.heap.size (fun i e => e ▸ HS6.out.t.g) HS6.out.bl.size)⟩
              clear c5 hs
              go_wp2
              go_ret
              exact ⟨rfl, HS7.out⟩
end Go.Proofs.Ytcnddmadmdgplaa
