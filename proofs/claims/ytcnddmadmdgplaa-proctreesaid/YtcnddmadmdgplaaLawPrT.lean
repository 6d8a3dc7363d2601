/- ProcTree: the walk. -/
import Derived.Test.YtcnddmadmdgplaaPrI
namespace Go.Proofs.Ytcnddmadmdgplaa
open Go.RowKit Go.Maps
set_option linter.unusedVariables false
set_option maxRecDepth 100000
def lt1 (a b : Nat) : Nat := if a < b then 1 else 0
/-- How many lie below. -/
def rnk (d : Fin 6 → Nat) (x : Nat) : Nat := lt1 (d 0) x + lt1 (d 1) x + lt1 (d 2) x + lt1 (d 3) x + lt1 (d 4) x + lt1 (d 5) x
theorem lt1_le (a x y : Nat) (h : x ≤ y) : lt1 a x ≤ lt1 a y := by unfold lt1; split <;> split <;> omega
theorem rnk_lt (d : Fin 6 → Nat) (q : Fin 6) (x : Nat) (h : d q < x) : rnk d (d q) < rnk d x := by
  have m := fun a => lt1_le a (d q) x (Nat.le_of_lt h)
  have m0 := m (d 0)
  have m1 := m (d 1)
  have m2 := m (d 2)
  have m3 := m (d 3)
  have m4 := m (d 4)
  have m5 := m (d 5)
  have e1 : lt1 (d q) (d q) = 0 := by unfold lt1; rw [if_neg (by omega)]
  have e2 : lt1 (d q) x = 1 := by unfold lt1; rw [if_pos h]
  unfold rnk
  clear m
  revert q
  refine all6 ?_ ?_ ?_ ?_ ?_ ?_ <;> intros <;> omega
theorem rnk_5 (d : Fin 6 → Nat) (q : Fin 6) : rnk d (d q) ≤ 5 := by
  have u := fun a => (by unfold lt1; split <;> omega : lt1 (d a) (d q) ≤ 1)
  have m0 := u 0
  have m1 := u 1
  have m2 := u 2
  have m3 := u 3
  have m4 := u 4
  have m5 := u 5
  have e1 : lt1 (d q) (d q) = 0 := by unfold lt1; rw [if_neg (by omega)]
  unfold rnk
  clear u
  revert q
  refine all6 ?_ ?_ ?_ ?_ ?_ ?_ <;> intros <;> omega
theorem run_stI (x : Pr) (h : runs x = true) : stI x = 1 := by cases x <;> simp_all [runs, stI]
theorem run_there (x : Pr) (h : runs x = true) : x ≠ .no := fun e => by rw [e] at h; cases h
theorem par_some (x : Pr) (h : x ≠ .no) : ∃ q, par x = some q := by cases x <;> simp_all [par]
theorem mem_chs (s : Pt) (p q : Fin 6) (hp0 : p ≠ 0) (h : par (s p) = some q) : p ∈ chs s q := by
  unfold chs
  rw [thL_mem _ 6 (Nat.le_refl _)]
  exact ⟨p.2, by simp [qCh, hp0, (par_pa _ _).1 h]⟩
/-- The table above a world. -/
structure Lo2 (w W : World) (b : Nat) (s : Pt) : Prop where
  t : Tp w.heap.size W b s
  bl : Below w.heap.size w W
theorem Lo2.low {w W W' : World} {b : Nat} {s : Pt} (h : Lo2 w W b s) (k : Below W.heap.size W W') : Lo2 w W' b s := ⟨h.t.below k, h.bl.trans (k.mono h.bl.size)⟩
set_option maxHeartbeats 2000000 in
theorem tree_law (v : Value) (l : List Dd) (w : World) (hd : Dds w v l) : Calls Try.prog 4 #[v] w fun r w' => r = .returned (.bool true) ∧ Below w.heap.size w w' := by
  have cP := play_any v l w hd
  obtain ⟨ad, cap, rfl, _⟩ := id hd
  clear hd
  go_enter Try.func4, Try.ntmps4
  go_wp2_with fail
  refine cP.mono ?_
  rintro r W1 ⟨tb, rb, rfl, hPb⟩
  have HB := Hid3.mk hPb
  have cL := live_any W1
  clear cP hPb
  go_wp2_with fail
  refine cL.mono ?_
  rintro r W2 ⟨rfl, hb⟩
  obtain ⟨⟨s, hT⟩, hB2⟩ := HB.out.low hb
  have HS0 : Hid3 (Lo2 w W2 tb s) := ⟨⟨hT.t, hB2⟩⟩
  have HOk := Hid3.mk hT.ok
  obtain ⟨d, hd0, hd⟩ := hT.ok.d
  have HD := Hid3.mk hd
  clear cL hb hT hB2 HB hd hd0
  go_wp2_with fail
  go_loopw [6] (fun i wr => ∃ k : Nat, 1 ≤ k ∧ k ≤ 6 ∧ i = .int .i64 k ∧ Hid3 (Lo2 w wr tb s)) (fun i _ => 6 - (intOf i).toNat)
  case atStart => exact ⟨1, by omega, by omega, rfl, HS0⟩
  case round =>
    obtain ⟨k, hk1, hk, rfl, HS⟩ := hrel
    clear HS0
    by_cases hk6 : k < 6
    · have hkz : (k : Int) < 6 := by omega
      have c1 := pstate_any _ tb s k _ HS.out.t
      have g1 : gt s k = s ⟨k, hk6⟩ := gt_in s ⟨k, hk6⟩
      rw [g1] at c1
      clear g1
      obtain ⟨p, hp⟩ : ∃ p : Fin 6, p = ⟨k, hk6⟩ := ⟨_, rfl⟩
      have hpk : p.1 = k := by rw [hp]
      have hp0 : p ≠ 0 := fun e => by have := congrArg Fin.val e; rw [hpk] at this; simp at this; omega
      rw [← hp] at c1
      clear hp
      by_cases hx : s p = .no
      · rw [hx] at c1
        simp only [stI] at c1
        clear hx hp0 hpk
        go_wp2_with fail
        refine c1.mono ?_
        rintro r V1 ⟨rfl, hb⟩
        have HS1 := Hid3.mk (HS.out.low hb)
        clear c1 hb
        go_wp2
        go_roundw
        case rel => exact ⟨k + 1, by omega, by omega, by go_num, HS1⟩
        case measure => simp [intOf]; omega
      · have hb0 : (stI (s p) == 0) = false := by rw [beq_eq_false_iff_ne]; exact fun e => hx ((stI_0 _).1 e)
        obtain ⟨q, hq⟩ := par_some _ hx
        have hmem := mem_chs s p q hp0 hq
        have hqr := (HD.out p q hp0 hq).1
        have hqn := run_there _ hqr
        have hpa : paI (s p) = q.1 := (par_pa _ _).1 hq
        have HX := Hid3.mk hx
        generalize stI (s p) = y at *
        go_wp2_with fail
        refine c1.mono ?_
        rintro r V1 ⟨rfl, hb⟩
        have HS1 := Hid3.mk (HS.out.low hb)
        clear c1 hb
        have hpz : (k : Int) = (p.1 : Int) := by omega
        have HKP := Hid3.mk hpz
        clear hpz hx
        go_wp2_with fail
        go_loopw [7, 8] (fun q0 i wr => ∃ (x : Fin 6) (j : Nat), q0 = .int .i64 x.1 ∧ i = .int .i64 j ∧ Hid3 (s x ≠ .no) ∧ Hid3 (rnk d (d x) + j ≤ 5) ∧ Hid3 (Lo2 w wr tb s)) (fun _ i _ => 6 - (intOf i).toNat)
        case atStart => exact ⟨p, 0, by rw [HKP.out], rfl, HX, ⟨rnk_5 d p⟩, HS1⟩
        case round =>
          obtain ⟨x, j, rfl, rfl, HXn, HR, HS2⟩ := hrel
          clear HS1
          have hj6 : (j : Int) < 6 := by have := HR.out; omega
          by_cases hx0 : x = 0
          · subst hx0
            have hxz : (((0 : Fin 6).1 : Nat) : Int) = 0 := rfl
            rw [hxz]
            have c2 := pparent_any _ tb s k _ HS2.out.t
            have g1 : gt s k = s p := by have := gt_in s p; rw [hpk] at this; exact this
            rw [g1, hpa] at c2
            clear g1
            go_wp2_with fail
            refine c2.mono ?_
            rintro r V2 ⟨rfl, hb⟩
            have HS3 := Hid3.mk (HS2.out.low hb)
            have c3 := pchildren_any _ tb s q.1 _ HS3.out.t
            rw [chA_in s q hqn] at c3
            have hcl := thL_len6 (qCh s q) 6
            unfold chs at c3 hmem
            generalize thL (qCh s q) 6 = L at *
            clear c2 hb HS2
            go_wp2_with fail
            refine c3.mono ?_
            rintro r V3 ⟨v3, rfl, hI, _, hb⟩
            have HI := Hid3.mk hI
            obtain ⟨a3, cap3, rfl, _⟩ := hI
            have HS4 := Hid3.mk (HS3.out.low hb)
            have HMem := Hid3.mk hmem
            clear c3 hb HS3 hmem
            simp only [List.length_map]
            go_wp2_with fail
            go_loopw [10, 11] (fun z i wr => ∃ (m : Nat) (bb : Bool), m ≤ L.length ∧ z = .bool bb ∧ i = .int .i64 m ∧ Hid3 (bb = decide (p ∈ L.take m)) ∧ Hid3 (Below V3.heap.size V3 wr)) (fun _ i _ => L.length - (intOf i).toNat)
            case atStart => exact ⟨0, false, by omega, rfl, rfl, ⟨by simp⟩, ⟨Below.refl _ _⟩⟩
            case round =>
              obtain ⟨m, bb, hm, rfl, rfl, HBB, HV⟩ := hrel
              by_cases hml : m < L.length
              · have hmz : (m : Int) < (L.length : Int) := by omega
                have htk : L.take (m + 1) = L.take m ++ [L[m]] := List.take_succ_eq_append_getElem hml
                cases hbv : bb with
                | true =>
                  have HB2 : Hid3 (true = decide (p ∈ L.take (m + 1))) := ⟨by have := HBB.out; rw [hbv] at this; exact (decide_eq_true (by rw [htk]; exact List.mem_append_left _ (of_decide_eq_true this.symm))).symm⟩
                  clear hbv htk HBB
                  go_wp2
                  go_roundw
                  case rel => exact ⟨m + 1, true, by omega, rfl, by go_num, HB2, HV⟩
                  case measure => simp [intOf]; omega
                | false =>
                  obtain ⟨_, _, e1, hc⟩ := HI.out.below HV.out
                  injection e1 with e2 e3 e4
                  obtain ⟨g, off, e5, c4⟩ := hc m L[m].1 (by rw [List.getElem?_map, List.getElem?_eq_getElem hml]; rfl)
                  rw [← e2] at e5
                  subst e5
                  have hdec : ((L[m].1 : Int) == (k : Int)) = decide (p = L[m]) := by
                    rw [← hpk]
                    by_cases e : p = L[m]
                    · rw [← e]; simp
                    · have : ¬ ((L[m].1 : Nat) : Int) = (p.1 : Int) := fun e' => e (Fin.ext (by omega))
                      simp [e, this]
                  have HB2 : Hid3 (((L[m].1 : Int) == (k : Int)) = decide (p ∈ L.take (m + 1))) := ⟨by
                    have hno : ¬ p ∈ L.take m := of_decide_eq_false (by have := HBB.out; rw [hbv] at this; exact this.symm)
                    rw [hdec]
                    refine decide_eq_decide.2 ⟨fun e => by rw [htk, e]; exact List.mem_append_right _ (List.mem_singleton_self _), fun h => ?_⟩
                    rw [htk] at h
                    rcases List.mem_append.1 h with h | h
                    · exact absurd h hno
                    · exact List.mem_singleton.1 h⟩
                  generalize ((L[m].1 : Nat) : Int) = z at *
                  clear hbv htk HBB hc e2 e3 e4 hdec
                  go_wp2
                  go_roundw
                  case rel => exact ⟨m + 1, _, by omega, rfl, by go_num, HB2, HV⟩
                  case measure => simp [intOf]; omega
              · have hmz : ¬ (m : Int) < (L.length : Int) := by omega
                obtain rfl : m = L.length := by omega
                have hbt : bb = true := by
                  have := HBB.out
                  rw [List.take_length, decide_eq_true HMem.out] at this
                  exact this
                subst hbt
                have HS5 := Hid3.mk (HS4.out.low HV.out)
                clear HBB HV HS4
                go_wp2
                go_roundw
                case rel => exact ⟨k + 1, by omega, by omega, by go_num, HS5⟩
                case measure => simp [intOf]; omega
          · have hxb : (((x.1 : Nat) : Int) != 0) = true := by
              have : ¬ ((x.1 : Nat) : Int) = 0 := fun e => hx0 (Fin.ext (by show x.1 = 0; omega))
              simpa using this
            obtain ⟨u, hu⟩ := par_some _ HXn.out
            have hur := HD.out x u hx0 hu
            have hupa : paI (s x) = u.1 := (par_pa _ _).1 hu
            have c2 := pparent_any _ tb s x.1 _ HS2.out.t
            rw [gt_in, hupa] at c2
            have HXu := Hid3.mk (run_there _ hur.1)
            have HRu : Hid3 (rnk d (d u) + (j + 1) ≤ 5) := ⟨by have h1 := rnk_lt d u (d x) hur.2; have := HR.out; omega⟩
            have husI := run_stI _ hur.1
            clear hu hur hupa
            go_wp2_with fail
            refine c2.mono ?_
            rintro r V2 ⟨rfl, hb⟩
            have HS3 := Hid3.mk (HS2.out.low hb)
            have c3 := pstate_any _ tb s u.1 _ HS3.out.t
            rw [gt_in, husI] at c3
            clear c2 hb HS2 husI
            go_wp2_with fail
            refine c3.mono ?_
            rintro r V3 ⟨rfl, hb⟩
            have HS4 := Hid3.mk (HS3.out.low hb)
            clear c3 hb HS3
            go_wp2
            go_roundw
            case rel => exact ⟨u, j + 1, rfl, by go_num, HXu, HRu, HS4⟩
            case measure => have := HR.out; simp [intOf]; omega
    · have hkz : ¬ (k : Int) < 6 := by omega
      have c1 := pstate_any _ tb s 0 _ HS.out.t
      have H2 := Hid3.mk (fun W => pparent_any w.heap.size tb s 0 W)
      have hg : gt s 0 = .run 0 := (gt_in s 0).trans HOk.out.z
      rw [hg] at c1 H2
      have hpp : paI (.run 0) = 0 := rfl
      rw [hpp] at H2
      simp only [stI] at c1
      clear hg hpp
      go_wp2_with fail
      refine c1.mono ?_
      rintro r V1 ⟨rfl, hb⟩
      have HS1 := Hid3.mk (HS.out.low hb)
      have c2 := H2.out _ HS1.out.t
      clear c1 hb
      go_wp2_with fail
      refine c2.mono ?_
      rintro r V2 ⟨rfl, hb⟩
      have HS2 := Hid3.mk (HS1.out.low hb)
      clear c2 hb
      go_wp2
      go_ret
      exact ⟨rfl, HS2.out.bl⟩
end Go.Proofs.Ytcnddmadmdgplaa
