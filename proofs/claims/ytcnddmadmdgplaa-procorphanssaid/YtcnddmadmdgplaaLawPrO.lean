/- ProcOrphans: the walk. -/
import Derived.Test.YtcnddmadmdgplaaPrI
namespace Go.Proofs.Ytcnddmadmdgplaa
open Go.RowKit Go.Maps
set_option linter.unusedVariables false
set_option maxRecDepth 100000
theorem ex_pa (s : Pt) (h : Ok s) (p q : Fin 6) (n : Int) (hp0 : p ≠ 0) (hp : s p = .run q) (i : Fin 6) : paI (exitS s p q n i) = if paI (s i) = p.1 then 0 else paI (s i) := by
  unfold exitS
  by_cases e : i = p
  · subst e
    rw [if_pos rfl, if_neg (h.self i hp0), hp]
    rfl
  · rw [if_neg e]
    by_cases hi : i = 0
    · subst hi
      have hz := h.z
      rw [if_neg (by simp [qCh]), hz]
      have : ¬ paI (.run 0) = (p.1 : Int) := fun x => hp0 (Fin.ext (by have x' : (0 : Int) = (p.1 : Int) := x; show p.1 = 0; omega))
      rw [if_neg this]
    · by_cases hc : paI (s i) = p.1
      · rw [if_pos (by simp [qCh, hi, hc]), if_pos hc]
        have hne : s i ≠ .no := fun x => by rw [x] at hc; have hc' : (-1 : Int) = (p.1 : Int) := hc; omega
        have := (par_pa _ _).1 (paI_lft _ hne)
        exact this
      · rw [if_neg (by simp [qCh, hc]), if_neg hc]
theorem ex_st (s : Pt) (p q : Fin 6) (n : Int) (i : Fin 6) (hi : i ≠ p) : stI (exitS s p q n i) = stI (s i) := by
  unfold exitS
  rw [if_neg hi]
  split
  · cases s i <;> rfl
  · rfl
theorem runs_stI (x : Pr) (h : runs x = false) : stI x ≠ 1 := by cases x <;> simp_all [runs, stI]
theorem ex_me (s : Pt) (p q : Fin 6) (n : Int) : exitS s p q n p = .zom q n := if_pos rfl
theorem ex_ch (s : Pt) (h : Ok s) (p q : Fin 6) (n : Int) (hp0 : p ≠ 0) (hp : s p = .run q) : chs (exitS s p q n) p = [] := by
  have hq : ∀ i, qCh (exitS s p q n) p i = false := fun i => by
    have : paI (exitS s p q n i) ≠ p.1 := by
      rw [ex_pa s h p q n hp0 hp]
      split
      · exact fun e => hp0 (Fin.ext (by show p.1 = 0; omega))
      · assumption
    simp [qCh, this]
  unfold chs
  rw [List.eq_nil_iff_forall_not_mem]
  intro i hi
  rw [thL_mem _ 6 (Nat.le_refl _), hq i] at hi
  cases hi.2
/-- The table, and how it was, above a world. -/
structure Or (w W : World) (b c : Nat) (s s' : Pt) : Prop where
  t : Tp w.heap.size W b s'
  c : Tp w.heap.size W c s
  bl : Below w.heap.size w W
theorem Or.low {w W W' : World} {b c : Nat} {s s' : Pt} (h : Or w W b c s s') (k : Below W.heap.size W W') : Or w W' b c s s' := ⟨h.t.below k, h.c.below k, h.bl.trans (k.mono h.bl.size)⟩
set_option maxHeartbeats 2000000 in
theorem orphans_law (v : Value) (l : List Dd) (x0 : Nat) (h0 : x0 ≤ 255) (st : Int) (w : World) (hd : Dds w v l) : Calls Try.prog 6 #[v, .int .u8 x0, .int .i64 st] w fun r w' => r = .returned (.bool true) ∧ Below w.heap.size w w' := by
  have cP := play_any v l w hd
  obtain ⟨ad, cap, rfl, _⟩ := id hd
  clear hd
  obtain ⟨P, hP⟩ : ∃ P : Fin 6, P.1 = x0 % 6 := ⟨⟨x0 % 6, Nat.mod_lt _ (by decide)⟩, rfl⟩
  have hPz : (x0 : Int) % 6 = (P.1 : Int) := by omega
  go_enter Try.func6, Try.ntmps6
  go_wp2_with fail
  refine cP.mono ?_
  rintro r W1 ⟨tb, rb, rfl, hPb⟩
  have HB := Hid3.mk hPb
  have cL := live_any W1
  clear cP hPb hP
  go_wp2_with fail
  refine cL.mono ?_
  rintro r W2 ⟨rfl, hb⟩
  obtain ⟨⟨s, hT⟩, hB2⟩ := HB.out.low hb
  have c1 := copy_any _ tb s W2 hT.t w.heap.size hB2.size
  have HT := Hid3.mk hT
  have HB2 := Hid3.mk hB2
  clear cL hb hT hB2
  go_wp2_with fail
  refine c1.mono ?_
  rintro r W3 ⟨rfl, hF, hB3⟩
  have HT3 := Hid3.mk (HT.out.t.below hB3)
  have HF := Hid3.mk hF
  have HB3 := Hid3.mk (HB2.out.trans (hB3.mono HB2.out.size))
  have hne : W2.heap.size ≠ tb := by have := HT.out.t.c.lt; omega
  have HOk := Hid3.mk HT.out.ok
  have HNe := Hid3.mk hne
  clear c1 hF hB3 HT HB2 HB hne
  generalize W2.heap.size = fb at *
  rcases runs_cases s P.1 with hr | ⟨p, q, hpP, hp⟩
  · have c2 := exit_err _ tb s P.1 st W3 HT3.out hr
    have hst : (stI (gt s P.1) != 1) = true := by
      have : stI (gt s P.1) ≠ 1 := runs_stI _ hr
      simpa using this
    clear hr
    go_wp2_with fail
    refine c2.mono ?_
    rintro r W4 ⟨rfl, hb⟩
    have HF4 := Hid3.mk (HF.out.below hb)
    have HB4 := Hid3.mk (HB3.out.trans (hb.mono HB3.out.size))
    have c3 := pstate_any _ fb s P.1 W4 HF4.out
    generalize stI (gt s P.1) = y at *
    clear c2 hb
    go_wp2_with fail
    refine c3.mono ?_
    rintro r W5 ⟨rfl, hb⟩
    have HB5 := Hid3.mk (HB4.out.trans (hb.mono HB4.out.size))
    clear c3 hb
    go_wp2
    go_ret
    exact ⟨rfl, HB5.out⟩
  · have hPp : P = p := Fin.ext (by omega)
    subst hPp
    by_cases hp0 : P = 0
    · subst hp0
      have c2 := exit_0 _ tb s st W3 HT3.out HOk.out.z
      have hPz' : (x0 : Int) % 6 = 0 := hPz
      clear hp hPz hpP
      go_wp2_with fail
      refine c2.mono ?_
      rintro r W4 ⟨rfl, hb⟩
      have HB5 := Hid3.mk (HB3.out.trans (hb.mono HB3.out.size))
      clear c2 hb
      go_wp2
      go_ret
      exact ⟨rfl, HB5.out⟩
    · have c2 := exit_ok _ tb s P q st W3 HT3.out hp0 hp
      have HP1 := Hid3.mk (ex_pa s HOk.out P q st hp0 hp)
      have HP2 := Hid3.mk (fun i => ex_st s P q st i)
      have HP3 := Hid3.mk (ex_me s P q st)
      have HP4 := Hid3.mk (ex_ch s HOk.out P q st hp0 hp)
      clear hp
      go_wp2_with fail
      refine c2.mono ?_
      rintro r W4 ⟨rfl, hs⟩
      have HO : Hid3 (Or w W4 tb fb s (exitS s P q st)) := ⟨⟨hs.t, HF.out.stay hs.ap HNe.out, HB3.out.trans (hs.ap.below w.heap.size (fun i e => e ▸ HT3.out.g) HB3.out.size)⟩⟩
      clear c2 hs HF HT3 HB3 HNe
      generalize exitS s P q st = s' at *
      go_wp2_with fail
      go_loopw [13] (fun i wr => ∃ k : Nat, k ≤ 6 ∧ i = .int .i64 k ∧ Hid3 (Or w wr tb fb s s')) (fun i _ => 6 - (intOf i).toNat)
      case atStart => exact ⟨0, by omega, rfl, HO⟩
      case round =>
        obtain ⟨k, hk, rfl, HS⟩ := hrel
        clear HO
        by_cases hk6 : k < 6
        · have hkz : (k : Int) < 6 := by omega
          have c1 := pparent_any _ fb s k _ HS.out.c
          have H2 := Hid3.mk (fun W => pparent_any w.heap.size tb s' k W)
          have H3 := Hid3.mk (fun W => pstate_any w.heap.size tb s' k W)
          have H4 := Hid3.mk (fun W => pstate_any w.heap.size fb s k W)
          have g1 : gt s k = s ⟨k, hk6⟩ := gt_in s ⟨k, hk6⟩
          have g2 : gt s' k = s' ⟨k, hk6⟩ := gt_in s' ⟨k, hk6⟩
          have e1 := HP1.out ⟨k, hk6⟩
          have e2 := HP2.out ⟨k, hk6⟩
          rw [g1] at c1 H4
          rw [g2, e1] at H2
          rw [g2] at H3
          clear g1 g2 e1
          have hpick : ((k : Int) != (P.1 : Int)) = true → stI (s' ⟨k, hk6⟩) = stI (s ⟨k, hk6⟩) := fun hne => e2 (fun e => by have h2 : k = P.1 := congrArg Fin.val e; simp at hne; omega)
          have HPk := Hid3.mk hpick
          clear e2 hpick
          by_cases hw : paI (s ⟨k, hk6⟩) = (P.1 : Int)
          · rw [if_pos hw] at H2
            rw [hw] at c1
            clear hw
            go_wp2_with fail
            refine c1.mono ?_
            rintro r V1 ⟨rfl, hb⟩
            have HS1 := Hid3.mk (HS.out.low hb)
            have c2 := H2.out _ HS1.out.t
            clear c1 hb
            go_wp2_with fail
            refine c2.mono ?_
            rintro r V2 ⟨rfl, hb⟩
            have HS2 := Hid3.mk (HS1.out.low hb)
            clear c2 hb
            cases hkp : ((k : Int) != (P.1 : Int)) with
            | false =>
              go_wp2
              go_roundw
              case rel => exact ⟨k + 1, by omega, by go_num, HS2⟩
              case measure => simp [intOf]; omega
            | true =>
              have c3 := H3.out _ HS2.out.t
              rw [HPk.out hkp] at c3
              generalize stI (s ⟨k, hk6⟩) = y at *
              have hyy : (y != y) = false := by simp
              go_wp2_with fail
              refine c3.mono ?_
              rintro r V3 ⟨rfl, hb⟩
              have HS3 := Hid3.mk (HS2.out.low hb)
              have c4 := H4.out _ HS3.out.c
              clear c3 hb
              go_wp2_with fail
              refine c4.mono ?_
              rintro r V4 ⟨rfl, hb⟩
              have HS4 := Hid3.mk (HS3.out.low hb)
              clear c4 hb
              go_wp2
              go_roundw
              case rel => exact ⟨k + 1, by omega, by go_num, HS4⟩
              case measure => simp [intOf]; omega
          · rw [if_neg hw] at H2
            have hwb : (paI (s ⟨k, hk6⟩) == (P.1 : Int)) = false := by rw [beq_eq_false_iff_ne]; exact hw
            generalize paI (s ⟨k, hk6⟩) = pk at *
            have hpp : (pk != pk) = false := by simp
            clear hw
            go_wp2_with fail
            refine c1.mono ?_
            rintro r V1 ⟨rfl, hb⟩
            have HS1 := Hid3.mk (HS.out.low hb)
            have c2 := H2.out _ HS1.out.t
            clear c1 hb
            go_wp2_with fail
            refine c2.mono ?_
            rintro r V2 ⟨rfl, hb⟩
            have HS2 := Hid3.mk (HS1.out.low hb)
            clear c2 hb
            cases hkp : ((k : Int) != (P.1 : Int)) with
            | false =>
              go_wp2
              go_roundw
              case rel => exact ⟨k + 1, by omega, by go_num, HS2⟩
              case measure => simp [intOf]; omega
            | true =>
              have c3 := H3.out _ HS2.out.t
              rw [HPk.out hkp] at c3
              generalize stI (s ⟨k, hk6⟩) = y at *
              have hyy : (y != y) = false := by simp
              go_wp2_with fail
              refine c3.mono ?_
              rintro r V3 ⟨rfl, hb⟩
              have HS3 := Hid3.mk (HS2.out.low hb)
              have c4 := H4.out _ HS3.out.c
              clear c3 hb
              go_wp2_with fail
              refine c4.mono ?_
              rintro r V4 ⟨rfl, hb⟩
              have HS4 := Hid3.mk (HS3.out.low hb)
              clear c4 hb
              go_wp2
              go_roundw
              case rel => exact ⟨k + 1, by omega, by go_num, HS4⟩
              case measure => simp [intOf]; omega
        · have hkz : ¬ (k : Int) < 6 := by omega
          have c1 := pstate_any _ tb s' P.1 _ HS.out.t
          have H2 := Hid3.mk (fun W => pstatus_any w.heap.size tb s' P.1 W)
          have H3 := Hid3.mk (fun W => pchildren_any w.heap.size tb s' P.1 W)
          have hg : gt s' P.1 = .zom q st := (gt_in s' P).trans HP3.out
          rw [hg] at c1 H2
          have hch : chA s' P.1 = [] := by
            rw [chA_in s' P (fun e => by rw [HP3.out] at e; cases e)]
            exact HP4.out
          rw [hch] at H3
          simp only [stI, suI] at c1 H2
          have hss : (st == st) = true := by simp
          clear hg hch
          go_wp2_with fail
          refine c1.mono ?_
          rintro r V1 ⟨rfl, hb⟩
          have HS1 := Hid3.mk (HS.out.low hb)
          have c2 := H2.out _ HS1.out.t
          clear c1 hb
          go_wp2_with fail
          refine c2.mono ?_
          rintro r V2 ⟨rfl, hb⟩
          have HS2 := Hid3.mk (HS1.out.low hb)
          have c3 := H3.out _ HS2.out.t
          clear c2 hb
          go_wp2_with fail
          refine c3.mono ?_
          rintro r V3 ⟨v3, rfl, hI, _, hb⟩
          obtain ⟨a3, cap3, rfl, _⟩ := hI
          have HS3 := Hid3.mk (HS2.out.low hb)
          clear c3 hb
          simp only [List.map_nil, List.length_nil]
          go_wp2
          go_ret
          exact ⟨rfl, HS3.out.bl⟩
end Go.Proofs.Ytcnddmadmdgplaa
