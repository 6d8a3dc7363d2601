/- The document's table: New, State, Parent, Status, runs, Children, Running. -/
import Derived.Test.YtcnddmadmdgplaaPrBa
namespace Go.Proofs.Ytcnddmadmdgplaa
open Go.RowKit Go.Maps
set_option linter.unusedVariables false
set_option maxRecDepth 100000
structure RpC (w : World) (b : Nat) (s : Pt) : Prop where
  st : ∀ p : Fin 6, w.cell? ⟨b, p.1 * 3, none⟩ = some (.int .u8 (stI (s p)))
  ra : ∀ p : Fin 6, w.cell? ⟨b, p.1 * 3 + 1, none⟩ = some (.int .i64 (raI (s p)))
  su : ∀ p : Fin 6, w.cell? ⟨b, p.1 * 3 + 2, none⟩ = some (.int .i64 (suI (s p)))
  f : ∀ j, w.frozen? ⟨b, j, none⟩ = false
  l : b < w.heap.size
theorem Rp.cs {B : Nat} {w : World} {b : Nat} {s : Pt} (h : Rp B w b s) : RpC w b s :=
  ⟨fun p => (h.c.cell _).trans (rCs_st s p), fun p => (h.c.cell _).trans (rCs_ra s p), fun p => (h.c.cell _).trans (rCs_su s p), h.c.thaw, h.c.lt⟩
theorem RpC.below {w w' : World} {b : Nat} {s : Pt} {n : Nat} (h : RpC w b s) (k : Below n w w') (hn : b < n) : RpC w' b s :=
  ⟨fun p => (k.cell (p := ⟨b, p.1 * 3, none⟩) hn).trans (h.st p), fun p => (k.cell (p := ⟨b, p.1 * 3 + 1, none⟩) hn).trans (h.ra p), fun p => (k.cell (p := ⟨b, p.1 * 3 + 2, none⟩) hn).trans (h.su p), fun j => (k.frozen (p := ⟨b, j, none⟩) hn).trans (h.f j), Nat.lt_of_lt_of_le h.l k.size⟩
theorem stI_0 (x : Pr) : stI x = 0 ↔ x = .no := by cases x <;> simp [stI]
theorem raI_pa (x : Pr) (h : x ≠ .no) : raI x = paI x := by cases x <;> simp_all [raI, paI]
set_option maxHeartbeats 1000000 in
theorem rnew_any (w : World) : Calls Try.prog 25 #[] w fun r w' => r = .returned (.pointer (some ⟨w.heap.size, 0, none⟩)) ∧ Rp w.heap.size w' w.heap.size pt0 ∧ Below w.heap.size w w' := by
  go_enter Try.func25, Try.ntmps25
  go_wp2
  go_ret
  exact ⟨rfl, ⟨Nat.le_refl _, heap_alloc_new _ _⟩, below_new w _⟩
set_option maxHeartbeats 1000000 in
theorem rstate_any (b : Nat) (s : Pt) (pid : Int) (w : World) (h : RpC w b s) : Calls Try.prog 26 #[.pointer (some ⟨b, 0, none⟩), .int .i64 pid] w fun r w' => r = .returned (.int .u8 (stI (gt s pid))) ∧ w' = w := by
  rcases pid_cases pid with hp | ⟨p, rfl⟩
  · rw [gt_out s pid hp]
    clear h
    unfold stI
    rcases hp with h1 | h1
    · go_enter Try.func26, Try.ntmps26
      go_wp2
      go_ret
      exact ⟨rfl, rfl⟩
    · have h0 : ¬ pid < 0 := by omega
      go_enter Try.func26, Try.ntmps26
      go_wp2
      go_ret
      exact ⟨rfl, rfl⟩
  · rw [gt_in]
    have c0 := h.st p
    generalize stI (s p) = x at *
    clear h
    obtain ⟨p, hp⟩ := p
    have h1 : ¬ (p : Int) < 0 := by omega
    have h2 : (p : Int) < 6 := by omega
    have h3 : ¬ (6 : Int) ≤ p := by omega
    simp only at *
    go_enter Try.func26, Try.ntmps26
    go_wp2
    go_ret
    exact ⟨rfl, rfl⟩
set_option maxHeartbeats 1000000 in
theorem rparent_any (b : Nat) (s : Pt) (pid : Int) (w : World) (h : RpC w b s) : Calls Try.prog 27 #[.pointer (some ⟨b, 0, none⟩), .int .i64 pid] w fun r w' => r = .returned (.int .i64 (paI (gt s pid))) ∧ w' = w := by
  have cS := rstate_any b s pid w h
  by_cases hg : gt s pid = .no
  · rw [hg] at cS ⊢
    clear h hg
    unfold stI at cS
    unfold paI
    go_enter Try.func27, Try.ntmps27
    go_wp2_with fail
    refine cS.mono ?_
    rintro r W ⟨rfl, rfl⟩
    go_wp2
    go_ret
    exact ⟨rfl, rfl⟩
  · obtain ⟨p, rfl, hp, _⟩ := chA_of s pid hg
    rw [gt_in] at cS ⊢
    have c1 := h.ra p
    rw [raI_pa _ hp] at c1
    have hb : (stI (s p) == 0) = false := by rw [beq_eq_false_iff_ne]; exact fun e => hp ((stI_0 _).1 e)
    generalize stI (s p) = x at *
    generalize paI (s p) = y at *
    clear h hg hp
    obtain ⟨p, hp⟩ := p
    have h2 : (p : Int) < 6 := by omega
    simp only at *
    go_enter Try.func27, Try.ntmps27
    go_wp2_with fail
    refine cS.mono ?_
    rintro r W ⟨rfl, rfl⟩
    clear cS
    go_wp2
    go_ret
    exact ⟨rfl, rfl⟩
set_option maxHeartbeats 1000000 in
theorem rstatus_any (b : Nat) (s : Pt) (pid : Int) (w : World) (h : RpC w b s) : Calls Try.prog 30 #[.pointer (some ⟨b, 0, none⟩), .int .i64 pid] w fun r w' => r = .returned (.int .i64 (suI (gt s pid))) ∧ w' = w := by
  have cS := rstate_any b s pid w h
  by_cases hg : stI (gt s pid) = 2
  · have hne : gt s pid ≠ .no := fun e => by rw [e] at hg; cases hg
    rw [hg] at cS
    obtain ⟨p, rfl, hp, _⟩ := chA_of s pid hne
    rw [gt_in]
    have c1 := h.su p
    generalize suI (s p) = y at *
    clear h hg hp hne
    obtain ⟨p, hp⟩ := p
    have h2 : (p : Int) < 6 := by omega
    simp only at *
    go_enter Try.func30, Try.ntmps30
    go_wp2_with fail
    refine cS.mono ?_
    rintro r W ⟨rfl, rfl⟩
    clear cS
    go_wp2
    go_ret
    exact ⟨rfl, rfl⟩
  · have hs : suI (gt s pid) = 0 := by
      cases hx : gt s pid with
      | no => rfl
      | run p => rfl
      | zom p n => rw [hx] at hg; exact absurd rfl hg
    have hb : (stI (gt s pid) != 2) = true := by simpa using hg
    rw [hs]
    generalize stI (gt s pid) = x at *
    clear h hg hs
    go_enter Try.func30, Try.ntmps30
    go_wp2_with fail
    refine cS.mono ?_
    rintro r W ⟨rfl, rfl⟩
    clear cS
    go_wp2
    go_ret
    exact ⟨rfl, rfl⟩
set_option maxHeartbeats 1000000 in
theorem rruns_any (b : Nat) (s : Pt) (pid : Int) (w : World) (h : RpC w b s) : Calls Try.prog 43 #[.pointer (some ⟨b, 0, none⟩), .int .i64 pid] w fun r w' => r = .returned (.int .i64 (ruE (gt s pid))) ∧ w' = w := by
  rcases pid_cases pid with hp | ⟨p, rfl⟩
  · rw [gt_out s pid hp]
    clear h
    unfold ruE
    rcases hp with h1 | h1
    · go_enter Try.func43, Try.ntmps43
      go_wp2
      go_ret
      exact ⟨rfl, rfl⟩
    · have h0 : ¬ pid < 0 := by omega
      go_enter Try.func43, Try.ntmps43
      go_wp2
      go_ret
      exact ⟨rfl, rfl⟩
  · rw [gt_in]
    have c0 := h.st p
    by_cases hx : stI (s p) = 1
    · have he : ruE (s p) = 0 := by
        cases hs : s p with
        | no => rw [hs] at hx; cases hx
        | run q => rfl
        | zom q n => rw [hs] at hx; cases hx
      rw [he]
      rw [hx] at c0
      clear h hx he
      obtain ⟨p, hp⟩ := p
      have h1 : ¬ (p : Int) < 0 := by omega
      have h2 : (p : Int) < 6 := by omega
      have h3 : ¬ (6 : Int) ≤ p := by omega
      simp only at *
      go_enter Try.func43, Try.ntmps43
      go_wp2
      go_ret
      exact ⟨rfl, rfl⟩
    · have he : ruE (s p) = 5 := by
        cases hs : s p with
        | no => rfl
        | run q => rw [hs] at hx; exact absurd rfl hx
        | zom q n => rfl
      have hb : (stI (s p) != 1) = true := by simpa using hx
      rw [he]
      generalize stI (s p) = x at *
      clear h hx he
      obtain ⟨p, hp⟩ := p
      have h1 : ¬ (p : Int) < 0 := by omega
      have h2 : (p : Int) < 6 := by omega
      have h3 : ¬ (6 : Int) ≤ p := by omega
      simp only at *
      go_enter Try.func43, Try.ntmps43
      go_wp2
      go_ret
      exact ⟨rfl, rfl⟩
set_option maxHeartbeats 2000000 in
theorem rrunning_any (b : Nat) (s : Pt) (w : World) (h : RpC w b s) : Calls Try.prog 31 #[.pointer (some ⟨b, 0, none⟩)] w fun r w' => ∃ v, r = .returned v ∧ w'.ownsRow w.heap.size 3 1 v (thL (fun i => runs (s i)) 6).length ((thL (fun i => runs (s i)) 6).map slI) ∧ Below w.heap.size w w' := by
  have hlt := h.l
  have HM : Hid3 (∀ (k : Nat) W, Below w.heap.size w W → Calls Try.prog 26 #[.pointer (some ⟨b, 0, none⟩), .int .i64 (k : Int)] W fun r w' => r = .returned (.int .u8 (stI (gt s k))) ∧ w' = W) := ⟨fun k W hW => rstate_any b s k W (h.below hW hlt)⟩
  obtain ⟨i0, hi0, hz0, hz1, hz2⟩ := iparts infoI
  have hru : Hid3 (∀ x : Pr, runs x = decide (stI x = 1)) := ⟨fun x => by cases x <;> rfl⟩
  clear h
  go_enter Try.func31, Try.ntmps31
  go_wp2
  go_loopw [3, 4] (fun v i wr => ∃ k : Nat, k ≤ 6 ∧ i = .int .i64 k ∧ wr.ownsRow w.heap.size 3 1 v (thL (fun i => runs (s i)) k).length ((thL (fun i => runs (s i)) k).map slI) ∧ Below w.heap.size w wr) (fun _ i _ => 6 - (intOf i).toNat)
  case atStart => exact ⟨0, by omega, rfl, World.ownsRow_nil _ _ _ _, Below.refl _ _⟩
  case round =>
    obtain ⟨k, hk, rfl, hown, hB⟩ := hrel
    obtain ⟨a0, cap0, rfl⟩ := slice_of hown
    have hsb := hB.size
    have HO := Hid3.mk hown
    have cM := HM.out k wr hB
    have HB := Hid3.mk hB
    by_cases hk6 : k < 6
    · have hkz : (k : Int) < 6 := by omega
      have hsn := thL_snoc (fun i => runs (s i)) k hk6
      have hg : gt s k = s ⟨k, hk6⟩ := gt_in s ⟨k, hk6⟩
      rw [hg] at cM
      have hL := thL_len (fun i => runs (s i)) k
      rw [hru.out] at hsn
      by_cases hf : stI (s ⟨k, hk6⟩) = 1
      · rw [decide_eq_true hf] at hsn
        rw [hf] at cM
        have HL : Hid3 (thL (fun i => runs (s i)) (k + 1) = thL (fun i => runs (s i)) k ++ [⟨k, hk6⟩]) := ⟨by rw [hsn]; simp⟩
        clear hf hB hsn hg
        go_wp2_with fail
        refine cM.mono ?_
        rintro r W ⟨rfl, hW⟩
        rw [hW]
        clear cM hW
        go_wp2_with (at_builtin; refine wpList_append_own _ rfl _ _ 33 rfl w.heap.size 3 i0 (.int .i64 0) 1 8 Try.underlying33 hi0 hz0 hz1 hz2 rfl (by decide) _ _ _ rfl (hown.alloc _) ⟨wr.heap.size, 0, none⟩ 1 1 [.int .i64 (k : Int)] rfl rfl (cell_one wr (.int .i64 (k : Int)) 3) (by simp [Value.oneCell']) (by unfold maxLen; omega) (by omega) (by simp; omega) ?_; intro v' w1 hown' hgrow _)
        have hb3 : Below w.heap.size w w1 := (HB.out.alloc HB.out.size _).grown hgrow (by simp; omega) (fun j hj => (hown.lt j hj).1)
        go_roundw
        case rel =>
          refine ⟨k + 1, by omega, by go_num, ?_, hb3⟩
          rw [HL.out, List.length_append, List.map_append]
          exact hown'
        case measure => simp [intOf]; omega
      · rw [decide_eq_false hf] at hsn
        have hb : (stI (s ⟨k, hk6⟩) == 1) = false := by rw [beq_eq_false_iff_ne]; exact hf
        have HL : Hid3 (thL (fun i => runs (s i)) (k + 1) = thL (fun i => runs (s i)) k) := ⟨by rw [hsn]; simp⟩
        generalize stI (s ⟨k, hk6⟩) = x at *
        clear hf hB hsn hg hown
        go_wp2_with fail
        refine cM.mono ?_
        rintro r W ⟨rfl, hW⟩
        rw [hW]
        clear cM hW
        go_wp2
        go_roundw
        case rel => exact ⟨k + 1, by omega, by go_num, by rw [HL.out]; exact HO.out, HB.out⟩
        case measure => simp [intOf]; omega
    · have hkz : ¬ (k : Int) < 6 := by omega
      obtain rfl : k = 6 := by omega
      clear cM
      go_wp2
      go_ret
      exact ⟨_, rfl, HO.out, HB.out⟩
set_option maxHeartbeats 2000000 in
theorem rchildren_any (b : Nat) (s : Pt) (pid : Int) (w : World) (h : RpC w b s) : Calls Try.prog 29 #[.pointer (some ⟨b, 0, none⟩), .int .i64 pid] w fun r w' => ∃ v, r = .returned v ∧ w'.ownsRow w.heap.size 3 1 v (chA s pid).length ((chA s pid).map slI) ∧ Below w.heap.size w w' := by
  have hlt := h.l
  by_cases hg : gt s pid = .no
  · have cM := rstate_any b s pid w h
    rw [hg] at cM
    unfold stI at cM
    rw [chA_no s pid hg]
    clear h hg
    go_enter Try.func29, Try.ntmps29
    go_wp2_with fail
    go_loopw [5, 6] (fun v i wr => v = .slice none 0 0 ∧ i = .int .i64 1 ∧ wr = w) (fun _ i _ => 1)
    case atStart => exact ⟨rfl, rfl, rfl⟩
    case round =>
      obtain ⟨rfl, rfl, rfl⟩ := hrel
      go_wp2_with fail
      refine cM.mono ?_
      rintro r W ⟨rfl, hW⟩
      rw [hW]
      clear cM hW
      go_wp2
      go_ret
      exact ⟨_, rfl, World.ownsRow_nil _ _ _ _, Below.refl _ _⟩
  · obtain ⟨p, rfl, hp, hch⟩ := chA_of s pid hg
    rw [hch]
    unfold chs
    have HM : Hid3 (∀ W, Below w.heap.size w W → Calls Try.prog 26 #[.pointer (some ⟨b, 0, none⟩), .int .i64 p.1] W fun r w' => r = .returned (.int .u8 (stI (s p))) ∧ w' = W) := ⟨fun W hW => by
      have := rstate_any b s p.1 W (h.below hW hlt)
      rw [gt_in] at this
      exact this⟩
    have hb0 : (stI (s p) != 0) = true := by
      have : stI (s p) ≠ 0 := fun e => hp ((stI_0 _).1 e)
      simpa using this
    have HC := Hid3.mk h
    obtain ⟨i0, hi0, hz0, hz1, hz2⟩ := iparts infoI
    generalize stI (s p) = sp at *
    clear h hg hch hp
    go_enter Try.func29, Try.ntmps29
    go_wp2_with fail
    go_loopw [5, 6] (fun v i wr => ∃ k : Nat, 1 ≤ k ∧ k ≤ 6 ∧ i = .int .i64 k ∧ wr.ownsRow w.heap.size 3 1 v (thL (qCh s p) k).length ((thL (qCh s p) k).map slI) ∧ Below w.heap.size w wr) (fun _ i _ => 6 - (intOf i).toNat)
    case atStart => exact ⟨1, by omega, by omega, rfl, World.ownsRow_nil _ _ _ _, Below.refl _ _⟩
    case round =>
      obtain ⟨k, hk1, hk, rfl, hown, hB⟩ := hrel
      obtain ⟨a0, cap0, rfl⟩ := slice_of hown
      have hsb := hB.size
      have HO := Hid3.mk hown
      have cM := HM.out wr hB
      have HB := Hid3.mk hB
      by_cases hk6 : k < 6
      · have hkz : (k : Int) < 6 := by omega
        have hsn := thL_snoc (qCh s p) k hk6
        have hL := thL_len (qCh s p) k
        have hcs := HC.out.below hB hlt
        have c0 := hcs.st ⟨k, hk6⟩
        have c1 := hcs.ra ⟨k, hk6⟩
        have hqq : qCh s p ⟨k, hk6⟩ = decide (paI (s ⟨k, hk6⟩) = p.1) := by
          have hne : (⟨k, hk6⟩ : Fin 6) ≠ 0 := fun e => by have := congrArg Fin.val e; simp at this; omega
          simp [qCh, hne]
        rw [hqq] at hsn
        clear hqq hcs
        simp only at c0 c1
        by_cases hx : s ⟨k, hk6⟩ = .no
        · rw [hx] at c0 c1 hsn
          have HL : Hid3 (thL (qCh s p) (k + 1) = thL (qCh s p) k) := ⟨by rw [hsn]; simp [paI]⟩
          simp only [stI, raI] at c0 c1
          clear hx hsn hB hown
          go_wp2_with fail
          refine cM.mono ?_
          rintro r W ⟨rfl, hW⟩
          rw [hW]
          clear cM hW
          go_wp2
          go_roundw
          case rel => exact ⟨k + 1, by omega, by omega, by go_num, by rw [HL.out]; exact HO.out, HB.out⟩
          case measure => simp [intOf]; omega
        · have hb : (stI (s ⟨k, hk6⟩) != 0) = true := by
            have : stI (s ⟨k, hk6⟩) ≠ 0 := fun e => hx ((stI_0 _).1 e)
            simpa using this
          rw [raI_pa _ hx] at c1
          generalize stI (s ⟨k, hk6⟩) = x at *
          generalize paI (s ⟨k, hk6⟩) = y at *
          by_cases hy : y = p.1
          · subst hy
            rw [decide_eq_true rfl] at hsn
            have HL : Hid3 (thL (qCh s p) (k + 1) = thL (qCh s p) k ++ [⟨k, hk6⟩]) := ⟨by rw [hsn]; simp⟩
            clear hx hsn hB
            go_wp2_with fail
            refine cM.mono ?_
            rintro r W ⟨rfl, hW⟩
            rw [hW]
            clear cM hW
            go_wp2_with (at_builtin; refine wpList_append_own _ rfl _ _ 33 rfl w.heap.size 3 i0 (.int .i64 0) 1 8 Try.underlying33 hi0 hz0 hz1 hz2 rfl (by decide) _ _ _ rfl (hown.alloc _) ⟨wr.heap.size, 0, none⟩ 1 1 [.int .i64 (k : Int)] rfl rfl (cell_one wr (.int .i64 (k : Int)) 3) (by simp [Value.oneCell']) (by unfold maxLen; omega) (by omega) (by simp; omega) ?_; intro v' w1 hown' hgrow _)
            have hb3 : Below w.heap.size w w1 := (HB.out.alloc HB.out.size _).grown hgrow (by simp; omega) (fun j hj => (hown.lt j hj).1)
            go_roundw
            case rel =>
              refine ⟨k + 1, by omega, by omega, by go_num, ?_, hb3⟩
              rw [HL.out, List.length_append, List.map_append]
              exact hown'
            case measure => simp [intOf]; omega
          · have hyb : (y == (p.1 : Int)) = false := by rw [beq_eq_false_iff_ne]; exact hy
            rw [decide_eq_false hy] at hsn
            have HL : Hid3 (thL (qCh s p) (k + 1) = thL (qCh s p) k) := ⟨by rw [hsn]; simp⟩
            clear hx hsn hB hown hy
            go_wp2_with fail
            refine cM.mono ?_
            rintro r W ⟨rfl, hW⟩
            rw [hW]
            clear cM hW
            go_wp2
            go_roundw
            case rel => exact ⟨k + 1, by omega, by omega, by go_num, by rw [HL.out]; exact HO.out, HB.out⟩
            case measure => simp [intOf]; omega
      · have hkz : ¬ (k : Int) < 6 := by omega
        obtain rfl : k = 6 := by omega
        clear hown hB
        go_wp2_with fail
        refine cM.mono ?_
        rintro r W ⟨rfl, hW⟩
        rw [hW]
        clear cM hW
        go_wp2
        go_ret
        exact ⟨_, rfl, HO.out, HB.out⟩
end Go.Proofs.Ytcnddmadmdgplaa
