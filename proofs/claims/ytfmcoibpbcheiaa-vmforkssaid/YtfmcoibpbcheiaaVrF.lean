/- The document's vm: Map, Unmap, at, Peek, whatever they are asked. The document's vm: Peek, Refs, next, Left. The document's vm: needs, next, Left, Peek, End. The document's vm: next, Peek, End. -/
import Derived.Test.YtfmcoibpbcheiaaVrB
namespace Go.Proofs.Ytfmcoibpbcheiaa
open Go.RowKit Go.Maps
set_option linter.unusedVariables false
set_option maxRecDepth 100000
def umS (s : Vs) (p : Fin 6) (k : Int) : Vs := { s with pg := upF s.pg p (upI (s.pg p) k none) }
set_option maxHeartbeats 1000000 in
theorem rmap_bad (B : Nat) (o : Ro) (N : Nat) (s : Vs) (L : List Int) (pid k : Int) (w : World) (h : Rb B w o N s L) (he : mapE s pid k ≠ 0) : Calls Try.prog 49 #[.pointer (some ⟨o.b, 0, none⟩), .int .i64 pid, .int .i64 k] w fun r w' => r = .returned (.int .i64 (mapE s pid k)) ∧ w' = w := by
  have cF := rmay_any B o N s L pid w h
  unfold mapE mayE at *
  rcases prc_cases s pid with ⟨h1, h2⟩ | ⟨p, h1, rfl, h2⟩
  · rw [h1] at cF ⊢
    simp only at cF ⊢
    clear h he h2
    go_enter Try.func49, Try.ntmps49
    go_wp2_with fail
    refine cF.mono ?_
    rintro r0 W ⟨rfl, hW⟩
    rw [hW]
    clear cF hW
    go_wp2
    go_ret
    exact ⟨rfl, rfl⟩
  · rw [h1] at cF he ⊢
    simp only at cF he ⊢
    by_cases hk : 0 ≤ k ∧ k < 16
    · rw [if_pos hk] at he ⊢
      obtain ⟨i, rfl⟩ := Int.eq_ofNat_of_zero_le hk.1
      have hi : i < 16 := by omega
      by_cases hn : s.pg p i = none
      · rw [if_pos hn] at he; exact absurd rfl he
      · rw [if_neg hn]
        obtain ⟨c1, _, _⟩ := h.pg p i hi
        have hs : (s.pg p i).isSome = true := by
          cases e : s.pg p i with
          | none => exact absurd e hn
          | some f => rfl
        rw [hs] at c1
        clear h he hn hs h1 h2 hk
        obtain ⟨p, hp⟩ := p
        have h5 : (p : Int) < 6 := by omega
        have h6 : ¬ (i : Int) < 0 := by omega
        have h7 : ¬ (16 : Int) ≤ i := by omega
        have h8 : (i : Int) < 16 := by omega
        simp only at *
        go_enter Try.func49, Try.ntmps49
        go_wp2_with fail
        refine cF.mono ?_
        rintro r0 W ⟨rfl, hW⟩
        rw [hW]
        clear cF hW
        go_wp2
        go_ret
        exact ⟨rfl, rfl⟩
    · rw [if_neg hk]
      have hk2 : k < 0 ∨ (¬ k < 0 ∧ 16 ≤ k) := by omega
      clear h he hk h1 h2
      rcases hk2 with hk2 | ⟨hk2, hk3⟩
      all_goals
        go_enter Try.func49, Try.ntmps49
        go_wp2_with fail
        refine cF.mono ?_
        rintro r0 W ⟨rfl, hW⟩
        rw [hW]
        clear cF hW
        go_wp2
        go_ret
        exact ⟨rfl, rfl⟩
set_option maxHeartbeats 1000000 in
theorem runmap_bad (B : Nat) (o : Ro) (N : Nat) (s : Vs) (L : List Int) (pid k : Int) (w : World) (h : Rb B w o N s L) (he : unmapE s pid k ≠ 0) : Calls Try.prog 51 #[.pointer (some ⟨o.b, 0, none⟩), .int .i64 pid, .int .i64 k] w fun r w' => r = .returned (.int .i64 (unmapE s pid k)) ∧ w' = w := by
  have cF := rmay_any B o N s L pid w h
  unfold unmapE mayE at *
  rcases prc_cases s pid with ⟨h1, h2⟩ | ⟨p, h1, rfl, h2⟩
  · rw [h1] at cF ⊢
    simp only at cF ⊢
    clear h he h2
    go_enter Try.func51, Try.ntmps51
    go_wp2_with fail
    refine cF.mono ?_
    rintro r0 W ⟨rfl, hW⟩
    rw [hW]
    clear cF hW
    go_wp2
    go_ret
    exact ⟨rfl, rfl⟩
  · rw [h1] at cF he ⊢
    simp only at cF he ⊢
    by_cases hk : 0 ≤ k ∧ k < 16
    · rw [if_pos hk] at he ⊢
      obtain ⟨i, rfl⟩ := Int.eq_ofNat_of_zero_le hk.1
      have hi : i < 16 := by omega
      by_cases hn : s.pg p i = none
      · rw [if_pos hn]
        obtain ⟨c1, _, _⟩ := h.pg p i hi
        rw [hn] at c1
        clear h he hn h1 h2 hk
        obtain ⟨p, hp⟩ := p
        have h5 : (p : Int) < 6 := by omega
        have h6 : ¬ (i : Int) < 0 := by omega
        have h7 : ¬ (16 : Int) ≤ i := by omega
        have h8 : (i : Int) < 16 := by omega
        simp only [Option.isSome_none] at *
        go_enter Try.func51, Try.ntmps51
        go_wp2_with fail
        refine cF.mono ?_
        rintro r0 W ⟨rfl, hW⟩
        rw [hW]
        clear cF hW
        go_wp2
        go_ret
        exact ⟨rfl, rfl⟩
      · rw [if_neg hn] at he; exact absurd rfl he
    · rw [if_neg hk]
      have hk2 : k < 0 ∨ (¬ k < 0 ∧ 16 ≤ k) := by omega
      clear h he hk h1 h2
      rcases hk2 with hk2 | ⟨hk2, hk3⟩
      all_goals
        go_enter Try.func51, Try.ntmps51
        go_wp2_with fail
        refine cF.mono ?_
        rintro r0 W ⟨rfl, hW⟩
        rw [hW]
        clear cF hW
        go_wp2
        go_ret
        exact ⟨rfl, rfl⟩
set_option maxHeartbeats 1000000 in
theorem runmap_ok (B : Nat) (o : Ro) (N : Nat) (s : Vs) (L : List Int) (p : Fin 6) (k : Nat) (w : World) (h : Rb B w o N s L) (hp : s.has p = true) (hk : k < 16) (hn : s.pg p k ≠ none) : Calls Try.prog 51 #[.pointer (some ⟨o.b, 0, none⟩), .int .i64 p.1, .int .i64 k] w fun r w' => r = .returned (.int .i64 0) ∧ Rb B w' o N (umS s p k) L ∧ Apart (XR o) w w' := by
  have cF := rmay_any B o N s L p.1 w h
  have em : mayE s p.1 = 0 := by unfold mayE; rw [prc_has0 s p hp]
  rw [em] at cF
  obtain ⟨c1, c2, f⟩ := h.pg p k hk
  have hs : (s.pg p k).isSome = true := by
    cases e : s.pg p k with
    | none => exact absurd e hn
    | some f => rfl
  rw [hs] at c1
  have HV : Hid3 (Rb B ((w.setCell ⟨o.b, 7 + p.1 * 32 + k * 2, none⟩ (.bool false)).setCell ⟨o.b, 7 + p.1 * 32 + k * 2 + 1, none⟩ (.int .i64 0)) o N (umS s p k) L) := ⟨h.setpg p k hk none⟩
  have HA : Hid3 (Apart (XR o) w ((w.setCell ⟨o.b, 7 + p.1 * 32 + k * 2, none⟩ (.bool false)).setCell ⟨o.b, 7 + p.1 * 32 + k * 2 + 1, none⟩ (.int .i64 0))) := ⟨(Apart.at (X := XR o) w o.b _ _ (.inl rfl)).trans (Apart.at (X := XR o) _ o.b _ _ (.inl rfl))⟩
  have f0 := f (7 + p.1 * 32 + k * 2)
  have f1 := f (7 + p.1 * 32 + k * 2 + 1)
  generalize pgC (s.pg p k) = x at *
  clear h hp hn em f hs
  obtain ⟨p, hp⟩ := p
  have h3 : ¬ (p : Int) < 0 := by omega
  have h5 : (p : Int) < 6 := by omega
  have h6 : ¬ (k : Int) < 0 := by omega
  have h7 : ¬ (16 : Int) ≤ k := by omega
  have h8 : (k : Int) < 16 := by omega
  simp only at *
  go_enter Try.func51, Try.ntmps51
  go_wp2_with fail
  refine cF.mono ?_
  rintro r0 W ⟨rfl, hW⟩
  rw [hW]
  clear cF hW
  go_wp2
  go_ret
  exact ⟨rfl, HV.out, HA.out⟩
def atE (s : Vs) (pid addr : Int) : Int := match prc s pid with | none => 5 | some p => if inA addr 1 = false then 2 else if s.pg p ((addr.toNat / 32 : Nat) : Int) = none then 10 else 0
theorem inA_no {addr : Int} (h : inA addr 1 = false) : addr < 0 ∨ (¬ addr < 0 ∧ 512 ≤ addr) := by
  by_cases c : addr < 0
  · exact .inl c
  · refine .inr ⟨c, ?_⟩
    by_cases d : 512 ≤ addr
    · exact d
    · exfalso
      have : inA addr 1 = true := by
        unfold inA
        rw [decide_eq_true (by omega), decide_eq_true (by omega), decide_eq_true (by omega)]
        rfl
      rw [this] at h
      cases h
theorem inA_yes {addr : Int} (h : inA addr 1 = true) : ∃ a : Nat, addr = (a : Int) ∧ a < 512 := by
  have : (decide (0 ≤ addr) && decide (addr < 512) && decide (((1 : Nat) : Int) ≤ 512 - addr)) = true := h
  simp only [Bool.and_eq_true, decide_eq_true_eq] at this
  exact ⟨addr.toNat, by omega, by omega⟩
set_option maxHeartbeats 1000000 in
theorem rat_any (B : Nat) (o : Ro) (N : Nat) (s : Vs) (L : List Int) (pid addr : Int) (w : World) (h : Rb B w o N s L) : Calls Try.prog 62 #[.pointer (some ⟨o.b, 0, none⟩), .int .i64 pid, .int .i64 addr] w fun r w' => r = .returned (.int .i64 (atE s pid addr)) ∧ w' = w := by
  have cF := rmay_any B o N s L pid w h
  unfold atE mayE at *
  rcases prc_cases s pid with ⟨h1, h2⟩ | ⟨p, h1, rfl, h2⟩
  · rw [h1] at cF ⊢
    simp only at cF ⊢
    clear h h2
    go_enter Try.func62, Try.ntmps62
    go_wp2_with fail
    refine cF.mono ?_
    rintro r0 W ⟨rfl, hW⟩
    rw [hW]
    clear cF hW
    go_wp2
    go_ret
    exact ⟨rfl, rfl⟩
  · rw [h1] at cF ⊢
    simp only at cF ⊢
    cases ha : inA addr 1 with
    | false =>
      rw [if_pos rfl]
      have hk2 := inA_no ha
      clear h ha h1 h2
      rcases hk2 with hk2 | ⟨hk2, hk3⟩
      all_goals
        go_enter Try.func62, Try.ntmps62
        go_wp2_with fail
        refine cF.mono ?_
        rintro r0 W ⟨rfl, hW⟩
        rw [hW]
        clear cF hW
        go_wp2
        go_ret
        exact ⟨rfl, rfl⟩
    | true =>
      rw [if_neg (by simp)]
      obtain ⟨a, rfl, ha5⟩ := inA_yes ha
      rw [Int.toNat_natCast]
      obtain ⟨c1, _, _⟩ := h.pg p (a / 32) (by omega)
      have hq1 : Int.tdiv (a : Int) 32 = ((a / 32 : Nat) : Int) := by rw [Int.tdiv_eq_ediv_of_nonneg (by omega)]; omega
      have hq2 : (a : Int) / 32 = ((a / 32 : Nat) : Int) := by omega
      have hd : ((a / 32 : Nat) : Int) < 16 := by omega
      have hd0 : ¬ ((a / 32 : Nat) : Int) < 0 := by omega
      have hd1 : a / 32 < 16 := by omega
      have h6 : ¬ (a : Int) < 0 := by omega
      have h7 : ¬ (512 : Int) ≤ a := by omega
      cases hn : s.pg p ((a / 32 : Nat) : Int) with
      | none =>
        rw [hn] at c1
        rw [if_pos rfl]
        clear h hn h1 h2 ha
        obtain ⟨p, hp⟩ := p
        have h5 : (p : Int) < 6 := by omega
        generalize a / 32 = d at *
        simp only [Option.isSome_none] at *
        go_enter Try.func62, Try.ntmps62
        go_wp2_with fail
        refine cF.mono ?_
        rintro r0 W ⟨rfl, hW⟩
        rw [hW]
        clear cF hW
        go_wp2
        go_ret
        exact ⟨rfl, rfl⟩
      | some f =>
        rw [hn] at c1
        rw [if_neg (by simp)]
        clear h hn h1 h2 ha
        obtain ⟨p, hp⟩ := p
        have h5 : (p : Int) < 6 := by omega
        generalize a / 32 = d at *
        simp only [Option.isSome_some] at *
        go_enter Try.func62, Try.ntmps62
        go_wp2_with fail
        refine cF.mono ?_
        rintro r0 W ⟨rfl, hW⟩
        rw [hW]
        clear cF hW
        go_wp2
        go_ret
        exact ⟨rfl, rfl⟩
end Go.Proofs.Ytfmcoibpbcheiaa
namespace Go.Proofs.Ytfmcoibpbcheiaa
open Go.RowKit Go.Maps
set_option linter.unusedVariables false
set_option maxRecDepth 100000
def isC (x j : Int) : Nat := if x ≠ 0 ∧ x - 1 = j then 1 else 0
def rcN (f : Int → Option Int) (j : Int) : Nat → Nat
  | 0 => 0
  | k + 1 => rcN f j k + isC (pgC (f (k : Int))) j
def rsum (pg : Fin 6 → Int → Option Int) (j : Int) : Nat → Nat
  | 0 => 0
  | i + 1 => rsum pg j i + if h : i < 6 then rcN (pg ⟨i, h⟩) j 16 else 0
theorem rcN_pk (f : Int → Option Int) (j : Int) (hj : 0 ≤ j) (hf : ∀ z v, f z = some v → -1 ≤ v) : ∀ n, rcN f j n = cnN (fun z => f z == some j) n
  | 0 => rfl
  | n + 1 => by
    rw [cnN_is, rcN, rcN_pk f j hj hf n]
    congr 1
    unfold isC is
    cases e : f (n : Int) with
    | none => rfl
    | some v =>
      have := hf _ _ e
      show (if v + 1 ≠ 0 ∧ v + 1 - 1 = j then 1 else 0) = _
      by_cases c : v = j
      · rw [if_pos ⟨by omega, by omega⟩, if_pos (by rw [c])]
      · rw [if_neg (fun x => c (by omega)), if_neg (fun x => c (by injection x))]
theorem rcN_neg (f : Int → Option Int) (j : Int) (hj : j < 0) (hf : ∀ z v, f z = some v → -1 ≤ v) : ∀ n, rcN f j n = 0
  | 0 => rfl
  | n + 1 => by
    rw [rcN, rcN_neg f j hj hf n]
    unfold isC
    cases e : f (n : Int) with
    | none => rfl
    | some v =>
      have := hf _ _ e
      show 0 + (if v + 1 ≠ 0 ∧ v + 1 - 1 = j then 1 else 0) = _
      rw [if_neg (fun x => by omega)]
def rfN (pg : Fin 6 → Int → Option Int) (j : Int) : Nat := if 0 ≤ j then cnt pg j else 0
theorem rsum_eq {N : Nat} {s : Vs} (h : Fr N s) (j : Int) : rsum s.pg j 6 = rfN s.pg j := by
  have hf : ∀ p z v, s.pg p z = some v → -1 ≤ v := fun p z v hv => by have := (h.pgs p z v hv).2; omega
  unfold rfN
  by_cases hj : 0 ≤ j
  · rw [if_pos hj]
    have e : ∀ p, rcN (s.pg p) j 16 = pk1 (s.pg p) j := fun p => rcN_pk _ _ hj (hf p) 16
    simp [rsum, e, cnt]
  · rw [if_neg hj]
    have e : ∀ p, rcN (s.pg p) j 16 = 0 := fun p => rcN_neg _ _ (by omega) (hf p) 16
    simp [rsum, e]
theorem isC_le (x j : Int) : isC x j ≤ 1 := by
  unfold isC
  split <;> omega
theorem rcN_le (f : Int → Option Int) (j : Int) : ∀ n, rcN f j n ≤ n
  | 0 => Nat.le_refl 0
  | n + 1 => by
    have := rcN_le f j n
    have := isC_le (pgC (f (n : Int))) j
    rw [rcN]
    omega
theorem rsum_le (pg : Fin 6 → Int → Option Int) (j : Int) : ∀ i, rsum pg j i ≤ 16 * i
  | 0 => Nat.le_refl 0
  | i + 1 => by
    have := rsum_le pg j i
    rw [rsum]
    split
    · have := rcN_le (pg ⟨i, by assumption⟩) j 16
      omega
    · omega
set_option maxHeartbeats 2000000 in
theorem rrefs_any (B : Nat) (o : Ro) (N : Nat) (s : Vs) (L : List Int) (j : Int) (w : World) (h : Rb B w o N s L) (hF : Fr N s) : Calls Try.prog 32 #[.pointer (some ⟨o.b, 0, none⟩), .int .i64 j] w fun r w' => r = .returned (.int .i64 (rfN s.pg j)) ∧ w' = w := by
  rw [← rsum_eq hF]
  have HP : Hid3 (∀ (p k : Nat) (hp : p < 6) (hk : k < 16), w.cell? ⟨o.b, 7 + p * 32 + k * 2 + 1, none⟩ = some (.int .i64 (pgC (s.pg ⟨p, hp⟩ k))) ∧ -1 ≤ pgC (s.pg ⟨p, hp⟩ k) - 1 ∧ pgC (s.pg ⟨p, hp⟩ k) ≤ 100) := ⟨fun p k hp hk => ⟨(h.pg ⟨p, hp⟩ k hk).2.1, by
    have hN := hF.hi
    cases e : s.pg ⟨p, hp⟩ k with
    | none => exact ⟨by show -1 ≤ (0 : Int) - 1; omega, by show (0 : Int) ≤ 100; omega⟩
    | some f =>
      have := (hF.pgs _ _ _ e).2
      exact ⟨by show -1 ≤ f + 1 - 1; omega, by show f + 1 ≤ 100; omega⟩⟩⟩
  have HS : Hid3 (∀ i, rsum s.pg j i ≤ 16 * i) := ⟨rsum_le s.pg j⟩
  have HC : Hid3 (∀ p n, rcN (s.pg p) j n ≤ n) := ⟨fun p => rcN_le (s.pg p) j⟩
  have HN1 : Hid3 (∀ (i : Nat) (hi : i < 6), rsum s.pg j (i + 1) = rsum s.pg j i + rcN (s.pg ⟨i, hi⟩) j 16) := ⟨fun i hi => by rw [rsum, dif_pos hi]⟩
  have HN2 : Hid3 (∀ p n, rcN (s.pg p) j (n + 1) = rcN (s.pg p) j n + isC (pgC (s.pg p (n : Int))) j) := ⟨fun p n => rfl⟩
  have HR0 : Hid3 (rsum s.pg j 0 = 0) := ⟨rfl⟩
  have HC0 : Hid3 (∀ p, rcN (s.pg p) j 0 = 0) := ⟨fun p => rfl⟩
  obtain ⟨R, hR⟩ : ∃ R : Nat → Nat, R = rsum s.pg j := ⟨_, rfl⟩
  obtain ⟨C, hC⟩ : ∃ C : Fin 6 → Nat → Nat, C = fun p => rcN (s.pg p) j := ⟨_, rfl⟩
  have eC : ∀ p, rcN (s.pg p) j = C p := fun p => by rw [hC]
  rw [← hR] at HS HN1 HR0 ⊢
  simp only [eC] at HC HN1 HN2 HC0
  clear h hF hR hC eC
  go_enter Try.func32, Try.ntmps32
  go_wp2_with fail
  go_loopw [5, 6] (fun x i W => ∃ p : Nat, p ≤ 6 ∧ i = .int .i64 (p : Int) ∧ x = .int .i64 (R p) ∧ W = w) (fun _ i _ => 7 - (intOf i).toNat)
  case atStart => exact ⟨0, by omega, rfl, by rw [HR0.out]; rfl, rfl⟩
  case round =>
    obtain ⟨p, hp, rfl, rfl, rfl⟩ := hrel
    by_cases hp6 : p < 6
    · have hpz : (p : Int) < 6 := by omega
      have hRp := HS.out p
      go_wp2_with fail
      go_loopw [5, 7] (fun x i W => ∃ k : Nat, k ≤ 16 ∧ i = .int .i64 (k : Int) ∧ x = .int .i64 ((R p + C ⟨p, hp6⟩ k : Nat) : Int) ∧ W = wr) (fun _ i _ => 17 - (intOf i).toNat)
      case atStart => exact ⟨0, by omega, rfl, by rw [HC0.out]; rfl, rfl⟩
      case round =>
        obtain ⟨k, hk, rfl, rfl, rfl⟩ := hrel
        by_cases hk16 : k < 16
        · have hkz : (k : Int) < 16 := by omega
          obtain ⟨c, x0, x1⟩ := HP.out p k hp6 hk16
          have hCk := HC.out ⟨p, hp6⟩ k
          have hn := HN2.out ⟨p, hp6⟩ k
          have hw1 : IntKind.i64.wrap ((k : Int) + 1) = ((k + 1 : Nat) : Int) := by rw [IntKind.wrap_i64]; omega
          have hw2 : IntKind.i64.wrap (((R p + C ⟨p, hp6⟩ k : Nat) : Int) + 1) = ((R p + C ⟨p, hp6⟩ k + 1 : Nat) : Int) := by rw [IntKind.wrap_i64]; omega
          generalize pgC (s.pg ⟨p, hp6⟩ (k : Int)) = x at *
          have hw3 : IntKind.i64.wrap (x - 1) = x - 1 := by rw [IntKind.wrap_i64]; omega
          have HX : Hid3 (C ⟨p, hp6⟩ (k + 1) = C ⟨p, hp6⟩ k + isC x j) := ⟨hn⟩
          generalize hz : R p + C ⟨p, hp6⟩ k = z at *
          have HZ := Hid3.mk hz
          clear hn hCk hRp hz
          by_cases e0 : x = 0
          · subst e0
            have hi : isC 0 j = 0 := by unfold isC; rw [if_neg (fun c => c.1 rfl)]
            have HI := Hid3.mk hi
            clear hi hw3 x0 x1
            go_wp2
            go_roundw
            case rel => exact ⟨k + 1, by omega, by first | rfl | trivial, by rw [HX.out, HI.out, Nat.add_zero, HZ.out], by first | rfl | trivial⟩
            case measure => simp [intOf]; omega
          · by_cases e1 : x - 1 = j
            · have hi : isC x j = 1 := by unfold isC; rw [if_pos ⟨e0, e1⟩]
              have HI := Hid3.mk hi
              clear hi
              have e3 : ¬ (x = 0) := e0
              rw [e1] at hw3
              go_wp2
              go_roundw
              case rel => exact ⟨k + 1, by omega, by first | rfl | trivial, by rw [HX.out, HI.out, ← Nat.add_assoc, HZ.out]; simp, by first | rfl | trivial⟩
              case measure => simp [intOf]; omega
            · have hi : isC x j = 0 := by unfold isC; rw [if_neg (fun c => e1 c.2)]
              have HI := Hid3.mk hi
              clear hi
              have e5 : ¬ j = x - 1 := fun c => e1 c.symm
              have e7 : ¬ x = j + 1 := fun c => e1 (by omega)
              have e8 : ¬ j + 1 = x := fun c => e1 (by omega)
              have e4 : (x - 1 == j) = false := by simpa using e1
              clear x0 x1
              go_wp2
              go_roundw
              case rel => exact ⟨k + 1, by omega, by first | rfl | trivial, by rw [HX.out, HI.out, Nat.add_zero, HZ.out], by first | rfl | trivial⟩
              case measure => simp [intOf]; omega
        · have hkz : ¬ (k : Int) < 16 := by omega
          have e : k = 16 := by omega
          have hw1 : IntKind.i64.wrap ((p : Int) + 1) = ((p + 1 : Nat) : Int) := by rw [IntKind.wrap_i64]; omega
          have HE : Hid3 (((R p + C ⟨p, hp6⟩ k : Nat) : Int) = ((R (p + 1) : Nat) : Int)) := ⟨by rw [e, HN1.out p hp6]⟩
          rw [HE.out]
          clear e hk
          generalize (k : Int) = kk at *
          go_wp2
          go_roundw
          case rel => exact ⟨p + 1, by omega, by first | rfl | trivial, by first | rfl | trivial, by first | rfl | trivial⟩
          case measure => simp [intOf]; omega
    · have hpz : ¬ (p : Int) < 6 := by omega
      have e : p = 6 := by omega
      have HE : Hid3 ((R p : Int) = (R 6 : Int)) := ⟨by rw [e]⟩
      rw [HE.out]
      clear e hp hp6
      generalize (p : Int) = pp at *
      go_wp2
      go_ret
      exact ⟨rfl, rfl⟩
end Go.Proofs.Ytfmcoibpbcheiaa
namespace Go.Proofs.Ytfmcoibpbcheiaa
open Go.RowKit Go.Maps
set_option linter.unusedVariables false
set_option maxRecDepth 100000
theorem rfN_nat {N : Nat} {s : Vs} (h : Fr N s) (j : Nat) (hj : j < 64) : ((rfN s.pg (j : Int) : Nat) : Int) = s.rf.getD j 0 := by
  unfold rfN
  rw [if_pos (by omega), h.rf j hj]
theorem rfN_le {N : Nat} {s : Vs} (h : Fr N s) (j : Int) : rfN s.pg j ≤ 96 := by
  unfold rfN
  split
  · exact cnt_le _ _
  · omega
set_option maxHeartbeats 2000000 in
theorem rneeds_any (B : Nat) (o : Ro) (N : Nat) (s : Vs) (L : List Int) (p : Fin 6) (k : Nat) (f : Int) (w : World) (h : Rb B w o N s L) (hF : Fr N s) (hk : s.pg p k = some f) : Calls Try.prog 74 #[.pointer (some ⟨o.b, 0, none⟩), .agg #[.bool true, .int .i64 (f + 1)]] w fun r w' => r = .returned (.bool (!ownB s f)) ∧ Below w.heap.size w w' := by
  have hb := hF.pgs p k f hk
  have hN := hF.hi
  have ho := own_iff hF p k f hk
  have hpos : f ≠ -1 → 1 ≤ cnt s.pg f := fun c => by
    have e : ((k : Nat) : Int) = k := rfl
    exact cnt_pos (by omega : k < 16) hk
  by_cases c : f = -1
  · subst c
    have e : ownB s (-1) = false := rfl
    rw [e]
    clear h hF ho hpos hb hk e
    go_enter Try.func74, Try.ntmps74
    go_wp2
    go_ret
    exact ⟨rfl, below_new _ _⟩
  · have cR := fun W (kb : Below w.heap.size w W) => rrefs_any B o N s L f W (h.below kb) hF
    have e1 : rfN s.pg f = cnt s.pg f := by unfold rfN; rw [if_pos (by omega)]
    rw [e1] at cR
    have hp1 := hpos c
    have e2 : (!ownB s f) = decide ((1 : Int) < (cnt s.pg f : Nat)) := by
      by_cases d : cnt s.pg f = 1
      · rw [ho.2 ⟨by omega, d⟩, d]; rfl
      · have : ownB s f = false := by
          cases x : ownB s f with
          | false => rfl
          | true => exact absurd (ho.1 x).2 d
        rw [this]
        exact (decide_eq_true (by omega)).symm
    rw [e2]
    generalize ((cnt s.pg f : Nat) : Int) = n at *
    have hw : IntKind.i64.wrap (f + 1 - 1) = f := by rw [IntKind.wrap_i64]; omega
    have hw2 : f + 1 - 1 = f := by omega
    have hw4 : IntKind.i64.wrap f = f := by rw [IntKind.wrap_i64]; omega
    have hf1 : ¬ f + 1 = 0 := by omega
    clear h hF ho hpos hb hk e1 e2 hp1
    go_enter Try.func74, Try.ntmps74
    go_wp2_with fail
    refine (cR _ (below_new _ _)).mono ?_
    rintro r W ⟨rfl, rfl⟩
    go_wp2
    go_ret
    exact ⟨by simp [hf1], below_new _ _⟩
set_option maxHeartbeats 2000000 in
theorem rleft_any (B : Nat) (o : Ro) (N : Nat) (s : Vs) (L : List Int) (w : World) (h : Rb B w o N s L) (hF : Fr N s) : Calls Try.prog 33 #[.pointer (some ⟨o.b, 0, none⟩)] w fun r w' => r = .returned (.int .i64 (zr N s : Nat)) ∧ w' = w := by
  have hN := hF.hi
  have hm := h.cp.2
  have cS := rsize_any o.m o.g (32 * N) N L w h.m rfl
  have HR : Hid3 (∀ j : Nat, j < N → Calls Try.prog 32 #[.pointer (some ⟨o.b, 0, none⟩), .int .i64 (j : Nat)] w fun r w' => r = .returned (.int .i64 (s.rf.getD j 0)) ∧ w' = w) := ⟨fun j hj => by
    have := rrefs_any B o N s L j w h hF
    rw [rfN_nat hF j (by omega)] at this
    exact this⟩
  obtain ⟨f, hf⟩ : ∃ f : Nat → Int, f = fun k => s.rf.getD k 0 := ⟨_, rfl⟩
  have ef : ∀ j, s.rf.getD j 0 = f j := fun j => by rw [hf]
  have ez : zr N s = zrs f N := by rw [hf]
  simp only [ef] at HR
  rw [ez]
  have HZ : Hid3 (∀ k, zrs f k ≤ k) := ⟨zrs_le f⟩
  have HY : Hid3 (∀ k, f k = 0 → zrs f (k + 1) = zrs f k + 1) := ⟨zrs_yes f⟩
  have HN : Hid3 (∀ k, f k ≠ 0 → zrs f (k + 1) = zrs f k) := ⟨zrs_no f⟩
  have H0 : Hid3 (zrs f 0 = 0) := ⟨rfl⟩
  obtain ⟨Z, hZ⟩ : ∃ Z : Nat → Nat, Z = zrs f := ⟨_, rfl⟩
  rw [← hZ] at HZ HY HN H0 ⊢
  clear h hF hf ef ez hZ
  go_enter Try.func33, Try.ntmps33
  go_wp2_with fail
  go_loopw [3, 4] (fun x i W => ∃ k : Nat, k ≤ N ∧ i = .int .i64 (k : Int) ∧ x = .int .i64 (Z k : Nat) ∧ W = w) (fun _ i _ => 65 - (intOf i).toNat)
  case atStart => exact ⟨0, Nat.zero_le _, rfl, by rw [H0.out]; rfl, rfl⟩
  case round =>
    obtain ⟨k, hk, rfl, rfl, rfl⟩ := hrel
    go_wp2_with fail
    refine cS.mono ?_
    rintro r W ⟨rfl, rfl⟩
    by_cases hkN : k < N
    · have hkz : (k : Int) < (N : Int) := by omega
      have cR := HR.out k hkN
      have hz := HZ.out k
      have hw1 : IntKind.i64.wrap ((k : Int) + 1) = ((k + 1 : Nat) : Int) := by rw [IntKind.wrap_i64]; omega
      have hw2 : IntKind.i64.wrap (((Z k : Nat) : Int) + 1) = ((Z k + 1 : Nat) : Int) := by rw [IntKind.wrap_i64]; omega
      by_cases e : f k = 0
      · have HE := Hid3.mk (HY.out k e)
        rw [e] at cR
        clear e hz
        go_wp2_with fail
        refine cR.mono ?_
        rintro r W ⟨rfl, rfl⟩
        go_wp2
        go_roundw
        case rel => exact ⟨k + 1, by omega, by first | rfl | trivial, by rw [HE.out]; simp, by first | rfl | trivial⟩
        case measure => simp [intOf]; omega
      · have HE := Hid3.mk (HN.out k e)
        generalize f k = y at *
        clear hz
        go_wp2_with fail
        refine cR.mono ?_
        rintro r W ⟨rfl, rfl⟩
        go_wp2
        go_roundw
        case rel => exact ⟨k + 1, by omega, by first | rfl | trivial, by rw [HE.out], by first | rfl | trivial⟩
        case measure => simp [intOf]; omega
    · have hkz : ¬ (k : Int) < (N : Int) := by omega
      have e : k = N := by omega
      have HE : Hid3 (((Z k : Nat) : Int) = ((Z N : Nat) : Int)) := ⟨by rw [e]⟩
      rw [HE.out]
      clear e hk hkN
      generalize (k : Int) = kk at *
      go_wp2
      go_ret
      exact ⟨rfl, rfl⟩
end Go.Proofs.Ytfmcoibpbcheiaa
namespace Go.Proofs.Ytfmcoibpbcheiaa
open Go.RowKit Go.Maps
set_option linter.unusedVariables false
set_option maxRecDepth 100000
/-- The next frame, or that there is none. -/
def nxI (N : Nat) (s : Vs) : Int := if zr N s = 0 then -1 else (nx N s : Nat)
theorem fz_all (f : Nat → Int) (n : Nat) (h : zrs f n = 0) : ∀ j, j < n → f j ≠ 0 := fun j hj e => by
  have := zrs_pos f j e n hj
  omega
set_option maxHeartbeats 2000000 in
theorem rnext_any (B : Nat) (o : Ro) (N : Nat) (s : Vs) (L : List Int) (w : World) (h : Rb B w o N s L) (hF : Fr N s) : Calls Try.prog 75 #[.pointer (some ⟨o.b, 0, none⟩)] w fun r w' => r = .returned (.int .i64 (nxI N s)) ∧ w' = w := by
  have hN := hF.hi
  have hm := h.cp.2
  have cS := rsize_any o.m o.g (32 * N) N L w h.m rfl
  have HR : Hid3 (∀ j : Nat, j < N → Calls Try.prog 32 #[.pointer (some ⟨o.b, 0, none⟩), .int .i64 (j : Nat)] w fun r w' => r = .returned (.int .i64 (s.rf.getD j 0)) ∧ w' = w) := ⟨fun j hj => by
    have := rrefs_any B o N s L j w h hF
    rw [rfN_nat hF j (by omega)] at this
    exact this⟩
  have HI : Hid3 (∀ k : Nat, k ≤ N → (∀ j, j < k → s.rf.getD j 0 ≠ 0) → (k < N → s.rf.getD k 0 = 0 → (k : Int) = nxI N s) ∧ (k = N → (-1 : Int) = nxI N s)) := ⟨fun k hk hl => ⟨fun hkN h0 => by
    have hz := zrs_pos (fun k => s.rf.getD k 0) k h0 N hkN
    have hx := nx_ok hF.n hz
    have e := Nx.uniq (s := s) (t := s) (m := k) rfl ⟨hF.n, hkN, h0, hl⟩ hx
    unfold nxI
    rw [if_neg (show ¬ zr N s = 0 by have : zr N s = zrs (fun k => s.rf.getD k 0) N := rfl; omega), e], fun e => by
    subst e
    unfold nxI
    rw [if_pos (zrs_zero _ _ hl)]⟩⟩
  obtain ⟨f, hf⟩ : ∃ f : Nat → Int, f = fun k => s.rf.getD k 0 := ⟨_, rfl⟩
  have ef : ∀ j, s.rf.getD j 0 = f j := fun j => by rw [hf]
  simp only [ef] at HR HI
  generalize nxI N s = R at *
  clear h hF hf ef
  go_enter Try.func75, Try.ntmps75
  go_wp2_with fail
  go_loopw [3] (fun i W => ∃ k : Nat, k ≤ N ∧ i = .int .i64 (k : Int) ∧ Hid3 (∀ j, j < k → f j ≠ 0) ∧ W = w) (fun i _ => 65 - (intOf i).toNat)
  case atStart => exact ⟨0, Nat.zero_le _, rfl, ⟨fun j hj => absurd hj (Nat.not_lt_zero j)⟩, rfl⟩
  case round =>
    obtain ⟨k, hk, rfl, HL, rfl⟩ := hrel
    go_wp2_with fail
    refine cS.mono ?_
    rintro r W ⟨rfl, rfl⟩
    obtain ⟨q1, q2⟩ := HI.out k hk HL.out
    by_cases hkN : k < N
    · have hkz : (k : Int) < (N : Int) := by omega
      have cR := HR.out k hkN
      have hw1 : IntKind.i64.wrap ((k : Int) + 1) = ((k + 1 : Nat) : Int) := by rw [IntKind.wrap_i64]; omega
      by_cases e : f k = 0
      · have HE := Hid3.mk (q1 hkN e)
        rw [e] at cR
        clear e q1 q2
        go_wp2_with fail
        refine cR.mono ?_
        rintro r W ⟨rfl, rfl⟩
        go_wp2
        go_ret
        exact ⟨by rw [← HE.out]; rfl, rfl⟩
      · have HE : Hid3 (∀ j, j < k + 1 → f j ≠ 0) := ⟨fun j hj => by
          by_cases c : j = k
          · rw [c]; exact e
          · exact HL.out j (by omega)⟩
        generalize f k = y at *
        clear q1 q2
        go_wp2_with fail
        refine cR.mono ?_
        rintro r W ⟨rfl, rfl⟩
        go_wp2
        go_roundw
        case rel => exact ⟨k + 1, by omega, by first | rfl | trivial, HE, by first | rfl | trivial⟩
        case measure => simp [intOf]; omega
    · have hkz : ¬ (k : Int) < (N : Int) := by omega
      have HE := Hid3.mk (q2 (by omega))
      clear q1 q2
      go_wp2
      go_ret
      exact ⟨by rw [← HE.out]; rfl, rfl⟩
set_option maxHeartbeats 2000000 in
theorem rpeek_any (B : Nat) (o : Ro) (N : Nat) (s : Vs) (L : List Int) (V : Fin 6 → Nat → Int) (pid addr : Int) (w : World) (h : Rb B w o N s L) (hF : Fr N s) (hV : Vw s.pg L V) : Calls Try.prog 31 #[.pointer (some ⟨o.b, 0, none⟩), .int .i64 pid, .int .i64 addr] w fun r w' => r = .returned (.tuple #[.int .u8 (peekV s V pid addr).1, .int .i64 (peekV s V pid addr).2]) ∧ w' = w := by
  have cA := rat_any B o N s L pid addr w h
  by_cases he : atE s pid addr = 0
  · rw [he] at cA
    have hs : ∃ p : Fin 6, prc s pid = some p ∧ pid = (p.1 : Int) ∧ ∃ a : Nat, addr = (a : Int) ∧ a < 512 ∧ ∃ f, s.pg p ((a / 32 : Nat) : Int) = some f ∧ peekV s V pid addr = (V p a, 0) := by
      unfold atE at he
      rcases prc_cases s pid with ⟨h1, h2⟩ | ⟨p, h1, h3, h2⟩
      · rw [h1] at he; cases he
      · rw [h1] at he
        simp only at he
        cases ha : inA addr 1 with
        | false => rw [ha, if_pos rfl] at he; cases he
        | true =>
          obtain ⟨a, rfl, ha5⟩ := inA_yes ha
          rw [ha, if_neg (by simp), Int.toNat_natCast] at he
          cases hx : s.pg p ((a / 32 : Nat) : Int) with
          | none => rw [hx, if_pos rfl] at he; cases he
          | some f =>
            refine ⟨p, h1, h3, a, rfl, ha5, f, hx, ?_⟩
            unfold peekV
            rw [h1]
            simp only [ha, Bool.true_eq_false, if_false, Int.toNat_natCast, hx]
            rw [if_neg (by simp)]
    obtain ⟨p, _, rfl, a, rfl, ha5, f, hx, hpv⟩ := hs
    rw [hpv]
    have hvw := hV p (a / 32) f hx (a % 32) (by omega)
    rw [show a / 32 * 32 + a % 32 = a by omega] at hvw
    have hb := hF.pgs p _ f hx
    have hN := hF.hi
    obtain ⟨_, c2, _⟩ := h.pg p (a / 32) (by omega)
    rw [hx] at c2
    have c2' : w.cell? ⟨o.b, 7 + p.1 * 32 + a / 32 * 2 + 1, none⟩ = some (.int .i64 (f + 1)) := c2
    have hm := h.cp.2
    have cB := rbyte_any o.m o.g (32 * N) N f ((a % 32 : Nat) : Int) L w h.m rfl
    have hq1 : Int.tdiv (a : Int) 32 = ((a / 32 : Nat) : Int) := by rw [Int.tdiv_eq_ediv_of_nonneg (by omega)]; omega
    have hq2 : (a : Int) / 32 = ((a / 32 : Nat) : Int) := by omega
    have hq3 : Int.tmod (a : Int) 32 = ((a % 32 : Nat) : Int) := by rw [Int.tmod_eq_emod_of_nonneg (by omega)]; omega
    have hq4 : (a : Int) % 32 = ((a % 32 : Nat) : Int) := by omega
    have hd : ((a / 32 : Nat) : Int) < 16 := by omega
    have hd1 : a / 32 < 16 := by omega
    by_cases c : f = -1
    · subst c
      rw [if_pos rfl] at hvw
      rw [← hvw]
      have e0 : ((-1 : Int) + 1) = 0 := by decide
      rw [e0] at c2'
      clear h hF hV hx hpv hvw hb cB c2 he e0
      obtain ⟨p, hp⟩ := p
      have h5 : (p : Int) < 6 := by omega
      generalize a / 32 = d at *
      simp only at *
      go_enter Try.func31, Try.ntmps31
      go_wp2_with fail
      refine cA.mono ?_
      rintro r0 W ⟨rfl, hW⟩
      rw [hW]
      clear cA hW
      go_wp2
      go_ret2
      exact ⟨rfl, rfl⟩
    · rw [if_neg c] at hvw
      have ei : inB N f ((a % 32 : Nat) : Int) 1 = true := inB_go _ _ _ _ (by omega)
      have ep : plc f ((a % 32 : Nat) : Int) = f.toNat * 32 + a % 32 := by unfold plc; rw [Int.toNat_natCast]
      have eE : inE N f ((a % 32 : Nat) : Int) 1 = 0 := by unfold inE; rw [if_pos ei]
      rw [if_pos ei, ep, hvw, eE] at cB
      have hf0 : ¬ f + 1 = 0 := by omega
      have hf1 : f + 1 - 1 = f := by omega
      have hf2 : IntKind.i64.wrap f = f := by rw [IntKind.wrap_i64]; omega
      have hf3 : IntKind.i64.wrap (f + 1 - 1) = f := by rw [IntKind.wrap_i64]; omega
      clear h hF hV hx hpv hvw hb c2 he ei ep eE
      obtain ⟨p, hp⟩ := p
      have h5 : (p : Int) < 6 := by omega
      generalize V ⟨p, hp⟩ a = b at *
      generalize a / 32 = d at *
      generalize ((a % 32 : Nat) : Int) = mm at *
      simp only at *
      go_enter Try.func31, Try.ntmps31
      go_wp2_with fail
      refine cA.mono ?_
      rintro r0 W ⟨rfl, hW⟩
      rw [hW]
      clear cA hW
      go_wp2_with fail
      refine cB.mono ?_
      rintro r0 W ⟨rfl, hW⟩
      rw [hW]
      clear cB hW
      go_wp2
      go_ret2
      exact ⟨rfl, rfl⟩
  · have hp : peekV s V pid addr = (0, atE s pid addr) := by
      unfold peekV
      unfold atE at *
      cases h1 : prc s pid with
      | none => rfl
      | some p =>
        rw [h1] at he
        simp only at he ⊢
        by_cases c1 : inA addr 1 = false
        · rw [if_pos c1, if_pos c1]
        · rw [if_neg c1] at he ⊢
          rw [if_neg c1]
          by_cases c2 : s.pg p ((addr.toNat / 32 : Nat) : Int) = none
          · rw [if_pos c2, if_pos c2]
          · rw [if_neg c2] at he
            exact absurd rfl he
    rw [hp]
    generalize atE s pid addr = e at *
    clear h hF hV hp
    go_enter Try.func31, Try.ntmps31
    go_wp2_with fail
    refine cA.mono ?_
    rintro r0 W ⟨rfl, hW⟩
    rw [hW]
    clear cA hW
    go_wp2
    go_ret2
    exact ⟨rfl, rfl⟩
end Go.Proofs.Ytfmcoibpbcheiaa
