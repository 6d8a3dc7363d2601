/- vm: what both tell of frames: Frame, Refs, Copies. -/
import Derived.Test.YtfmcoibpbcheiaaVrU
namespace Go.Proofs.Ytfmcoibpbcheiaa
open Go.RowKit Go.Maps
set_option linter.unusedVariables false
set_option maxRecDepth 100000
set_option maxHeartbeats 1000000 in
theorem vrefs_neg (B : Nat) (l : Lo) (s : Vs) (k : Int) (hk : k < 0) (w : World) (h : Vb B w l s) : Calls Try.prog 10 #[.pointer (some ⟨l.b, 0, none⟩), .int .i64 k] w fun r w' => r = .returned (.int .i64 0) ∧ w' = w := by
  clear h
  go_enter Try.func10, Try.ntmps10
  go_wp2
  go_ret
  exact ⟨rfl, rfl⟩
set_option maxHeartbeats 1000000 in
theorem vrefs_in (B : Nat) (l : Lo) (s : Vs) (k : Nat) (hk : k < 64) (w : World) (h : Vb B w l s) : Calls Try.prog 10 #[.pointer (some ⟨l.b, 0, none⟩), .int .i64 (k : Nat)] w fun r w' => r = .returned (.int .i64 (s.rf.getD k 0)) ∧ w' = w := by
  have c0 := h.rf k hk
  generalize s.rf.getD k 0 = x at *
  have h1 : ¬ (k : Int) < 0 := by omega
  have h2 : ¬ (64 : Int) ≤ (k : Int) := by omega
  have h3 : (k : Int) < 64 := by omega
  clear h
  go_enter Try.func10, Try.ntmps10
  go_wp2
  go_ret
  exact ⟨rfl, rfl⟩
theorem vrefs_any (B : Nat) (l : Lo) (s : Vs) (N : Nat) (k : Int) (hk : k < 64) (w : World) (h : Vb B w l s) (hF : Fr N s) : Calls Try.prog 10 #[.pointer (some ⟨l.b, 0, none⟩), .int .i64 k] w fun r w' => r = .returned (.int .i64 (rfN s.pg k)) ∧ w' = w := by
  unfold rfN
  by_cases c : 0 ≤ k
  · obtain ⟨n, rfl⟩ := Int.eq_ofNat_of_zero_le c
    rw [if_pos c, ← hF.rf n (by omega)]
    exact vrefs_in B l s n (by omega) w h
  · rw [if_neg c]
    exact vrefs_neg B l s k (by omega) w h
set_option maxHeartbeats 1000000 in
theorem rcopies_any (B : Nat) (o : Ro) (N : Nat) (s : Vs) (L : List Int) (w : World) (h : Rb B w o N s L) : Calls Try.prog 34 #[.pointer (some ⟨o.b, 0, none⟩)] w fun r w' => r = .returned (.int .i64 s.cp) ∧ w' = w := by
  have c0 := h.cp.1
  generalize s.cp = x at *
  clear h
  go_enter Try.func34, Try.ntmps34
  go_wp2
  go_ret
  exact ⟨rfl, rfl⟩
/-- Where a page lies. -/
def frmV (s : Vs) (pid k : Int) : Int × Bool :=
  match prc s pid with
  | none => (0, false)
  | some p => match s.pg p k with
    | none => (0, false)
    | some f => if f = -1 then (0, false) else (f, true)
set_option maxHeartbeats 2000000 in
theorem vframe_any (B : Nat) (l : Lo) (s : Vs) (pid k : Int) (w : World) (h : Vb B w l s) : Calls Try.prog 29 #[.pointer (some ⟨l.b, 0, none⟩), .int .i64 pid, .int .i64 k] w fun r w' => r = .returned (.tuple #[.int .i64 (frmV s pid k).1, .bool (frmV s pid k).2]) ∧ w' = w := by
  unfold frmV
  rcases prc_cases s pid with ⟨h1, h2⟩ | ⟨p, h1, rfl, h2⟩
  · rw [h1]
    have cO := of_bad B l s pid w h h2
    clear h h1 h2
    simp only
    go_enter Try.func29, Try.ntmps29
    go_wp2_with fail
    refine cO.mono ?_
    rintro r0 W ⟨rfl, hW⟩
    rw [hW]
    clear cO hW
    go_wp2
    go_ret2
    exact ⟨rfl, rfl⟩
  · rw [h1]
    have cO := of_ok B l s p w h h2
    have hL := lookP (h.sp p h2).2 k
    generalize l.r p = r at *
    clear h h1 h2
    simp only
    cases hx : s.pg p k with
    | none =>
      rw [hx] at hL
      simp only [Option.getD_none, Option.isSome_none] at *
      go_enter Try.func29, Try.ntmps29
      go_wp2_with fail
      refine cO.mono ?_
      rintro r0 W ⟨rfl, hW⟩
      rw [hW]
      clear cO hW
      go_wp2_with (refine wpList_look rfl 60 _ _ rfl _ _ _ rfl rfl hL ?_)
      go_ret2
      exact ⟨rfl, rfl⟩
    | some f =>
      rw [hx] at hL
      simp only [Option.getD_some, Option.isSome_some] at *
      by_cases hf : f = -1
      · subst hf
        rw [if_pos rfl]
        go_enter Try.func29, Try.ntmps29
        go_wp2_with fail
        refine cO.mono ?_
        rintro r0 W ⟨rfl, hW⟩
        rw [hW]
        clear cO hW
        go_wp2_with (refine wpList_look rfl 60 _ _ rfl _ _ _ rfl rfl hL ?_)
        go_ret2
        exact ⟨rfl, rfl⟩
      · rw [if_neg hf]
        go_enter Try.func29, Try.ntmps29
        go_wp2_with fail
        refine cO.mono ?_
        rintro r0 W ⟨rfl, hW⟩
        rw [hW]
        clear cO hW
        go_wp2_with (refine wpList_look rfl 60 _ _ rfl _ _ _ rfl rfl hL ?_)
        go_ret2
        exact ⟨rfl, rfl⟩
set_option maxHeartbeats 2000000 in
theorem rframe_any (B : Nat) (o : Ro) (N : Nat) (s : Vs) (L : List Int) (pid k : Int) (w : World) (h : Rb B w o N s L) (hF : Fr N s) : Calls Try.prog 30 #[.pointer (some ⟨o.b, 0, none⟩), .int .i64 pid, .int .i64 k] w fun r w' => r = .returned (.tuple #[.int .i64 (frmV s pid k).1, .bool (frmV s pid k).2]) ∧ w' = w := by
  have cF := rmay_any B o N s L pid w h
  unfold frmV mayE at *
  rcases prc_cases s pid with ⟨h1, h2⟩ | ⟨p, h1, rfl, h2⟩
  · rw [h1] at cF ⊢
    simp only at cF ⊢
    clear h h2
    go_enter Try.func30, Try.ntmps30
    go_wp2_with fail
    refine cF.mono ?_
    rintro r0 W ⟨rfl, hW⟩
    rw [hW]
    clear cF hW
    go_wp2
    go_ret2
    exact ⟨rfl, rfl⟩
  · rw [h1] at cF ⊢
    simp only at cF ⊢
    by_cases hk : 0 ≤ k ∧ k < 16
    · obtain ⟨n, rfl⟩ := Int.eq_ofNat_of_zero_le hk.1
      have hn := hk.2
      obtain ⟨_, c1, _⟩ := h.pg p n (by omega)
      have h6 : ¬ (n : Int) < 0 := by omega
      have h7 : ¬ (16 : Int) ≤ (n : Int) := by omega
      have hx : ∀ f, s.pg p n = some f → -1 ≤ f ∧ f < 100 := fun f e => by
        have := (hF.pgs p _ f e).2
        have := hF.hi
        omega
      clear h h1 h2 hF
      obtain ⟨p, hp⟩ := p
      have h5 : (p : Int) < 6 := by omega
      have hpv : ∃ x : Int, x = pgC (s.pg ⟨p, hp⟩ n) ∧ ((x = 0 ∧ (match s.pg ⟨p, hp⟩ n with | none => ((0, false) : Int × Bool) | some f => if f = -1 then (0, false) else (f, true)) = (0, false)) ∨ (x ≠ 0 ∧ IntKind.i64.wrap (x - 1) = x - 1 ∧ (match s.pg ⟨p, hp⟩ n with | none => ((0, false) : Int × Bool) | some f => if f = -1 then (0, false) else (f, true)) = (x - 1, true))) := by
        refine ⟨_, rfl, ?_⟩
        cases e : s.pg ⟨p, hp⟩ n with
        | none => exact .inl ⟨rfl, rfl⟩
        | some f =>
          have hb := hx f e
          by_cases hf : f = -1
          · subst hf
            exact .inl ⟨rfl, rfl⟩
          · refine .inr ⟨by show f + 1 ≠ 0; omega, by show IntKind.i64.wrap (f + 1 - 1) = f + 1 - 1; rw [IntKind.wrap_i64]; omega, ?_⟩
            simp only
            rw [if_neg hf]
            show (f, true) = (f + 1 - 1, true)
            congr 1
            omega
      obtain ⟨x, hxe, hcase⟩ := hpv
      rw [← hxe] at c1
      clear hx hxe
      simp only at c1 cF ⊢
      generalize (match s.pg ⟨p, hp⟩ n with | none => ((0, false) : Int × Bool) | some f => if f = -1 then (0, false) else (f, true)) = res at *
      clear hk
      rcases hcase with ⟨rfl, rfl⟩ | ⟨hx0, hwx, rfl⟩
      · go_enter Try.func30, Try.ntmps30
        go_wp2_with fail
        refine cF.mono ?_
        rintro r0 W ⟨rfl, hW⟩
        rw [hW]
        clear cF hW
        go_wp2
        go_ret2
        exact ⟨rfl, rfl⟩
      · have hx0b : (x == 0) = false := by simpa using hx0
        go_enter Try.func30, Try.ntmps30
        go_wp2_with fail
        refine cF.mono ?_
        rintro r0 W ⟨rfl, hW⟩
        rw [hW]
        clear cF hW
        go_wp2
        go_ret2
        exact ⟨rfl, rfl⟩
    · have hn : s.pg p k = none := by
        cases e : s.pg p k with
        | none => rfl
        | some f => exact absurd (hF.pgs p k f e).1 hk
      rw [hn]
      have hk2 : k < 0 ∨ (¬ k < 0 ∧ 16 ≤ k) := by omega
      clear h h1 h2 hF hk hn
      simp only
      rcases hk2 with hk2 | ⟨hk2, hk3⟩
      all_goals
        go_enter Try.func30, Try.ntmps30
        go_wp2_with fail
        refine cF.mono ?_
        rintro r0 W ⟨rfl, hW⟩
        rw [hW]
        clear cF hW
        go_wp2
        go_ret2
        exact ⟨rfl, rfl⟩
end Go.Proofs.Ytfmcoibpbcheiaa
