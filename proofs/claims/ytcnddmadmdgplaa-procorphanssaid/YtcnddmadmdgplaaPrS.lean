/- The document's table: Fork, Exit, Kill, Wait. -/
import Derived.Test.YtcnddmadmdgplaaPrR
import Derived.Test.YtcnddmadmdgplaaPrG
namespace Go.Proofs.Ytcnddmadmdgplaa
open Go.RowKit Go.Maps
set_option linter.unusedVariables false
set_option maxRecDepth 100000
set_option maxHeartbeats 2000000 in
theorem rfork_err (b : Nat) (s : Pt) (pid : Int) (w : World) (h : RpC w b s) (hp : runs (gt s pid) = false) : Calls Try.prog 38 #[.pointer (some ⟨b, 0, none⟩), .int .i64 pid] w fun r w' => r = .returned (.tuple #[.int .i64 0, .int .i64 5]) ∧ w' = w := by
  have cR := rruns_any b s pid w h
  have he : ruE (gt s pid) = 5 := by cases hx : gt s pid <;> rw [hx] at hp <;> first | rfl | cases hp
  rw [he] at cR
  clear h hp he
  go_enter Try.func38, Try.ntmps38
  go_wp2_with fail
  refine cR.mono ?_
  rintro r W ⟨rfl, rfl⟩
  clear cR
  go_wp2
  go_ret2
  exact ⟨rfl, rfl⟩
set_option maxHeartbeats 2000000 in
theorem rfork_any (B b : Nat) (s : Pt) (p : Fin 6) (w : World) (h : Rp B w b s) (hp : runs (s p) = true) (K : Nat) (hK1 : 1 ≤ K) (hK : K ≤ 6) (hl : ∀ j : Fin 6, j.1 < K → s j ≠ .no) (hk : ∀ h : K < 6, s ⟨K, h⟩ = .no) (x e : Int) (s' : Pt) (hx1 : ∀ h : K < 6, x = (K : Int) ∧ e = 0 ∧ s' = forkS s p ⟨K, h⟩) (hx2 : ¬ K < 6 → x = 0 ∧ e = 12 ∧ s' = s) : Calls Try.prog 38 #[.pointer (some ⟨b, 0, none⟩), .int .i64 p.1] w fun r w' => r = .returned (.tuple #[.int .i64 x, .int .i64 e]) ∧ RS B w w' b s' := by
  have cR := rruns_any b s p.1 w h.cs
  rw [gt_in] at cR
  have he : ruE (s p) = 0 := by cases hx : s p <;> rw [hx] at hp <;> first | rfl | cases hp
  rw [he] at cR
  have HT := Hid3.mk h
  have HL := Hid3.mk hl
  have HK := Hid3.mk hk
  have H1 := Hid3.mk hx1
  have H2 := Hid3.mk hx2
  clear h hp he hl hk hx1 hx2
  go_enter Try.func38, Try.ntmps38
  go_wp2_with fail
  refine cR.mono ?_
  rintro r W ⟨rfl, rfl⟩
  clear cR
  go_wp2_with fail
  go_loopw [7] (fun i wr => ∃ k : Nat, 1 ≤ k ∧ k ≤ K ∧ i = .int .i64 k ∧ wr = W) (fun i _ => 6 - (intOf i).toNat)
  case atStart => exact ⟨1, by omega, by omega, rfl, rfl⟩
  case round =>
    obtain ⟨k, hk1, hkK, rfl, rfl⟩ := hrel
    by_cases hk6 : k < 6
    · have hkz : (k : Int) < 6 := by omega
      have c0 := HT.out.cs.st ⟨k, hk6⟩
      have c1 := HT.out.cs.ra ⟨k, hk6⟩
      have c2 := HT.out.cs.su ⟨k, hk6⟩
      have f0 := HT.out.cs.f
      have hbl := HT.out.cs.l
      simp only at c0 c1 c2
      by_cases hlt : k < K
      · have hb : (stI (s ⟨k, hk6⟩) == 0) = false := by rw [beq_eq_false_iff_ne]; exact fun e => HL.out ⟨k, hk6⟩ hlt ((stI_0 _).1 e)
        generalize stI (s ⟨k, hk6⟩) = x0 at *
        clear c1 c2 f0
        go_wp2
        go_roundw
        case rel => exact ⟨k + 1, by omega, by omega, by go_num, trivial⟩
        case measure => simp [intOf]; omega
      · obtain rfl : k = K := by omega
        rw [HK.out hk6] at c0 c1 c2
        simp only [stI, raI, suI] at c0 c1 c2
        obtain ⟨rfl, rfl, rfl⟩ := H1.out hk6
        have hS := RS.slot HT.out ⟨k, hk6⟩ (.run p)
        have HS := Hid3.mk hS
        have f1 := f0 (k * 3)
        have f2 := f0 (k * 3 + 1)
        have f3 := f0 (k * 3 + 2)
        clear hS f0
        go_wp2
        go_ret2
        exact ⟨rfl, HS.out⟩
    · have hkz : ¬ (k : Int) < 6 := by omega
      obtain rfl : k = 6 := by omega
      obtain rfl : K = 6 := by omega
      obtain ⟨rfl, rfl, rfl⟩ := H2.out (by omega)
      go_wp2
      go_ret2
      exact ⟨rfl, RS.same HT.out (Below.refl _ _)⟩
set_option maxHeartbeats 2000000 in
theorem rexit_err (b : Nat) (s : Pt) (pid n : Int) (w : World) (h : RpC w b s) (hp : runs (gt s pid) = false) : Calls Try.prog 39 #[.pointer (some ⟨b, 0, none⟩), .int .i64 pid, .int .i64 n] w fun r w' => r = .returned (.int .i64 5) ∧ w' = w := by
  have cR := rruns_any b s pid w h
  have he : ruE (gt s pid) = 5 := by cases hx : gt s pid <;> rw [hx] at hp <;> first | rfl | cases hp
  rw [he] at cR
  clear h hp he
  go_enter Try.func39, Try.ntmps39
  go_wp2_with fail
  refine cR.mono ?_
  rintro r W ⟨rfl, rfl⟩
  clear cR
  go_wp2
  go_ret
  exact ⟨rfl, rfl⟩
set_option maxHeartbeats 2000000 in
theorem rexit_0 (b : Nat) (s : Pt) (n : Int) (w : World) (h : RpC w b s) (hp : s 0 = .run 0) : Calls Try.prog 39 #[.pointer (some ⟨b, 0, none⟩), .int .i64 0, .int .i64 n] w fun r w' => r = .returned (.int .i64 7) ∧ w' = w := by
  have cR := rruns_any b s 0 w h
  have hg : gt s 0 = s 0 := gt_in s 0
  rw [hg, hp] at cR
  simp only [ruE] at cR
  clear h hp hg
  go_enter Try.func39, Try.ntmps39
  go_wp2_with fail
  refine cR.mono ?_
  rintro r W ⟨rfl, rfl⟩
  clear cR
  go_wp2
  go_ret
  exact ⟨rfl, rfl⟩
/-- Exit behind the first k children. -/
def exK (s : Pt) (p q : Fin 6) (n : Int) (k : Nat) : Pt := fun i => if i = p then .zom q n else if i.1 < k ∧ qCh s p i then lft (s i) else s i
theorem exK_1 (s : Pt) (p q : Fin 6) (n : Int) : exK s p q n 1 = upd s p (.zom q n) := by
  funext i
  unfold exK upd
  split
  · rfl
  · rw [if_neg]
    rintro ⟨h1, h2⟩
    have : i = 0 := Fin.ext (by show i.1 = 0; omega)
    subst this
    simp [qCh] at h2
theorem exK_6 (s : Pt) (p q : Fin 6) (n : Int) : exK s p q n 6 = exitS s p q n := by
  funext i
  unfold exK exitS
  split
  · rfl
  · simp [i.2]
theorem exK_no (s : Pt) (p q : Fin 6) (n : Int) (k : Nat) (hk : k < 6) (h : ⟨k, hk⟩ = p ∨ qCh s p ⟨k, hk⟩ = false) : exK s p q n (k + 1) = exK s p q n k := by
  funext i
  unfold exK
  split
  · rfl
  · rename_i hi
    by_cases e : i = ⟨k, hk⟩
    · subst e
      rcases h with h | h
      · exact absurd h hi
      · simp [h]
    · have h1 : i.1 ≠ k := fun e' => e (Fin.ext e')
      have : (i.1 < k + 1) = (i.1 < k) := by rw [eq_iff_iff]; omega
      simp only [this]
theorem exK_yes (s : Pt) (p q : Fin 6) (n : Int) (k : Nat) (hk : k < 6) (hp : (⟨k, hk⟩ : Fin 6) ≠ p) (h : qCh s p ⟨k, hk⟩ = true) : exK s p q n (k + 1) = upd (exK s p q n k) ⟨k, hk⟩ (lft (s ⟨k, hk⟩)) := by
  funext i
  by_cases e : i = ⟨k, hk⟩
  · subst e
    rw [upd_same]
    unfold exK
    rw [if_neg hp, if_pos ⟨by show k < k + 1; omega, h⟩]
  · rw [upd_other _ _ _ _ e]
    unfold exK
    have h1 : i.1 ≠ k := fun e' => e (Fin.ext e')
    have : (i.1 < k + 1) = (i.1 < k) := by rw [eq_iff_iff]; omega
    simp only [this]
theorem exK_at (s : Pt) (p q : Fin 6) (n : Int) (k : Nat) (i : Fin 6) (hi : i ≠ p) (hk : k ≤ i.1) : exK s p q n k i = s i := by
  unfold exK
  rw [if_neg hi, if_neg (by omega)]
/-- A slot's parent is set. -/
theorem RS.par0 {B : Nat} {w : World} {b : Nat} {s : Pt} (h : Rp B w b s) (i : Fin 6) (hi : s i ≠ .no) : RS B w (w.setCell ⟨b, i.1 * 3 + 1, none⟩ (.int .i64 0)) b (upd s i (lft (s i))) := by
  have hs := h.c.set (i.1 * 3 + 1) (.int .i64 0)
  have e : (rCs s).set (i.1 * 3 + 1) (.int .i64 0) = rCs (upd s i (lft (s i))) := by
    rw [← rCs_set s (lft (s i)) i]
    have e0 : stI (lft (s i)) = stI (s i) := by cases hx : s i <;> rfl
    have e1 : raI (lft (s i)) = 0 := by cases hx : s i <;> first | rfl | (exact absurd hx hi)
    have e2 : suI (lft (s i)) = suI (s i) := by cases hx : s i <;> rfl
    rw [e0, e1, e2]
    revert i
    refine all6 ?_ ?_ ?_ ?_ ?_ ?_ <;> intros <;> rfl
  rw [e] at hs
  exact ⟨⟨h.g, hs⟩, Apart.at _ _ _ _ rfl⟩
theorem RS.zom {B : Nat} {w : World} {b : Nat} {s : Pt} (h : Rp B w b s) (p q : Fin 6) (n : Int) (hp : s p = .run q) : RS B w ((w.setCell ⟨b, p.1 * 3, none⟩ (.int .u8 2)).setCell ⟨b, p.1 * 3 + 2, none⟩ (.int .i64 n)) b (upd s p (.zom q n)) := by
  have hs := (h.c.set (p.1 * 3) (.int .u8 2)).set (p.1 * 3 + 2) (.int .i64 n)
  have e : ((rCs s).set (p.1 * 3) (.int .u8 2)).set (p.1 * 3 + 2) (.int .i64 n) = rCs (upd s p (.zom q n)) := by
    rw [← rCs_set s (.zom q n) p]
    have e1 : raI (s p) = q.1 := by rw [hp]; rfl
    show _ = (((rCs s).set (p.1 * 3) (.int .u8 2)).set (p.1 * 3 + 1) (.int .i64 q.1)).set (p.1 * 3 + 2) (.int .i64 n)
    rw [← e1]
    clear hs hp e1
    revert p
    refine all6 ?_ ?_ ?_ ?_ ?_ ?_ <;> rfl
  rw [e] at hs
  exact ⟨⟨h.g, hs⟩, (Apart.at (X := fun k => k = b) _ _ _ _ rfl).trans (Apart.at _ _ _ _ rfl)⟩
set_option maxHeartbeats 4000000 in
theorem rexit_ok (B b : Nat) (s : Pt) (p q : Fin 6) (n : Int) (w : World) (h : Rp B w b s) (hp0 : p ≠ 0) (hp : s p = .run q) (hself : paI (s p) ≠ p.1) : Calls Try.prog 39 #[.pointer (some ⟨b, 0, none⟩), .int .i64 p.1, .int .i64 n] w fun r w' => r = .returned (.int .i64 0) ∧ RS B w w' b (exitS s p q n) := by
  have cR := rruns_any b s p.1 w h.cs
  rw [gt_in, hp] at cR
  simp only [ruE] at cR
  have HT := Hid3.mk h
  have hS0 := RS.zom h p q n hp
  rw [← exK_1] at hS0
  have HS0 := Hid3.mk hS0
  have c0 := h.cs.st p
  have c2 := h.cs.su p
  have f0 := h.cs.f (p.1 * 3)
  have f2 := h.cs.f (p.1 * 3 + 2)
  rw [hp] at c0 c2
  simp only [stI, suI] at c0 c2
  have hbl := h.cs.l
  have H6 := Hid3.mk (exK_6 s p q n)
  have hself' : qCh s p p = false := by simp [qCh, hself]
  have HQ := Hid3.mk hself'
  have hp1 : ((p.1 : Int) == 0) = false := by rw [beq_eq_false_iff_ne]; exact fun e => hp0 (Fin.ext (by show p.1 = 0; omega))
  have hp6 : (p.1 : Int) < 6 := by have := p.2; omega
  clear h hS0 hself hself'
  go_enter Try.func39, Try.ntmps39
  go_wp2_with fail
  refine cR.mono ?_
  rintro r W ⟨rfl, hW⟩
  rw [hW]
  clear cR hW
  go_wp2_with fail
  go_region
  go_wp2_with fail
  go_loopw [8] (fun i wr => ∃ k : Nat, 1 ≤ k ∧ k ≤ 6 ∧ i = .int .i64 k ∧ Hid3 (RS B w wr b (exK s p q n k))) (fun i _ => 6 - (intOf i).toNat)
  case atStart => exact ⟨1, by omega, by omega, rfl, ⟨HS0.out.post ((Below.refl _ _).drew)⟩⟩
  case round =>
    obtain ⟨k, hk1, hk, rfl, HS⟩ := hrel
    clear c0 c2 f0 f2 HS0
    by_cases hk6 : k < 6
    · have hkz : (k : Int) < 6 := by omega
      have c0 := HS.out.t.cs.st ⟨k, hk6⟩
      have c1 := HS.out.t.cs.ra ⟨k, hk6⟩
      have f1 := HS.out.t.cs.f (k * 3 + 1)
      have hbl2 := HS.out.t.cs.l
      simp only at c0 c1
      by_cases hx : exK s p q n k ⟨k, hk6⟩ = .no
      · have hne : (⟨k, hk6⟩ : Fin 6) ≠ p := fun e => by
          have : exK s p q n k ⟨k, hk6⟩ = .zom q n := if_pos e
          rw [hx] at this
          cases this
        have hq : qCh s p ⟨k, hk6⟩ = false := by
          have : s ⟨k, hk6⟩ = .no := (exK_at s p q n k ⟨k, hk6⟩ hne (Nat.le_refl _)).symm.trans hx
          simp [qCh, this, paI]
        rw [hx] at c0 c1
        simp only [stI, raI] at c0 c1
        have HS2 : Hid3 (RS B w wr b (exK s p q n (k + 1))) := ⟨by rw [exK_no s p q n k hk6 (.inr hq)]; exact HS.out⟩
        clear hx hq hne
        go_wp2
        go_roundw
        case rel => exact ⟨k + 1, by omega, by omega, by go_num, HS2⟩
        case measure => simp [intOf]; omega
      · have hb : (stI (exK s p q n k ⟨k, hk6⟩) != 0) = true := by
          have : stI (exK s p q n k ⟨k, hk6⟩) ≠ 0 := fun e => hx ((stI_0 _).1 e)
          simpa using this
        by_cases hy : raI (exK s p q n k ⟨k, hk6⟩) = p.1
        · have hxe : exK s p q n k ⟨k, hk6⟩ ≠ .no := hx
          have hne : (⟨k, hk6⟩ : Fin 6) ≠ p := fun e => by
            have : exK s p q n k ⟨k, hk6⟩ = .zom q n := if_pos e
            rw [this] at hy
            have h2 := HQ.out
            have hp' : paI (s p) = p.1 := by rw [hp]; exact hy
            simp [qCh, hp0, hp'] at h2
          have hsk := exK_at s p q n k ⟨k, hk6⟩ hne (Nat.le_refl _)
          have hq : qCh s p ⟨k, hk6⟩ = true := by
            rw [raI_pa _ hx, hsk] at hy
            have h0 : (⟨k, hk6⟩ : Fin 6) ≠ 0 := fun e => by have := congrArg Fin.val e; simp at this; omega
            simp [qCh, h0, hy]
          have hS2 := HS.out.trans (RS.par0 HS.out.t ⟨k, hk6⟩ hxe)
          have HS2 : Hid3 (RS B w (wr.setCell ⟨b, k * 3 + 1, none⟩ (.int .i64 0)) b (exK s p q n (k + 1))) := ⟨by rw [exK_yes s p q n k hk6 hne hq, ← hsk]; exact hS2⟩
          rw [hy] at c1
          have hpp : ((p.1 : Int) == (p.1 : Int)) = true := by simp
          generalize stI (exK s p q n k ⟨k, hk6⟩) = x0 at *
          clear hx hxe hne hsk hq hS2 hy
          go_wp2
          go_roundw
          case rel => exact ⟨k + 1, by omega, by omega, by go_num, HS2⟩
          case measure => simp [intOf]; omega
        · have hyb : (raI (exK s p q n k ⟨k, hk6⟩) == (p.1 : Int)) = false := by rw [beq_eq_false_iff_ne]; exact hy
          have HS2 : Hid3 (RS B w wr b (exK s p q n (k + 1))) := ⟨by
            by_cases hne : (⟨k, hk6⟩ : Fin 6) = p
            · rw [exK_no s p q n k hk6 (.inl hne)]; exact HS.out
            · have hsk := exK_at s p q n k ⟨k, hk6⟩ hne (Nat.le_refl _)
              rw [raI_pa _ hx, hsk] at hy
              have hq : qCh s p ⟨k, hk6⟩ = false := by simp [qCh, hy]
              rw [exK_no s p q n k hk6 (.inr hq)]; exact HS.out⟩
          generalize stI (exK s p q n k ⟨k, hk6⟩) = x0 at *
          generalize raI (exK s p q n k ⟨k, hk6⟩) = y0 at *
          clear hx hy
          go_wp2
          go_roundw
          case rel => exact ⟨k + 1, by omega, by omega, by go_num, HS2⟩
          case measure => simp [intOf]; omega
    · have hkz : ¬ (k : Int) < 6 := by omega
      obtain rfl : k = 6 := by omega
      have HS2 : Hid3 (RS B w wr b (exitS s p q n)) := ⟨by rw [← H6.out]; exact HS.out⟩
      go_wp2
      go_ret
      exact ⟨rfl, HS2.out⟩
theorem rkill_of (tb : Option Addr) (pid x : Int) (w : World) (S : World → Prop) (cE : Calls Try.prog 39 #[.pointer tb, .int .i64 pid, .int .i64 137] w fun r w' => r = .returned (.int .i64 x) ∧ S w') : Calls Try.prog 40 #[.pointer tb, .int .i64 pid] w fun r w' => r = .returned (.int .i64 x) ∧ S w' := by
  go_enter Try.func40, Try.ntmps40
  go_wp2_with fail
  refine cE.mono ?_
  rintro r W ⟨rfl, h⟩
  have H := Hid3.mk h
  clear h cE
  go_wp2
  go_ret
  exact ⟨rfl, H.out⟩
end Go.Proofs.Ytcnddmadmdgplaa
