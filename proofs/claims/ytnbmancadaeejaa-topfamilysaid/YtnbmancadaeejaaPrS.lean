/- The document's table: Fork, Exit, Kill, Wait. -/
import Derived.Test.YtnbmancadaeejaaPrR
import Derived.Test.YtnbmancadaeejaaPrG
namespace Go.Proofs.Ytnbmancadaeejaa
open Go.RowKit Go.Maps
set_option linter.unusedVariables false
set_option maxRecDepth 100000
/-- Exit behind the first k children. -/
def exK (s : Pt) (p q : Fin 6) (n : Int) (k : Nat) : Pt := fun i => if i = p then .zom q n else if i.1 < k ∧ qCh s p i then lft (s i) else s i
theorem exK_1 (s : Pt) (p q : Fin 6) (n : Int) : exK s p q n 1 = upd s p (.zom q n) := by
  funext i
  unfold exK upd
  split
  · rfl
  · rw [if_neg]
    rintro ⟨h1, h2⟩
    have : i = 0 := Fin.ext (by show i.1 = 0; omega)
    subst this
    simp [qCh] at h2
theorem exK_6 (s : Pt) (p q : Fin 6) (n : Int) : exK s p q n 6 = exitS s p q n := by
  funext i
  unfold exK exitS
  split
  · rfl
  · simp [i.2]
theorem exK_no (s : Pt) (p q : Fin 6) (n : Int) (k : Nat) (hk : k < 6) (h : ⟨k, hk⟩ = p ∨ qCh s p ⟨k, hk⟩ = false) : exK s p q n (k + 1) = exK s p q n k := by
  funext i
  unfold exK
  split
  · rfl
  · rename_i hi
    by_cases e : i = ⟨k, hk⟩
    · subst e
      rcases h with h | h
      · exact absurd h hi
      · simp [h]
    · have h1 : i.1 ≠ k := fun e' => e (Fin.ext e')
      have : (i.1 < k + 1) = (i.1 < k) := by rw [eq_iff_iff]; omega
      simp only [this]
theorem exK_yes (s : Pt) (p q : Fin 6) (n : Int) (k : Nat) (hk : k < 6) (hp : (⟨k, hk⟩ : Fin 6) ≠ p) (h : qCh s p ⟨k, hk⟩ = true) : exK s p q n (k + 1) = upd (exK s p q n k) ⟨k, hk⟩ (lft (s ⟨k, hk⟩)) := by
  funext i
  by_cases e : i = ⟨k, hk⟩
  · subst e
    rw [upd_same]
    unfold exK
    rw [if_neg hp, if_pos ⟨by show k < k + 1; omega, h⟩]
  · rw [upd_other _ _ _ _ e]
    unfold exK
    have h1 : i.1 ≠ k := fun e' => e (Fin.ext e')
    have : (i.1 < k + 1) = (i.1 < k) := by rw [eq_iff_iff]; omega
    simp only [this]
theorem exK_at (s : Pt) (p q : Fin 6) (n : Int) (k : Nat) (i : Fin 6) (hi : i ≠ p) (hk : k ≤ i.1) : exK s p q n k i = s i := by
  unfold exK
  rw [if_neg hi, if_neg (by omega)]
/-- A slot's parent is set. -/
theorem RS.par0 {B : Nat} {w : World} {b : Nat} {s : Pt} (h : Rp B w b s) (i : Fin 6) (hi : s i ≠ .no) : RS B w (w.setCell ⟨b, i.1 * 3 + 1, none⟩ (.int .i64 0)) b (upd s i (lft (s i))) := by
  have hs := h.c.set (i.1 * 3 + 1) (.int .i64 0)
  have e : (rCs s).set (i.1 * 3 + 1) (.int .i64 0) = rCs (upd s i (lft (s i))) := by
    rw [← rCs_set s (lft (s i)) i]
    have e0 : stI (lft (s i)) = stI (s i) := by cases hx : s i <;> rfl
    have e1 : raI (lft (s i)) = 0 := by cases hx : s i <;> first | rfl | (exact absurd hx hi)
    have e2 : suI (lft (s i)) = suI (s i) := by cases hx : s i <;> rfl
    rw [e0, e1, e2]
    revert i
    refine all6 ?_ ?_ ?_ ?_ ?_ ?_ <;> intros <;> rfl
  rw [e] at hs
  exact ⟨⟨h.g, hs⟩, Apart.at _ _ _ _ rfl⟩
theorem RS.zom {B : Nat} {w : World} {b : Nat} {s : Pt} (h : Rp B w b s) (p q : Fin 6) (n : Int) (hp : s p = .run q) : RS B w ((w.setCell ⟨b, p.1 * 3, none⟩ (.int .u8 2)).setCell ⟨b, p.1 * 3 + 2, none⟩ (.int .i64 n)) b (upd s p (.zom q n)) := by
  have hs := (h.c.set (p.1 * 3) (.int .u8 2)).set (p.1 * 3 + 2) (.int .i64 n)
  have e : ((rCs s).set (p.1 * 3) (.int .u8 2)).set (p.1 * 3 + 2) (.int .i64 n) = rCs (upd s p (.zom q n)) := by
    rw [← rCs_set s (.zom q n) p]
    have e1 : raI (s p) = q.1 := by rw [hp]; rfl
    show _ = (((rCs s).set (p.1 * 3) (.int .u8 2)).set (p.1 * 3 + 1) (.int .i64 q.1)).set (p.1 * 3 + 2) (.int .i64 n)
    rw [← e1]
    clear hs hp e1
    revert p
    refine all6 ?_ ?_ ?_ ?_ ?_ ?_ <;> rfl
  rw [e] at hs
  exact ⟨⟨h.g, hs⟩, (Apart.at (X := fun k => k = b) _ _ _ _ rfl).trans (Apart.at _ _ _ _ rfl)⟩
end Go.Proofs.Ytnbmancadaeejaa
