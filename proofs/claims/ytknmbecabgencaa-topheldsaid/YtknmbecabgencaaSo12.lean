/- The library's sort at uint8: what pdqsort keeps. -/
import Derived.Test.YtknmbecabgencaaSo7
import Derived.Test.YtknmbecabgencaaSo8
import Derived.Test.YtknmbecabgencaaSo9
import Derived.Test.YtknmbecabgencaaSo10
import Derived.Test.YtknmbecabgencaaSo11
namespace Go.Proofs.Ytknmbecabgencaa
open Go.RowKit Go.Maps
set_option linter.unusedVariables false
set_option maxRecDepth 100000
/-- All pairs are in order but those that lie in [a, b). -/
def Dn (a0 b0 a b : Nat) (f : Nat → Int) : Prop := ∀ p q, a0 ≤ p → p < q → q < b0 → (p < a ∨ b ≤ q) → f p ≤ f q
/-- What lies ahead of a is not above what lies in [a, b). -/
def LB (a b : Nat) (f : Nat → Int) : Prop := 0 < a → ∀ p, a ≤ p → p < b → f (a - 1) ≤ f p
theorem Sh.out {a b : Nat} {f f' : Nat → Int} (h : Sh a b f f') (i : Nat) (hi : i < a ∨ b ≤ i) : f' i = f i := h.2 i hi
theorem Dn.sh {a0 b0 a b : Nat} {f f' : Nat → Int} (h : Dn a0 b0 a b f) (s : Sh a b f f') (ha : a0 ≤ a) (hb : b ≤ b0) : Dn a0 b0 a b f' := by
  intro p q h1 h2 h3 h4
  by_cases p1 : p < a
  · rw [s.out p (.inl p1)]
    by_cases q1 : q < a ∨ b ≤ q
    · rw [s.out q q1]
      exact h p q h1 h2 h3 (.inl p1)
    · obtain ⟨j, j1, j2, j3⟩ := s.mem q (by omega) (by omega)
      rw [j3]
      exact h p j h1 (by omega) (by omega) (.inl p1)
  · have q1 : b ≤ q := by omega
    rw [s.out q (.inr q1)]
    by_cases p2 : b ≤ p
    · rw [s.out p (.inr p2)]
      exact h p q h1 h2 h3 h4
    · obtain ⟨j, j1, j2, j3⟩ := s.mem p (by omega) (by omega)
      rw [j3]
      exact h j q (by omega) (by omega) h3 (.inr q1)
theorem Dn.fin {a0 b0 a b : Nat} {f : Nat → Int} (h : Dn a0 b0 a b f) (s : Srt a b f) : Srt a0 b0 f := fun p q h1 h2 h3 => by
  by_cases e : p < a ∨ b ≤ q
  · exact h p q h1 h2 h3 e
  · exact s p q (by omega) h2 (by omega)
theorem LB.sh {a b : Nat} {f f' : Nat → Int} (h : LB a b f) (s : Sh a b f f') : LB a b f' := fun h1 p h2 h3 => by
  obtain ⟨j, j1, j2, j3⟩ := s.mem p h2 h3
  rw [j3, s.out (a - 1) (.inl (by omega))]
  exact h h1 j j1 j2
/-- Where pdqsort stands. -/
structure Ps (g n a0 b0 a b : Nat) (f f1 : Nat → Int) (w W : World) : Prop where
  r : Ro W g n f1
  s : Sh a0 b0 f f1
  d : Dn a0 b0 a b f1
  l : LB a b f1
  w : Apart (XB g) w W
theorem Ps.drewN {g n a0 b0 a b : Nat} {f f1 : Nat → Int} {w W : World} (h : Ps g n a0 b0 a b f f1 w W) (m : Nat) : Ps g n a0 b0 a b f f1 w (W.drewN m) := ⟨h.r.drewN m, h.s, h.d, h.l, h.w.trans (apart_drewN g W m)⟩
theorem Ps.sh {g n a0 b0 a b : Nat} {f f1 f2 : Nat → Int} {w W W' : World} (h : Ps g n a0 b0 a b f f1 w W) (k1 : Ro W' g n f2) (k2 : Sh a b f1 f2) (k3 : Apart (XB g) W W') (ha : a0 ≤ a) (hb : b ≤ b0) : Ps g n a0 b0 a b f f2 w W' := ⟨k1, h.s.trans (k2.wide ha hb), h.d.sh k2 ha hb, h.l.sh k2, h.w.trans k3⟩
theorem Ps.fin {g n a0 b0 a b : Nat} {f f1 f2 : Nat → Int} {w W W' : World} (h : Ps g n a0 b0 a b f f1 w W) (k1 : Ro W' g n f2) (k2 : Sh a b f1 f2) (k4 : Srt a b f2) (k3 : Apart (XB g) W W') (ha : a0 ≤ a) (hb : b ≤ b0) : ∃ f', Ro W' g n f' ∧ Sh a0 b0 f f' ∧ Srt a0 b0 f' ∧ Apart (XB g) w W' := by
  have k := h.sh k1 k2 k3 ha hb
  exact ⟨f2, k.r, k.s, k.d.fin k4, k.w⟩
theorem Ps.eq {g n a0 b0 a b c x q : Nat} {f f1 f2 : Nat → Int} {w W W' : World} (h : Ps g n a0 b0 a b f f1 w W) (ha : a0 ≤ a) (hb : b ≤ b0) (q1 : q + 1 ≤ a) (q2 : a ≤ q + 1) (c1 : a ≤ c) (c2 : c < b) (hl : ¬ f1 q < f1 c) (x1 : a < x) (x2 : x ≤ b) (k1 : Ro W' g n f2) (k2 : Sh a b f1 f2) (k4 : ∀ p, a ≤ p → p < x → f2 p ≤ f1 c) (k5 : ∀ p, x ≤ p → p < b → f1 c < f2 p) (k3 : Apart (XB g) W W') : Ps g n a0 b0 x b f f2 w W' := by
  have k := h.sh k1 k2 k3 ha hb
  have e : q = a - 1 := by omega
  have hlow : ∀ p, a ≤ p → p < b → f1 c ≤ f2 p := fun p h1 h2 => by
    have h3 := k.l (by omega) p h1 h2
    rw [k2.out (a - 1) (.inl (by omega)), ← e] at h3
    omega
  refine ⟨k.r, k.s, fun p q h1 h2 h3 h4 => ?_, fun h1 p h2 h3 => ?_, k.w⟩
  · by_cases e1 : p < a ∨ b ≤ q
    · exact k.d p q h1 h2 h3 e1
    · have h5 := k4 p (by omega) (by omega)
      have h6 := hlow q (by omega) (by omega)
      omega
  · have h5 := k4 (x - 1) (by omega) (by omega)
    have h6 := k5 p h2 h3
    omega
/-- Behind partition. -/
structure Pt (g n a0 b0 a b m : Nat) (f f1 : Nat → Int) (w W : World) : Prop where
  p : Ps g n a0 b0 a b f f1 w W
  lo : ∀ p, a ≤ p → p < m → f1 p < f1 m
  hi : ∀ p, m < p → p < b → f1 m ≤ f1 p
  m1 : a ≤ m
  m2 : m < b
theorem Ps.part {g n a0 b0 a b c m : Nat} {f f1 f2 : Nat → Int} {w W W' : World} (h : Ps g n a0 b0 a b f f1 w W) (k1 : Ro W' g n f2) (k2 : Sh a b f1 f2) (k4 : f2 m = f1 c) (k5 : ∀ p, a ≤ p → p < m → f2 p < f1 c) (k6 : ∀ p, m < p → p < b → f1 c ≤ f2 p) (k3 : Apart (XB g) W W') (ha : a0 ≤ a) (hb : b ≤ b0) (m1 : a ≤ m) (m2 : m < b) : Pt g n a0 b0 a b m f f2 w W' := ⟨h.sh k1 k2 k3 ha hb, by rw [k4]; exact k5, by rw [k4]; exact k6, m1, m2⟩
theorem Pt.la {g n a0 b0 a b m : Nat} {f f1 : Nat → Int} {w W : World} (h : Pt g n a0 b0 a b m f f1 w W) : LB a m f1 := fun h1 p h2 h3 => h.p.l h1 p h2 (by have := h.m2; omega)
theorem Pt.lb {g n a0 b0 a b m : Nat} {f f1 : Nat → Int} {w W : World} (h : Pt g n a0 b0 a b m f f1 w W) : LB (m + 1) b f1 := fun h1 p h2 h3 => by
  rw [show m + 1 - 1 = m by omega]
  exact h.hi p (by omega) h3
theorem Pt.left {g n a0 b0 a b m : Nat} {f f1 f2 : Nat → Int} {w W W' : World} (h : Pt g n a0 b0 a b m f f1 w W) (k1 : Ro W' g n f2) (k2 : Sh a m f1 f2) (k4 : Srt a m f2) (k3 : Apart (XB g) W W') (ha : a0 ≤ a) (hb : b ≤ b0) : Ps g n a0 b0 (m + 1) b f f2 w W' := by
  have m1 := h.m1
  have m2 := h.m2
  have k := h.p.sh k1 (k2.wide (Nat.le_refl _) (by omega)) k3 ha hb
  have em : f2 m = f1 m := k2.out m (.inr (Nat.le_refl _))
  have hlo : ∀ p, a ≤ p → p < m → f2 p < f1 m := fun p h1 h2 => by
    obtain ⟨j, j1, j2, j3⟩ := k2.mem p h1 h2
    rw [j3]
    exact h.lo j j1 j2
  have hhi : ∀ p, m < p → p < b → f1 m ≤ f2 p := fun p h1 h2 => by
    rw [k2.out p (.inr (by omega))]
    exact h.hi p h1 h2
  refine ⟨k.r, k.s, fun p q h1 h2 h3 h4 => ?_, fun h1 p h2 h3 => ?_, k.w⟩
  · by_cases e1 : p < a ∨ b ≤ q
    · exact k.d p q h1 h2 h3 e1
    · by_cases e2 : p = m
      · subst e2
        rw [em]
        exact hhi q h2 (by omega)
      · have h5 := hlo p (by omega) (by omega)
        by_cases e3 : q < m
        · exact k4 p q (by omega) h2 e3
        · by_cases e4 : q = m
          · subst e4
            omega
          · have := hhi q (by omega) (by omega)
            omega
  · rw [show m + 1 - 1 = m by omega, em]
    exact hhi p (by omega) h3
theorem Pt.right {g n a0 b0 a b m : Nat} {f f1 f2 : Nat → Int} {w W W' : World} (h : Pt g n a0 b0 a b m f f1 w W) (k1 : Ro W' g n f2) (k2 : Sh (m + 1) b f1 f2) (k4 : Srt (m + 1) b f2) (k3 : Apart (XB g) W W') (ha : a0 ≤ a) (hb : b ≤ b0) : Ps g n a0 b0 a m f f2 w W' := by
  have m1 := h.m1
  have m2 := h.m2
  have k := h.p.sh k1 (k2.wide (by omega) (Nat.le_refl _)) k3 ha hb
  have em : f2 m = f1 m := k2.out m (.inl (by omega))
  have hlo : ∀ p, a ≤ p → p < m → f2 p < f1 m := fun p h1 h2 => by
    rw [k2.out p (.inl (by omega))]
    exact h.lo p h1 h2
  have hhi : ∀ p, m < p → p < b → f1 m ≤ f2 p := fun p h1 h2 => by
    obtain ⟨j, j1, j2, j3⟩ := k2.mem p (by omega) h2
    rw [j3]
    exact h.hi j (by omega) j2
  refine ⟨k.r, k.s, fun p q h1 h2 h3 h4 => ?_, fun h1 p h2 h3 => ?_, k.w⟩
  · by_cases e1 : p < a ∨ b ≤ q
    · exact k.d p q h1 h2 h3 e1
    · by_cases e2 : p = m
      · subst e2
        rw [em]
        exact hhi q h2 (by omega)
      · by_cases e5 : m < p
        · exact k4 p q (by omega) h2 (by omega)
        · have h5 := hlo p (by omega) (by omega)
          by_cases e4 : q = m
          · subst e4
            omega
          · have := hhi q (by omega) (by omega)
            omega
  · exact k.l h1 p h2 (by omega)
def PdqC (g n cap k : Nat) : Prop := ∀ (a b : Nat) (lim : Int) (f : Nat → Int) (w : World), b - a ≤ k → a ≤ b → b ≤ n → Ro w g n f → LB a b f → Calls Try.prog 16 #[.slice (some ⟨g, 0, none⟩) n cap, .int .i64 a, .int .i64 b, .int .i64 lim] w fun r w' => r = .returned (.tuple #[]) ∧ ∃ f', Ro w' g n f' ∧ Sh a b f f' ∧ Srt a b f' ∧ Apart (XB g) w w'
structure BoW (s : Value) : Prop where
  o : ∃ c : Bool, s = .bool c
structure PqR (g n a0 b0 : Nat) (f : Nat → Int) (w : World) (k : Nat) (s1 s2 s3 s8 s9 : Value) (wr : World) : Prop where
  o : ∃ (a b : Nat) (lim : Int) (bal par : Bool) (f1 : Nat → Int), a0 ≤ a ∧ a ≤ b ∧ b ≤ b0 ∧ b - a ≤ k ∧ s1 = .int .i64 a ∧ s2 = .int .i64 b ∧ s3 = .int .i64 lim ∧ s8 = .bool bal ∧ s9 = .bool par ∧ Hid3 (Ps g n a0 b0 a b f f1 w wr)
end Go.Proofs.Ytknmbecabgencaa
