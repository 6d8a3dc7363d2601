/- VmFills: what a Fill comes to, as plain data. -/
import Derived.Test.YtfmcoibpbcheiaaVrU
import Derived.Test.YtfmcoibpbcheiaaVmN
import Derived.Test.YtfmcoibpbcheiaaVmYd
namespace Go.Proofs.Ytfmcoibpbcheiaa
open Go.RowKit Go.Maps
set_option linter.unusedVariables false
set_option maxRecDepth 100000
theorem prc_ext {s t : Vs} (h : t.has = s.has) (pid : Int) : prc t pid = prc s pid := by
  unfold prc
  rw [h]
theorem upVs_out (V : Fin 6 → Nat → Int) (p : Fin 6) (a : Nat) (b : Nat → Int) (i : Nat) : ∀ m, m ≤ i → upVs V p a b m p (a + i) = V p (a + i)
  | 0, _ => rfl
  | m + 1, h => by
    show (if p = p ∧ a + i = a + m then b m else upVs V p a b m p (a + i)) = _
    rw [if_neg (fun c => by omega)]
    exact upVs_out V p a b i m (by omega)
theorem upVs_at (V : Fin 6 → Nat → Int) (p : Fin 6) (a : Nat) (b : Nat → Int) (i : Nat) : ∀ m, i < m → upVs V p a b m p (a + i) = b i
  | 0, h => absurd h (Nat.not_lt_zero _)
  | m + 1, h => by
    show (if p = p ∧ a + i = a + m then b m else upVs V p a b m p (a + i)) = _
    by_cases e : i = m
    · rw [if_pos ⟨rfl, by omega⟩, e]
    · rw [if_neg (fun c => by omega)]
      exact upVs_at V p a b i m (by omega)
theorem alN_zle {N : Nat} {s : Vs} {V : Fin 6 → Nat → Int} (h : Iv N s V) {p : Fin 6} {first c : Nat} (hc : first + c ≤ 16) (hp : ∀ j, j < c → s.pg p ((first + j : Nat) : Int) ≠ none) (hz : ndT s p first c ≤ zr N s) : ∀ d, d ≤ c → zr N (alN N s p first d) ≤ zr N s
  | 0, _ => Nat.le_refl _
  | d + 1, hd => by
    have ih := alN_zle h hc hp hz d (by omega)
    have k := alN_ok h.fr hc hp hz d (by omega)
    obtain ⟨r1, r2⟩ := k.rest d (Nat.le_refl _) (by omega)
    cases hf : s.pg p ((first + d : Nat) : Int) with
    | none => exact absurd hf (hp d (by omega))
    | some f =>
      rw [hf] at r1
      have hmono := ndT_mono s p first (d + 1) (c - (d + 1))
      rw [show d + 1 + (c - (d + 1)) = c by omega] at hmono
      have hstep : ndT s p first (d + 1) = ndT s p first d + nd s p (first + d) := rfl
      have kz := k.z
      have A := alF_ok k.fr (by omega : first + d < 16) r1 (by omega)
      have Az := A.z
      have nn := nd_le (alN N s p first d) p (first + d)
      show zr N (alF N (alN N s p first d) p (first + d)) ≤ zr N s
      omega
theorem fill_zle {N : Nat} {s : Vs} {V : Fin 6 → Nat → Int} (h : Iv N s V) (pid addr : Int) (m : Nat) (b : Nat → Int) : zr N (fillS N s pid addr m b) ≤ zr N s := by
  unfold fillS
  cases h1 : prc s pid with
  | none => exact Nat.le_refl _
  | some p =>
    simp only
    by_cases hc : fillE N s pid addr m = 0 ∧ m ≠ 0
    · rw [if_pos hc]
      obtain ⟨e1, e2, e3, e4⟩ := fillE_ok h1 hc.1 hc.2
      obtain ⟨z1, z2, z3⟩ := pcs_ar (by omega : 1 ≤ m) e2
      exact alN_zle h z1 (gap_no e3) e4 (pcs addr.toNat m) (Nat.le_refl _)
    · rw [if_neg hc]
      exact Nat.le_refl _
/-- What Peek tells of the bytes behind a Fill. -/
theorem fill_told {N : Nat} {s : Vs} {V : Fin 6 → Nat → Int} (h : Iv N s V) (pid addr : Int) (m : Nat) (b : Nat → Int) (i : Nat) (hi : i < m) : (fillE N s pid addr m = 0 → peekV (fillS N s pid addr m b) (fillV N s V pid addr m b) pid (addr + i) = (b i, 0)) ∧ (fillE N s pid addr m ≠ 0 → peekV (fillS N s pid addr m b) (fillV N s V pid addr m b) pid (addr + i) = peekV s V pid (addr + i)) := by
  have hk := (fill_iv h pid addr m b).2.2.2.2
  have hh := (fill_iv h pid addr m b).2.1
  refine ⟨fun e => ?_, fun e => ?_⟩
  · rcases prc_cases s pid with ⟨h1, _⟩ | ⟨p, h1, _, _⟩
    · exfalso
      unfold fillE at e
      rw [h1] at e
      cases e
    · obtain ⟨e1, e2, e3, e4⟩ := fillE_ok h1 e (by omega)
      obtain ⟨z1, z2, z3⟩ := pcs_ar (by omega : 1 ≤ m) e2
      have ha : (addr + (i : Int)).toNat = addr.toNat + i := by omega
      unfold peekV
      rw [prc_ext hh, h1]
      simp only
      have hA : inA (addr + i) 1 = true := by
        unfold inA
        rw [decide_eq_true (by omega), decide_eq_true (by omega), decide_eq_true (by omega)]
        rfl
      have hp : ¬ (fillS N s pid addr m b).pg p (((addr.toNat + i) / 32 : Nat) : Int) = none := by
        rw [← hk p ((addr.toNat + i) / 32)]
        have := gap_no e3 ((addr.toNat + i) / 32 - addr.toNat / 32) (by omega)
        rw [show addr.toNat / 32 + ((addr.toNat + i) / 32 - addr.toNat / 32) = (addr.toNat + i) / 32 by omega] at this
        exact this
      rw [hA, if_neg (by simp), ha, if_neg hp]
      congr 1
      unfold fillV
      rw [h1]
      simp only
      rw [if_pos ⟨e, by omega⟩]
      exact upVs_at V p _ b i m hi
  · have e1 : fillS N s pid addr m b = s := fillS_err e
    have e2 : fillV N s V pid addr m b = V := by
      unfold fillV
      split
      · rfl
      · rw [if_neg (fun c => e c.1)]
    rw [e1, e2]
theorem Byts.up {B B' : Nat} {w : World} {v : Value} {l : List Int} (h : Byts B w v l) (k : B ≤ B') : Byts B' w v l := by
  obtain ⟨a, cap, e, h1, h2, h3⟩ := h
  exact ⟨a, cap, e, h1, h2, fun j x hj => (h3 j x hj).elim fun g t => t.elim fun off u => ⟨g, off, u.1, Nat.lt_of_lt_of_le u.2.1 k, u.2.2⟩⟩
theorem Dvs.up {B B' : Nat} {w : World} {v : Value} {l : List Dv} (h : Dvs B w v l) (k : B ≤ B') : Dvs B' w v l := by
  obtain ⟨a, cap, e, h1, h2⟩ := h
  refine ⟨a, cap, e, h1, fun j d hj => ?_⟩
  obtain ⟨ok, g, off, e2, hg, rest⟩ := h2 j d hj
  exact ⟨⟨ok.b.up k, ok.s, ok.c, ok.p, ok.q, ok.m⟩, g, off, e2, Nat.lt_of_lt_of_le hg k, rest⟩
/-- The program's alone. -/
structure Pv (w W : World) (vb N c : Nat) : Prop where
  ex : ∃ l s V, Va w.heap.size W vb N l s V c
  bl : Below w.heap.size w W
theorem Pv.low {w W W' : World} {vb N c : Nat} (h : Pv w W vb N c) (j : Below W.heap.size W W') : Pv w W' vb N c := by
  obtain ⟨l, s, V, h1⟩ := h.ex
  exact ⟨⟨l, s, V, ⟨h1.e, h1.v.below j, h1.i, h1.cp⟩⟩, h.bl.trans (j.mono h.bl.size)⟩
theorem Pb.pv {w W : World} {vb rb N c : Nat} (h : Pb w W vb rb N c) : Pv w W vb N c := by
  obtain ⟨S, hS⟩ := h.ex
  obtain ⟨l, s, V, o, L, h1, _⟩ := hS.ex
  exact ⟨⟨l, s, V, h1⟩, h.bl⟩
end Go.Proofs.Ytfmcoibpbcheiaa
