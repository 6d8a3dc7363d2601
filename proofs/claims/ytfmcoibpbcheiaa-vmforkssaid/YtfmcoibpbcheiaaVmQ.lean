/- vm: pages one behind the other go to be written; bytes one behind the other are written, as plain data. -/
import Derived.Test.YtfmcoibpbcheiaaVmP
namespace Go.Proofs.Ytfmcoibpbcheiaa
open Go.RowKit Go.Maps
set_option linter.unusedVariables false
set_option maxRecDepth 100000
abbrev Pg := Fin 6 → Int → Option Int
def alF (N : Nat) (s : Vs) (p : Fin 6) (k : Nat) : Vs := if ownB s ((s.pg p k).getD 0) = true then s else mvS s p k ((s.pg p k).getD 0) (nx N s)
def alG (N : Nat) (s : Vs) (p : Fin 6) (k : Nat) : Nat := if ownB s ((s.pg p k).getD 0) = true then ((s.pg p k).getD 0).toNat else nx N s
def nd (s : Vs) (p : Fin 6) (k : Nat) : Int := ndI s ((s.pg p k).getD 0)
abbrev zr (N : Nat) (s : Vs) : Nat := zrs (fun k => s.rf.getD k 0) N
theorem nd_cases (s : Vs) (f : Int) : (ndI s f = 0 ∧ ownB s f = true) ∨ (ndI s f = 1 ∧ ownB s f = false) := by
  unfold ndI
  cases h : ownB s f with
  | true => exact .inl ⟨rfl, rfl⟩
  | false => exact .inr ⟨rfl, rfl⟩
/-- What one page that goes to be written comes to. -/
structure AlD (N : Nat) (s : Vs) (p : Fin 6) (k : Nat) (t : Vs) (g : Nat) : Prop where
  fr : Fr N t
  lt : g < N
  pg : t.pg p k = some (g : Int)
  own : cnt t.pg (g : Int) = 1
  z : (zr N t : Int) = zr N s - nd s p k
  oth : ∀ q (i : Nat), ¬ (q = p ∧ i = k) → t.pg q i = s.pg q i
  keep : ∀ q (i : Nat) (j : Int), i < 16 → ¬ (q = p ∧ i = k) → s.pg q i = some j → cnt s.pg j = 1 → 0 ≤ j → cnt t.pg j = 1
  has : t.has = s.has
  n : t.n = s.n
  cp : s.cp ≤ t.cp ∧ t.cp ≤ s.cp + 1
theorem alF_ok {N : Nat} {s : Vs} (h : Fr N s) {p : Fin 6} {k : Nat} {f : Int} (hk : k < 16) (hp : s.pg p k = some f) (hz : nd s p k ≤ zr N s) : AlD N s p k (alF N s p k) (alG N s p k) := by
  unfold alF alG
  unfold nd at hz
  rw [hp, Option.getD_some] at hz ⊢
  rcases nd_cases s f with ⟨h1, h2⟩ | ⟨h1, h2⟩
  · obtain ⟨h3, h4⟩ := (own_iff h p k f hp).1 h2
    have hb := (h.pgs p k f hp).2
    rw [if_pos h2, if_pos h2]
    have e : ((f.toNat : Nat) : Int) = f := by omega
    exact ⟨h, by omega, by rw [e]; exact hp, by rw [e]; exact h4, by unfold nd; rw [hp, Option.getD_some, h1]; omega, fun _ _ _ => rfl, fun _ _ _ _ _ _ h _ => h, rfl, rfl, by omega⟩
  · have hx := nx_ok h.n (show 1 ≤ zr N s by omega)
    have M : Mv0 N s p k f (nx N s) := ⟨h, hk, hp, h2, hx⟩
    rw [if_neg (by rw [h2]; simp), if_neg (by rw [h2]; simp)]
    have hne := M.ne
    have hm0 := M.m0
    have hlt := hx.lt
    have hN := h.hi
    have hmv : ∀ j : Int, cnt (mvS s p k f (nx N s)).pg j + is (s.pg p) j k = cnt s.pg j + if some ((nx N s : Nat) : Int) = some j then 1 else 0 := fun j => cnt_move s.pg p k hk (some ((nx N s : Nat) : Int)) j
    have his : ∀ j : Int, is (s.pg p) j k = if f = j then 1 else 0 := fun j => by
      unfold is
      rw [hp]
      by_cases e : f = j
      · rw [if_pos (by rw [e]), if_pos e]
      · rw [if_neg (fun c => e (by injection c)), if_neg e]
    have hoth : ∀ q (i : Nat), ¬ (q = p ∧ i = k) → (mvS s p k f (nx N s)).pg q i = s.pg q i := fun q i hq => by
      show upF s.pg p (upI (s.pg p) k (some ((nx N s : Nat) : Int))) q i = _
      by_cases c : q = p
      · subst c
        rw [upF_same]
        exact if_neg (fun x => hq ⟨rfl, by omega⟩)
      · rw [upF_other _ _ _ _ c]
    refine ⟨M.fr2, hlt, ?_, ?_, ?_, hoth, fun q i j hi hq hj h3 h4 => ?_, (alS_n s f (nx N s)).2.1, (alS_n s f (nx N s)).1, ?_⟩
    · show upF s.pg p (upI (s.pg p) k (some ((nx N s : Nat) : Int))) p k = _
      rw [upF_same]
      exact if_pos rfl
    · have := hmv (nx N s : Nat)
      rw [his, if_neg hne, if_pos rfl] at this
      omega
    · have h5 := zrs_one (fun k => s.rf.getD k 0) (fun k => (mvS s p k f (nx N s)).rf.getD k 0)
      have h6 : zr N (mvS s p k f (nx N s)) + 1 = zr N s := zrs_one (fun k => s.rf.getD k 0) (fun j => (mvS s p k f (nx N s)).rf.getD j 0) (nx N s) hx.z (by
          show (mvS s p k f (nx N s)).rf.getD (nx N s) 0 ≠ 0
          rw [M.rf, hx.z, if_pos rfl, if_neg hne]
          omega) N hlt (fun j hj hjm => by
          show s.rf.getD j 0 = 0 ↔ (mvS s p k f (nx N s)).rf.getD j 0 = 0
          rw [M.rf, if_neg hjm]
          by_cases c : f = (j : Int)
          · have h7 := M.f2 (by omega)
            have e : f.toNat = j := by omega
            rw [e] at h7
            rw [if_pos c]
            omega
          · rw [if_neg c]
            omega)
      unfold nd
      rw [hp, Option.getD_some, h1]
      omega
    · have h5 := hmv j
      have hjm : ¬ ((nx N s : Nat) : Int) = j := fun e => by
        rw [← e, hm0] at h3
        omega
      have hjf : ¬ f = j := fun e => by
        have h7 := M.f2 (by omega)
        rw [e] at h7
        omega
      rw [his, if_neg hjf, if_neg (fun c => hjm (by injection c))] at h5
      omega
    · show s.cp ≤ (alS s f (nx N s)).cp ∧ (alS s f (nx N s)).cp ≤ s.cp + 1
      rw [alS_cp]
      split <;> omega
theorem alF_iv {N : Nat} {s : Vs} {V : Fin 6 → Nat → Int} (h : Iv N s V) {p : Fin 6} {k : Nat} {f : Int} (hk : k < 16) (hp : s.pg p k = some f) (hz : nd s p k ≤ zr N s) : Iv N (alF N s p k) V := by
  unfold alF
  unfold nd at hz
  rw [hp, Option.getD_some] at hz ⊢
  rcases nd_cases s f with ⟨h1, h2⟩ | ⟨h1, h2⟩
  · rw [if_pos h2]
    exact h
  · have hx := nx_ok h.fr.n (show 1 ≤ zr N s by omega)
    have M : Mv0 N s p k f (nx N s) := ⟨h.fr, hk, hp, h2, hx⟩
    rw [if_neg (by rw [h2]; simp)]
    obtain ⟨a, b⟩ := M.L h.L h.z
    exact ⟨M.fr2, a, M.vw h.vw _ b, M.zf h.z b⟩
/-- Pages one behind the other. -/
def alN (N : Nat) (s : Vs) (p : Fin 6) (first : Nat) : Nat → Vs
  | 0 => s
  | c + 1 => alF N (alN N s p first c) p (first + c)
def ndT (s : Vs) (p : Fin 6) (first : Nat) : Nat → Int
  | 0 => 0
  | c + 1 => ndT s p first c + nd s p (first + c)
theorem nd_le (s : Vs) (p : Fin 6) (k : Nat) : 0 ≤ nd s p k ∧ nd s p k ≤ 1 := by
  unfold nd
  rcases nd_cases s ((s.pg p k).getD 0) with ⟨h, _⟩ | ⟨h, _⟩ <;> omega
theorem ndT_mono (s : Vs) (p : Fin 6) (first : Nat) (c : Nat) : ∀ d, 0 ≤ ndT s p first (c + d) - ndT s p first c
  | 0 => by rw [Nat.add_zero]; omega
  | d + 1 => by
    have := ndT_mono s p first c d
    have := nd_le s p (first + (c + d))
    show 0 ≤ ndT s p first (c + d) + nd s p (first + (c + d)) - _
    omega
theorem ndT_le (s : Vs) (p : Fin 6) (first : Nat) : ∀ c, 0 ≤ ndT s p first c ∧ ndT s p first c ≤ c
  | 0 => by show (0 : Int) ≤ 0 ∧ (0 : Int) ≤ ((0 : Nat) : Int); omega
  | c + 1 => by
    have := ndT_le s p first c
    have := nd_le s p (first + c)
    show 0 ≤ ndT s p first c + nd s p (first + c) ∧ ndT s p first c + nd s p (first + c) ≤ ((c + 1 : Nat) : Int)
    omega
structure AlN (N : Nat) (s : Vs) (p : Fin 6) (first c d : Nat) : Prop where
  fr : Fr N (alN N s p first d)
  z : ndT s p first c - ndT s p first d ≤ zr N (alN N s p first d)
  has : (alN N s p first d).has = s.has
  n : (alN N s p first d).n = s.n
  cp : s.cp ≤ (alN N s p first d).cp ∧ (alN N s p first d).cp ≤ s.cp + d
  rest : ∀ j, d ≤ j → j < c → (alN N s p first d).pg p ((first + j : Nat) : Int) = s.pg p ((first + j : Nat) : Int) ∧ nd (alN N s p first d) p (first + j) ≤ nd s p (first + j)
  done : ∀ j, j < d → ∃ g : Nat, g < N ∧ (alN N s p first d).pg p ((first + j : Nat) : Int) = some (g : Int) ∧ cnt (alN N s p first d).pg (g : Int) = 1
  oth : ∀ q (i : Nat), ¬ (q = p ∧ first ≤ i ∧ i < first + d) → (alN N s p first d).pg q i = s.pg q i
theorem alN_ok {N : Nat} {s : Vs} (h : Fr N s) {p : Fin 6} {first c : Nat} (hc : first + c ≤ 16) (hp : ∀ j, j < c → s.pg p ((first + j : Nat) : Int) ≠ none) (hz : ndT s p first c ≤ zr N s) : ∀ d, d ≤ c → AlN N s p first c d
  | 0, _ => ⟨h, by show ndT s p first c - 0 ≤ _; exact (by omega : ndT s p first c - 0 ≤ (zr N s : Int)), rfl, rfl, by show s.cp ≤ s.cp ∧ s.cp ≤ s.cp + ((0 : Nat) : Int); omega, fun j _ _ => ⟨rfl, Int.le_refl _⟩, fun j hj => absurd hj (Nat.not_lt_zero j), fun _ _ _ => rfl⟩
  | d + 1, hd => by
    have ih := alN_ok h hc hp hz d (by omega)
    obtain ⟨r1, r2⟩ := ih.rest d (Nat.le_refl _) (by omega)
    cases hf : s.pg p ((first + d : Nat) : Int) with
    | none => exact absurd hf (hp d (by omega))
    | some f =>
      rw [hf] at r1
      have hmono := ndT_mono s p first (d + 1) (c - (d + 1))
      rw [show d + 1 + (c - (d + 1)) = c by omega] at hmono
      have hstep : ndT s p first (d + 1) = ndT s p first d + nd s p (first + d) := rfl
      have ihz := ih.z
      have A := alF_ok ih.fr (by omega : first + d < 16) r1 (by omega)
      have e : alN N s p first (d + 1) = alF N (alN N s p first d) p (first + d) := rfl
      have Az := A.z
      have ihcp := ih.cp
      have Acp := A.cp
      refine ⟨by rw [e]; exact A.fr, by rw [e]; omega, by rw [e]; exact A.has.trans ih.has, by rw [e]; exact A.n.trans ih.n, by rw [e]; omega, fun j h1 h2 => ?_, fun j hj => ?_, fun q i hq => ?_⟩
      · obtain ⟨s1, s2⟩ := ih.rest j (by omega) h2
        have hne : ¬ (p = p ∧ first + j = first + d) := fun c => by omega
        have e1 : (alN N s p first (d + 1)).pg p ((first + j : Nat) : Int) = (alN N s p first d).pg p ((first + j : Nat) : Int) := by rw [e]; exact A.oth p (first + j) hne
        refine ⟨e1.trans s1, ?_⟩
        refine Int.le_trans ?_ s2
        cases hj : s.pg p ((first + j : Nat) : Int) with
        | none => exact absurd hj (hp j h2)
        | some fj =>
          rw [hj] at s1
          have e3 := e1.trans s1
          unfold nd
          rw [e3, s1, Option.getD_some]
          rcases nd_cases (alN N s p first d) fj with ⟨a1, a2⟩ | ⟨a1, a2⟩
          · obtain ⟨b1, b2⟩ := (own_iff ih.fr p (first + j) fj s1).1 a2
            have b3 := A.keep p (first + j) fj (by omega) hne s1 b2 b1
            have b4 : ownB (alN N s p first (d + 1)) fj = true := (own_iff (by rw [e]; exact A.fr) p (first + j) fj e3).2 ⟨b1, by rw [e]; exact b3⟩
            rcases nd_cases (alN N s p first (d + 1)) fj with ⟨c1, c2⟩ | ⟨c1, c2⟩
            · omega
            · rw [b4] at c2
              cases c2
          · rcases nd_cases (alN N s p first (d + 1)) fj with ⟨c1, c2⟩ | ⟨c1, c2⟩ <;> omega
      · by_cases q : j = d
        · subst q
          exact ⟨_, A.lt, by rw [e]; exact A.pg, by rw [e]; exact A.own⟩
        · obtain ⟨g, g1, g2, g3⟩ := ih.done j (by omega)
          have hne : ¬ (p = p ∧ first + j = first + d) := fun c => by omega
          exact ⟨g, g1, by rw [e, A.oth p (first + j) hne]; exact g2, by rw [e]; exact A.keep p (first + j) g (by omega) hne g2 g3 (by omega)⟩
      · rw [e, A.oth q i (fun c => hq ⟨c.1, by omega, by omega⟩)]
        exact ih.oth q i (fun c => hq ⟨c.1, c.2.1, by omega⟩)
theorem alN_iv {N : Nat} {s : Vs} {V : Fin 6 → Nat → Int} (h : Iv N s V) {p : Fin 6} {first c : Nat} (hc : first + c ≤ 16) (hp : ∀ j, j < c → s.pg p ((first + j : Nat) : Int) ≠ none) (hz : ndT s p first c ≤ zr N s) : ∀ d, d ≤ c → Iv N (alN N s p first d) V
  | 0, _ => h
  | d + 1, hd => by
    have ih := alN_iv h hc hp hz d (by omega)
    have k := alN_ok h.fr hc hp hz d (by omega)
    obtain ⟨r1, r2⟩ := k.rest d (Nat.le_refl _) (by omega)
    cases hf : s.pg p ((first + d : Nat) : Int) with
    | none => exact absurd hf (hp d (by omega))
    | some f =>
      rw [hf] at r1
      have hmono := ndT_mono s p first (d + 1) (c - (d + 1))
      rw [show d + 1 + (c - (d + 1)) = c by omega] at hmono
      have hstep : ndT s p first (d + 1) = ndT s p first d + nd s p (first + d) := rfl
      have kz := k.z
      exact alF_iv ih (by omega) r1 (by omega)
/-- Bytes one behind the other. -/
def frG (s : Vs) (p : Fin 6) (a : Nat) : Nat := ((s.pg p ((a / 32 : Nat) : Int)).getD 0).toNat
def wrL (N : Nat) (s : Vs) (p : Fin 6) (a : Nat) (b : Nat → Int) : Nat → List Int
  | 0 => s.L
  | i + 1 => sbL N (wrL N s p a b i) (frG s p (a + i)) ((a + i) % 32 : Nat) (b i)
def upVs (V : Fin 6 → Nat → Int) (p : Fin 6) (a : Nat) (b : Nat → Int) : Nat → Fin 6 → Nat → Int
  | 0 => V
  | i + 1 => upV (upVs V p a b i) p (a + i) (b i)
theorem wr_ok {N : Nat} {s : Vs} {V : Fin 6 → Nat → Int} (h : Iv N s V) {p : Fin 6} {a m : Nat} (b : Nat → Int) (ha : a + m ≤ 512) (hg : ∀ i, i < m → ∃ g : Nat, s.pg p (((a + i) / 32 : Nat) : Int) = some (g : Int) ∧ cnt s.pg (g : Int) = 1) : ∀ i, i ≤ m → Iv N { s with L := wrL N s p a b i } (upVs V p a b i)
  | 0, _ => h
  | i + 1, hi => by
    have ih := wr_ok h b ha hg i (by omega)
    obtain ⟨g, g1, g2⟩ := hg i (by omega)
    have hgb := h.fr.pgs p _ g g1
    have hgN : g < N := by omega
    have e : frG s p (a + i) = g := by unfold frG; rw [g1]; rfl
    have ha2 : (a + i) / 32 * 32 + (a + i) % 32 = a + i := by omega
    have hv := vw_write (s := { s with L := wrL N s p a b i }) (b := b i) ⟨ih.fr.n, ih.fr.lo, ih.fr.hi, ih.fr.len, ih.fr.no, ih.fr.pgs, ih.fr.rf⟩ (by omega : (a + i) / 32 < 16) (by omega : (a + i) % 32 < 32) g1 g2 ih.L ih.vw
    have hzz := zf_write (s := { s with L := wrL N s p a b i }) (b := b i) ih.fr (by omega : (a + i) / 32 < 16) (by omega : (a + i) % 32 < 32) g1 ih.L ih.z
    rw [ha2] at hv
    have e2 : wrL N s p a b (i + 1) = sbL N (wrL N s p a b i) (g : Nat) ((a + i) % 32 : Nat) (b i) := by rw [← e]; rfl
    refine ⟨⟨ih.fr.n, ih.fr.lo, ih.fr.hi, ih.fr.len, ih.fr.no, ih.fr.pgs, ih.fr.rf⟩, ?_, ?_, ?_⟩
    · show (wrL N s p a b (i + 1)).length = 2048
      rw [e2]
      exact sbL_len ih.L g _ _ hgN (by omega) h.fr.hi
    · show Vw s.pg (wrL N s p a b (i + 1)) (upV (upVs V p a b i) p (a + i) (b i))
      rw [e2]
      exact hv
    · rw [e2]
      exact hzz
end Go.Proofs.Ytfmcoibpbcheiaa
