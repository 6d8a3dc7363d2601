/- The program's vm: one after the other is forked, and writes its byte. -/
import Derived.Test.YtfmcoibpbcheiaaVmJ
namespace Go.Proofs.Ytfmcoibpbcheiaa
open Go.RowKit Go.Maps
set_option linter.unusedVariables false
set_option maxRecDepth 100000
theorem frL_at {L : List Int} {f i : Nat} (hi : i < 32) : (frL L f).getD i 0 = L.getD (f * 32 + i) 0 := by
  rw [frL, List.getD_eq_getElem?_getD, List.getD_eq_getElem?_getD, List.getElem?_take, if_pos hi, List.getElem?_drop]
theorem cnN_zero (p : Int → Bool) (h : ∀ k : Int, k ≠ 0 → p k = false) : ∀ n, cnN p (n + 1) = if p 0 = true then 1 else 0
  | 0 => by simp [cnN]
  | n + 1 => by
    rw [cnN, cnN_zero p h n, if_neg (c := p ((n + 1 : Nat) : Int) = true) (by rw [h _ (by omega)]; simp), Nat.add_zero]
theorem zrs_pos (f : Nat → Int) (m : Nat) (h : f m = 0) : ∀ n, m < n → 1 ≤ zrs f n
  | 0, hn => by omega
  | n + 1, hn => by
    by_cases e : m = n
    · subst e
      rw [zrs_yes f m h]
      omega
    · have := zrs_pos f m h n (by omega)
      unfold zrs
      omega
theorem set_at (l : List Int) (k j : Nat) (x : Int) (hk : k < l.length) : (l.set k x).getD j 0 = if j = k then x else l.getD j 0 := by
  by_cases e : j = k
  · subst e
    rw [if_pos rfl, List.getD_eq_getElem?_getD, List.getElem?_set_self hk]
    rfl
  · rw [if_neg e, List.getD_eq_getElem?_getD, List.getElem?_set_ne (fun x => e x.symm), ← List.getD_eq_getElem?_getD]
structure Fi (b : Nat → Int) (i : Nat) (s : Vs) : Prop where
  n : s.n = 16
  cp : s.cp = i
  has : ∀ p : Fin 6, s.has p = decide (p.1 ≤ i)
  pg : ∀ p : Fin 6, p.1 ≤ i → s.pg p = fun k => if k = 0 then some (p.1 : Int) else none
  rf : ∀ j, j < 64 → s.rf.getD j 0 = if j ≤ i then 1 else 0
  L : ∀ p, p ≤ i → ∀ k, k < 6 → s.L.getD (p * 32 + k) 0 = if k ≤ p then b k else 0
theorem fkS_rf (b : Nat → Int) (i : Nat) (s : Vs) (h : Fi b i s) (hi : i + 1 < 6) (j : Nat) (hj : j < 64) : (fkS s ⟨i, by omega⟩ ⟨i + 1, hi⟩).rf.getD j 0 = if j < i then 1 else if j = i then 2 else 0 := by
  show (fkR s.rf (s.pg ⟨i, by omega⟩)).getD j 0 = _
  rw [fkR, List.getD_eq_getElem?_getD, List.getElem?_map, List.getElem?_range hj, Option.map_some, Option.getD_some, h.pg ⟨i, by omega⟩ (Nat.le_refl _), cnN_zero _ (fun k hk => by simp [hk]) 15, h.rf j hj]
  by_cases h1 : j < i
  · have e : ¬ (i : Int) = (j : Int) := by omega
    rw [if_pos (by omega : j ≤ i), if_pos h1, if_neg (by simpa using e)]
    rfl
  · by_cases h2 : j = i
    · subst h2
      rw [if_pos (Nat.le_refl _), if_neg h1, if_pos rfl, if_pos (by simp)]
      rfl
    · have e : ¬ (i : Int) = (j : Int) := by omega
      rw [if_neg (by omega : ¬ j ≤ i), if_neg h1, if_neg h2, if_neg (by simpa using e)]
      rfl
theorem Fi.pgs {b : Nat → Int} {i : Nat} {s : Vs} (h : Fi b i s) (p : Fin 6) (hp : p.1 ≤ i) : Pgs (s.pg p) := fun z v hz => by
  rw [h.pg p hp] at hz
  by_cases e : z = 0
  · simp only [e, if_true] at hz
    injection hz with hz
    omega
  · simp only [if_neg e] at hz
    cases hz
theorem fi_core {b : Nat → Int} {i : Nat} {s : Vs} (t : Vs) (h : Fi b i s) (hi : i + 1 < 6) (hl : s.L.length = 2048) (hrf : ∀ j, j < 64 → t.rf.getD j 0 = if j < i then 1 else if j = i then 2 else 0) (hfl : t.rf.length = 64) (hL0 : t.L = s.L) (hn0 : t.n = 16) (hc0 : t.cp = i) (hh0 : ∀ p : Fin 6, t.has p = decide (p.1 ≤ i + 1)) (hp0 : ∀ p : Fin 6, p.1 ≤ i → t.pg p = fun k => if k = 0 then some (p.1 : Int) else none) (hp1 : t.pg ⟨i + 1, hi⟩ = fun k => if k = 0 then some (i : Int) else none) : Fi b (i + 1) (pkS (alS t i (i + 1)) ⟨i + 1, hi⟩ (i + 1) (i + 1) (b (i + 1))) := by
  have ea : alS t i (i + 1) = jnS (lvS (cpS t (i + 1) i) i) (i + 1) := by
    unfold alS
    rw [if_neg (by omega : ¬ (i : Int) = -1), Int.toNat_natCast]
  rw [ea]
  have hi2 : (cpS t (i + 1) i).rf.getD i 0 = 2 := by
    show t.rf.getD i 0 = 2
    rw [hrf i (by omega), if_neg (by omega), if_pos rfl]
  have eL : (lvS (cpS t (i + 1) i) i).L = putL s.L ((i + 1) * 32) (frL s.L i) := by
    show (if (cpS t (i + 1) i).rf.getD i 0 = 1 then _ else cpL t.n t.L ((i + 1 : Nat) : Int) i) = _
    rw [hi2, if_neg (by omega), hL0, hn0]
    unfold cpL cpB inB
    rw [if_pos (by
      rw [Bool.and_eq_true]
      exact ⟨decide_eq_true (by omega), decide_eq_true (by omega)⟩), Int.toNat_natCast, Int.toNat_natCast]
  have hfr := frL_len (f := i) hl (by omega)
  have hl2 : (putL s.L ((i + 1) * 32) (frL s.L i)).length = 2048 := by rw [putL_length (by omega), hl]
  have e32 : (i + 1) / 32 = 0 := by omega
  have e33 : (i + 1) % 32 = i + 1 := by omega
  refine ⟨hn0, ?_, hh0, ?_, ?_, ?_⟩
  · show t.cp + 1 = _
    rw [hc0]
    omega
  · intro p hp
    show upF t.pg ⟨i + 1, hi⟩ (upI (t.pg ⟨i + 1, hi⟩) (((i + 1) / 32 : Nat) : Int) (some ((i + 1 : Nat) : Int))) p = _
    by_cases e : p = ⟨i + 1, hi⟩
    · subst e
      rw [upF_same, hp1, e32]
      funext k
      unfold upI
      by_cases hk : k = 0
      · have h2 : k = ((0 : Nat) : Int) := hk
        rw [if_pos h2, if_pos hk]
      · have h2 : ¬ k = ((0 : Nat) : Int) := hk
        rw [if_neg h2]
        show (if k = 0 then some (i : Int) else none) = _
        rw [if_neg hk, if_neg hk]
    · rw [upF_other _ _ _ _ e]
      have : p.1 ≠ i + 1 := fun x => e (Fin.ext x)
      exact hp0 p (by omega)
  · intro j hj
    show ((t.rf.set i (t.rf.getD i 0 - 1)).set (i + 1) ((t.rf.set i (t.rf.getD i 0 - 1)).getD (i + 1) 0 + 1)).getD j 0 = _
    rw [set_at _ _ _ _ (by rw [List.length_set]; omega), set_at _ _ _ _ (by omega), set_at _ _ _ _ (by omega), hrf i (by omega), hrf j hj, hrf (i + 1) (by omega)]
    by_cases h1 : j = i + 1
    · rw [if_pos h1, if_neg (by omega), if_neg (by omega), if_neg (by omega), if_pos (by omega)]
      rfl
    · rw [if_neg h1]
      by_cases h2 : j = i
      · rw [if_pos h2, if_neg (by omega), if_pos rfl, if_pos (by omega)]
        rfl
      · rw [if_neg h2]
        by_cases h3 : j < i
        · rw [if_pos h3, if_pos (by omega)]
        · rw [if_neg h3, if_neg h2, if_neg (by omega)]
  · intro p hp k hk
    show (sbL t.n (lvS (cpS t (i + 1) i) i).L ((i + 1 : Nat) : Int) (((i + 1) % 32 : Nat) : Int) (b (i + 1))).getD (p * 32 + k) 0 = _
    rw [eL, hn0, e33]
    unfold sbL inB
    rw [if_pos (decide_eq_true (by omega))]
    show (putL _ ((((i + 1 : Nat) : Int)).toNat * 32 + (((i + 1 : Nat) : Int)).toNat) [b (i + 1)]).getD (p * 32 + k) 0 = _
    rw [Int.toNat_natCast]
    by_cases h1 : p = i + 1
    · subst h1
      by_cases h2 : k = i + 1
      · subst h2
        have := putL_in (L := putL s.L ((i + 1) * 32) (frL s.L i)) (vs := [b (i + 1)]) (k := (i + 1) * 32 + (i + 1)) (p := 0) (by rw [hl2]; simp; omega) (by simp)
        rw [if_pos (Nat.le_refl _)]
        exact this
      · rw [putL_out (by rw [hl2]; simp; omega) (by simp; omega), putL_in (by rw [hl, hfr]; omega) (by omega), frL_at (by omega), h.L i (Nat.le_refl _) k hk]
        by_cases h3 : k ≤ i
        · rw [if_pos h3, if_pos (by omega)]
        · rw [if_neg h3, if_neg (by omega)]
    · rw [putL_out (by rw [hl2]; simp; omega) (by simp; omega), putL_out (by rw [hl, hfr]; omega) (by rw [hfr]; omega), h.L p (by omega) k hk]
theorem Fi.step {b : Nat → Int} {i : Nat} {s : Vs} (h : Fi b i s) (hi : i + 1 < 6) (hl : s.L.length = 2048) : Fi b (i + 1) (pkS (alS (fkS s ⟨i, by omega⟩ ⟨i + 1, hi⟩) i (i + 1)) ⟨i + 1, hi⟩ (i + 1) (i + 1) (b (i + 1))) := by
  have hrf := fkS_rf b i s h hi
  have hfl : (fkS s ⟨i, by omega⟩ ⟨i + 1, hi⟩).rf.length = 64 := by show (fkR _ _).length = 64; simp [fkR]
  have hL0 : (fkS s ⟨i, by omega⟩ ⟨i + 1, hi⟩).L = s.L := rfl
  have hn0 : (fkS s ⟨i, by omega⟩ ⟨i + 1, hi⟩).n = 16 := h.n
  have hc0 : (fkS s ⟨i, by omega⟩ ⟨i + 1, hi⟩).cp = i := h.cp
  have hh0 : ∀ p : Fin 6, (fkS s ⟨i, by omega⟩ ⟨i + 1, hi⟩).has p = decide (p.1 ≤ i + 1) := fun p => by
    show upF s.has ⟨i + 1, hi⟩ true p = _
    by_cases e : p = ⟨i + 1, hi⟩
    · subst e
      rw [upF_same]
      simp
    · rw [upF_other _ _ _ _ e, h.has]
      have : p.1 ≠ i + 1 := fun x => e (Fin.ext x)
      congr 1
      exact propext ⟨fun _ => by omega, fun _ => by omega⟩
  have hp0 : ∀ p : Fin 6, p.1 ≤ i → (fkS s ⟨i, by omega⟩ ⟨i + 1, hi⟩).pg p = fun k => if k = 0 then some (p.1 : Int) else none := fun p hp => by
    show upF s.pg ⟨i + 1, hi⟩ _ p = _
    rw [upF_other _ _ _ _ (fun e => by have := congrArg Fin.val e; simp at this; omega), h.pg p hp]
  have hp1 : (fkS s ⟨i, by omega⟩ ⟨i + 1, hi⟩).pg ⟨i + 1, hi⟩ = fun k => if k = 0 then some (i : Int) else none := by
    show upF s.pg ⟨i + 1, hi⟩ _ ⟨i + 1, hi⟩ = _
    rw [upF_same, h.pg ⟨i, by omega⟩ (Nat.le_refl _)]
  exact fi_core _ h hi hl hrf hfl hL0 hn0 hc0 hh0 hp0 hp1
/-- The first, with one page. -/
def fi0 (b : Int) : Vs := pkS (jnS { (vs0 16) with has := upF (vs0 16).has 0 true, pg := upF (upF (vs0 16).pg 0 (fun _ => none)) 0 (upI (upF (vs0 16).pg 0 (fun _ => none) 0) 0 (some (-1))) } 0) 0 0 0 b
theorem fi0_ok (b : Nat → Int) : Fi b 0 (fi0 (b 0)) := by
  refine ⟨rfl, rfl, ?_, ?_, ?_, ?_⟩
  · exact all6 rfl rfl rfl rfl rfl rfl
  · intro p hp
    have e : p = 0 := Fin.ext (by simpa using hp)
    subst e
    funext k
    show upF (upF (upF (vs0 16).pg 0 (fun _ => none)) 0 (upI (upF (vs0 16).pg 0 (fun _ => none) 0) 0 (some (-1)))) 0 (upI (upF (upF (vs0 16).pg 0 (fun _ => none)) 0 (upI (upF (vs0 16).pg 0 (fun _ => none) 0) 0 (some (-1))) 0) ((0 / 32 : Nat) : Int) (some ((0 : Nat) : Int))) 0 k = _
    simp only [upF_same]
    unfold upI
    by_cases hk : k = 0
    · subst hk
      rfl
    · have h2 : ¬ k = ((0 / 32 : Nat) : Int) := hk
      rw [if_neg h2, if_neg hk, if_neg hk]
  · intro j hj
    show ((List.replicate 64 (0 : Int)).set 0 ((List.replicate 64 (0 : Int)).getD 0 0 + 1)).getD j 0 = _
    rw [set_at _ _ _ _ (by simp)]
    by_cases h1 : j = 0
    · rw [if_pos h1, if_pos (by omega)]
      rfl
    · rw [if_neg h1, if_neg (by omega), List.getD_eq_getElem?_getD, List.getElem?_replicate, if_pos hj]
      rfl
  · intro p hp k hk
    have e : p = 0 := by omega
    subst e
    show (sbL 16 zeroL 0 0 (b 0)).getD (0 * 32 + k) 0 = _
    have hz : zeroL.length = 2048 := List.length_replicate
    unfold sbL inB
    rw [if_pos (decide_eq_true (by omega))]
    show (putL zeroL (0 * 32 + 0) [b 0]).getD (0 * 32 + k) 0 = _
    by_cases h1 : k = 0
    · subst h1
      have := putL_in (L := zeroL) (vs := [b 0]) (k := 0 * 32 + 0) (p := 0) (by rw [hz]; simp) (by simp)
      rw [Nat.add_zero] at this
      rw [Nat.add_zero] at *
      rw [this, if_pos (Nat.le_refl _)]
      rfl
    · rw [putL_out (by rw [hz]; simp) (by simp; omega), if_neg (by omega)]
      unfold zeroL
      rw [List.getD_eq_getElem?_getD, List.getElem?_replicate, if_pos (by omega)]
      rfl
end Go.Proofs.Ytfmcoibpbcheiaa
