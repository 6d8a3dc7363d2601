/- vm: one process alone, as plain data. -/
import Derived.Test.YtfmcoibpbcheiaaVmT
namespace Go.Proofs.Ytfmcoibpbcheiaa
open Go.RowKit Go.Maps
set_option linter.unusedVariables false
set_option maxRecDepth 100000
theorem cnN_none (p : Int → Bool) : ∀ n, (∀ k : Nat, k < n → p (k : Int) = false) → cnN p n = 0
  | 0, _ => rfl
  | n + 1, h => by
    rw [cnN, cnN_none p n (fun k hk => h k (by omega)), h n (by omega)]
    rfl
theorem cnt_zero (pg : Pg) (j : Int) (h : ∀ p (z : Int), pg p z ≠ some j) : cnt pg j = 0 := by
  have e : ∀ p, pk1 (pg p) j = 0 := fun p => cnN_none _ 16 (fun k _ => by simpa using h p k)
  unfold cnt
  rw [e, e, e, e, e, e]
theorem zrs_all (f : Nat → Int) : ∀ n, (∀ j, j < n → f j = 0) → zrs f n = n
  | 0, _ => rfl
  | n + 1, h => by rw [zrs_yes f n (h n (by omega)), zrs_all f n (fun j hj => h j (by omega))]
theorem rep_at (j : Nat) : (List.replicate 64 (0 : Int)).getD j 0 = 0 := by
  rw [List.getD_eq_getElem?_getD, List.getElem?_replicate]
  split <;> rfl
def mpS (s : Vs) (p : Fin 6) (k : Int) : Vs := { s with pg := upF s.pg p (upI (s.pg p) k (some (-1))) }
def amS (n : Int) (p : Fin 6) (k : Nat) : Vs := ⟨fun q => decide (q = p), fun q z => if q = p ∧ 0 ≤ z ∧ z < (k : Int) then some (-1) else none, List.replicate 64 0, 0, n, zeroL⟩
theorem am_begin (n : Int) (p : Fin 6) : ({ (vs0 n) with has := upF (vs0 n).has p true, pg := upF (vs0 n).pg p (fun _ => none) } : Vs) = amS n p 0 := by
  have e1 : upF (vs0 n).has p true = fun q => decide (q = p) := by
    funext q
    unfold upF
    by_cases e : q = p
    · rw [if_pos e]; simp [e]
    · rw [if_neg e]; simp [e, vs0]
  have e2 : upF (vs0 n).pg p (fun _ => none) = fun q z => if q = p ∧ 0 ≤ z ∧ z < ((0 : Nat) : Int) then some (-1) else none := by
    funext q z
    rw [if_neg (by omega)]
    unfold upF
    split <;> rfl
  rw [e1, e2]
  rfl
theorem am_map (n : Int) (p : Fin 6) (k : Nat) : mpS (amS n p k) p k = amS n p (k + 1) := by
  have e : upF (amS n p k).pg p (upI ((amS n p k).pg p) k (some (-1))) = fun q z => if q = p ∧ 0 ≤ z ∧ z < ((k + 1 : Nat) : Int) then some (-1) else none := by
    funext q z
    by_cases c : q = p
    · subst c
      rw [upF_same]
      unfold upI
      by_cases d : z = (k : Int)
      · rw [if_pos d, if_pos ⟨rfl, by omega, by omega⟩]
      · rw [if_neg d]
        show (if q = q ∧ 0 ≤ z ∧ z < (k : Int) then some (-1) else none) = _
        by_cases g : 0 ≤ z ∧ z < (k : Int)
        · rw [if_pos ⟨rfl, g⟩, if_pos ⟨rfl, g.1, by omega⟩]
        · rw [if_neg (fun x => g x.2), if_neg (fun x => g ⟨x.2.1, by omega⟩)]
    · rw [upF_other _ _ _ _ c, if_neg (fun x => c x.1)]
      exact if_neg (fun x => c x.1)
  unfold mpS
  rw [e]
  rfl
theorem am_none (n : Int) (p : Fin 6) (k : Nat) : (amS n p k).pg p (k : Int) = none := if_neg (by omega)
theorem am_pgs (n : Int) (p : Fin 6) (k : Nat) (q : Fin 6) (z v : Int) (h : (amS n p k).pg q z = some v) : q = p ∧ 0 ≤ z ∧ z < (k : Int) ∧ v = -1 := by
  have h' : (if q = p ∧ 0 ≤ z ∧ z < (k : Int) then some (-1 : Int) else none) = some v := h
  split at h'
  · rename_i g
    injection h' with h'
    exact ⟨g.1, g.2.1, g.2.2, h'.symm⟩
  · cases h'
theorem am_iv (N : Nat) (h1 : 1 ≤ N) (h2 : N ≤ 64) (p : Fin 6) (k : Nat) (hk : k ≤ 16) : Iv N (amS N p k) (fun _ _ => 0) := by
  refine ⟨⟨rfl, h1, h2, List.length_replicate, fun q hq => ?_, fun q z v hv => ?_, fun j hj => ?_⟩, zeroL_length, fun q i f hf o ho => ?_, fun j hj hr i hi => ?_⟩
  · have hq' : decide (q = p) = false := hq
    have e : ¬ q = p := of_decide_eq_false hq'
    funext z
    exact if_neg (fun x => e x.1)
  · have := am_pgs _ _ _ _ _ _ hv
    omega
  · show (List.replicate 64 (0 : Int)).getD j 0 = _
    rw [rep_at, cnt_zero _ _ (fun q z hz => by have := am_pgs _ _ _ _ _ _ hz; omega)]
    rfl
  · have := am_pgs _ _ _ _ _ _ hf
    rw [if_pos this.2.2.2]
  · show (List.replicate 2048 (0 : Int)).getD (j * 32 + i) 0 = 0
    rw [List.getD_eq_getElem?_getD, List.getElem?_replicate]
    split <;> rfl
theorem am_zr (N : Nat) (p : Fin 6) (k : Nat) : zr N (amS N p k) = N := zrs_all _ N (fun j _ => rep_at j)
/-- The process 2 alone: which pages were written. -/
structure Aln (N : Nat) (s : Vs) (seen : List Bool) (used : Nat) : Prop where
  fr : Fr N s
  len : seen.length = 8
  has : s.has = fun q => decide (q = 2)
  pg : ∀ k : Nat, k < 8 → ∃ f, s.pg 2 k = some f ∧ ((seen.getD k false = false ∧ f = -1) ∨ (seen.getD k false = true ∧ 0 ≤ f ∧ cnt s.pg f = 1))
  z : zr N s + used = N
  cp : s.cp = 0
theorem aln_start (N : Nat) (h1 : 1 ≤ N) (h2 : N ≤ 64) : Aln N (amS N 2 8) (List.replicate 8 false) 0 := by
  refine ⟨(am_iv N h1 h2 2 8 (by omega)).fr, rfl, rfl, fun k hk => ⟨-1, if_pos ⟨rfl, by omega, by omega⟩, .inl ⟨?_, rfl⟩⟩, by rw [am_zr]; rfl, rfl⟩
  rw [List.getD_eq_getElem?_getD, List.getElem?_replicate, if_pos hk]
  rfl
theorem alF_cp (N : Nat) (s : Vs) (p : Fin 6) (k : Nat) (f : Int) (h : s.pg p k = some f) (hf : f = -1 ∨ ownB s f = true) : (alF N s p k).cp = s.cp := by
  unfold alF
  rw [h, Option.getD_some]
  by_cases c : ownB s f = true
  · rw [if_pos c]
  · rw [if_neg c]
    show (alS s f (nx N s)).cp = _
    rw [alS_cp, if_pos (hf.resolve_right c)]
theorem aln_fill {N : Nat} {s : Vs} {seen : List Bool} {used : Nat} (h : Aln N s seen used) {a : Nat} (ha : a < 256) : fillE N s 2 a 1 = (if seen.getD (a / 32) false = false ∧ used = N then 4 else 0) := by
  obtain ⟨f, hf, hc⟩ := h.pg (a / 32) (by omega)
  have e0 : prc s 2 = some 2 := by
    unfold prc
    rw [dif_pos (by omega)]
    have : s.has 2 = true := by rw [h.has]; rfl
    exact if_pos this
  have e1 : inA a 1 = true := by
    unfold inA
    rw [decide_eq_true (by omega), decide_eq_true (by omega), decide_eq_true (by omega)]
    rfl
  have e2 : pcs a 1 = 1 := by unfold pcs; omega
  have e3 : gap s 2 (a / 32) 1 = false := by
    unfold gap
    rw [List.any_eq_false]
    intro j hj
    obtain rfl : j = 0 := by have := List.mem_range.1 hj; omega
    rw [Nat.add_zero, hf]
    simp
  have e4 : ndT s 2 (a / 32) 1 = ndI s f := by
    show 0 + nd s 2 (a / 32 + 0) = _
    unfold nd
    rw [Nat.add_zero, hf, Int.zero_add]
    rfl
  have hz := h.z
  unfold fillE
  rw [e0]
  simp only [e1, Bool.true_eq_false, if_false, Int.toNat_natCast, e2, e3, Bool.false_eq_true, e4]
  rw [if_neg (by omega : ¬ (1 : Nat) = 0)]
  rcases hc with ⟨c1, rfl⟩ | ⟨c1, c2, c3⟩
  · rw [show ndI s (-1) = 1 from rfl]
    by_cases hu : used = N
    · rw [if_pos (by omega), if_pos ⟨c1, hu⟩]
    · rw [if_neg (by omega), if_neg (fun x => hu x.2)]
  · have : ndI s f = 0 := by
      rcases nd_cases s f with ⟨n1, _⟩ | ⟨_, n2⟩
      · exact n1
      · rw [(own_iff h.fr 2 (a / 32) f hf).2 ⟨c2, c3⟩] at n2
        cases n2
    rw [this, if_neg (by omega), if_neg (fun x => by rw [c1] at x; cases x.1)]
theorem seen_at (L : List Bool) (k j : Nat) (hk : k < L.length) : (L.set k true).getD j false = if j = k then true else L.getD j false := by
  by_cases e : j = k
  · subst e
    rw [if_pos rfl, List.getD_eq_getElem?_getD, List.getElem?_set_self hk]
    rfl
  · rw [if_neg e, List.getD_eq_getElem?_getD, List.getElem?_set_ne (fun x => e x.symm), ← List.getD_eq_getElem?_getD]
theorem aln_step {N : Nat} {s : Vs} {seen : List Bool} {used : Nat} (h : Aln N s seen used) {a : Nat} (ha : a < 256) (b : Int) (hn : ¬ (seen.getD (a / 32) false = false ∧ used = N)) : Aln N (fillS N s 2 a 1 (fun _ => b)) (seen.set (a / 32) true) (if seen.getD (a / 32) false = true then used else used + 1) := by
  have hE := aln_fill h ha
  rw [if_neg hn] at hE
  obtain ⟨f, hf, hc⟩ := h.pg (a / 32) (by omega)
  have e0 : prc s 2 = some 2 := by
    unfold prc
    rw [dif_pos (by omega)]
    have : s.has 2 = true := by rw [h.has]; rfl
    exact if_pos this
  have e2 : pcs a 1 = 1 := by unfold pcs; omega
  have hz := h.z
  have hnd : nd s 2 (a / 32) = if seen.getD (a / 32) false = true then 0 else 1 := by
    unfold nd
    rw [hf, Option.getD_some]
    rcases hc with ⟨c1, rfl⟩ | ⟨c1, c2, c3⟩
    · rw [c1]; rfl
    · rw [c1, if_pos rfl]
      rcases nd_cases s f with ⟨n1, _⟩ | ⟨_, n2⟩
      · exact n1
      · rw [(own_iff h.fr 2 (a / 32) f hf).2 ⟨c2, c3⟩] at n2
        cases n2
  have hle : nd s 2 (a / 32) ≤ zr N s := by
    rw [hnd]
    rcases hc with ⟨c1, rfl⟩ | ⟨c1, c2, c3⟩
    · rw [c1]
      have : used ≠ N := fun x => hn ⟨c1, x⟩
      simp only [Bool.false_eq_true, if_false]
      omega
    · rw [c1, if_pos rfl]
      omega
  have A := alF_ok h.fr (by omega : a / 32 < 16) hf hle
  have eS : fillS N s 2 a 1 (fun _ => b) = { alF N s 2 (a / 32) with L := wrL N (alF N s 2 (a / 32)) 2 a (fun _ => b) 1 } := by
    unfold fillS
    rw [e0]
    simp only [Int.toNat_natCast, e2]
    exact if_pos ⟨hE, by omega⟩
  rw [eS]
  have Az := A.z
  rw [hnd] at Az
  refine ⟨⟨A.fr.n, A.fr.lo, A.fr.hi, A.fr.len, A.fr.no, A.fr.pgs, A.fr.rf⟩, by rw [List.length_set, h.len], A.has.trans h.has, fun k hk => ?_, ?_, ?_⟩
  · rw [seen_at _ _ _ (by rw [h.len]; omega)]
    by_cases e : k = a / 32
    · subst e
      rw [if_pos rfl]
      exact ⟨_, A.pg, .inr ⟨rfl, by omega, A.own⟩⟩
    · rw [if_neg e]
      obtain ⟨g, hg, hd⟩ := h.pg k hk
      have hne : ¬ ((2 : Fin 6) = 2 ∧ k = a / 32) := fun x => e x.2
      refine ⟨g, (A.oth 2 k hne).trans hg, ?_⟩
      rcases hd with d | ⟨d1, d2, d3⟩
      · exact .inl d
      · exact .inr ⟨d1, d2, A.keep 2 k g (by omega) hne hg d3 d2⟩
  · show zr N (alF N s 2 (a / 32)) + _ = N
    cases hs : seen.getD (a / 32) false with
    | true =>
      rw [hs] at Az
      rw [if_pos rfl] at Az ⊢
      omega
    | false =>
      rw [hs] at Az
      simp only [Bool.false_eq_true, if_false] at Az ⊢
      omega
  · show (alF N s 2 (a / 32)).cp = 0
    rw [alF_cp N s 2 (a / 32) f hf]
    · exact h.cp
    · rcases hc with ⟨c1, c2⟩ | ⟨c1, c2, c3⟩
      · exact .inl c2
      · exact .inr ((own_iff h.fr 2 (a / 32) f hf).2 ⟨c2, c3⟩)
end Go.Proofs.Ytfmcoibpbcheiaa
