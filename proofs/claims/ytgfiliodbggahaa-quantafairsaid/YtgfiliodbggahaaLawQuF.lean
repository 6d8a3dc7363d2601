/- QuantaFair: what its loops hold. -/
import Derived.Test.YtgfiliodbggahaaQuP
namespace Go.Proofs.Ytgfiliodbggahaa
open Go.RowKit Go.Maps
set_option linter.unusedVariables false
set_option maxRecDepth 100000
theorem pcF_sorted (e : Fin 6) (pl : Fin 8 → Option (Fin 6)) : ∀ n, n ≤ 8 → (pcF e.1 (tkL pl 0 n)).Pairwise (fun a b => a.1 < b.1)
  | 0, _ => by simp [tkL, pcF]
  | n + 1, h => by
    simp only [tkL]
    rw [pcF_append, ord0 n (by omega), pcF_one, List.pairwise_append]
    refine ⟨pcF_sorted e pl n (by omega), by split <;> simp, fun a ha b hb => ?_⟩
    have h1 := pcF_lt e pl n (by omega) a ha
    split at hb
    · rw [List.mem_singleton] at hb; subst hb; exact h1
    · cases hb
theorem sorted_take {F : List (Fin 8)} (h : F.Pairwise (fun a b => a.1 < b.1)) (j : Nat) (hj : j < F.length) : F[j] ∉ F.take j := by
  intro hm
  obtain ⟨i, hi, he⟩ := List.mem_iff_getElem.1 hm
  rw [List.length_take] at hi
  rw [List.getElem_take] at he
  have := List.pairwise_iff_getElem.1 h i j (by omega) hj (by omega)
  rw [he] at this
  omega
/-- Places that are taken again. -/
def rtk (e : Fin 6) (F : List (Fin 8)) (s : Qs) : Qs := { outQ e s with pl := fun i => if i ∈ F then some e else (outQ e s).pl i }
theorem rtk_nil (e : Fin 6) (s : Qs) : rtk e [] s = outQ e s := by simp [rtk]
theorem rtk_take (e : Fin 6) (F : List (Fin 8)) (s : Qs) (j : Nat) (hj : j < F.length) (hs : F.Pairwise (fun a b => a.1 < b.1)) (hF : ∀ i ∈ F, s.pl i = some e) : takeE e F[j] (rtk e (F.take j) s) = 0 ∧ takeQ e F[j] (rtk e (F.take j) s) = rtk e (F.take (j + 1)) s := by
  have h1 : (rtk e (F.take j) s).pl F[j] = none := by
    simp only [rtk, if_neg (sorted_take hs j hj), outQ, if_pos (hF _ (List.getElem_mem hj))]
  refine ⟨by simp [takeE, h1], ?_⟩
  unfold takeQ
  rw [h1]
  simp only [Option.isSome_none, Bool.false_eq_true, if_false]
  simp only [rtk]
  congr 1
  funext i
  rw [List.take_succ_eq_append_getElem hj]
  unfold upd
  by_cases h2 : i = F[j]
  · rw [if_pos h2, if_pos (by rw [h2]; exact List.mem_append_right _ (List.mem_singleton.2 rfl))]
  · rw [if_neg h2]
    show (if i ∈ F.take j then some e else (outQ e s).pl i) = _
    by_cases h3 : i ∈ F.take j
    · rw [if_pos h3, if_pos (List.mem_append_left _ h3)]
    · rw [if_neg h3, if_neg]
      intro hm
      rcases List.mem_append.1 hm with hm | hm
      · exact h3 hm
      · exact h2 (List.mem_singleton.1 hm)
theorem rtk_all (e : Fin 6) (s : Qs) : rtk e (pcF e.1 (tkL s.pl 0 8)) s = { s with pen := upd s.pen e 0 } := by
  simp only [rtk, outQ]
  congr 1
  funext i
  simp only [mem_pcF]
  split
  · rename_i h; exact h.symm
  · rfl
/-- The first k have no penalty any more. -/
def stF (q : Qs) (k : Nat) : Qs := { q with pen := fun e => if e.1 < k then 0 else q.pen e }
theorem stF_zero (q : Qs) : stF q 0 = q := by simp [stF]
theorem stF_next (q : Qs) (k : Nat) (hk : k < 6) : { stF q k with pen := upd (stF q k).pen ⟨k, hk⟩ 0 } = stF q (k + 1) := by
  simp only [stF]
  congr 1
  funext e
  unfold upd
  by_cases h : e = ⟨k, hk⟩
  · rw [if_pos h, if_pos (by rw [h]; exact Nat.lt_succ_self k)]
  · have h1 : e.1 ≠ k := fun h2 => h (Fin.ext h2)
    rw [if_neg h]
    show (if e.1 < k then 0 else q.pen e) = _
    by_cases h2 : e.1 < k
    · rw [if_pos h2, if_pos (by omega)]
    · rw [if_neg h2, if_neg (by omega)]
theorem stF_same (q : Qs) (k : Nat) (hk : k < 6) (h0 : q.pen ⟨k, hk⟩ = 0) : stF q k = stF q (k + 1) := by
  simp only [stF]
  congr 1
  funext e
  by_cases h : e = ⟨k, hk⟩
  · subst h
    rw [if_neg (Nat.lt_irrefl k), if_pos (Nat.lt_succ_self k)]
    exact h0
  · have h1 : e.1 ≠ k := fun h2 => h (Fin.ext h2)
    by_cases h2 : e.1 < k
    · rw [if_pos h2, if_pos (by omega)]
    · rw [if_neg h2, if_neg (by omega)]
theorem stF_pen (q : Qs) (k : Nat) (hk : k < 6) : (stF q k).pen ⟨k, hk⟩ = q.pen ⟨k, hk⟩ := by simp [stF]
theorem stF_pen1 (q : Qs) (k : Nat) (hk : k < 6) : (stF q (k + 1)).pen ⟨k, hk⟩ = 0 := by simp [stF]
theorem ok_stF {q : Qs} (h : q.Ok) (k : Nat) : (stF q k).Ok := fun e => by
  simp only [stF]
  split
  · omega
  · exact h e
/-- The vector, and the two rows of numbers. -/
structure FrS (w W : World) (vb pb bp bt : Nat) (s : Qs) (f g : Fin 6 → Nat) : Prop where
  v : Vec w.heap.size W vb pb s
  p : Cl W bp 30 (penCs f)
  t : Cl W bt 30 (penCs g)
  b : Below w.heap.size w W
  lt : vb < bp ∧ pb < bp ∧ bp < bt ∧ w.heap.size ≤ bp
theorem FrS.step {w W W' : World} {vb pb bp bt : Nat} {s s' : Qs} {f g : Fin 6 → Nat} (h : FrS w W vb pb bp bt s f g) (k : VStp w.heap.size W W' vb pb s') : FrS w W' vb pb bp bt s' f g := by
  have hl := h.lt
  refine ⟨k.vec, h.p.stay k.ap ?_, h.t.stay k.ap ?_, h.b.trans (k.belowB h.v h.b.size), h.lt⟩
  · rintro (e | e) <;> omega
  · rintro (e | e) <;> omega
theorem FrS.below {w W W' : World} {vb pb bp bt : Nat} {s : Qs} {f g : Fin 6 → Nat} (h : FrS w W vb pb bp bt s f g) (k : Below W.heap.size W W') : FrS w W' vb pb bp bt s f g := h.step (VStp.same h.v k)
theorem FrS.setp {w W : World} {vb pb bp bt : Nat} {s : Qs} {f g : Fin 6 → Nat} (h : FrS w W vb pb bp bt s f g) (e : Fin 6) (n : Nat) : FrS w (W.setCell ⟨bp, e.1, none⟩ (.int .i64 n)) vb pb bp bt s (upd f e n) g := by
  have hl := h.lt
  refine ⟨h.v.other _ _ _ (by omega) (by omega), ?_, h.t.other (by omega) _ _, h.b.setCell (p := ⟨bp, e.1, none⟩) hl.2.2.2 _, h.lt⟩
  have h1 := h.p.set e.1 (.int .i64 n)
  have h2 := penCs_set f [] n e
  rw [List.append_nil, List.append_nil] at h2
  rw [h2] at h1
  exact h1
theorem FrS.sett {w W : World} {vb pb bp bt : Nat} {s : Qs} {f g : Fin 6 → Nat} (h : FrS w W vb pb bp bt s f g) (e : Fin 6) (n : Nat) : FrS w (W.setCell ⟨bt, e.1, none⟩ (.int .i64 n)) vb pb bp bt s f (upd g e n) := by
  have hl := h.lt
  refine ⟨h.v.other _ _ _ (by omega) (by omega), h.p.other (by omega) _ _, ?_, h.b.setCell (p := ⟨bt, e.1, none⟩) (by show w.heap.size ≤ bt; omega) _, h.lt⟩
  have h1 := h.t.set e.1 (.int .i64 n)
  have h2 := penCs_set g [] n e
  rw [List.append_nil, List.append_nil] at h2
  rw [h2] at h1
  exact h1
theorem FrS.cp {w W : World} {vb pb bp bt : Nat} {s : Qs} {f g : Fin 6 → Nat} (h : FrS w W vb pb bp bt s f g) (e : Fin 6) : W.cell? ⟨bp, e.1, none⟩ = some (.int .i64 (f e)) ∧ W.frozen? ⟨bp, e.1, none⟩ = false := by
  refine ⟨(h.p.cell _).trans ?_, h.p.thaw _⟩
  have := penCs_at f [] e
  rw [List.append_nil] at this
  exact this
theorem FrS.ct {w W : World} {vb pb bp bt : Nat} {s : Qs} {f g : Fin 6 → Nat} (h : FrS w W vb pb bp bt s f g) (e : Fin 6) : W.cell? ⟨bt, e.1, none⟩ = some (.int .i64 (g e)) ∧ W.frozen? ⟨bt, e.1, none⟩ = false := by
  refine ⟨(h.t.cell _).trans ?_, h.t.thaw _⟩
  have := penCs_at g [] e
  rw [List.append_nil] at this
  exact this
/-- How many places each of the first k has. -/
def plN (q : Qs) (k : Nat) : Fin 6 → Nat := fun e => if e.1 < k then cnt e.1 (tkL q.pl 0 8) else 0
theorem plN_next (q : Qs) (k : Nat) (hk : k < 6) : upd (plN q k) ⟨k, hk⟩ (cnt k (tkL q.pl 0 8)) = plN q (k + 1) := by
  funext e
  unfold upd plN
  by_cases h : e = ⟨k, hk⟩
  · subst h
    rw [if_pos rfl, if_pos (Nat.lt_succ_self k)]
  · have h1 : e.1 ≠ k := fun h2 => h (Fin.ext h2)
    rw [if_neg h]
    by_cases h2 : e.1 < k
    · rw [if_pos h2, if_pos (by omega)]
    · rw [if_neg h2, if_neg (by omega)]
end Go.Proofs.Ytgfiliodbggahaa
