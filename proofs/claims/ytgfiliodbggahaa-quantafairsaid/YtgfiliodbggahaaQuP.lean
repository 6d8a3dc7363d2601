/- Turns without penalties, as plain data: they go round. -/
import Derived.Test.YtgfiliodbggahaaLawQuD
namespace Go.Proofs.Ytgfiliodbggahaa
set_option linter.unusedVariables false
set_option maxRecDepth 100000
theorem ordK_succ (fr k : Nat) : ordK (fr + 1) k = ordK fr (k + 1) := Fin.ext (by show (fr + 1 + k) % 8 = (fr + (k + 1)) % 8; congr 1; omega)
theorem ordK_eight (fr : Nat) : ordK fr 8 = ordK fr 0 := Fin.ext (by show (fr + 8) % 8 = (fr + 0) % 8; omega)
theorem ordK_mod (fr k : Nat) : ordK (fr % 8 + 1) k = ordK (fr + 1) k := Fin.ext (by show (fr % 8 + 1 + k) % 8 = (fr + 1 + k) % 8; omega)
theorem tkL_mod (pl : Fin 8 → Option (Fin 6)) (fr : Nat) : ∀ n, tkL pl (fr % 8 + 1) n = tkL pl (fr + 1) n
  | 0 => rfl
  | n + 1 => by simp only [tkL]; rw [tkL_mod pl fr n, ordK_mod]
theorem tkL_front (pl : Fin 8 → Option (Fin 6)) (fr : Nat) : ∀ n, tkL pl fr (n + 1) = oneL pl (ordK fr 0) ++ tkL pl (fr + 1) n
  | 0 => by simp [tkL]
  | n + 1 => by
    rw [show tkL pl fr (n + 1 + 1) = tkL pl fr (n + 1) ++ oneL pl (ordK fr (n + 1)) from rfl, tkL_front pl fr n]
    simp only [tkL]
    rw [List.append_assoc, ordK_succ]
theorem tkL_shift (pl : Fin 8 → Option (Fin 6)) (fr : Nat) : tkL pl fr 8 ++ oneL pl (ordK fr 0) = oneL pl (ordK fr 0) ++ tkL pl (fr + 1) 8 := by
  have h1 : tkL pl fr 9 = tkL pl fr 8 ++ oneL pl (ordK fr 8) := rfl
  rw [← tkL_front pl fr 8, h1, ordK_eight]
/-- Behind one that had its turn the others come first. -/
theorem tkL_rot (pl : Fin 8 → Option (Fin 6)) : ∀ (k fr : Nat) (x : Pe) (r : List Pe), (pl (ordK fr k)).isSome = true → tkL pl fr 8 = x :: r → tkL pl (x.1.1 + 1) 8 = r ++ [x]
  | k, fr, x, r, hk, h => by
    have hs := tkL_shift pl fr
    cases ho : pl (ordK fr 0) with
    | some e =>
      have h1 : oneL pl (ordK fr 0) = [(ordK fr 0, e)] := by unfold oneL; rw [ho]
      rw [h1, h] at hs
      simp only [List.cons_append, List.nil_append, List.cons.injEq] at hs
      obtain ⟨rfl, h2⟩ := hs
      show tkL pl ((fr + 0) % 8 + 1) 8 = _
      rw [Nat.add_zero, tkL_mod]
      exact h2.symm
    | none =>
      have h1 : oneL pl (ordK fr 0) = [] := by unfold oneL; rw [ho]
      rw [h1, List.append_nil, List.nil_append] at hs
      match k, hk with
      | 0, hk => rw [ho] at hk; cases hk
      | k + 1, hk => exact tkL_rot pl k (fr + 1) x r (by rw [ordK_succ]; exact hk) (by rw [← hs]; exact h)
theorem tkL_next (pl : Fin 8 → Option (Fin 6)) (fr : Nat) (x : Pe) (r : List Pe) (h : tkL pl fr 8 = x :: r) : tkL pl (x.1.1 + 1) 8 = r ++ [x] := by
  have hm : x ∈ tkL pl fr 8 := by rw [h]; exact List.mem_cons_self
  obtain ⟨k, _, hk, hp⟩ := (mem_tkL pl fr x 8).1 hm
  exact tkL_rot pl k fr x r (by rw [hk, hp]; rfl) h
def cnt (e : Nat) (l : List Pe) : Nat := (pcL (e : Nat) l).length
theorem cnt_append (e : Nat) (a b : List Pe) : cnt e (a ++ b) = cnt e a + cnt e b := by simp [cnt, pcL]
theorem cnt_one (e : Nat) (x : Pe) : cnt e [x] = if x.2.1 = e then 1 else 0 := by
  unfold cnt pcL
  by_cases h : x.2.1 = e
  · simp [h]
  · have : ¬ ((x.2.1 : Nat) : Int) = ((e : Nat) : Int) := by omega
    simp [h, this]
theorem cnt_from (pl : Fin 8 → Option (Fin 6)) (e : Nat) : ∀ fr, cnt e (tkL pl fr 8) = cnt e (tkL pl 0 8)
  | 0 => rfl
  | fr + 1 => by
    rw [← cnt_from pl e fr]
    have h := congrArg (cnt e) (tkL_shift pl fr)
    rw [cnt_append, cnt_append] at h
    omega
theorem len_from (pl : Fin 8 → Option (Fin 6)) : ∀ fr, (tkL pl fr 8).length = (tkL pl 0 8).length
  | 0 => rfl
  | fr + 1 => by
    rw [← len_from pl fr]
    have h := congrArg List.length (tkL_shift pl fr)
    rw [List.length_append, List.length_append] at h
    omega
theorem cnt_le (e : Nat) (l : List Pe) : cnt e l ≤ l.length := by
  unfold cnt pcL
  rw [List.length_map]
  exact List.length_filter_le _ _
/-- No penalties: the first has its turn. -/
theorem turn_zero (q : Qs) (hp : ∀ e, q.pen e = 0) (x : Pe) (r : List Pe) (h : tkL q.pl (q.now.1 + 1) 8 = x :: r) : (turnS q).2 = some x ∧ turnQ q = { q with now := x.1 } := by
  have hS : turnS q = (q.pen, some x) := by
    unfold turnS
    rw [h]
    simp [goS, hp]
  refine ⟨by rw [hS], ?_⟩
  unfold turnQ
  rw [hS]
theorem turn_none (q : Qs) (h : tkL q.pl (q.now.1 + 1) 8 = []) : (turnS q).2 = none := by
  unfold turnS
  rw [h]
  rfl
/-- So often one has had its turn. -/
def visN (l : List Pe) (i e : Nat) : Nat := i / l.length * cnt e l + cnt e (l.take (i % l.length))
def rotL (l : List Pe) (i : Nat) : List Pe := l.drop (i % l.length) ++ l.take (i % l.length)
theorem rot_step (l : List Pe) (i : Nat) (hl : 0 < l.length) : ∃ x r, rotL l i = x :: r ∧ rotL l (i + 1) = r ++ [x] ∧ ∀ e, visN l (i + 1) e = visN l i e + (if x.2.1 = e then 1 else 0) := by
  obtain ⟨j, hj⟩ : ∃ j, i % l.length = j := ⟨_, rfl⟩
  have hjl : j < l.length := hj ▸ Nat.mod_lt _ hl
  refine ⟨l[j], l.drop (j + 1) ++ l.take j, ?_, ?_, fun e => ?_⟩
  · unfold rotL
    rw [hj, List.drop_eq_getElem_cons hjl]
    rfl
  · unfold rotL
    by_cases h : j + 1 < l.length
    · have : (i + 1) % l.length = j + 1 := by
        rw [Nat.add_mod, hj, Nat.mod_eq_of_lt (show 1 < l.length by omega), Nat.mod_eq_of_lt h]
      rw [this, List.take_succ_eq_append_getElem hjl, List.append_assoc]
    · have hl1 : l.length = j + 1 := by omega
      have : (i + 1) % l.length = 0 := by
        have h2 := Nat.div_add_mod i l.length
        rw [hj] at h2
        rw [show i + 1 = l.length * (i / l.length + 1) by rw [Nat.mul_add, Nat.mul_one]; omega]
        exact Nat.mul_mod_right _ _
      rw [this, List.drop_zero, List.take_zero, List.append_nil]
      rw [List.drop_eq_nil_of_le (by omega), List.nil_append, ← List.take_succ_eq_append_getElem hjl, ← hl1, List.take_length]
  · unfold visN
    rw [hj]
    by_cases h : j + 1 < l.length
    · have h1 : (i + 1) % l.length = j + 1 := by
        rw [Nat.add_mod, hj, Nat.mod_eq_of_lt (show 1 < l.length by omega), Nat.mod_eq_of_lt h]
      have h2 : (i + 1) / l.length = i / l.length := by
        have h2 := Nat.div_add_mod i l.length
        rw [hj] at h2
        conv => lhs; rw [show i + 1 = l.length * (i / l.length) + (j + 1) by omega]
        rw [Nat.mul_add_div hl, Nat.div_eq_of_lt h, Nat.add_zero]
      rw [h1, h2, List.take_succ_eq_append_getElem hjl, cnt_append, cnt_one]
      omega
    · have hl1 : l.length = j + 1 := by omega
      have h3 : i + 1 = l.length * (i / l.length + 1) := by
        have h2 := Nat.div_add_mod i l.length
        rw [hj] at h2
        rw [Nat.mul_add, Nat.mul_one]
        omega
      have h1 : (i + 1) % l.length = 0 := by rw [h3]; exact Nat.mul_mod_right _ _
      have h2 : (i + 1) / l.length = i / l.length + 1 := by
        conv => lhs; rw [h3]
        exact Nat.mul_div_cancel_left _ hl
      have h4 : cnt e l = cnt e (l.take j) + (if l[j].2.1 = e then 1 else 0) := by
        conv => lhs; rw [← List.take_length (l := l), hl1, List.take_succ_eq_append_getElem hjl, cnt_append, cnt_one]
      rw [h1, h2, List.take_zero, Nat.add_mul, Nat.one_mul]
      have h5 : cnt e [] = 0 := rfl
      rw [h5]
      omega
end Go.Proofs.Ytgfiliodbggahaa
