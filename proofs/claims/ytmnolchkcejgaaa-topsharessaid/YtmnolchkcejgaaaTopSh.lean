/- TopShares: all places taken by turns. -/
import Derived.Test.YtmnolchkcejgaaaQuLv
namespace Go.Proofs.Ytmnolchkcejgaaa
open Go.RowKit Go.Maps
set_option linter.unusedVariables false
set_option maxRecDepth 100000
structure Hid3 (p : Prop) : Prop where
  out : p
theorem ordK_succ (fr k : Nat) : ordK (fr + 1) k = ordK fr (k + 1) := Fin.ext (by show (fr + 1 + k) % 8 = (fr + (k + 1)) % 8; congr 1; omega)
theorem tkL_front (pl : Fin 8 → Option (Fin 6)) (fr : Nat) : ∀ n, tkL pl fr (n + 1) = oneL pl (ordK fr 0) ++ tkL pl (fr + 1) n
  | 0 => by simp [tkL]
  | n + 1 => by
    rw [show tkL pl fr (n + 1 + 1) = tkL pl fr (n + 1) ++ oneL pl (ordK fr (n + 1)) from rfl, tkL_front pl fr n]
    simp only [tkL]
    rw [List.append_assoc, ordK_succ]
/-- No penalties: the first has its turn. -/
theorem turn_zero (q : Qs) (hp : ∀ e, q.pen e = 0) (x : Pe) (r : List Pe) (h : tkL q.pl (q.now.1 + 1) 8 = x :: r) : (turnS q).2 = some x ∧ turnQ q = { q with now := x.1 } := by
  have hS : turnS q = (q.pen, some x) := by
    unfold turnS
    rw [h]
    simp [goS, hp]
  refine ⟨by rw [hS], ?_⟩
  unfold turnQ
  rw [hS]
/-- The vector, and the two rows of numbers. -/
structure FrS (w W : World) (vb pb bp bt : Nat) (s : Qs) (f g : Fin 6 → Nat) : Prop where
  v : Vec w.heap.size W vb pb s
  p : Cl W bp 25 (penCs f)
  t : Cl W bt 25 (penCs g)
  b : Below w.heap.size w W
  lt : vb < bp ∧ pb < bp ∧ bp < bt ∧ w.heap.size ≤ bp
theorem FrS.step {w W W' : World} {vb pb bp bt : Nat} {s s' : Qs} {f g : Fin 6 → Nat} (h : FrS w W vb pb bp bt s f g) (k : VStp w.heap.size W W' vb pb s') : FrS w W' vb pb bp bt s' f g := by
  have hl := h.lt
  refine ⟨k.vec, h.p.stay k.ap ?_, h.t.stay k.ap ?_, h.b.trans (k.belowB h.v h.b.size), h.lt⟩
  · rintro (e | e) <;> omega
  · rintro (e | e) <;> omega
theorem FrS.below {w W W' : World} {vb pb bp bt : Nat} {s : Qs} {f g : Fin 6 → Nat} (h : FrS w W vb pb bp bt s f g) (k : Below W.heap.size W W') : FrS w W' vb pb bp bt s f g := h.step (VStp.same h.v k)
theorem FrS.setp {w W : World} {vb pb bp bt : Nat} {s : Qs} {f g : Fin 6 → Nat} (h : FrS w W vb pb bp bt s f g) (e : Fin 6) (n : Nat) : FrS w (W.setCell ⟨bp, e.1, none⟩ (.int .i64 n)) vb pb bp bt s (upd f e n) g := by
  have hl := h.lt
  refine ⟨h.v.other _ _ _ (by omega) (by omega), ?_, h.t.other (by omega) _ _, h.b.setCell (p := ⟨bp, e.1, none⟩) hl.2.2.2 _, h.lt⟩
  have h1 := h.p.set e.1 (.int .i64 n)
  have h2 := penCs_set f [] n e
  rw [List.append_nil, List.append_nil] at h2
  rw [h2] at h1
  exact h1
theorem FrS.sett {w W : World} {vb pb bp bt : Nat} {s : Qs} {f g : Fin 6 → Nat} (h : FrS w W vb pb bp bt s f g) (e : Fin 6) (n : Nat) : FrS w (W.setCell ⟨bt, e.1, none⟩ (.int .i64 n)) vb pb bp bt s f (upd g e n) := by
  have hl := h.lt
  refine ⟨h.v.other _ _ _ (by omega) (by omega), h.p.other (by omega) _ _, ?_, h.b.setCell (p := ⟨bt, e.1, none⟩) (by show w.heap.size ≤ bt; omega) _, h.lt⟩
  have h1 := h.t.set e.1 (.int .i64 n)
  have h2 := penCs_set g [] n e
  rw [List.append_nil, List.append_nil] at h2
  rw [h2] at h1
  exact h1
theorem FrS.cp {w W : World} {vb pb bp bt : Nat} {s : Qs} {f g : Fin 6 → Nat} (h : FrS w W vb pb bp bt s f g) (e : Fin 6) : W.cell? ⟨bp, e.1, none⟩ = some (.int .i64 (f e)) ∧ W.frozen? ⟨bp, e.1, none⟩ = false := by
  refine ⟨(h.p.cell _).trans ?_, h.p.thaw _⟩
  have := penCs_at f [] e
  rw [List.append_nil] at this
  exact this
theorem FrS.ct {w W : World} {vb pb bp bt : Nat} {s : Qs} {f g : Fin 6 → Nat} (h : FrS w W vb pb bp bt s f g) (e : Fin 6) : W.cell? ⟨bt, e.1, none⟩ = some (.int .i64 (g e)) ∧ W.frozen? ⟨bt, e.1, none⟩ = false := by
  refine ⟨(h.t.cell _).trans ?_, h.t.thaw _⟩
  have := penCs_at g [] e
  rw [List.append_nil] at this
  exact this
/-- So many of the first k places are an environment's. -/
def cW (wh : Fin 8 → Fin 6) : Nat → Fin 6 → Nat
  | 0, _ => 0
  | k + 1, e => cW wh k e + (if wh (ordK 0 k) = e then 1 else 0)
theorem cW_le (wh : Fin 8 → Fin 6) : ∀ k e, cW wh k e ≤ k
  | 0, _ => Nat.le_refl _
  | k + 1, e => by
    have := cW_le wh k e
    simp only [cW]
    split <;> omega
theorem cW_next (wh : Fin 8 → Fin 6) (k : Nat) : upd (cW wh k) (wh (ordK 0 k)) (cW wh k (wh (ordK 0 k)) + 1) = cW wh (k + 1) := by
  funext e
  unfold upd
  simp only [cW]
  by_cases h : e = wh (ordK 0 k)
  · subst h; rw [if_pos rfl, if_pos rfl]
  · rw [if_neg h, if_neg (fun h2 => h h2.symm), Nat.add_zero]
def vW (wh : Fin 8 → Fin 6) (i : Nat) (e : Fin 6) : Nat := i / 8 * cW wh 8 e + cW wh (i % 8) e
theorem vW_next (wh : Fin 8 → Fin 6) (i : Nat) : upd (vW wh i) (wh (ordK 0 (i % 8))) (vW wh i (wh (ordK 0 (i % 8))) + 1) = vW wh (i + 1) := by
  have key : ∀ e, vW wh (i + 1) e = vW wh i e + (if wh (ordK 0 (i % 8)) = e then 1 else 0) := fun e => by
    unfold vW
    by_cases h : i % 8 = 7
    · have h1 : (i + 1) % 8 = 0 := by omega
      have h2 : (i + 1) / 8 = i / 8 + 1 := by omega
      have h3 : cW wh 8 e = cW wh 7 e + (if wh (ordK 0 7) = e then 1 else 0) := rfl
      rw [h1, h2, h, Nat.add_mul, Nat.one_mul]
      have h4 : cW wh 0 e = 0 := rfl
      rw [h4]
      omega
    · have h1 : (i + 1) % 8 = i % 8 + 1 := by omega
      have h2 : (i + 1) / 8 = i / 8 := by omega
      rw [h1, h2]
      simp only [cW]
      omega
  funext e
  rw [key]
  unfold upd
  by_cases h : e = wh (ordK 0 (i % 8))
  · subst h; rw [if_pos rfl, if_pos rfl]
  · rw [if_neg h, if_neg (fun h2 => h h2.symm), Nat.add_zero]
theorem vW_le (wh : Fin 8 → Fin 6) (i : Nat) (hi : i ≤ 24) (e : Fin 6) : vW wh i e ≤ 40 := by
  have h1 := cW_le wh 8 e
  have h2 := cW_le wh (i % 8) e
  unfold vW
  have h3 : i / 8 * cW wh 8 e ≤ 3 * 8 := Nat.mul_le_mul (by omega) h1
  omega
theorem vW_end (wh : Fin 8 → Fin 6) (e : Fin 6) : vW wh 24 e = 3 * cW wh 8 e := by
  show 24 / 8 * cW wh 8 e + cW wh 0 e = _
  simp [cW]
/-- The first k places are taken. -/
def stW (wh : Fin 8 → Fin 6) (k : Nat) (n : Fin 8) : Qs := ⟨fun i => if i.1 < k then some (wh i) else none, fun _ => 0, n⟩
theorem stW_zero (wh : Fin 8 → Fin 6) : stW wh 0 7 = q0 := by simp [stW, q0]
theorem stW_take (wh : Fin 8 → Fin 6) (k : Nat) (hk : k < 8) : takeE (wh ⟨k, hk⟩) ⟨k, hk⟩ (stW wh k 7) = 0 ∧ takeQ (wh ⟨k, hk⟩) ⟨k, hk⟩ (stW wh k 7) = stW wh (k + 1) 7 := by
  have h1 : (stW wh k 7).pl ⟨k, hk⟩ = none := by simp [stW]
  refine ⟨by simp [takeE, h1], ?_⟩
  unfold takeQ
  rw [h1]
  simp only [Option.isSome_none, Bool.false_eq_true, if_false]
  simp only [stW]
  congr 1
  funext i
  unfold upd
  by_cases h : i = ⟨k, hk⟩
  · subst h
    rw [if_pos rfl, if_pos (Nat.lt_succ_self k)]
  · have h2 : i.1 ≠ k := fun h3 => h (Fin.ext h3)
    rw [if_neg h]
    show (if i.1 < k then some (wh i) else none) = _
    by_cases h3 : i.1 < k
    · rw [if_pos h3, if_pos (by omega)]
    · rw [if_neg h3, if_neg (by omega)]
theorem ok_stW (wh : Fin 8 → Fin 6) (k : Nat) (n : Fin 8) : (stW wh k n).Ok := fun _ => Nat.zero_le _
def nowW (i : Nat) : Fin 8 := ordK 7 i
theorem stW_turn (wh : Fin 8 → Fin 6) (i : Nat) : (turnS (stW wh 8 (nowW i))).2 = some (ordK 0 (i % 8), wh (ordK 0 (i % 8))) ∧ turnQ (stW wh 8 (nowW i)) = stW wh 8 (nowW (i + 1)) := by
  have h0 : ordK ((nowW i).1 + 1) 0 = ordK 0 (i % 8) := Fin.ext (by show ((7 + i) % 8 + 1 + 0) % 8 = (0 + i % 8) % 8; omega)
  have h1 : tkL (stW wh 8 (nowW i)).pl ((stW wh 8 (nowW i)).now.1 + 1) 8 = (ordK 0 (i % 8), wh (ordK 0 (i % 8))) :: tkL (stW wh 8 (nowW i)).pl ((nowW i).1 + 1 + 1) 7 := by
    rw [tkL_front _ _ 7]
    show oneL (stW wh 8 (nowW i)).pl (ordK ((nowW i).1 + 1) 0) ++ _ = _
    rw [h0]
    have h2 : (stW wh 8 (nowW i)).pl (ordK 0 (i % 8)) = some (wh (ordK 0 (i % 8))) := by
      show (if (ordK 0 (i % 8)).1 < 8 then some (wh (ordK 0 (i % 8))) else none) = _
      rw [if_pos (ordK 0 (i % 8)).2]
    have h3 : oneL (stW wh 8 (nowW i)).pl (ordK 0 (i % 8)) = [(ordK 0 (i % 8), wh (ordK 0 (i % 8)))] := by unfold oneL; rw [h2]
    rw [h3]
    rfl
  obtain ⟨t1, t2⟩ := turn_zero (stW wh 8 (nowW i)) (fun _ => rfl) _ _ h1
  refine ⟨t1, ?_⟩
  rw [t2]
  simp only [stW]
  congr 1
  exact Fin.ext (by show (0 + i % 8) % 8 = (7 + (i + 1)) % 8; omega)
end Go.Proofs.Ytmnolchkcejgaaa
