/- vm: how many pages lie in a frame, and what each process sees, as plain data. -/
import Derived.Test.YtlnpdpfbnbjebaaVmN
namespace Go.Proofs.Ytlnpdpfbnbjebaa
open Go.RowKit Go.Maps
set_option linter.unusedVariables false
set_option maxRecDepth 100000
theorem cnN_le (p : Int → Bool) : ∀ n, cnN p n ≤ n
  | 0 => Nat.le_refl 0
  | n + 1 => by
    have := cnN_le p n
    unfold cnN
    split <;> omega
def is (f : Int → Option Int) (j k : Int) : Nat := if f k = some j then 1 else 0
theorem cnN_is (f : Int → Option Int) (j : Int) (n : Nat) : cnN (fun z => f z == some j) (n + 1) = cnN (fun z => f z == some j) n + is f j n := by
  unfold is
  rw [cnN]
  by_cases h : f (n : Int) = some j
  · rw [if_pos (by simpa using h), if_pos h]
  · rw [if_neg (by simpa using h), if_neg h]
theorem cnN_up (f : Int → Option Int) (j : Int) (k : Nat) (v : Option Int) : ∀ n : Nat, cnN (fun z => upI f k v z == some j) n + (if k < n then is f j k else 0) = cnN (fun z => f z == some j) n + (if k < n then (if v = some j then 1 else 0) else 0)
  | 0 => by simp [cnN]
  | n + 1 => by
    have ih := cnN_up f j k v n
    rw [cnN_is, cnN_is]
    by_cases e : k = n
    · subst e
      rw [if_neg (Nat.lt_irrefl _), if_neg (Nat.lt_irrefl _)] at ih
      rw [if_pos (Nat.lt_succ_self _), if_pos (Nat.lt_succ_self _)]
      have e2 : is (upI f (k : Int) v) j (k : Int) = if v = some j then 1 else 0 := by unfold is upI; rw [if_pos rfl]
      rw [e2]
      omega
    · have e2 : is (upI f (k : Int) v) j (n : Int) = is f j n := by unfold is upI; rw [if_neg (fun c : (n : Int) = (k : Int) => e (by omega))]
      rw [e2]
      by_cases hk : k < n
      · rw [if_pos hk, if_pos hk] at ih
        rw [if_pos (by omega), if_pos (by omega)]
        omega
      · rw [if_neg hk, if_neg hk] at ih
        rw [if_neg (by omega), if_neg (by omega)]
        omega
def pk1 (f : Int → Option Int) (j : Int) : Nat := cnN (fun z => f z == some j) 16
theorem pk1_up (f : Int → Option Int) (j : Int) (k : Nat) (hk : k < 16) (v : Option Int) : pk1 (upI f k v) j + is f j k = pk1 f j + if v = some j then 1 else 0 := by
  have := cnN_up f j k v 16
  rw [if_pos hk, if_pos hk] at this
  exact this
theorem pk1_none (j : Int) : pk1 (fun _ => none) j = 0 := by
  have : ∀ n, cnN (fun z => ((fun _ => none : Int → Option Int) z == some j)) n = 0 := by
    intro n
    induction n with
    | zero => rfl
    | succ n ih => rw [cnN_is, ih]; rfl
  exact this 16
def cnt (pg : Fin 6 → Int → Option Int) (j : Int) : Nat := pk1 (pg 0) j + pk1 (pg 1) j + pk1 (pg 2) j + pk1 (pg 3) j + pk1 (pg 4) j + pk1 (pg 5) j
theorem cnt_up (pg : Fin 6 → Int → Option Int) (f : Int → Option Int) (j : Int) : ∀ p : Fin 6, cnt (upF pg p f) j + pk1 (pg p) j = cnt pg j + pk1 f j := by
  refine all6 ?_ ?_ ?_ ?_ ?_ ?_ <;> simp [cnt, upF] <;> omega
theorem pk1_cnt (pg : Fin 6 → Int → Option Int) (j : Int) : ∀ p : Fin 6, pk1 (pg p) j ≤ cnt pg j := by
  refine all6 ?_ ?_ ?_ ?_ ?_ ?_ <;> simp only [cnt] <;> omega
theorem cnt_le (pg : Fin 6 → Int → Option Int) (j : Int) : cnt pg j ≤ 96 := by
  have h : ∀ p : Fin 6, pk1 (pg p) j ≤ 16 := fun p => cnN_le _ 16
  have h0 := h 0
  have h1 := h 1
  have h2 := h 2
  have h3 := h 3
  have h4 := h 4
  have h5 := h 5
  unfold cnt
  omega
/-- One page goes elsewhere. -/
theorem cnt_move (pg : Fin 6 → Int → Option Int) (p : Fin 6) (k : Nat) (hk : k < 16) (v : Option Int) (j : Int) : cnt (upF pg p (upI (pg p) k v)) j + is (pg p) j k = cnt pg j + if v = some j then 1 else 0 := by
  have h1 := cnt_up pg (upI (pg p) k v) j p
  have h2 := pk1_up (pg p) j k hk v
  omega
theorem cnt_pos {pg : Fin 6 → Int → Option Int} {p : Fin 6} {k : Nat} {j : Int} (hk : k < 16) (h : pg p k = some j) : 1 ≤ cnt pg j := by
  have := cnt_move pg p k hk none j
  rw [show is (pg p) j k = 1 from if_pos h, if_neg (by intro c; cases c)] at this
  omega
theorem cnt_two {pg : Fin 6 → Int → Option Int} {p q : Fin 6} {k i : Nat} {j : Int} (hk : k < 16) (hi : i < 16) (h : pg p k = some j) (g : pg q i = some j) (hne : ¬ (p = q ∧ k = i)) : 2 ≤ cnt pg j := by
  have h1 := cnt_move pg p k hk none j
  rw [show is (pg p) j k = 1 from if_pos h, if_neg (by intro c; cases c)] at h1
  have g2 : upF pg p (upI (pg p) k none) q i = some j := by
    by_cases e : q = p
    · subst e
      rw [upF_same]
      unfold upI
      rw [if_neg (fun c => hne ⟨rfl, by omega⟩)]
      exact g
    · rw [upF_other _ _ _ _ e]
      exact g
  have h2 := cnt_pos hi g2
  omega
/-- The frames of pages. -/
structure Fr (N : Nat) (s : Vs) : Prop where
  n : s.n = N
  lo : 1 ≤ N
  hi : N ≤ 64
  len : s.rf.length = 64
  no : ∀ p, s.has p = false → s.pg p = fun _ => none
  pgs : ∀ p z v, s.pg p z = some v → (0 ≤ z ∧ z < 16) ∧ (v = -1 ∨ (0 ≤ v ∧ v < (N : Int)))
  rf : ∀ j : Nat, j < 64 → s.rf.getD j 0 = (cnt s.pg j : Int)
/-- What each process sees. -/
def Vw (pg : Fin 6 → Int → Option Int) (L : List Int) (V : Fin 6 → Nat → Int) : Prop := ∀ p (k : Nat) f, pg p k = some f → ∀ i, i < 32 → (if f = -1 then 0 else L.getD (f.toNat * 32 + i) 0) = V p (k * 32 + i)
/-- A frame in which none lies is 0. -/
def Zf (N : Nat) (s : Vs) : Prop := ∀ j, j < N → s.rf.getD j 0 = 0 → ∀ i, i < 32 → s.L.getD (j * 32 + i) 0 = 0
theorem Fr.pgsO {N : Nat} {s : Vs} (h : Fr N s) (p : Fin 6) : Pgs (s.pg p) := fun z v hz => ⟨(h.pgs p z v hz).1, by
  have h1 := (h.pgs p z v hz).2
  have h2 := h.hi
  omega⟩
theorem Fr.bnd {N : Nat} {s : Vs} (h : Fr N s) (j : Nat) (hj : j < 64) : 0 ≤ s.rf.getD j 0 ∧ s.rf.getD j 0 ≤ 96 := by
  rw [h.rf j hj]
  have := cnt_le s.pg j
  omega
/-- The least frame in which none lies; N: there is none. -/
def fz (f : Nat → Int) : Nat → Nat
  | 0 => 0
  | n + 1 => if fz f n < n then fz f n else if f n = 0 then n else n + 1
theorem fz_low (f : Nat → Int) : ∀ n, fz f n ≤ n ∧ (∀ j, j < fz f n → f j ≠ 0) ∧ (fz f n < n → f (fz f n) = 0)
  | 0 => ⟨Nat.le_refl 0, fun j hj => by simp [fz] at hj, fun h => by simp [fz] at h⟩
  | n + 1 => by
    obtain ⟨h1, h2, h3⟩ := fz_low f n
    unfold fz
    by_cases e : fz f n < n
    · rw [if_pos e]
      exact ⟨by omega, h2, fun _ => h3 e⟩
    · have e2 : fz f n = n := by omega
      rw [if_neg e]
      by_cases z : f n = 0
      · rw [if_pos z]
        exact ⟨by omega, fun j hj => h2 j (by omega), fun _ => z⟩
      · rw [if_neg z]
        refine ⟨Nat.le_refl _, fun j hj => ?_, fun h => by omega⟩
        by_cases q : j = n
        · rw [q]; exact z
        · exact h2 j (by omega)
theorem zrs_zero (f : Nat → Int) : ∀ n, (∀ j, j < n → f j ≠ 0) → zrs f n = 0
  | 0, _ => rfl
  | n + 1, h => by rw [zrs_no f n (h n (by omega))]; exact zrs_zero f n (fun j hj => h j (by omega))
def nx (N : Nat) (s : Vs) : Nat := fz (fun k => s.rf.getD k 0) N
theorem nx_ok {N : Nat} {s : Vs} (hn : s.n = N) (h : 1 ≤ zrs (fun k => s.rf.getD k 0) N) : Nx s N (nx N s) := by
  obtain ⟨h1, h2, h3⟩ := fz_low (fun k => s.rf.getD k 0) N
  have hlt : fz (fun k => s.rf.getD k 0) N < N := by
    by_cases e : fz (fun k => s.rf.getD k 0) N = N
    · rw [e] at h2
      have := zrs_zero _ N h2
      omega
    · omega
  exact ⟨hn, hlt, h3 hlt, h2⟩
theorem Nx.uniq {s t : Vs} {N m m' : Nat} (hr : s.rf = t.rf) (h : Nx s N m) (k : Nx t N m') : m = m' := by
  have h1 := h.z
  have h2 := k.z
  have h3 := h.low
  have h4 := k.low
  rw [hr] at h1 h3
  have a1 : ¬ m' < m := fun e => h3 m' e h2
  have a2 : ¬ m < m' := fun e => h4 m e h1
  omega
theorem zrs_ext (f g : Nat → Int) : ∀ n, (∀ j, j < n → (f j = 0 ↔ g j = 0)) → zrs f n = zrs g n
  | 0, _ => rfl
  | n + 1, h => by
    have ih := zrs_ext f g n (fun j hj => h j (by omega))
    unfold zrs
    rw [ih]
    have := h n (by omega)
    by_cases e : f n = 0
    · rw [if_pos e, if_pos (this.1 e)]
    · rw [if_neg e, if_neg (fun c => e (this.2 c))]
theorem zrs_one (f g : Nat → Int) (m : Nat) (hf : f m = 0) (hg : g m ≠ 0) : ∀ n, m < n → (∀ j, j < n → j ≠ m → (f j = 0 ↔ g j = 0)) → zrs g n + 1 = zrs f n
  | 0, hm, _ => by omega
  | n + 1, hm, h => by
    by_cases e : m = n
    · subst e
      rw [zrs_yes f m hf, zrs_no g m hg, zrs_ext f g m (fun j hj => h j (by omega) (by omega))]
    · have ih := zrs_one f g m hf hg n (by omega) (fun j hj => h j (by omega))
      have := h n (by omega) (fun c => e c.symm)
      unfold zrs
      by_cases q : f n = 0
      · rw [if_pos q, if_pos (this.1 q)]; omega
      · rw [if_neg q, if_neg (fun c => q (this.2 c))]; omega
theorem own_iff {N : Nat} {s : Vs} (h : Fr N s) (p : Fin 6) (k : Nat) (f : Int) (hk : s.pg p k = some f) : ownB s f = true ↔ (0 ≤ f ∧ cnt s.pg f = 1) := by
  have hb := (h.pgs p k f hk).2
  have hN := h.hi
  unfold ownB
  rcases hb with rfl | ⟨h0, h1⟩
  · simp
  · obtain ⟨j, rfl⟩ := Int.eq_ofNat_of_zero_le h0
    rw [Int.toNat_natCast, h.rf j (by omega)]
    have e1 : ((j : Int) != -1) = true := by simp
    rw [e1, Bool.true_and]
    simp
    omega
end Go.Proofs.Ytlnpdpfbnbjebaa
