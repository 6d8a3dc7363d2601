/- vm: how many pages lie in a frame, and what each process sees, as plain data. vm: a page goes to be written, a byte is written, as plain data. -/
import Derived.Test.YtfmcoibpbcheiaaVmN
namespace Go.Proofs.Ytfmcoibpbcheiaa
open Go.RowKit Go.Maps
set_option linter.unusedVariables false
set_option maxRecDepth 100000
theorem cnN_le (p : Int → Bool) : ∀ n, cnN p n ≤ n
  | 0 => Nat.le_refl 0
  | n + 1 => by
    have := cnN_le p n
    unfold cnN
    split <;> omega
def is (f : Int → Option Int) (j k : Int) : Nat := if f k = some j then 1 else 0
theorem cnN_is (f : Int → Option Int) (j : Int) (n : Nat) : cnN (fun z => f z == some j) (n + 1) = cnN (fun z => f z == some j) n + is f j n := by
  unfold is
  rw [cnN]
  by_cases h : f (n : Int) = some j
  · rw [if_pos (by simpa using h), if_pos h]
  · rw [if_neg (by simpa using h), if_neg h]
theorem cnN_up (f : Int → Option Int) (j : Int) (k : Nat) (v : Option Int) : ∀ n : Nat, cnN (fun z => upI f k v z == some j) n + (if k < n then is f j k else 0) = cnN (fun z => f z == some j) n + (if k < n then (if v = some j then 1 else 0) else 0)
  | 0 => by simp [cnN]
  | n + 1 => by
    have ih := cnN_up f j k v n
    rw [cnN_is, cnN_is]
    by_cases e : k = n
    · subst e
      rw [if_neg (Nat.lt_irrefl _), if_neg (Nat.lt_irrefl _)] at ih
      rw [if_pos (Nat.lt_succ_self _), if_pos (Nat.lt_succ_self _)]
      have e2 : is (upI f (k : Int) v) j (k : Int) = if v = some j then 1 else 0 := by unfold is upI; rw [if_pos rfl]
      rw [e2]
      omega
    · have e2 : is (upI f (k : Int) v) j (n : Int) = is f j n := by unfold is upI; rw [if_neg (fun c : (n : Int) = (k : Int) => e (by omega))]
      rw [e2]
      by_cases hk : k < n
      · rw [if_pos hk, if_pos hk] at ih
        rw [if_pos (by omega), if_pos (by omega)]
        omega
      · rw [if_neg hk, if_neg hk] at ih
        rw [if_neg (by omega), if_neg (by omega)]
        omega
def pk1 (f : Int → Option Int) (j : Int) : Nat := cnN (fun z => f z == some j) 16
theorem pk1_up (f : Int → Option Int) (j : Int) (k : Nat) (hk : k < 16) (v : Option Int) : pk1 (upI f k v) j + is f j k = pk1 f j + if v = some j then 1 else 0 := by
  have := cnN_up f j k v 16
  rw [if_pos hk, if_pos hk] at this
  exact this
theorem pk1_none (j : Int) : pk1 (fun _ => none) j = 0 := by
  have : ∀ n, cnN (fun z => ((fun _ => none : Int → Option Int) z == some j)) n = 0 := by
    intro n
    induction n with
    | zero => rfl
    | succ n ih => rw [cnN_is, ih]; rfl
  exact this 16
def cnt (pg : Fin 6 → Int → Option Int) (j : Int) : Nat := pk1 (pg 0) j + pk1 (pg 1) j + pk1 (pg 2) j + pk1 (pg 3) j + pk1 (pg 4) j + pk1 (pg 5) j
theorem cnt_up (pg : Fin 6 → Int → Option Int) (f : Int → Option Int) (j : Int) : ∀ p : Fin 6, cnt (upF pg p f) j + pk1 (pg p) j = cnt pg j + pk1 f j := by
  refine all6 ?_ ?_ ?_ ?_ ?_ ?_ <;> simp [cnt, upF] <;> omega
theorem pk1_cnt (pg : Fin 6 → Int → Option Int) (j : Int) : ∀ p : Fin 6, pk1 (pg p) j ≤ cnt pg j := by
  refine all6 ?_ ?_ ?_ ?_ ?_ ?_ <;> simp only [cnt] <;> omega
theorem cnt_le (pg : Fin 6 → Int → Option Int) (j : Int) : cnt pg j ≤ 96 := by
  have h : ∀ p : Fin 6, pk1 (pg p) j ≤ 16 := fun p => cnN_le _ 16
  have h0 := h 0
  have h1 := h 1
  have h2 := h 2
  have h3 := h 3
  have h4 := h 4
  have h5 := h 5
  unfold cnt
  omega
/-- One page goes elsewhere. -/
theorem cnt_move (pg : Fin 6 → Int → Option Int) (p : Fin 6) (k : Nat) (hk : k < 16) (v : Option Int) (j : Int) : cnt (upF pg p (upI (pg p) k v)) j + is (pg p) j k = cnt pg j + if v = some j then 1 else 0 := by
  have h1 := cnt_up pg (upI (pg p) k v) j p
  have h2 := pk1_up (pg p) j k hk v
  omega
theorem cnt_pos {pg : Fin 6 → Int → Option Int} {p : Fin 6} {k : Nat} {j : Int} (hk : k < 16) (h : pg p k = some j) : 1 ≤ cnt pg j := by
  have := cnt_move pg p k hk none j
  rw [show is (pg p) j k = 1 from if_pos h, if_neg (by intro c; cases c)] at this
  omega
theorem cnt_two {pg : Fin 6 → Int → Option Int} {p q : Fin 6} {k i : Nat} {j : Int} (hk : k < 16) (hi : i < 16) (h : pg p k = some j) (g : pg q i = some j) (hne : ¬ (p = q ∧ k = i)) : 2 ≤ cnt pg j := by
  have h1 := cnt_move pg p k hk none j
  rw [show is (pg p) j k = 1 from if_pos h, if_neg (by intro c; cases c)] at h1
  have g2 : upF pg p (upI (pg p) k none) q i = some j := by
    by_cases e : q = p
    · subst e
      rw [upF_same]
      unfold upI
      rw [if_neg (fun c => hne ⟨rfl, by omega⟩)]
      exact g
    · rw [upF_other _ _ _ _ e]
      exact g
  have h2 := cnt_pos hi g2
  omega
/-- The frames of pages. -/
structure Fr (N : Nat) (s : Vs) : Prop where
  n : s.n = N
  lo : 1 ≤ N
  hi : N ≤ 64
  len : s.rf.length = 64
  no : ∀ p, s.has p = false → s.pg p = fun _ => none
  pgs : ∀ p z v, s.pg p z = some v → (0 ≤ z ∧ z < 16) ∧ (v = -1 ∨ (0 ≤ v ∧ v < (N : Int)))
  rf : ∀ j : Nat, j < 64 → s.rf.getD j 0 = (cnt s.pg j : Int)
/-- What each process sees. -/
def Vw (pg : Fin 6 → Int → Option Int) (L : List Int) (V : Fin 6 → Nat → Int) : Prop := ∀ p (k : Nat) f, pg p k = some f → ∀ i, i < 32 → (if f = -1 then 0 else L.getD (f.toNat * 32 + i) 0) = V p (k * 32 + i)
/-- A frame in which none lies is 0. -/
def Zf (N : Nat) (s : Vs) : Prop := ∀ j, j < N → s.rf.getD j 0 = 0 → ∀ i, i < 32 → s.L.getD (j * 32 + i) 0 = 0
theorem Fr.pgsO {N : Nat} {s : Vs} (h : Fr N s) (p : Fin 6) : Pgs (s.pg p) := fun z v hz => ⟨(h.pgs p z v hz).1, by
  have h1 := (h.pgs p z v hz).2
  have h2 := h.hi
  omega⟩
theorem Fr.bnd {N : Nat} {s : Vs} (h : Fr N s) (j : Nat) (hj : j < 64) : 0 ≤ s.rf.getD j 0 ∧ s.rf.getD j 0 ≤ 96 := by
  rw [h.rf j hj]
  have := cnt_le s.pg j
  omega
/-- The least frame in which none lies; N: there is none. -/
def fz (f : Nat → Int) : Nat → Nat
  | 0 => 0
  | n + 1 => if fz f n < n then fz f n else if f n = 0 then n else n + 1
theorem fz_low (f : Nat → Int) : ∀ n, fz f n ≤ n ∧ (∀ j, j < fz f n → f j ≠ 0) ∧ (fz f n < n → f (fz f n) = 0)
  | 0 => ⟨Nat.le_refl 0, fun j hj => by simp [fz] at hj, fun h => by simp [fz] at h⟩
  | n + 1 => by
    obtain ⟨h1, h2, h3⟩ := fz_low f n
    unfold fz
    by_cases e : fz f n < n
    · rw [if_pos e]
      exact ⟨by omega, h2, fun _ => h3 e⟩
    · have e2 : fz f n = n := by omega
      rw [if_neg e]
      by_cases z : f n = 0
      · rw [if_pos z]
        exact ⟨by omega, fun j hj => h2 j (by omega), fun _ => z⟩
      · rw [if_neg z]
        refine ⟨Nat.le_refl _, fun j hj => ?_, fun h => by omega⟩
        by_cases q : j = n
        · rw [q]; exact z
        · exact h2 j (by omega)
theorem zrs_zero (f : Nat → Int) : ∀ n, (∀ j, j < n → f j ≠ 0) → zrs f n = 0
  | 0, _ => rfl
  | n + 1, h => by rw [zrs_no f n (h n (by omega))]; exact zrs_zero f n (fun j hj => h j (by omega))
def nx (N : Nat) (s : Vs) : Nat := fz (fun k => s.rf.getD k 0) N
theorem nx_ok {N : Nat} {s : Vs} (hn : s.n = N) (h : 1 ≤ zrs (fun k => s.rf.getD k 0) N) : Nx s N (nx N s) := by
  obtain ⟨h1, h2, h3⟩ := fz_low (fun k => s.rf.getD k 0) N
  have hlt : fz (fun k => s.rf.getD k 0) N < N := by
    by_cases e : fz (fun k => s.rf.getD k 0) N = N
    · rw [e] at h2
      have := zrs_zero _ N h2
      omega
    · omega
  exact ⟨hn, hlt, h3 hlt, h2⟩
theorem Nx.uniq {s t : Vs} {N m m' : Nat} (hr : s.rf = t.rf) (h : Nx s N m) (k : Nx t N m') : m = m' := by
  have h1 := h.z
  have h2 := k.z
  have h3 := h.low
  have h4 := k.low
  rw [hr] at h1 h3
  have a1 : ¬ m' < m := fun e => h3 m' e h2
  have a2 : ¬ m < m' := fun e => h4 m e h1
  omega
theorem zrs_ext (f g : Nat → Int) : ∀ n, (∀ j, j < n → (f j = 0 ↔ g j = 0)) → zrs f n = zrs g n
  | 0, _ => rfl
  | n + 1, h => by
    have ih := zrs_ext f g n (fun j hj => h j (by omega))
    unfold zrs
    rw [ih]
    have := h n (by omega)
    by_cases e : f n = 0
    · rw [if_pos e, if_pos (this.1 e)]
    · rw [if_neg e, if_neg (fun c => e (this.2 c))]
theorem zrs_one (f g : Nat → Int) (m : Nat) (hf : f m = 0) (hg : g m ≠ 0) : ∀ n, m < n → (∀ j, j < n → j ≠ m → (f j = 0 ↔ g j = 0)) → zrs g n + 1 = zrs f n
  | 0, hm, _ => by omega
  | n + 1, hm, h => by
    by_cases e : m = n
    · subst e
      rw [zrs_yes f m hf, zrs_no g m hg, zrs_ext f g m (fun j hj => h j (by omega) (by omega))]
    · have ih := zrs_one f g m hf hg n (by omega) (fun j hj => h j (by omega))
      have := h n (by omega) (fun c => e c.symm)
      unfold zrs
      by_cases q : f n = 0
      · rw [if_pos q, if_pos (this.1 q)]; omega
      · rw [if_neg q, if_neg (fun c => q (this.2 c))]; omega
theorem own_iff {N : Nat} {s : Vs} (h : Fr N s) (p : Fin 6) (k : Nat) (f : Int) (hk : s.pg p k = some f) : ownB s f = true ↔ (0 ≤ f ∧ cnt s.pg f = 1) := by
  have hb := (h.pgs p k f hk).2
  have hN := h.hi
  unfold ownB
  rcases hb with rfl | ⟨h0, h1⟩
  · simp
  · obtain ⟨j, rfl⟩ := Int.eq_ofNat_of_zero_le h0
    rw [Int.toNat_natCast, h.rf j (by omega)]
    have e1 : ((j : Int) != -1) = true := by simp
    rw [e1, Bool.true_and]
    simp
    omega
end Go.Proofs.Ytfmcoibpbcheiaa
namespace Go.Proofs.Ytfmcoibpbcheiaa
open Go.RowKit Go.Maps
set_option linter.unusedVariables false
set_option maxRecDepth 100000
theorem inB_go (n f o m : Int) (h : 0 ≤ f ∧ f < n ∧ 0 ≤ o ∧ o ≤ 32 - m) : inB n f o m = true := decide_eq_true h
theorem cpL_len {N : Nat} {L : List Int} (hL : L.length = 2048) (m f : Nat) (hm : m < N) (hf : f < N) (hN : N ≤ 64) : (cpL N L m f).length = 2048 := by
  have e : cpB (N : Int) (m : Int) (f : Int) = true := by
    unfold cpB
    rw [inB_go _ _ _ _ (by omega), inB_go _ _ _ _ (by omega)]
    rfl
  rw [cpL, if_pos e, putL_length (by rw [frL_len hL (by omega)]; simp; omega), hL]
theorem cpL_at {N : Nat} {L : List Int} (hL : L.length = 2048) (m f : Nat) (hm : m < N) (hf : f < N) (hN : N ≤ 64) (j i : Nat) (hi : i < 32) : (cpL N L m f).getD (j * 32 + i) 0 = if j = m then L.getD (f * 32 + i) 0 else L.getD (j * 32 + i) 0 := by
  have e : cpB (N : Int) (m : Int) (f : Int) = true := by
    unfold cpB
    rw [inB_go _ _ _ _ (by omega), inB_go _ _ _ _ (by omega)]
    rfl
  have hl : (frL L f).length = 32 := frL_len hL (by omega)
  rw [cpL, if_pos e, Int.toNat_natCast, Int.toNat_natCast]
  by_cases h : j = m
  · subst h
    rw [if_pos rfl, putL_in (by rw [hl]; omega) (by rw [hl]; omega), frL_at hi]
  · rw [if_neg h, putL_out (by rw [hl]; omega) (by rw [hl]; omega)]
theorem zrL_len {N : Nat} {L : List Int} (hL : L.length = 2048) (f : Nat) (hf : f < N) (hN : N ≤ 64) : (zrL N L f).length = 2048 := by
  rw [zrL, if_pos (inB_go _ _ _ _ (by omega)), Int.toNat_natCast, putL_length (by rw [List.length_replicate]; omega), hL]
theorem zrL_at {N : Nat} {L : List Int} (hL : L.length = 2048) (f : Nat) (hf : f < N) (hN : N ≤ 64) (j i : Nat) (hi : i < 32) : (zrL N L f).getD (j * 32 + i) 0 = if j = f then 0 else L.getD (j * 32 + i) 0 := by
  rw [zrL, if_pos (inB_go _ _ _ _ (by omega)), Int.toNat_natCast]
  by_cases h : j = f
  · subst h
    rw [if_pos rfl, putL_in (by rw [List.length_replicate]; omega) (by rw [List.length_replicate]; omega), List.getD_eq_getElem?_getD, List.getElem?_replicate, if_pos hi]
    rfl
  · rw [if_neg h, putL_out (by rw [List.length_replicate]; omega) (by rw [List.length_replicate]; omega)]
theorem sbL_len {N : Nat} {L : List Int} (hL : L.length = 2048) (g o : Nat) (b : Int) (hg : g < N) (ho : o < 32) (hN : N ≤ 64) : (sbL N L g o b).length = 2048 := by
  rw [sbL, if_pos (inB_go _ _ _ _ (by omega)), plc, Int.toNat_natCast, Int.toNat_natCast, putL_length (by simp; omega), hL]
theorem sbL_at {N : Nat} {L : List Int} (hL : L.length = 2048) (g o : Nat) (b : Int) (hg : g < N) (ho : o < 32) (hN : N ≤ 64) (j i : Nat) (hi : i < 32) : (sbL N L g o b).getD (j * 32 + i) 0 = if j = g ∧ i = o then b else L.getD (j * 32 + i) 0 := by
  rw [sbL, if_pos (inB_go _ _ _ _ (by omega)), plc, Int.toNat_natCast, Int.toNat_natCast]
  by_cases h : j = g ∧ i = o
  · obtain ⟨rfl, rfl⟩ := h
    rw [if_pos ⟨rfl, rfl⟩]
    exact putL_in (L := L) (vs := [b]) (k := j * 32 + i) (p := 0) (by simp; omega) (by simp)
  · rw [if_neg h, putL_out (by simp; omega) (by simp; omega)]
/-- A page that lies not alone gets the frame m. -/
def mvS (s : Vs) (p : Fin 6) (k : Nat) (f : Int) (m : Nat) : Vs := { alS s f m with pg := upF s.pg p (upI (s.pg p) k (some (m : Int))) }
theorem alS_rf (s : Vs) (f : Int) (m : Nat) (hf : f = -1 ∨ (0 ≤ f ∧ f < 64)) (hm : m < 64) (hl : s.rf.length = 64) (hne : f ≠ m) (j : Nat) : (alS s f m).rf.getD j 0 = s.rf.getD j 0 + (if j = m then 1 else 0) - (if f = (j : Int) then 1 else 0) := by
  unfold alS
  by_cases e : f = -1
  · rw [if_pos e, if_neg (by omega : ¬ f = (j : Int))]
    show (s.rf.set m (s.rf.getD m 0 + 1)).getD j 0 = _
    rw [set_at _ _ _ _ (by omega)]
    by_cases q : j = m
    · subst q; rw [if_pos rfl, if_pos rfl]; omega
    · rw [if_neg q, if_neg q]; omega
  · obtain ⟨g, rfl⟩ := Int.eq_ofNat_of_zero_le (by omega : 0 ≤ f)
    rw [if_neg e, Int.toNat_natCast]
    show (((s.rf.set g (s.rf.getD g 0 - 1)).set m ((s.rf.set g (s.rf.getD g 0 - 1)).getD m 0 + 1)).getD j 0) = _
    rw [set_at _ _ _ _ (by rw [List.length_set]; omega), set_at _ _ _ _ (by omega), set_at _ _ _ _ (by omega)]
    by_cases q : j = m
    · subst q
      rw [if_pos rfl, if_pos rfl, if_neg (by omega), if_neg (by omega)]
      omega
    · rw [if_neg q, if_neg q]
      by_cases q2 : j = g
      · subst q2; rw [if_pos rfl, if_pos rfl]; omega
      · rw [if_neg q2, if_neg (by omega)]; omega
theorem alS_len (s : Vs) (f : Int) (m : Nat) (hl : s.rf.length = 64) : (alS s f m).rf.length = 64 := by
  unfold alS
  split
  · show (s.rf.set m _).length = 64
    rw [List.length_set, hl]
  · show ((s.rf.set f.toNat _).set m _).length = 64
    rw [List.length_set, List.length_set, hl]
theorem alS_L (s : Vs) (f : Int) (m : Nat) (h0 : f = -1 ∨ 0 ≤ f) (h1 : f ≠ -1 → s.rf.getD f.toNat 0 ≠ 1) : (alS s f m).L = if f = -1 then s.L else cpL s.n s.L m f.toNat := by
  unfold alS
  by_cases e : f = -1
  · rw [if_pos e, if_pos e]; rfl
  · rw [if_neg e, if_neg e]
    show (if s.rf.getD f.toNat 0 = 1 then zrL s.n (cpL s.n s.L m f) f.toNat else cpL s.n s.L m f) = _
    rw [if_neg (h1 e)]
    rw [Int.toNat_of_nonneg (by omega)]
theorem alS_cp (s : Vs) (f : Int) (m : Nat) : (alS s f m).cp = if f = -1 then s.cp else s.cp + 1 := by
  unfold alS
  split <;> rfl
theorem alS_n (s : Vs) (f : Int) (m : Nat) : (alS s f m).n = s.n ∧ (alS s f m).has = s.has ∧ (alS s f m).pg = s.pg := by
  unfold alS
  split <;> exact ⟨rfl, rfl, rfl⟩
/-- What is known of a page that goes to be written, and lies not alone. -/
structure Mv0 (N : Nat) (s : Vs) (p : Fin 6) (k : Nat) (f : Int) (m : Nat) : Prop where
  fr : Fr N s
  hk : k < 16
  hp : s.pg p k = some f
  no : ownB s f = false
  nx : Nx s N m
theorem Mv0.m0 {N : Nat} {s : Vs} {p : Fin 6} {k : Nat} {f : Int} {m : Nat} (h : Mv0 N s p k f m) : cnt s.pg (m : Int) = 0 := by
  have h1 := h.fr.rf m (by have := h.nx.lt; have := h.fr.hi; omega)
  rw [h.nx.z] at h1
  omega
theorem Mv0.ne {N : Nat} {s : Vs} {p : Fin 6} {k : Nat} {f : Int} {m : Nat} (h : Mv0 N s p k f m) : f ≠ m := fun e => by
  have h1 := cnt_pos h.hk h.hp
  rw [e, h.m0] at h1
  omega
theorem Mv0.f2 {N : Nat} {s : Vs} {p : Fin 6} {k : Nat} {f : Int} {m : Nat} (h : Mv0 N s p k f m) (hf : f ≠ -1) : 0 ≤ f ∧ f < (N : Int) ∧ 2 ≤ cnt s.pg f ∧ 2 ≤ s.rf.getD f.toNat 0 := by
  have hb := (h.fr.pgs p k f h.hp).2
  have hN := h.fr.hi
  have h1 := cnt_pos h.hk h.hp
  have h2 : ¬ (0 ≤ f ∧ cnt s.pg f = 1) := fun c => by
    have := (own_iff h.fr p k f h.hp).2 c
    rw [h.no] at this
    cases this
  have h3 := h.fr.rf f.toNat (by omega)
  have e : ((f.toNat : Nat) : Int) = f := by omega
  rw [e] at h3
  refine ⟨by omega, by omega, by omega, by omega⟩
theorem Mv0.rf {N : Nat} {s : Vs} {p : Fin 6} {k : Nat} {f : Int} {m : Nat} (h : Mv0 N s p k f m) (j : Nat) : (mvS s p k f m).rf.getD j 0 = s.rf.getD j 0 + (if j = m then 1 else 0) - (if f = (j : Int) then 1 else 0) := by
  have hb := (h.fr.pgs p k f h.hp).2
  have hN := h.fr.hi
  have := h.nx.lt
  exact alS_rf s f m (by omega) (by omega) h.fr.len h.ne j
theorem Mv0.fr2 {N : Nat} {s : Vs} {p : Fin 6} {k : Nat} {f : Int} {m : Nat} (h : Mv0 N s p k f m) : Fr N (mvS s p k f m) := by
  refine ⟨(alS_n s f m).1.trans h.fr.n, h.fr.lo, h.fr.hi, alS_len s f m h.fr.len, fun q hq => ?_, fun q z v hv => ?_, fun j hj => ?_⟩
  · have hq' : s.has q = false := by rw [← (alS_n s f m).2.1]; exact hq
    have e : q ≠ p := fun e => by
      have := h.fr.no q hq'
      rw [e] at this
      have h2 := h.hp
      rw [this] at h2
      cases h2
    show upF s.pg p _ q = _
    rw [upF_other _ _ _ _ e]
    exact h.fr.no q hq'
  · have hv' : upF s.pg p (upI (s.pg p) k (some (m : Int))) q z = some v := hv
    by_cases e : q = p
    · subst e
      rw [upF_same] at hv'
      unfold upI at hv'
      by_cases e2 : z = (k : Int)
      · rw [if_pos e2] at hv'
        injection hv' with hv'
        have := h.nx.lt
        have := h.hk
        omega
      · rw [if_neg e2] at hv'
        exact h.fr.pgs q z v hv'
    · rw [upF_other _ _ _ _ e] at hv'
      exact h.fr.pgs q z v hv'
  · rw [h.rf j, h.fr.rf j hj]
    have h1 := cnt_move s.pg p k h.hk (some (m : Int)) (j : Int)
    have h2 : is (s.pg p) (j : Int) k = if f = (j : Int) then 1 else 0 := by
      unfold is
      rw [h.hp]
      by_cases e : f = (j : Int)
      · rw [if_pos (by rw [e]), if_pos e]
      · rw [if_neg (fun c => e (by injection c)), if_neg e]
    have h3 : (if some (m : Int) = some (j : Int) then 1 else 0) = if j = m then 1 else 0 := by
      by_cases e : j = m
      · rw [if_pos (by rw [e]), if_pos e]
      · rw [if_neg (fun c => e (by injection c; omega)), if_neg e]
    rw [h2, h3] at h1
    show ((cnt s.pg (j : Int) : Nat) : Int) + _ - _ = ((cnt (upF s.pg p (upI (s.pg p) k (some (m : Int)))) (j : Int) : Nat) : Int)
    split at h1 <;> split at h1 <;> simp_all <;> omega
/-- Which bytes there are then. -/
def MvL (s : Vs) (N : Nat) (f : Int) (m : Nat) (L2 : List Int) : Prop := ∀ j i, j < N → i < 32 → L2.getD (j * 32 + i) 0 = if j = m then (if f = -1 then 0 else s.L.getD (f.toNat * 32 + i) 0) else s.L.getD (j * 32 + i) 0
theorem Mv0.L {N : Nat} {s : Vs} {p : Fin 6} {k : Nat} {f : Int} {m : Nat} (h : Mv0 N s p k f m) (hL : s.L.length = 2048) (hz : Zf N s) : (mvS s p k f m).L.length = 2048 ∧ MvL s N f m (mvS s p k f m).L := by
  have hlt := h.nx.lt
  have hN := h.fr.hi
  have e : (mvS s p k f m).L = if f = -1 then s.L else cpL s.n s.L m f.toNat := alS_L s f m (by have := (h.fr.pgs p k f h.hp).2; omega) (fun c => by have := (h.f2 c).2.2.2; omega)
  rw [e, h.fr.n]
  by_cases c : f = -1
  · rw [if_pos c]
    refine ⟨hL, fun j i hj hi => ?_⟩
    by_cases q : j = m
    · rw [if_pos q, if_pos c, q]
      exact hz m hlt h.nx.z i hi
    · rw [if_neg q]
  · have := h.f2 c
    rw [if_neg c]
    refine ⟨cpL_len hL m f.toNat hlt (by omega) hN, fun j i hj hi => ?_⟩
    rw [cpL_at hL m f.toNat hlt (by omega) hN j i hi, if_neg c]
theorem Mv0.vw {N : Nat} {s : Vs} {p : Fin 6} {k : Nat} {f : Int} {m : Nat} (h : Mv0 N s p k f m) {V : Fin 6 → Nat → Int} (hV : Vw s.pg s.L V) (L2 : List Int) (hL2 : MvL s N f m L2) : Vw (mvS s p k f m).pg L2 V := fun q i g hg j hj => by
  have hlt := h.nx.lt
  have hg' : upF s.pg p (upI (s.pg p) k (some (m : Int))) q (i : Int) = some g := hg
  by_cases e : q = p ∧ i = k
  · obtain ⟨rfl, rfl⟩ := e
    rw [upF_same] at hg'
    unfold upI at hg'
    rw [if_pos rfl] at hg'
    injection hg' with hg'
    subst hg'
    rw [if_neg (by omega), Int.toNat_natCast, hL2 m j hlt hj, if_pos rfl]
    exact hV q i f h.hp j hj
  · have hs : s.pg q i = some g := by
      by_cases c : q = p
      · subst c
        rw [upF_same] at hg'
        unfold upI at hg'
        rw [if_neg (fun c => e ⟨rfl, by omega⟩)] at hg'
        exact hg'
      · rw [upF_other _ _ _ _ c] at hg'
        exact hg'
    have hb := h.fr.pgs q i g hs
    have h1 := hV q i g hs j hj
    by_cases c : g = -1
    · rw [if_pos c] at h1 ⊢
      exact h1
    · rw [if_neg c] at h1 ⊢
      have hgm : g.toNat ≠ m := fun x => by
        have h2 := cnt_pos (by omega : i < 16) hs
        have h3 := h.m0
        rw [show (m : Int) = g by omega] at h3
        omega
      rw [hL2 g.toNat j (by omega) hj, if_neg hgm]
      exact h1
theorem Mv0.zf {N : Nat} {s : Vs} {p : Fin 6} {k : Nat} {f : Int} {m : Nat} (h : Mv0 N s p k f m) (hz : Zf N s) (hL2 : MvL s N f m (mvS s p k f m).L) : Zf N (mvS s p k f m) := fun j hj hr i hi => by
  have hm := h.m0
  have hlt := h.nx.lt
  have hN := h.fr.hi
  rw [h.rf j] at hr
  have hb := h.fr.bnd j (by omega)
  have hne := h.ne
  have q : j ≠ m := fun e => by
    subst e
    rw [if_pos rfl, if_neg hne] at hr
    omega
  rw [hL2 j i hj hi, if_neg q]
  rw [if_neg q] at hr
  have q2 : ¬ f = (j : Int) := fun e => by
    rw [if_pos e] at hr
    have h2 := h.f2 (by omega)
    have e2 : f.toNat = j := by omega
    rw [e2] at h2
    omega
  rw [if_neg q2] at hr
  exact hz j hj (by omega) i hi
/-- A byte of one's own is written. -/
def upV (V : Fin 6 → Nat → Int) (p : Fin 6) (a : Nat) (b : Int) : Fin 6 → Nat → Int := fun q x => if q = p ∧ x = a then b else V q x
theorem vw_write {N : Nat} {s : Vs} (h : Fr N s) {p : Fin 6} {k o : Nat} {g : Nat} {b : Int} (hk : k < 16) (ho : o < 32) (hg : s.pg p k = some (g : Int)) (h1 : cnt s.pg (g : Int) = 1) {L : List Int} (hL : L.length = 2048) {V : Fin 6 → Nat → Int} (hV : Vw s.pg L V) : Vw s.pg (sbL N L g o b) (upV V p (k * 32 + o) b) := fun q i f hf j hj => by
  have hN := h.hi
  have hgb := h.pgs p k g hg
  have hgN : g < N := by omega
  have h2 := hV q i f hf j hj
  have hfb := h.pgs q i f hf
  by_cases e : q = p ∧ i = k
  · obtain ⟨rfl, rfl⟩ := e
    rw [hg] at hf
    injection hf with hf
    subst hf
    rw [if_neg (by omega), Int.toNat_natCast] at h2 ⊢
    rw [sbL_at hL g o b hgN ho hN g j hj]
    unfold upV
    by_cases c : j = o
    · subst c
      rw [if_pos ⟨rfl, rfl⟩, if_pos ⟨rfl, rfl⟩]
    · rw [if_neg (fun x => c x.2), if_neg (fun x => c (by omega))]
      exact h2
  · have hv : upV V p (k * 32 + o) b q (i * 32 + j) = V q (i * 32 + j) := if_neg (fun x => e ⟨x.1, by omega⟩)
    rw [hv]
    by_cases c : f = -1
    · rw [if_pos c] at h2 ⊢
      exact h2
    · rw [if_neg c] at h2 ⊢
      have hfg : f.toNat ≠ g := fun x => by
        have e2 : f = (g : Int) := by omega
        rw [e2] at hf
        have := cnt_two hk (by omega : i < 16) hg hf (fun x => e ⟨x.1.symm, x.2.symm⟩)
        omega
      rw [sbL_at hL g o b hgN ho hN _ j hj, if_neg (fun x => hfg x.1)]
      exact h2
theorem zf_write {N : Nat} {s : Vs} (h : Fr N s) {p : Fin 6} {k o : Nat} {g : Nat} {b : Int} (hk : k < 16) (ho : o < 32) (hg : s.pg p k = some (g : Int)) (hL : s.L.length = 2048) (hz : Zf N s) : Zf N { s with L := sbL N s.L g o b } := fun j hj hr i hi => by
  have hN := h.hi
  have hgb := h.pgs p k g hg
  have hgN : g < N := by omega
  have q : j ≠ g := fun e => by
    subst e
    have h1 := h.rf j (by omega)
    have h2 := cnt_pos hk hg
    have hr' : s.rf.getD j 0 = 0 := hr
    omega
  show (sbL N s.L g o b).getD (j * 32 + i) 0 = 0
  rw [sbL_at hL g o b hgN ho hN j i hi, if_neg (fun x => q x.1)]
  exact hz j hj hr i hi
/-- All that is known of one. -/
structure Iv (N : Nat) (s : Vs) (V : Fin 6 → Nat → Int) : Prop where
  fr : Fr N s
  L : s.L.length = 2048
  vw : Vw s.pg s.L V
  z : Zf N s
end Go.Proofs.Ytfmcoibpbcheiaa
