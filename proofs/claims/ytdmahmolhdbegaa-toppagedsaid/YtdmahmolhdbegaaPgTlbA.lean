/- Mappings as plain data: which one a page has, what is taken out, what is put in. -/
import Derived.WalkKit
import Derived.Below
namespace Go.Proofs.Ytdmahmolhdbegaa.Tb
open Go.RowKit
set_option linter.unusedVariables false

/-- A mapping: address space, page, frame, whether it may be written. -/
abbrev Mp := Int × Int × Int × Bool
def MpOk (m : Mp) : Prop := 0 ≤ m.1 ∧ m.1 ≤ 255 ∧ 0 ≤ m.2.1 ∧ m.2.1 ≤ 255 ∧ 0 ≤ m.2.2.1 ∧ m.2.2.1 ≤ 255
def mpCs (m : Mp) : List Value := [.int .u8 m.1, .int .u8 m.2.1, .int .u8 m.2.2.1, .bool m.2.2.2]
def mpV (m : Mp) : Value := .agg #[.int .u8 m.1, .int .u8 m.2.1, .int .u8 m.2.2.1, .bool m.2.2.2]
/-- The cells of mappings, one behind the other. -/
def mpsCs : List Mp → List Value
  | [] => []
  | m :: l => .int .u8 m.1 :: .int .u8 m.2.1 :: .int .u8 m.2.2.1 :: .bool m.2.2.2 :: mpsCs l
theorem mpsCs_append (l r : List Mp) : mpsCs (l ++ r) = mpsCs l ++ mpsCs r := by
  induction l with
  | nil => rfl
  | cons i l ih => simp [mpsCs, ih]
theorem mpsCs_len (l : List Mp) : (mpsCs l).length = l.length * 4 := by
  induction l with
  | nil => rfl
  | cons i l ih => simp [mpsCs, ih]; omega
theorem mpsCs_at : ∀ (l : List Mp) (j : Nat) (i : Mp), l[j]? = some i → (mpsCs l)[j * 4]? = some (.int .u8 i.1) ∧ (mpsCs l)[j * 4 + 1]? = some (.int .u8 i.2.1) ∧ (mpsCs l)[j * 4 + 2]? = some (.int .u8 i.2.2.1) ∧ (mpsCs l)[j * 4 + 3]? = some (.bool i.2.2.2)
  | [], j, i, h => by cases h
  | x :: l, 0, i, h => by
    simp at h
    subst h
    simp [mpsCs]
  | x :: l, j + 1, i, h => by
    have := mpsCs_at l j i (by simpa using h)
    simp only [mpsCs]
    rw [show (j + 1) * 4 = j * 4 + 1 + 1 + 1 + 1 by omega]
    simpa using this
theorem mpsCs_one (l : List Mp) : ∀ u ∈ mpsCs l, u.oneCell' = true := by
  induction l with
  | nil => intro u h; cases h
  | cons i l ih =>
    intro u h
    simp only [mpsCs, List.mem_cons] at h
    rcases h with rfl | rfl | rfl | rfl | h
    · rfl
    · rfl
    · rfl
    · rfl
    · exact ih u h
theorem mpsCs_take (l : List Mp) (n : Nat) : mpsCs (l.take n) = (mpsCs l).take (n * 4) := by
  induction l generalizing n with
  | nil => simp [mpsCs]
  | cons i l ih =>
    cases n with
    | zero => simp [mpsCs]
    | succ n => simp [mpsCs, ih, show (n + 1) * 4 = n * 4 + 1 + 1 + 1 + 1 by omega]
theorem mpsCs_drop (l : List Mp) (n : Nat) : mpsCs (l.drop n) = (mpsCs l).drop (n * 4) := by
  induction l generalizing n with
  | nil => simp [mpsCs]
  | cons i l ih =>
    cases n with
    | zero => simp [mpsCs]
    | succ n => simp [mpsCs, ih, show (n + 1) * 4 = n * 4 + 1 + 1 + 1 + 1 by omega]

/-- Is a mapping that of a page? -/
def ofB (a p : Int) (m : Mp) : Bool := decide (m.1 = a ∧ m.2.1 = p)
def eqB (o m : Mp) : Bool := decide (m = o)
/-- The place of the first that is so; -1: none is. -/
def idxI (f : Mp → Bool) (L : List Mp) : Int := match L.findIdx? f with | some k => (k : Int) | none => -1
theorem idx_none {f : Mp → Bool} {L : List Mp} (h : L.findIdx? f = none) (j : Nat) (hj : j < L.length) : f L[j] = false := by
  rw [List.findIdx?_eq_none_iff] at h
  exact h _ (List.getElem_mem hj)
theorem idx_some {f : Mp → Bool} {L : List Mp} {k : Nat} (h : L.findIdx? f = some k) : ∃ hk : k < L.length, f L[k] = true ∧ ∀ j (hj : j < k), f (L[j]'(by omega)) = false := by
  rw [List.findIdx?_eq_some_iff_getElem] at h
  obtain ⟨hk, h1, h2⟩ := h
  exact ⟨hk, h1, fun j hj => by simpa using h2 j hj⟩
theorem idx_hit {f : Mp → Bool} {L : List Mp} (k : Nat) (hk : k < L.length) (h1 : f L[k] = true) (h2 : ∀ j (hj : j < k), f (L[j]'(by omega)) = false) : L.findIdx? f = some k := by
  rw [List.findIdx?_eq_some_iff_getElem]
  exact ⟨hk, h1, fun j hj => by simpa using h2 j hj⟩
theorem idx_miss {f : Mp → Bool} {L : List Mp} (h : ∀ j (hj : j < L.length), f L[j] = false) : L.findIdx? f = none := by
  rw [List.findIdx?_eq_none_iff]
  intro x hx
  obtain ⟨j, hj, rfl⟩ := List.mem_iff_getElem.1 hx
  exact h j hj

/-- No two are of one page. -/
def Kd (L : List Mp) : Prop := L.Pairwise (fun x y => ¬ (x.1 = y.1 ∧ x.2.1 = y.2.1))
/-- What a list of mappings at hand always is. -/
structure Good (L : List Mp) : Prop where
  few : L.length ≤ 8
  kd : Kd L
  ok : ∀ m ∈ L, MpOk m ∧ m.2.1 < 16 ∧ m.2.2.1 < 64
theorem Kd.uniq {L : List Mp} (h : Kd L) (i j : Nat) (hi : i < L.length) (hj : j < L.length) (h1 : L[i].1 = L[j].1) (h2 : L[i].2.1 = L[j].2.1) : i = j := by
  unfold Kd at h
  rw [List.pairwise_iff_getElem] at h
  by_cases e : i = j
  · exact e
  · by_cases l : i < j
    · exact absurd ⟨h1, h2⟩ (h i j hi hj l)
    · exact absurd ⟨h1.symm, h2.symm⟩ (h j i hj hi (by omega))
theorem filter_none (f : Mp → Bool) (L : List Mp) (h : ∀ j (hj : j < L.length), f L[j] = false) : L.filter (fun x => !f x) = L := by
  rw [List.filter_eq_self]
  intro x hx
  obtain ⟨j, hj, rfl⟩ := List.mem_iff_getElem.1 hx
  simp [h j hj]
theorem filter_erase (f : Mp → Bool) : ∀ (L : List Mp) (k : Nat) (hk : k < L.length), f L[k] = true → (∀ j (hj : j < L.length), f L[j] = true → j = k) → L.filter (fun x => !f x) = L.eraseIdx k
  | [], k, hk, _, _ => by cases hk
  | x :: L, 0, hk, h1, h2 => by
    have hx : f x = true := h1
    rw [List.filter_cons_of_neg (by simp [hx])]
    simp only [List.eraseIdx_cons_zero]
    refine filter_none f L (fun j hj => ?_)
    cases h : f L[j] with
    | false => rfl
    | true => have := h2 (j + 1) (by simpa using hj) (by simpa using h); omega
  | x :: L, k + 1, hk, h1, h2 => by
    have hx : f x = false := by
      cases h : f x with
      | false => rfl
      | true => have := h2 0 (by simp) h; omega
    rw [List.filter_cons_of_pos (by simp [hx]), List.eraseIdx_cons_succ]
    rw [filter_erase f L k (by simpa using hk) (by simpa using h1) (fun j hj h => by have := h2 (j + 1) (by simpa using hj) (by simpa using h); omega)]
theorem ofB_iff {a p : Int} {m : Mp} : ofB a p m = true ↔ m.1 = a ∧ m.2.1 = p := by simp [ofB]
theorem out_of {L : List Mp} (h : Kd L) (a p : Int) (k : Nat) (e : L.findIdx? (ofB a p) = some k) : L.filter (fun x => !ofB a p x) = L.eraseIdx k := by
  obtain ⟨hk, h1, _⟩ := idx_some e
  refine filter_erase _ L k hk h1 (fun j hj hf => ?_)
  rw [ofB_iff] at h1 hf
  exact h.uniq j k hj hk (hf.1.trans h1.1.symm) (hf.2.trans h1.2.symm)
theorem out_eq {L : List Mp} (h : Kd L) (k : Nat) (hk : k < L.length) : L.filter (fun x => !eqB L[k] x) = L.eraseIdx k := by
  refine filter_erase _ L k hk (by simp [eqB]) (fun j hj hf => ?_)
  have : L[j] = L[k] := by simpa [eqB] using hf
  exact h.uniq j k hj hk (by rw [this]) (by rw [this])

def zM : Mp := (0, 0, 0, false)
def rngB (m : Mp) : Bool := decide (m.2.1 < 16 ∧ m.2.2.1 < 64)
/-- Which place goes for a mapping that is put in. -/
def insK (m : Mp) (L : List Mp) : Option Nat := match L.findIdx? (ofB m.1 m.2.1) with | some k => some k | none => if L.length = 8 then some 0 else none
def insL (m : Mp) (L : List Mp) : List Mp := match insK m L with | some k => L.eraseIdx k ++ [m] | none => L ++ [m]
def insO (m : Mp) (L : List Mp) : Mp := match insK m L with | some k => (L[k]?).getD zM | none => zM
def wrL (a p : Int) (b : Bool) (L : List Mp) : List Mp := match L.findIdx? (ofB a p) with | some k => L.modify k (fun m => (m.1, m.2.1, m.2.2.1, b)) | none => L
theorem insK_lt {m : Mp} {L : List Mp} {k : Nat} (h : insK m L = some k) : k < L.length := by
  unfold insK at h
  split at h
  · rename_i k' e
    obtain ⟨hk, _⟩ := idx_some e
    injection h with h
    omega
  · split at h
    · injection h with h
      omega
    · cases h
theorem Good.sub {L M : List Mp} (h : Good L) (s : List.Sublist M L) : Good M :=
  ⟨Nat.le_trans s.length_le h.few, h.kd.sublist s, fun m hm => h.ok m (s.subset hm)⟩
theorem Good.filter {L : List Mp} (h : Good L) (f : Mp → Bool) : Good (L.filter f) := h.sub List.filter_sublist
theorem Good.nil : Good [] := ⟨by simp, List.Pairwise.nil, fun m h => by cases h⟩
theorem Good.ins {L : List Mp} (h : Good L) (m : Mp) (hm : MpOk m) (hr : rngB m = true) : Good (insL m L) := by
  have hr' : m.2.1 < 16 ∧ m.2.2.1 < 64 := by simpa [rngB] using hr
  unfold insL
  cases e : insK m L with
  | none =>
    unfold insK at e
    split at e
    · cases e
    · rename_i e0
      split at e
      · cases e
      · rename_i h8
        have hf := h.few
        refine ⟨by simp; omega, ?_, fun x hx => ?_⟩
        · unfold Kd
          rw [List.pairwise_append]
          refine ⟨h.kd, List.pairwise_singleton _ _, fun x hx y hy => ?_⟩
          have : y = m := by simpa using hy
          subst this
          obtain ⟨j, hj, rfl⟩ := List.mem_iff_getElem.1 hx
          have := idx_none e0 j hj
          rw [← Bool.not_eq_true, ofB_iff] at this
          exact this
        · rcases List.mem_append.1 hx with hx | hx
          · exact h.ok x hx
          · have : x = m := by simpa using hx
            subst this
            exact ⟨hm, hr'⟩
  | some k =>
    have hk := insK_lt e
    have hf := h.few
    have hs : List.Sublist (L.eraseIdx k) L := List.eraseIdx_sublist ..
    have hl : (L.eraseIdx k).length = L.length - 1 := by rw [List.length_eraseIdx, if_pos hk]
    refine ⟨by simp only [List.length_append, List.length_singleton, hl]; omega, ?_, fun x hx => ?_⟩
    · unfold Kd
      rw [List.pairwise_append]
      refine ⟨h.kd.sublist hs, List.pairwise_singleton _ _, fun x hx y hy hxy => ?_⟩
      have : y = m := by simpa using hy
      subst this
      have hf2 : ofB y.1 y.2.1 x = true := ofB_iff.2 hxy
      unfold insK at e
      split at e
      · rename_i k' e0
        injection e with e
        subst e
        rw [← out_of h.kd _ _ _ e0] at hx
        have := (List.mem_filter.1 hx).2
        rw [hf2] at this
        cases this
      · rename_i e0
        obtain ⟨j, hj, rfl⟩ := List.mem_iff_getElem.1 (hs.subset hx)
        have := idx_none e0 j hj
        rw [hf2] at this
        cases this
    · rcases List.mem_append.1 hx with hx | hx
      · exact h.ok x (hs.subset hx)
      · have : x = m := by simpa using hx
        subst this
        exact ⟨hm, hr'⟩
theorem modify_key (L : List Mp) (k : Nat) (b : Bool) (j : Nat) (hj : j < (L.modify k (fun m => (m.1, m.2.1, m.2.2.1, b))).length) : ∃ hj' : j < L.length, ((L.modify k (fun m => (m.1, m.2.1, m.2.2.1, b)))[j]).1 = L[j].1 ∧ ((L.modify k (fun m => (m.1, m.2.1, m.2.2.1, b)))[j]).2.1 = L[j].2.1 ∧ ((L.modify k (fun m => (m.1, m.2.1, m.2.2.1, b)))[j]).2.2.1 = L[j].2.2.1 := by
  have hj' : j < L.length := by simpa using hj
  refine ⟨hj', ?_⟩
  rw [List.getElem_modify]
  split <;> simp
theorem Good.wr {L : List Mp} (h : Good L) (a p : Int) (b : Bool) : Good (wrL a p b L) := by
  unfold wrL
  split
  · rename_i k e
    refine ⟨by simpa using h.few, ?_, fun x hx => ?_⟩
    · unfold Kd
      rw [List.pairwise_iff_getElem]
      intro i j hi hj hij hxy
      obtain ⟨hi', i1, i2, _⟩ := modify_key L k b i hi
      obtain ⟨hj', j1, j2, _⟩ := modify_key L k b j hj
      have := h.kd.uniq i j hi' hj' (by rw [← i1, ← j1]; exact hxy.1) (by rw [← i2, ← j2]; exact hxy.2)
      omega
    · obtain ⟨j, hj, rfl⟩ := List.mem_iff_getElem.1 hx
      obtain ⟨hj', j1, j2, j3⟩ := modify_key L k b j hj
      have := h.ok L[j] (List.getElem_mem hj')
      unfold MpOk at this ⊢
      rw [j1, j2, j3]
      exact this
  · exact h
theorem wrL_len (a p : Int) (b : Bool) (L : List Mp) : (wrL a p b L).length = L.length := by
  unfold wrL
  split
  · simp
  · rfl

/-- A deed: what, and with which mapping. -/
abbrev Dd := Int × Mp
def DdOk (d : Dd) : Prop := -9223372036854775808 ≤ d.1 ∧ d.1 ≤ 9223372036854775807 ∧ MpOk d.2
def doL (d : Dd) (L : List Mp) : List Mp :=
  if d.1 = 0 then (if rngB d.2 = true then insL d.2 L else L)
  else if d.1 = 1 then L.filter (fun x => !ofB d.2.1 d.2.2.1 x)
  else if d.1 = 2 then L.filter (fun x => !decide (x.1 = d.2.1))
  else if d.1 = 3 then L.filter (fun x => !decide (x.2.2.1 = d.2.2.2.1))
  else if d.1 = 4 then wrL d.2.1 d.2.2.1 d.2.2.2.2 L
  else L
theorem Good.does {L : List Mp} (h : Good L) (d : Dd) (hd : DdOk d) : Good (doL d L) := by
  unfold doL
  split
  · split
    · exact h.ins _ hd.2.2 (by assumption)
    · exact h
  · split
    · exact h.filter _
    · split
      · exact h.filter _
      · split
        · exact h.filter _
        · split
          · exact h.wr _ _ _
          · exact h
def playL : List Dd → List Mp → List Mp
  | [], L => L
  | d :: l, L => playL l (doL d L)
theorem playL_snoc (l : List Dd) (d : Dd) (L : List Mp) : playL (l ++ [d]) L = doL d (playL l L) := by
  induction l generalizing L with
  | nil => rfl
  | cons x l ih => exact ih (doL x L)
end Go.Proofs.Ytdmahmolhdbegaa.Tb
