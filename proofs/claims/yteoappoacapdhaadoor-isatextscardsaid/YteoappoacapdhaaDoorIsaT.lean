/- Instructions as texts, as plain functions: the words of operations, what a text says, and back. -/
import Derived.Test.YteoappoacapdhaaDoorIsaA
import Derived.Test.YteoappoacapdhaaDoorLawSigns
import Derived.Lib.ItoaNum
namespace Go.Proofs.YteoappoacapdhaaDoor
open Go.RowKit
set_option linter.unusedVariables false

def wordsL : List (List UInt8) := [[110, 111, 112], [104, 97, 108, 116], [108, 105], [109, 111, 118], [97, 100, 100], [115, 117, 98], [109, 117, 108], [100, 105, 118], [97, 110, 100], [111, 114], [120, 111, 114], [115, 104, 108], [115, 104, 114], [108, 100], [115, 116], [108, 100, 98], [115, 116, 98], [106, 109, 112], [106, 122], [106, 110, 122], [106, 108, 116], [99, 97, 108, 108], [114, 101, 116], [115, 121, 115]]
def wordT (o : Int) : List UInt8 := wordsL.getD o.toNat []
/-- The first place, from k on, where a word stands. -/
def opF : List (List UInt8) → Nat → List UInt8 → Option Nat
  | [], _, _ => none
  | x :: l, k, s => if x = s then some k else opF l (k + 1) s
def opO (s : List UInt8) : Option Nat := opF wordsL 0 s
theorem opF_lt : ∀ (l : List (List UInt8)) (k n : Nat) (s : List UInt8), opF l k s = some n → k ≤ n ∧ n < k + l.length ∧ l[n - k]? = some s
  | x :: l, k, n, s, h => by
    simp only [opF] at h
    split at h
    · rename_i e
      injection h with h
      subst h e
      simp
    · obtain ⟨h1, h2, h3⟩ := opF_lt l (k + 1) n s h
      refine ⟨by omega, by simp; omega, ?_⟩
      rw [show n - k = (n - (k + 1)) + 1 by omega]
      simpa using h3
theorem op_word (s : List UInt8) (n : Nat) (h : opO s = some n) : n ≤ 23 ∧ wordT n = s := by
  obtain ⟨_, h2, h3⟩ := opF_lt wordsL 0 n s h
  refine ⟨by have : wordsL.length = 24 := rfl
             omega, ?_⟩
  unfold wordT
  rw [Nat.sub_zero] at h3
  simp [List.getD, h3]
theorem word_op (o : Int) (h : 0 ≤ o) (h2 : o ≤ 23) : opO (wordT o) = some o.toNat := by
  have key : ∀ k : Nat, k < 24 → opO (wordT (k : Int)) = some k := by decide +kernel
  have := key o.toNat (by omega)
  rwa [show ((o.toNat : Nat) : Int) = o by omega] at this
theorem word_blank (o : Int) : (32 : UInt8) ∉ wordT o := by
  unfold wordT
  by_cases h : o.toNat < 24
  · have key : ∀ k : Nat, k < 24 → (32 : UInt8) ∉ wordsL.getD k [] := by decide +kernel
    exact key _ h
  · have e : wordsL[o.toNat]? = none := List.getElem?_eq_none (by have : wordsL.length = 24 := rfl
                                                                  omega)
    simp [List.getD, e]
theorem word_none (o : Int) (h : 23 < o) : wordT o = [] := by
  have e : wordsL[o.toNat]? = none := List.getElem?_eq_none (by have : wordsL.length = 24 := rfl
                                                                omega)
  simp [wordT, List.getD, e]
theorem word_some (o : Int) (h : 0 ≤ o) (h2 : o ≤ 23) : wordT o ≠ [] := by
  have key : ∀ k : Nat, k < 24 → wordsL.getD k [] ≠ [] := by decide +kernel
  exact key _ (by omega)

/-- A text is cut at its first blank. -/
def cutW : List UInt8 → Option (List UInt8 × List UInt8)
  | [] => none
  | b :: t => if b = 32 then some ([], t) else (cutW t).map fun o => (b :: o.1, o.2)
theorem cutW_at (q : List UInt8) : ∀ p : List UInt8, (32 : UInt8) ∉ p → cutW (p ++ 32 :: q) = some (p, q)
  | [], _ => by simp [cutW]
  | b :: t, h => by
    have hb : ¬ b = 32 := fun e => h (by simp [e])
    simp only [List.cons_append, cutW]
    rw [if_neg hb, cutW_at q t (fun e => h (by simp [e]))]
    rfl
theorem cutW_none : ∀ l : List UInt8, (32 : UInt8) ∉ l → cutW l = none
  | [], _ => rfl
  | b :: t, h => by
    have hb : ¬ b = 32 := fun e => h (by simp [e])
    simp only [cutW]
    rw [if_neg hb, cutW_none t (fun e => h (by simp [e]))]
    rfl
theorem cutW_cases (l : List UInt8) : (cutW l = none ∧ (32 : UInt8) ∉ l) ∨ ∃ p q, cutW l = some (p, q) ∧ (32 : UInt8) ∉ p ∧ l = p ++ 32 :: q := by
  induction l with
  | nil => exact .inl ⟨rfl, by simp⟩
  | cons b t ih =>
    by_cases hb : b = 32
    · exact .inr ⟨[], t, by simp [cutW, hb], by simp, by simp [hb]⟩
    · rcases ih with ⟨h1, h2⟩ | ⟨p, q, h1, h2, h3⟩
      · refine .inl ⟨by simp [cutW, hb, h1], ?_⟩
        simp only [List.mem_cons, not_or]
        exact ⟨fun e => hb e.symm, h2⟩
      · refine .inr ⟨b :: p, q, by simp [cutW, hb, h1], ?_, by simp [h3]⟩
        simp only [List.mem_cons, not_or]
        exact ⟨fun e => hb e.symm, h2⟩
/-- What stands ahead of the first blank, what behind it, whether there is one. -/
def cut3 (l : List UInt8) : List UInt8 × List UInt8 × Bool := match cutW l with
  | some (p, q) => (p, q, true)
  | none => (l, [], false)

def regO : List UInt8 → Option Int
  | [r, d] => if r = 114 ∧ 48 ≤ d.toNat ∧ d.toNat < 56 then some ((d.toNat : Int) - 48) else none
  | _ => none
def impO (s : List UInt8) : Option Int := if errO (numO s) = 0 then some (wordO (numO s)) else none
def readP : Nat → List UInt8 → Option Int
  | 0, s => regO s
  | 1, s => regO s
  | _, s => impO s
def parseP : List (Nat × Int) → List UInt8 → Bool → Int × Int × Int × Int → Option (Int × Int × Int × Int)
  | [], _, more, i => if more then none else some i
  | p :: ps, rest, _, i => match readP p.1 (cut3 rest).1 with
    | none => none
    | some n => parseP ps (cut3 rest).2.1 (cut3 rest).2.2 (layP i (p.1, n))
/-- The instruction that a text says. -/
def insO (s : List UInt8) : Option (Int × Int × Int × Int) := match opO (cut3 s).1 with
  | none => none
  | some o => parseP (partsL o 0 0 0) (cut3 s).2.1 (cut3 s).2.2 (o, 0, 0, 0)
def showP : Nat × Int → List UInt8
  | (0, n) => 114 :: Lib.decDigits n.toNat
  | (1, n) => 114 :: Lib.decDigits n.toNat
  | (_, n) => Lib.decDigits n.toNat
def tailsL (ps : List (Nat × Int)) : List UInt8 := ps.flatMap fun p => 32 :: showP p
def printL (o a b m : Int) : List UInt8 := wordT o ++ tailsL (partsL o a b m)

/-! ### Digits -/
theorem dec_digs : ∀ (n u : Nat), u < 10 ^ n → ∀ c ∈ Lib.decDigits u, 48 ≤ c.toNat ∧ c.toNat ≤ 57
  | 0, u, h, c, hc => by
    have : u = 0 := by simpa using h
    subst this
    rw [Lib.decDigits, dif_pos (by omega)] at hc
    simp at hc
    subst hc
    decide
  | n + 1, u, h, c, hc => by
    rw [Lib.decDigits] at hc
    split at hc
    · rename_i h10
      simp only [List.mem_singleton] at hc
      subst hc
      rw [ofNat_toNat8 _ (by omega)]
      omega
    · rw [List.mem_append] at hc
      rcases hc with hc | hc
      · exact dec_digs n (u / 10) (by rw [Nat.pow_succ] at h; omega) c hc
      · simp only [List.mem_singleton] at hc
        subst hc
        rw [ofNat_toNat8 _ (by omega)]
        omega
theorem dec_all (u : Nat) : ∀ c ∈ Lib.decDigits u, 48 ≤ c.toNat ∧ c.toNat ≤ 57 := dec_digs u u (Nat.lt_pow_self (by omega))
theorem dec_blank (u : Nat) : (32 : UInt8) ∉ Lib.decDigits u := fun h => by
  have := dec_all u _ h
  have e : (32 : UInt8).toNat = 32 := rfl
  omega
theorem dec_ne (u : Nat) : Lib.decDigits u ≠ [] := by
  rw [Lib.decDigits]
  split <;> simp
theorem decL_append (c : UInt8) : ∀ (l : List UInt8) (n m : Int), decL l n = some m → 48 ≤ c.toNat → c.toNat ≤ 57 → decL (l ++ [c]) n = some (m * 10 + ((c.toNat : Int) - 48))
  | [], n, m, h, h1, h2 => by
    simp only [decL, Option.some.injEq] at h
    subst h
    simp only [List.nil_append, decL]
    rw [if_pos ⟨h1, h2⟩]
  | b :: l, n, m, h, h1, h2 => by
    simp only [decL] at h
    split at h
    · rename_i hb
      simp only [List.cons_append, decL]
      rw [if_pos hb]
      exact decL_append c l _ m h h1 h2
    · cases h
theorem dec_head (u : Nat) : Lib.decDigits u = [48] ∨ (Lib.decDigits u).head? ≠ some 48 := by
  induction u using Nat.strongRecOn with
  | _ u ih =>
    rw [Lib.decDigits]
    split
    · rename_i h
      by_cases h0 : u = 0
      · subst h0; exact .inl rfl
      · refine .inr fun e => h0 ?_
        simp only [List.head?_cons, Option.some.injEq] at e
        have := congrArg UInt8.toNat e
        rw [ofNat_toNat8 _ (by omega)] at this
        have e48 : (48 : UInt8).toNat = 48 := rfl
        omega
    · rename_i h
      right
      rcases ih (u / 10) (by omega) with e | e
      · exfalso
        rw [Lib.decDigits] at e
        split at e
        · simp only [List.cons.injEq, and_true] at e
          have := congrArg UInt8.toNat e
          rw [ofNat_toNat8 _ (by omega)] at this
          have e48 : (48 : UInt8).toNat = 48 := rfl
          omega
        · have := congrArg List.length e
          simp only [List.length_append, List.length_cons, List.length_nil] at this
          have hn : (Lib.decDigits (u / 10 / 10)).length ≠ 0 := fun g => dec_ne _ (List.eq_nil_of_length_eq_zero g)
          omega
      · rw [List.head?_append]
        intro g
        cases hd : (Lib.decDigits (u / 10)).head? with
        | none => exact dec_ne _ (List.head?_eq_none_iff.1 hd)
        | some c =>
          rw [hd] at g e
          exact e g
theorem dec_says (u : Nat) : Says (Lib.decDigits u) (u : Int) := by
  refine ⟨?_, dec_ne u, dec_head u⟩
  induction u using Nat.strongRecOn with
  | _ u ih =>
    rw [Lib.decDigits]
    split
    · rename_i h
      simp only [decL]
      rw [ofNat_toNat8 _ (by omega), if_pos (by omega)]
      congr 1
      omega
    · rename_i h
      rw [decL_append _ _ 0 _ (ih (u / 10) (by omega)) (by rw [ofNat_toNat8 _ (by omega)]; omega) (by rw [ofNat_toNat8 _ (by omega)]; omega), ofNat_toNat8 _ (by omega)]
      congr 1
      omega
theorem imp_dec (m : Int) (h : 0 ≤ m) (h2 : m ≤ 65535) : impO (Lib.decDigits m.toNat) = some m := by
  have hs := dec_says m.toNat
  rw [show ((m.toNat : Nat) : Int) = m by omega] at hs
  have hn := numO_says _ m hs h2
  have he : errO (some m) = 0 := by simp only [errO]; rw [if_pos (by omega)]
  have hw : wordO (some m) = m := by simp only [wordO]; rw [if_pos (by omega)]; omega
  unfold impO
  rw [hn, if_pos he, hw]
theorem reg_dec (a : Int) (h : 0 ≤ a) (h2 : a < 8) : regO (114 :: Lib.decDigits a.toNat) = some a := by
  rw [Lib.decDigits_one (by omega)]
  have e := ofNat_toNat8 (48 + a.toNat) (by omega)
  have hc : (114 : UInt8) = 114 ∧ 48 ≤ (UInt8.ofNat (48 + a.toNat)).toNat ∧ (UInt8.ofNat (48 + a.toNat)).toNat < 56 := ⟨rfl, by omega, by omega⟩
  show (if (114 : UInt8) = 114 ∧ 48 ≤ (UInt8.ofNat (48 + a.toNat)).toNat ∧ (UInt8.ofNat (48 + a.toNat)).toNat < 56 then some (((UInt8.ofNat (48 + a.toNat)).toNat : Int) - 48) else none) = some a
  rw [if_pos hc, e]
  congr 1
  omega
theorem show_blank (p : Nat × Int) : (32 : UInt8) ∉ showP p := by
  match p with
  | (0, n) => simp [showP, dec_blank]
  | (1, n) => simp [showP, dec_blank]
  | (k + 2, n) => exact dec_blank _
/-- What is printed is cut again, part by part. -/
theorem parse_tails (i : Int × Int × Int × Int) : ∀ (ps : List (Nat × Int)) (qs : List Nat) (more : Bool), (∀ p ∈ ps, readP p.1 (showP p) = some p.2) → ps.map Prod.fst = qs → ps ≠ [] →
    ∀ (z : List Int), z.length = qs.length → parseP (List.zip qs z) ((tailsL ps).drop 1) true i = some (ps.foldl layP i) := by
  intro ps
  induction ps generalizing i with
  | nil => intro _ _ _ _ h; exact absurd rfl h
  | cons p ps ih =>
    intro qs more hr hq _ z hz
    subst hq
    match z, hz with
    | y :: z, hz =>
      simp only [List.map_cons, List.zip_cons_cons, parseP]
      cases ps with
      | nil =>
        have e : (tailsL [p]).drop 1 = showP p := by simp [tailsL]
        rw [e]
        have hc : cut3 (showP p) = (showP p, [], false) := by unfold cut3; rw [cutW_none _ (show_blank p)]
        rw [hc]
        simp only
        rw [hr p (by simp)]
        simp [parseP]
      | cons p' ps' =>
        have e : (tailsL (p :: p' :: ps')).drop 1 = showP p ++ 32 :: (tailsL (p' :: ps')).drop 1 := by simp [tailsL]
        rw [e]
        have hc : cut3 (showP p ++ 32 :: (tailsL (p' :: ps')).drop 1) = (showP p, (tailsL (p' :: ps')).drop 1, true) := by unfold cut3; rw [cutW_at _ _ (show_blank p)]
        rw [hc]
        simp only
        rw [hr p (by simp)]
        simp only
        rw [ih (layP i p) ((p' :: ps').map Prod.fst) true (fun q hq => hr q (by simp [hq])) rfl (by simp) z (by simpa using hz)]
        rfl
theorem parts_zip (o a b m : Int) : ∃ z : List Int, z.length = ((partsL o a b m).map Prod.fst).length ∧ partsL o 0 0 0 = List.zip ((partsL o a b m).map Prod.fst) z := by
  refine ⟨(partsL o a b m).map fun _ => 0, by simp, ?_⟩
  unfold partsL
  cases useA o <;> cases useB o <;> cases useM o <;> rfl
/-- The text of a right instruction says it. -/
theorem ins_print (o a b m : Int) (hO : InsOk o a b m) (hR : insR o a b m = true) : insO (printL o a b m) = some (o, a, b, m) := by
  obtain ⟨⟨r1, r2, r3⟩, r4⟩ := (insR_iff o a b m).1 hR
  obtain ⟨o1, o2, a1, a2, b1, b2, m1, m2⟩ := hO
  have hfold : (partsL o a b m).foldl layP (o, 0, 0, 0) = (o, a, b, m) := by
    rw [parts_fold]
    obtain ⟨h1, h2, h3⟩ := r4
    revert h1 h2 h3
    cases useA o <;> cases useB o <;> cases useM o <;> simp <;> intros <;> simp_all
  have ho : ((o.toNat : Nat) : Int) = o := by omega
  have hr : ∀ p ∈ partsL o a b m, readP p.1 (showP p) = some p.2 := by
    intro p hp
    rcases parts_kinds o a b m p hp with rfl | rfl | rfl
    · exact reg_dec a a1 (by omega)
    · exact reg_dec b b1 (by omega)
    · exact imp_dec m m1 m2
  unfold insO printL
  cases hp : partsL o a b m with
  | nil =>
    have hz : partsL o 0 0 0 = [] := by
      obtain ⟨z, hz1, hz2⟩ := parts_zip o a b m
      rw [hz2, hp]
      rfl
    have hc : cut3 (wordT o ++ tailsL []) = (wordT o, [], false) := by
      simp only [tailsL, List.flatMap_nil, List.append_nil]
      unfold cut3
      rw [cutW_none _ (word_blank o)]
    rw [hc]
    simp only
    rw [word_op o o1 r1]
    simp only
    rw [ho, hz]
    simp only [parseP]
    rw [hp] at hfold
    simp only [List.foldl_nil] at hfold
    rw [hfold]
    rfl
  | cons p ps =>
    obtain ⟨z, hz1, hz2⟩ := parts_zip o a b m
    have e : wordT o ++ tailsL (p :: ps) = wordT o ++ 32 :: (tailsL (p :: ps)).drop 1 := by simp [tailsL]
    have hc : cut3 (wordT o ++ tailsL (p :: ps)) = (wordT o, (tailsL (p :: ps)).drop 1, true) := by
      rw [e]
      unfold cut3
      rw [cutW_at _ _ (word_blank o)]
    rw [hc]
    simp only
    rw [word_op o o1 r1]
    simp only
    rw [ho, hz2, ← hp, parse_tails (o, 0, 0, 0) (partsL o a b m) _ true hr rfl (by rw [hp]; simp) z (by rw [hz1]), hfold]
end Go.Proofs.YteoappoacapdhaaDoor
