/- A chain of capabilities: what is derived and restricted opens less and less. -/
import Derived.Test.YtbkllkkgnhdibaaNameM
import Derived.Laws.OwnMore
namespace Go.Proofs.Ytbkllkkgnhdibaa
open Go.RowKit Go.Shelf
set_option linter.unusedVariables false

abbrev Cp := List UInt8 × BitVec 8
def cpN (p : Cp) : Value := .string ⟨p.1.toArray⟩
def cpR (p : Cp) : Value := .int .u8 (p.2.toNat : Int)
def cpCells (L : List Cp) : List Value := L.flatMap fun p => [cpN p, cpR p]
theorem cpCells_len (L : List Cp) : (cpCells L).length = L.length * 2 := by
  induction L with
  | nil => rfl
  | cons p t ih =>
    have e : cpCells (p :: t) = cpN p :: cpR p :: cpCells t := rfl
    rw [e, List.length_cons, List.length_cons, ih, List.length_cons]
    omega
theorem cpCells_app (L : List Cp) (p : Cp) : cpCells (L ++ [p]) = cpCells L ++ [cpN p, cpR p] := by
  simp [cpCells]
theorem cpCells_at : ∀ (L : List Cp) (i : Nat) (p : Cp), L[i]? = some p → (cpCells L)[i * 2]? = some (cpN p) ∧ (cpCells L)[i * 2 + 1]? = some (cpR p)
  | [], i, p, h => by simp at h
  | q :: t, 0, p, h => by
    simp at h
    subst h
    exact ⟨rfl, rfl⟩
  | q :: t, i + 1, p, h => by
    have e : cpCells (q :: t) = cpN q :: cpR q :: cpCells t := rfl
    have ih := cpCells_at t i p (by simpa using h)
    rw [e, show (i + 1) * 2 = i * 2 + 1 + 1 by omega, show i * 2 + 1 + 1 + 1 = (i * 2 + 1) + 1 + 1 by omega]
    simp only [List.getElem?_cons_succ]
    exact ih
/-- The first is the root with all rights; each opens what the next one opens. -/
def Chn (L : List Cp) : Prop := L[0]? = some ([47], 31#8) ∧ ∀ i p q, L[i]? = some p → L[i + 1]? = some q → ∀ g s, opensB q.1 q.2 g s = true → opensB p.1 p.2 g s = true
theorem chn_one : Chn [([47], 31#8)] := ⟨rfl, fun i p q _ h => by simp at h⟩
theorem chn_step {M : List Cp} {p q : Cp} (h : Chn (M ++ [p])) (hl : ∀ g s, opensB q.1 q.2 g s = true → opensB p.1 p.2 g s = true) : Chn (M ++ [p] ++ [q]) := by
  refine ⟨?_, fun i a b ha hb => ?_⟩
  · rw [List.getElem?_append_left (by simp)]
    exact h.1
  · by_cases hi : i + 1 < (M ++ [p]).length
    · rw [List.getElem?_append_left (by omega)] at ha hb
      exact h.2 i a b ha hb
    · have hlen := (List.getElem?_eq_some_iff.1 hb).1
      simp only [List.length_append, List.length_singleton] at hi hlen
      have ei : i = M.length := by omega
      subst ei
      simp only [List.append_assoc, List.singleton_append] at ha hb
      rw [List.getElem?_append_right (Nat.le_refl _)] at ha
      rw [List.getElem?_append_right (by omega)] at hb
      simp at ha
      rw [show M.length + 1 - M.length = 1 by omega] at hb
      simp at hb
      subst ha hb
      exact hl
theorem lab_a : labB ⟨([97] : List UInt8).toArray⟩ = true := by decide
theorem derive_form {n : List UInt8} {r : BitVec 8} (h : rightB n r.toNat = true) : deriveO n r [97] = ([], 0#8, 7) ∨ (deriveO n r [97] = ([], 0#8, 4) ∧ depthN n = 6) ∨ ∃ c, deriveO n r [97] = (c, r, 0) ∧ rightB c r.toNat = true := by
  unfold deriveO
  rw [h, lab_a]
  simp only [Bool.and_true, if_true]
  split
  · exact .inl rfl
  · right
    have hb := rightB_bits h
    cases hs : splitO n with
    | none => unfold rightB at h; rw [hs] at h; simp at h
    | some ls =>
      have hq := splitO_some hs
      have hc : childO n [97] = joinO (ls ++ [[97]]) := by
        unfold childO
        rw [hs]
        simp only
        rw [if_pos lab_a]
      rw [hc]
      by_cases h6 : 6 < (ls ++ [[97]]).length
      · have hj : joinO (ls ++ [[97]]) = ([], 4) := by unfold joinO; rw [if_pos h6]
        rw [hj]
        left
        refine ⟨by simp, ?_⟩
        unfold depthN
        rw [hs]
        simp only
        simp at h6
        omega
      · have hall : (ls ++ [[97]]).all (fun x => labB ⟨x.toArray⟩) = true := by
          rw [List.all_eq_true]
          intro x hx
          rcases List.mem_append.1 hx with hx | hx
          · exact hq.2.1 x hx
          · simp at hx
            subst hx
            exact lab_a
        have hj : joinO (ls ++ [[97]]) = (joinL (ls ++ [[97]]), 0) := by unfold joinO; rw [if_neg h6, if_neg (by simp), if_pos hall]
        rw [hj]
        right
        refine ⟨joinL (ls ++ [[97]]), by simp, ?_⟩
        unfold rightB
        rw [splitO_join (by omega) (by simp) (fun x hx => List.all_eq_true.1 hall x hx)]
        simp
        omega
theorem restrict_form {c : List UInt8} {r x : BitVec 8} (h : rightB c r.toNat = true) (hx : x.toNat ≤ 31) : restrictO c r x = (c, r &&& x, 0) ∧ rightB c (r &&& x).toNat = true := by
  constructor
  · unfold restrictO
    rw [h, decide_eq_true (by omega)]
    simp
  · unfold rightB at h ⊢
    rw [Bool.and_eq_true, decide_eq_true_eq] at h
    rw [Bool.and_eq_true, decide_eq_true_eq]
    refine ⟨h.1, ?_⟩
    rw [BitVec.toNat_and]
    have := Nat.and_le_right (n := r.toNat) (m := x.toNat)
    omega
theorem fin_open {n : List UInt8} {r q : BitVec 8} (h : rightB n r.toNat = true) (hq : q.toNat ≤ 31) : opensB [47] 31#8 n q = true := by
  rw [opens_split]
  have hc : ∀ q : BitVec 8, q.toNat ≤ 31 → coverB 31#8 q = true := by decide +kernel
  refine ⟨by decide, ?_, ?_, hc q hq⟩
  · unfold rightB at h ⊢
    rw [Bool.and_eq_true] at h ⊢
    exact ⟨h.1, by rw [decide_eq_true_eq]; omega⟩
  · rw [aboveB_iff]
    unfold rightB at h
    cases hs : splitO n with
    | none => rw [hs] at h; simp at h
    | some ls => exact ⟨[], ls, by decide, rfl, List.nil_prefix⟩
theorem rem_bits (b : Nat) : ((b : Int).tmod 32) = ((BitVec.ofNat 8 (b % 32)).toNat : Int) := by
  rw [BitVec.toNat_ofNat]
  have : b % 32 % 2 ^ 8 = b % 32 := by omega
  rw [this, Int.tmod_eq_emod_of_nonneg (by omega)]
  omega
theorem own_later {w w' : World} {B e size n : Nat} {v : Value} {xs : List Value} (h : w.ownsRow B e size v n xs) (hb : Below w.heap.size w w') : w'.ownsRow B e size v n xs := by
  refine h.kept (row := none) ⟨hb.os, hb.tape, hb.output, hb.size, fun k hk _ => hb.block k hk⟩ ?_
  rcases h.2 with ⟨rfl, _⟩ | ⟨g, cap, cur, rfl, _⟩
  · exact .inl rfl
  · exact .inr (by simp [Value.ownBlock])
/-- The cells of a row of capabilities. -/
theorem row_at {w : World} {B : Nat} {g cap n : Nat} {L : List Cp} (h : w.ownsRow B 24 2 (.slice (some ⟨g, 0, none⟩) n cap) n (cpCells L)) {i : Nat} {p : Cp} (hi : L[i]? = some p) :
    w.cell? ⟨g, i * 2, none⟩ = some (cpN p) ∧ w.cell? ⟨g, i * 2 + 1, none⟩ = some (cpR p) := by
  obtain ⟨h1, h2⟩ := cpCells_at L i p hi
  have k1 := h.cells (g := g) rfl _ _ h1
  have k2 := h.cells (g := g) rfl _ _ h2
  have hplain : ∀ j, (⟨g, 0, none⟩ : Addr).add j = ⟨g, j, none⟩ := fun j => by unfold Addr.add; split <;> simp_all
  rw [hplain] at k1 k2
  exact ⟨k1, k2⟩
end Go.Proofs.Ytbkllkkgnhdibaa
