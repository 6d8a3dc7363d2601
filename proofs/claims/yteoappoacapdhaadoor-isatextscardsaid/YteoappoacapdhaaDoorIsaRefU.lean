/- A text is split at its blanks; the instruction that a text says, word by word. -/
import Derived.Test.YteoappoacapdhaaDoorIsaRefT
import Derived.Lib.Split
import Derived.Lib.CountLaws
import Derived.Lib.IndexBytes
namespace Go.Proofs.YteoappoacapdhaaDoor
open Go.RowKit
set_option linter.unusedVariables false

def splitW : List UInt8 → List (List UInt8)
  | [] => [[]]
  | b :: t => if b = 32 then [] :: splitW t else match splitW t with
    | [] => [[b]]
    | x :: xs => (b :: x) :: xs
theorem splitW_none : ∀ l : List UInt8, (32 : UInt8) ∉ l → splitW l = [l]
  | [], _ => rfl
  | b :: t, h => by
    have hb : ¬ b = 32 := fun e => h (by simp [e])
    simp only [splitW]
    rw [if_neg hb, splitW_none t (fun e => h (by simp [e]))]
theorem splitW_at (q : List UInt8) : ∀ p : List UInt8, (32 : UInt8) ∉ p → splitW (p ++ 32 :: q) = p :: splitW q
  | [], _ => by simp [splitW]
  | b :: t, h => by
    have hb : ¬ b = 32 := fun e => h (by simp [e])
    simp only [List.cons_append, splitW]
    rw [if_neg hb, splitW_at q t (fun e => h (by simp [e]))]
theorem split_K : ∀ (n : Nat) (l : List UInt8), l.length ≤ n → Lib.splitK [32] 0 (Lib.count l [32]) l = splitW l := by
  intro n
  induction n with
  | zero =>
    intro l hl
    obtain rfl : l = [] := List.eq_nil_of_length_eq_zero (by omega)
    rfl
  | succ n ih =>
    intro l hl
    rcases cutW_cases l with ⟨_, h2⟩ | ⟨p, q, _, h2, h3⟩
    · have hi : Lib.index l [32] = -1 := by rw [Lib.index_one]; exact indexByte_not l 32 (fun b hb e => h2 (e ▸ hb))
      rw [Lib.count_miss hi, splitW_none l h2]
      rfl
    · subst h3
      have hi : Lib.index (p ++ 32 :: q) [32] = (p.length : Int) := by rw [Lib.index_one]; exact index_at 32 q p h2
      have hc := Lib.count_hit (s := p ++ 32 :: q) (sub := [32]) (by simp) hi
      have hd : (p ++ 32 :: q).drop (p.length + 1) = q := by rw [show p ++ 32 :: q = (p ++ [32]) ++ q by simp, List.drop_left' (by simp)]
      simp only [List.length_cons, List.length_nil, Nat.zero_add] at hc
      rw [hd] at hc
      rw [hc, splitW_at q p h2, Nat.add_comm 1]
      have hm : ¬ (Lib.index (p ++ 32 :: q) [32] == -1) = true := fun e => by have := beq_iff_eq.1 e; omega
      have et : (Lib.index (p ++ 32 :: q) [32]).toNat = p.length := by omega
      simp only [Lib.splitK]
      rw [if_neg hm, et]
      simp only [List.length_cons, List.length_nil, Nat.zero_add]
      rw [hd, ih q (by simp at hl; omega)]
      simp
theorem split_len : ∀ (n : Nat) (l : List UInt8), l.length ≤ n → (splitW l).length = Lib.count l [32] + 1 := by
  intro n
  induction n with
  | zero =>
    intro l hl
    obtain rfl : l = [] := List.eq_nil_of_length_eq_zero (by omega)
    rfl
  | succ n ih =>
    intro l hl
    rcases cutW_cases l with ⟨_, h2⟩ | ⟨p, q, _, h2, h3⟩
    · have hi : Lib.index l [32] = -1 := by rw [Lib.index_one]; exact indexByte_not l 32 (fun b hb e => h2 (e ▸ hb))
      rw [Lib.count_miss hi, splitW_none l h2]
      rfl
    · subst h3
      have hi : Lib.index (p ++ 32 :: q) [32] = (p.length : Int) := by rw [Lib.index_one]; exact index_at 32 q p h2
      have hc := Lib.count_hit (s := p ++ 32 :: q) (sub := [32]) (by simp) hi
      have hd : (p ++ 32 :: q).drop (p.length + 1) = q := by rw [show p ++ 32 :: q = (p ++ [32]) ++ q by simp, List.drop_left' (by simp)]
      simp only [List.length_cons, List.length_nil, Nat.zero_add] at hc
      rw [hd] at hc
      rw [hc, splitW_at q p h2, List.length_cons, ih q (by simp at hl; omega)]
      omega
/-- The greatest length that the library's search knows is in its place. -/
def Mx (w : World) : Prop := ∃ m, w.cell? ⟨1, 0, none⟩ = some (.int .i64 m)
theorem Mx.later {w w' : World} (h : Mx w) (hb : Below w.heap.size w w') : Mx w' := by
  obtain ⟨m, hm⟩ := h
  exact ⟨m, (hb.cell (p := ⟨1, 0, none⟩) (World.block_lt_of_cell? _ _ hm)).trans hm⟩
def strV3 (x : List UInt8) : Value := .string ⟨x.toArray⟩
theorem split_any (l : List UInt8) (w : World) (hl : l.length ≤ 100000) (hM : Mx w) :
    Calls Tryd.prog 45 #[.string ⟨l.toArray⟩, .string ⟨#[32]⟩] w fun e w' => (∃ v, e = .returned v ∧ Rw w.heap.size w' v ((splitW l).map strV3)) ∧ Below w.heap.size w w' := by
  obtain ⟨m, hm⟩ := hM
  refine (Tryd.strings_Split ⟨l.toArray⟩ ⟨#[32]⟩ m w (by show l.length < _; omega) hm (by decide)).mono ?_
  rintro e w' ⟨rfl, rfl⟩
  refine ⟨⟨_, rfl, ?_⟩, (Below.refl _ w).alloc (Nat.le_refl _) _⟩
  have hd := Lib.splitB_data ⟨#[32]⟩ 0 (Lib.countB ⟨l.toArray⟩ ⟨#[32]⟩) ⟨l.toArray⟩
  have hk : Lib.splitK [32] 0 (Lib.count l [32]) l = splitW l := split_K _ l (Nat.le_refl _)
  have hd' : (Lib.splitB ⟨#[32]⟩ 0 (Lib.countB ⟨l.toArray⟩ ⟨#[32]⟩) ⟨l.toArray⟩).map (·.data.toList) = splitW l := hd.trans hk
  generalize Lib.splitB ⟨#[32]⟩ 0 (Lib.countB ⟨l.toArray⟩ ⟨#[32]⟩) ⟨l.toArray⟩ = bs at *
  have hcl : (splitW l).length = Lib.countB ⟨l.toArray⟩ ⟨#[32]⟩ + 1 := split_len _ l (Nat.le_refl _)
  refine ⟨some ⟨w.heap.size, 0, none⟩, _, by rw [List.length_map, hcl], fun j x hx => ⟨w.heap.size, 0, rfl, Nat.le_refl _, ?_⟩⟩
  rw [← hd', List.map_map, List.getElem?_map] at hx
  cases hb : bs[j]? with
  | none => rw [hb] at hx; cases hx
  | some y =>
    rw [hb] at hx
    injection hx with hx
    subst hx
    rw [Lib.cell_of_heap (World.alloc_heap_new w _)]
    simp [hb, strV3]
/-- The instruction that words say. -/
def parseW : List (Nat × Int) → List (List UInt8) → Int × Int × Int × Int → Option (Int × Int × Int × Int)
  | [], [], i => some i
  | [], _ :: _, _ => none
  | _ :: _, [], _ => none
  | p :: ps, x :: xs, i => match readP p.1 x with
    | none => none
    | some n => parseW ps xs (layP i (p.1, n))
theorem readP_nil (k : Nat) : readP k [] = none := by
  match k with
  | 0 => rfl
  | 1 => rfl
  | k + 2 => rfl
theorem parse_words : ∀ (ps : List (Nat × Int)) (rest : List UInt8) (more : Bool) (i : Int × Int × Int × Int), (more = false → rest = []) → parseP ps rest more i = parseW ps (if more then splitW rest else []) i
  | [], rest, more, i, h => by
    cases more with
    | false => rfl
    | true =>
      simp only [parseP, if_true]
      cases hs : splitW rest with
      | nil =>
        rcases cutW_cases rest with ⟨_, h2⟩ | ⟨p, q, _, h2, h3⟩
        · rw [splitW_none _ h2] at hs; cases hs
        · rw [h3, splitW_at q p h2] at hs; cases hs
      | cons x xs => rfl
  | p :: ps, rest, more, i, h => by
    cases more with
    | false =>
      have := h rfl
      subst this
      show (match readP p.1 (cut3 []).1 with | none => none | some n => parseP ps (cut3 []).2.1 (cut3 []).2.2 (layP i (p.1, n))) = none
      have e : (cut3 []).1 = [] := rfl
      rw [e, readP_nil]
    | true =>
      simp only [parseP, if_true]
      rcases cutW_cases rest with ⟨h1, h2⟩ | ⟨x, q, h1, h2, h3⟩
      · have hc : cut3 rest = (rest, [], false) := by unfold cut3; rw [h1]
        rw [hc, splitW_none _ h2]
        simp only [parseW]
        cases readP p.1 rest with
        | none => rfl
        | some n => exact parse_words ps [] false _ (fun _ => rfl)
      · have hc : cut3 rest = (x, q, true) := by unfold cut3; rw [h1]
        rw [hc]
        subst h3
        rw [splitW_at q x h2]
        simp only [parseW]
        cases readP p.1 x with
        | none => rfl
        | some n =>
          have := parse_words ps q true (layP i (p.1, n)) (fun g => by cases g)
          simpa using this
/-- The words of a text: the first, and the others. -/
def headW (s : List UInt8) : List UInt8 := (cut3 s).1
def restW (s : List UInt8) : List (List UInt8) := if (cut3 s).2.2 then splitW (cut3 s).2.1 else []
theorem split_head (s : List UInt8) : splitW s = headW s :: restW s := by
  unfold headW restW
  rcases cutW_cases s with ⟨h1, h2⟩ | ⟨p, q, h1, h2, h3⟩
  · have hc : cut3 s = (s, [], false) := by unfold cut3; rw [h1]
    rw [hc, splitW_none _ h2]
    rfl
  · have hc : cut3 s = (p, q, true) := by unfold cut3; rw [h1]
    rw [hc]
    subst h3
    rw [splitW_at q p h2]
    rfl
theorem ins_words (s : List UInt8) : insO s = match opO (headW s) with
    | none => none
    | some o => parseW (partsL o 0 0 0) (restW s) (o, 0, 0, 0) := by
  unfold insO headW restW
  cases opO (cut3 s).1 with
  | none => rfl
  | some o =>
    refine parse_words _ _ _ _ ?_
    intro h
    rcases cutW_cases s with ⟨h1, h2⟩ | ⟨p, q, h1, h2, h3⟩
    · unfold cut3; rw [h1]
    · have hc : cut3 s = (p, q, true) := by unfold cut3; rw [h1]
      rw [hc] at h
      cases h
end Go.Proofs.YteoappoacapdhaaDoor
