/- Instructions as plain functions: what an operation has, what is right, the bytes of one and the one that bytes say. -/
import Derived.WalkKit
namespace Go.Proofs.YtbjklpdloglniaaDoor
open Go.RowKit
set_option linter.unusedVariables false

def useA (o : Int) : Bool := decide (2 ≤ o ∧ o ≤ 16 ∨ o = 18 ∨ o = 19 ∨ o = 20)
def useB (o : Int) : Bool := decide (3 ≤ o ∧ o ≤ 16 ∨ o = 20)
def useM (o : Int) : Bool := decide (o = 2 ∨ 13 ≤ o ∧ o ≤ 21 ∨ o = 23)
/-- The four numbers of an instruction. -/
def InsOk (o a b m : Int) : Prop := 0 ≤ o ∧ o ≤ 255 ∧ 0 ≤ a ∧ a ≤ 255 ∧ 0 ≤ b ∧ b ≤ 255 ∧ 0 ≤ m ∧ m ≤ 65535
def insR (o a b m : Int) : Bool := decide (o ≤ 23 ∧ a < 8 ∧ b < 8) && decide ((useA o = true ∨ a = 0) ∧ (useB o = true ∨ b = 0) ∧ (useM o = true ∨ m = 0))
theorem insR_iff (o a b m : Int) : insR o a b m = true ↔ (o ≤ 23 ∧ a < 8 ∧ b < 8) ∧ (useA o = true ∨ a = 0) ∧ (useB o = true ∨ b = 0) ∧ (useM o = true ∨ m = 0) := by
  unfold insR
  rw [Bool.and_eq_true, decide_eq_true_eq, decide_eq_true_eq]
/-- What an instruction has beside its operation: 0: A, 1: B, else Imm. -/
def partsL (o a b m : Int) : List (Nat × Int) := (if useA o then [(0, a)] else []) ++ ((if useB o then [(1, b)] else []) ++ (if useM o then [(2, m)] else []))
def layP (i : Int × Int × Int × Int) (p : Nat × Int) : Int × Int × Int × Int := match p with
  | (0, n) => (i.1, n, i.2.2.1, i.2.2.2)
  | (1, n) => (i.1, i.2.1, n, i.2.2.2)
  | (_, n) => (i.1, i.2.1, i.2.2.1, n)
theorem parts_len (o a b m : Int) : (partsL o a b m).length ≤ 3 := by
  unfold partsL
  cases useA o <;> cases useB o <;> cases useM o <;> simp
theorem parts_kinds (o a b m : Int) : ∀ p ∈ partsL o a b m, p = (0, a) ∨ p = (1, b) ∨ p = (2, m) := by
  unfold partsL
  cases useA o <;> cases useB o <;> cases useM o <;> simp
theorem parts_fold (o a b m : Int) : (partsL o a b m).foldl layP (o, 0, 0, 0) = (o, (if useA o then a else 0), (if useB o then b else 0), (if useM o then m else 0)) := by
  unfold partsL
  cases useA o <;> cases useB o <;> cases useM o <;> rfl
theorem insR_fold (o a b m : Int) : insR o a b m = (decide (o ≤ 23 ∧ a < 8 ∧ b < 8) && decide ((partsL o a b m).foldl layP (o, 0, 0, 0) = (o, a, b, m))) := by
  unfold insR
  rw [parts_fold]
  congr 1
  refine decide_eq_decide.2 ?_
  cases useA o <;> cases useB o <;> cases useM o <;> simp [eq_comm]

def encL (o a b m : Int) : List UInt8 := [UInt8.ofNat o.toNat, UInt8.ofNat (a * 16 + b).toNat, UInt8.ofNat (m / 256).toNat, UInt8.ofNat (m % 256).toNat]
def decO : List UInt8 → Option (Int × Int × Int × Int)
  | [x, y, z, t] => if insR x.toNat (y.toNat / 16 : Nat) (y.toNat % 16 : Nat) (z.toNat * 256 + t.toNat : Nat) then some ((x.toNat : Int), ((y.toNat / 16 : Nat) : Int), ((y.toNat % 16 : Nat) : Int), ((z.toNat * 256 + t.toNat : Nat) : Int)) else none
  | _ => none
theorem ofNat_toNat8 (n : Nat) (h : n < 256) : (UInt8.ofNat n).toNat = n := by simp; omega
/-- The bytes of a right instruction say it. -/
theorem dec_enc (o a b m : Int) (hO : InsOk o a b m) (hR : insR o a b m = true) : decO (encL o a b m) = some (o, a, b, m) := by
  obtain ⟨⟨r1, r2, r3⟩, _⟩ := (insR_iff o a b m).1 hR
  obtain ⟨o1, o2, a1, a2, b1, b2, m1, m2⟩ := hO
  have e1 : (UInt8.ofNat o.toNat).toNat = o.toNat := ofNat_toNat8 _ (by omega)
  have e2 : (UInt8.ofNat (a * 16 + b).toNat).toNat = (a * 16 + b).toNat := ofNat_toNat8 _ (by omega)
  have e3 : (UInt8.ofNat (m / 256).toNat).toNat = (m / 256).toNat := ofNat_toNat8 _ (by omega)
  have e4 : (UInt8.ofNat (m % 256).toNat).toNat = (m % 256).toNat := ofNat_toNat8 _ (by omega)
  unfold encL
  show (if insR ((UInt8.ofNat o.toNat).toNat : Int) ((UInt8.ofNat (a * 16 + b).toNat).toNat / 16 : Nat) ((UInt8.ofNat (a * 16 + b).toNat).toNat % 16 : Nat) ((UInt8.ofNat (m / 256).toNat).toNat * 256 + (UInt8.ofNat (m % 256).toNat).toNat : Nat) then some (((UInt8.ofNat o.toNat).toNat : Int), (((UInt8.ofNat (a * 16 + b).toNat).toNat / 16 : Nat) : Int), (((UInt8.ofNat (a * 16 + b).toNat).toNat % 16 : Nat) : Int), (((UInt8.ofNat (m / 256).toNat).toNat * 256 + (UInt8.ofNat (m % 256).toNat).toNat : Nat) : Int)) else none) = some (o, a, b, m)
  rw [e1, e2, e3, e4]
  have f1 : ((o.toNat : Nat) : Int) = o := by omega
  have f2 : (((a * 16 + b).toNat / 16 : Nat) : Int) = a := by omega
  have f3 : (((a * 16 + b).toNat % 16 : Nat) : Int) = b := by omega
  have f4 : (((m / 256).toNat * 256 + (m % 256).toNat : Nat) : Int) = m := by omega
  rw [f1, f2, f3, f4, if_pos hR]
/-- An instruction that bytes say is right, and these are its bytes. -/
theorem enc_dec (l : List UInt8) (o a b m : Int) (h : decO l = some (o, a, b, m)) : insR o a b m = true ∧ InsOk o a b m ∧ encL o a b m = l := by
  match l, h with
  | [x, y, z, t], h =>
    replace h : (if insR x.toNat (y.toNat / 16 : Nat) (y.toNat % 16 : Nat) (z.toNat * 256 + t.toNat : Nat) then some ((x.toNat : Int), ((y.toNat / 16 : Nat) : Int), ((y.toNat % 16 : Nat) : Int), ((z.toNat * 256 + t.toNat : Nat) : Int)) else none) = some (o, a, b, m) := h
    split at h
    · rename_i hc
      injection h with h
      injection h with h1 h
      injection h with h2 h
      injection h with h3 h4
      subst h1 h2 h3 h4
      have := x.toNat_lt
      have := y.toNat_lt
      have := z.toNat_lt
      have := t.toNat_lt
      refine ⟨hc, ⟨by omega, by omega, by omega, by omega, by omega, by omega, by omega, by omega⟩, ?_⟩
      unfold encL
      have g1 : ((x.toNat : Int)).toNat = x.toNat := by omega
      have g2 : (((y.toNat / 16 : Nat) : Int) * 16 + ((y.toNat % 16 : Nat) : Int)).toNat = y.toNat := by omega
      have g3 : (((z.toNat * 256 + t.toNat : Nat) : Int) / 256).toNat = z.toNat := by omega
      have g4 : (((z.toNat * 256 + t.toNat : Nat) : Int) % 256).toNat = t.toNat := by omega
      rw [g1, g2, g3, g4]
      simp
    · cases h
/-- The instructions that bytes say, four by four. -/
def codeL : List (Int × Int × Int × Int) → List UInt8
  | [] => []
  | i :: l => encL i.1 i.2.1 i.2.2.1 i.2.2.2 ++ codeL l
def insR4 (i : Int × Int × Int × Int) : Bool := insR i.1 i.2.1 i.2.2.1 i.2.2.2
def InsOk4 (i : Int × Int × Int × Int) : Prop := InsOk i.1 i.2.1 i.2.2.1 i.2.2.2
theorem codeL_append (l r : List (Int × Int × Int × Int)) : codeL (l ++ r) = codeL l ++ codeL r := by
  induction l with
  | nil => rfl
  | cons i l ih => simp [codeL, ih]
theorem codeL_length (l : List (Int × Int × Int × Int)) : (codeL l).length = 4 * l.length := by
  induction l with
  | nil => rfl
  | cons i l ih => simp [codeL, encL, ih]; omega
end Go.Proofs.YtbjklpdloglniaaDoor
