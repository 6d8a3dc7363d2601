/- A loop that adds what it counts down: the plain reckoning. -/
import Derived.Test.YtmndilhpmbpghabCpuI
namespace Go.Proofs.Ytmndilhpmbpghab
open Go.RowKit
set_option linter.unusedVariables false

def lpB : List UInt8 := [4, 18, 0, 0, 5, 35, 0, 0, 19, 32, 0, 0, 1, 0, 0, 0]
def tri : Nat → Int
  | 0 => 0
  | j + 1 => tri j + ((j : Int) + 1)
theorem tri_eq (j : Nat) : 2 * tri j = (j : Int) * ((j : Int) + 1) := by
  induction j with
  | zero => rfl
  | succ j ih =>
    show 2 * (tri j + ((j : Int) + 1)) = ((j : Int) + 1) * ((j : Int) + 1 + 1)
    rw [Int.mul_add, ih, ← Int.add_mul, Int.mul_comm]
    congr 1
theorem tri_nonneg (j : Nat) : 0 ≤ tri j := by
  induction j with
  | zero => decide
  | succ j ih => show 0 ≤ tri j + ((j : Int) + 1); omega
theorem lp_n0 : nextP lpB 0 = .ok (4, 1, 2, 0) := by rfl
theorem lp_n4 : nextP lpB 4 = .ok (5, 2, 3, 0) := by rfl
theorem lp_n8 : nextP lpB 8 = .ok (19, 2, 0, 0) := by rfl
theorem lp_n12 : nextP lpB 12 = .ok (1, 0, 0, 0) := by rfl
theorem lp_e0 (r : Nat → Int) : execP 0 r 4 1 2 0 = ((4, upd r 1 (addV (r 1) (r 2))), (0, 0, 0, 0, 0)) := by rfl
theorem lp_e4 (r : Nat → Int) : execP 4 r 5 2 3 0 = ((8, upd r 2 (subV (r 2) (r 3))), (0, 0, 0, 0, 0)) := by rfl
theorem lp_e8 (r : Nat → Int) : execP 8 r 19 2 0 0 = ((if r 2 = 0 then 12 else 0, r), (0, 0, 0, 0, 0)) := by rfl
theorem lp_e12 (r : Nat → Int) : execP 12 r 1 0 0 0 = ((12, r), (6, 0, 0, 0, 0)) := by rfl
theorem lp_three (f : Nat) (r : Nat → Int) (n : Int) : runF lpB (f + 3) 0 r n = runF lpB f (if upd (upd r 1 (addV (r 1) (r 2))) 2 (subV (upd r 1 (addV (r 1) (r 2)) 2) (upd r 1 (addV (r 1) (r 2)) 3)) 2 = 0 then 12 else 0) (upd (upd r 1 (addV (r 1) (r 2))) 2 (subV (upd r 1 (addV (r 1) (r 2)) 2) (upd r 1 (addV (r 1) (r 2)) 3))) (n + 1 + 1 + 1) := by
  simp only [runF, lp_n0, lp_e0, lp_n4, lp_e4, lp_n8, lp_e8, reduceIte]
theorem lp_end (f : Nat) (r : Nat → Int) (n : Int) : runF lpB (f + 1) 12 r n = ((12, r), (6, 0, 0, 0, 0), n + 1) := by
  simp only [runF, lp_n12, lp_e12, reduceIte, Int.reduceEq]
theorem lp_run : ∀ (j f : Nat) (r : Nat → Int) (n : Int), 3 * (j + 1) + 1 ≤ f → r 2 = (j : Int) + 1 → r 3 = 1 → 0 ≤ r 1 → r 1 + tri (j + 1) ≤ 65535 →
    ∃ r', runF lpB f 0 r n = ((12, r'), (6, 0, 0, 0, 0), n + (3 * ((j : Int) + 1) + 1)) ∧ r' 1 = r 1 + tri (j + 1) ∧ r' 2 = 0
  | 0, f, r, n, hf, h2, h3, h1, hs => by
    obtain ⟨f', rfl⟩ : ∃ f', f = f' + 1 + 3 := ⟨f - 4, by omega⟩
    have e1 : addV (r 1) (r 2) = r 1 + 1 := by unfold addV; rw [h2]; have : tri (0 + 1) = 1 := rfl; omega
    have e2 : subV (r 2) (r 3) = 0 := by unfold subV; rw [h2, h3]; rfl
    have u2 : upd r 1 (r 1 + 1) 2 = r 2 := rfl
    have u3 : upd r 1 (r 1 + 1) 3 = r 3 := rfl
    refine ⟨upd (upd r 1 (r 1 + 1)) 2 0, ?_, rfl, rfl⟩
    have u0 : upd (upd r 1 (r 1 + 1)) 2 0 2 = 0 := rfl
    rw [lp_three, e1, u2, u3, e2, u0, if_pos rfl, lp_end]
    congr 2
    omega
  | j + 1, f, r, n, hf, h2, h3, h1, hs => by
    obtain ⟨f', rfl⟩ : ∃ f', f = f' + 3 := ⟨f - 3, by omega⟩
    have hT : tri (j + 1 + 1) = tri (j + 1) + (((j + 1 : Nat) : Int) + 1) := rfl
    have hp := tri_nonneg (j + 1)
    have e1 : addV (r 1) (r 2) = r 1 + (((j + 1 : Nat) : Int) + 1) := by unfold addV; rw [h2]; omega
    have e2 : subV (r 2) (r 3) = (j : Int) + 1 := by unfold subV; rw [h2, h3]; omega
    rw [lp_three, e1]
    have u2 : upd r 1 (r 1 + (((j + 1 : Nat) : Int) + 1)) 2 = r 2 := rfl
    have u3 : upd r 1 (r 1 + (((j + 1 : Nat) : Int) + 1)) 3 = r 3 := rfl
    rw [u2, u3, e2]
    have u4 : upd (upd r 1 (r 1 + (((j + 1 : Nat) : Int) + 1))) 2 ((j : Int) + 1) 2 = (j : Int) + 1 := rfl
    rw [u4, if_neg (by omega)]
    obtain ⟨r', hr, q1, q2⟩ := lp_run j f' (upd (upd r 1 (r 1 + (((j + 1 : Nat) : Int) + 1))) 2 ((j : Int) + 1)) (n + 1 + 1 + 1) (by omega) u4 h3 (by show 0 ≤ r 1 + _; omega) (by show r 1 + (((j + 1 : Nat) : Int) + 1) + _ ≤ _; omega)
    refine ⟨r', ?_, ?_, q2⟩
    · rw [hr]
      congr 2
      omega
    · rw [q1, hT]
      show r 1 + (((j + 1 : Nat) : Int) + 1) + tri (j + 1) = _
      omega
end Go.Proofs.Ytmndilhpmbpghab
