/- TopLoop: a loop that adds what it counts down comes to the sum. -/
import Derived.Test.YtmndilhpmbpghabCpuJ
import Derived.Test.YtmndilhpmbpghabCpuL
namespace Go.Proofs.Ytmndilhpmbpghab
open Go.RowKit
set_option linter.unusedVariables false
set_option maxRecDepth 100000

def lpR (k : Int) : Nat → Int := fun j => if j = 2 then k else if j = 3 then 1 else 0
theorem lp_bts (w : World) : Bts (w.alloc (.cells #[.int .u8 4, .int .u8 18, .int .u8 0, .int .u8 0, .int .u8 5, .int .u8 35, .int .u8 0, .int .u8 0, .int .u8 19, .int .u8 32, .int .u8 0, .int .u8 0, .int .u8 1, .int .u8 0, .int .u8 0, .int .u8 0] 5)) (.slice (some ⟨w.heap.size, 0, none⟩) 16 16) lpB := by
  refine ⟨some ⟨w.heap.size, 0, none⟩, 16, rfl, by decide, by decide, fun j x hx => ⟨w.heap.size, 0, rfl, ?_⟩⟩
  rw [Lib.cell_of_heap (World.alloc_heap_new w _)]
  have hj : j < 16 := (List.getElem?_eq_some_iff.1 hx).1
  revert hx
  match j, hj with
  | 0, _ => intro hx; injection hx with hx; subst hx; rfl
  | 1, _ => intro hx; injection hx with hx; subst hx; rfl
  | 2, _ => intro hx; injection hx with hx; subst hx; rfl
  | 3, _ => intro hx; injection hx with hx; subst hx; rfl
  | 4, _ => intro hx; injection hx with hx; subst hx; rfl
  | 5, _ => intro hx; injection hx with hx; subst hx; rfl
  | 6, _ => intro hx; injection hx with hx; subst hx; rfl
  | 7, _ => intro hx; injection hx with hx; subst hx; rfl
  | 8, _ => intro hx; injection hx with hx; subst hx; rfl
  | 9, _ => intro hx; injection hx with hx; subst hx; rfl
  | 10, _ => intro hx; injection hx with hx; subst hx; rfl
  | 11, _ => intro hx; injection hx with hx; subst hx; rfl
  | 12, _ => intro hx; injection hx with hx; subst hx; rfl
  | 13, _ => intro hx; injection hx with hx; subst hx; rfl
  | 14, _ => intro hx; injection hx with hx; subst hx; rfl
  | 15, _ => intro hx; injection hx with hx; subst hx; rfl
  | k + 16, h => exact absurd h (by omega)
theorem lpR_wd (k : Int) (h : 0 ≤ k) (h2 : k ≤ 65535) (j : Nat) : Wd (lpR k j) := by
  unfold lpR
  exact ite_wd ⟨h, h2⟩ (ite_wd ⟨by decide, by decide⟩ ⟨by decide, by decide⟩)
set_option maxHeartbeats 2000000 in
theorem loop_law (n : Int) (w : World) (h0 : 0 ≤ n) (h1 : n ≤ 255) :
    Calls Try.prog 3 #[.int .u8 n] w fun e w' => e = .returned (.bool true) ∧ Below w.heap.size w w' := by
  obtain ⟨j, hj⟩ : ∃ j : Nat, n % 200 = j := ⟨(n % 200).toNat, by omega⟩
  have ht : n.tmod 200 = j := by rw [Int.tmod_eq_emod_of_nonneg h0]; exact hj
  have hj2 : j < 200 := by omega
  have cR := run_any 0 (lpR ((j : Int) + 1)) (.slice (some ⟨w.heap.size, 0, none⟩) 16 16) lpB 1000 _ ⟨by decide, by decide⟩ (lpR_wd _ (by omega) (by omega)) (lp_bts w)
  rw [show (min (1000 : Int) 1000).toNat = 1000 from rfl] at cR
  have hT := tri_eq (j + 1)
  have hT2 : (((j + 1 : Nat) : Int)) * (((j + 1 : Nat) : Int) + 1) ≤ 200 * 201 := Int.mul_le_mul (by omega) (by omega) (by omega) (by decide)
  obtain ⟨r', hr, q1, q2⟩ := lp_run j 1000 (lpR ((j : Int) + 1)) 0 (by omega) rfl rfl (Int.le_refl 0) (by show (0 : Int) + _ ≤ _; omega)
  rw [hr] at cR
  have q1' : r' 1 = tri (j + 1) := by rw [q1]; show (0 : Int) + _ = _; omega
  have hw : IntKind.u16.wrap ((j : Int) + 1) = (j : Int) + 1 := by rw [u16w]; omega
  have hT0 := tri_nonneg (j + 1)
  have hjj : ((j + 1 : Nat) : Int) = (j : Int) + 1 := by omega
  rw [hjj] at hT hT2
  have hM : wrap64 (((j : Int) + 1) * ((j : Int) + 1 + 1)) = 2 * tri (j + 1) := by
    rw [← hT] at hT2 ⊢
    unfold wrap64
    omega
  have hD : (2 * tri (j + 1)).tdiv 2 = tri (j + 1) := by rw [Int.tdiv_eq_ediv_of_nonneg (by omega)]; omega
  clear hr hT hT2 q1
  generalize tri (j + 1) = T at *
  unfold rgV lpR runV accV at cR
  simp only [reduceIte, Nat.reduceEqDiff, Int.zero_add] at cR
  unfold rgV at cR
  go_enter Try.func3, Try.ntmps3
  go_wp2_with fail
  refine cR.mono ?_
  rintro e W1 ⟨rfl, hB1⟩
  have hb1 : Below w.heap.size w W1 := (nx (Below.refl _ w) _).trans (hB1.mono (by simp))
  clear cR hB1
  go_wp2
  go_ret
  exact ⟨rfl, nx (nx hb1 _) _⟩
end Go.Proofs.Ytmndilhpmbpghab
