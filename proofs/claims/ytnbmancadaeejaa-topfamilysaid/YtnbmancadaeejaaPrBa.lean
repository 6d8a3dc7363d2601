/- Children of somebody or of nobody; slices of numbers. -/
import Derived.Test.YtnbmancadaeejaaPrB
import Derived.Lib.SmallJoins
import Derived.OwnWalk
import Derived.OwnWalkIn
namespace Go.Proofs.Ytnbmancadaeejaa
open Go.RowKit Go.Maps
set_option linter.unusedVariables false
set_option maxRecDepth 100000
/-- The children of somebody, or of nobody. -/
def chA (s : Pt) (pid : Int) : List (Fin 6) := if h : 0 ≤ pid ∧ pid < 6 then (if s ⟨pid.toNat, by omega⟩ = .no then [] else chs s ⟨pid.toNat, by omega⟩) else []
theorem chA_in (s : Pt) (p : Fin 6) (h : s p ≠ .no) : chA s p.1 = chs s p := by
  unfold chA
  rw [dif_pos (by constructor <;> omega)]
  have : (⟨((p.1 : Nat) : Int).toNat, by omega⟩ : Fin 6) = p := by ext; simp
  rw [this, if_neg h]
theorem chA_no (s : Pt) (pid : Int) (h : gt s pid = .no) : chA s pid = [] := by
  unfold chA
  unfold gt at h
  split
  · rename_i hc
    rw [dif_pos hc] at h
    rw [if_pos h]
  · rfl
theorem chA_len (s : Pt) (pid : Int) : (chA s pid).length ≤ 6 := by
  unfold chA
  split
  · split
    · exact Nat.zero_le _
    · exact thL_len6 _ _
  · exact Nat.zero_le _
theorem infoI : (Try.prog.info? 3).map (fun i => (i.zero, i.size, i.bytes)) = some (some (.int .i64 0), 1, 8) := by kernel_rfl
def natV (n : Nat) : Value := .int .i64 n
def slI (x : Fin 6) : Value := .int .i64 x.1
theorem cell_one (w : World) (x : Value) (t : TypeId) : ∀ j v, [x][j]? = some v → (w.alloc (.cells #[x] t)).cell? ((⟨w.heap.size, 0, none⟩ : Addr).add j) = some v := by
  intro j v h
  match j, h with
  | 0, h =>
    injection h with h
    subst h
    simp [Addr.add, go_sem]
theorem iparts {t : TypeId} {z : Value} {n m : Nat} (h : (Try.prog.info? t).map (fun i => (i.zero, i.size, i.bytes)) = some (some z, n, m)) : ∃ i, Try.prog.info? t = some i ∧ i.zero = some z ∧ i.size = n ∧ i.bytes = m := by
  rw [Option.map_eq_some_iff] at h
  obtain ⟨i, h1, h2⟩ := h
  simp only [Prod.mk.injEq] at h2
  exact ⟨i, h1, h2.1, h2.2.1, h2.2.2⟩
theorem slice_of {w : World} {B t size n : Nat} {v : Value} {xs : List Value} (h : w.ownsRow B t size v n xs) : ∃ a cap, v = .slice a n cap := by
  rcases h.2 with ⟨hv0, hk0⟩ | ⟨g, cap, cur, hv0, _⟩
  · exact ⟨none, 0, by rw [hk0]; exact hv0⟩
  · exact ⟨_, _, hv0⟩
theorem chA_of (s : Pt) (pid : Int) (h : gt s pid ≠ .no) : ∃ p : Fin 6, pid = p.1 ∧ s p ≠ .no ∧ chA s pid = chs s p := by
  rcases pid_cases pid with ho | ⟨p, rfl⟩
  · exact absurd (gt_out s pid ho) h
  · rw [gt_in] at h
    exact ⟨p, rfl, h, chA_in s p h⟩
end Go.Proofs.Ytnbmancadaeejaa
