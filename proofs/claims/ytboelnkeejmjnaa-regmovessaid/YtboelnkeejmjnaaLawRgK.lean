/- RegKeeps: the walk. -/
import Derived.Test.YtboelnkeejmjnaaRgY
namespace Go.Proofs.Ytboelnkeejmjnaa
open Go.RowKit Go.Maps
set_option linter.unusedVariables false
set_option maxRecDepth 100000
/-- The program's registry, and the world below it as it was. -/
structure Kp (w W : World) (b rc rf : Nat) (q : St) : Prop where
  r : RgS w.heap.size W b rc rf q
  bl : Below w.heap.size w W
theorem Kp.below {w W W' : World} {b rc rf : Nat} {q : St} (h : Kp w W b rc rf q) (k : Below W.heap.size W W') : Kp w W' b rc rf q := ⟨h.r.below k, h.bl.trans (k.mono h.bl.size)⟩
theorem Kp.step {w W W' : World} {b rc rf : Nat} {q q' : St} (h : Kp w W b rc rf q) (k : StpS w.heap.size W W' b rc rf q') : Kp w W' b rc rf q' := ⟨k.a, h.bl.trans (k.belowB h.bl.size)⟩
theorem ct_hold (q : St) (x : Int) (c : Int × Bool) (h : x < 64) : ctE (q.hold x c).C x = 0 ∧ ctC (q.hold x c).C x = c := by
  have e : (q.hold x c).C x = some c := if_pos rfl
  have hn : ¬ 64 ≤ x := by omega
  unfold ctE ctC
  rw [if_neg hn, if_neg hn, e]
  exact ⟨rfl, rfl⟩
theorem ct_no {q : St} {x : Int} (h : ctE q.C x ≠ 0) : (ctC q.C x).2 = false ∧ ((ctE q.C x == 5) = true ∨ ((ctE q.C x == 5) = false ∧ (ctE q.C x == 2) = true)) := by
  unfold ctE at h ⊢
  unfold ctC
  by_cases h6 : 64 ≤ x
  · rw [if_pos h6, if_pos h6]
    exact ⟨rfl, .inr ⟨rfl, rfl⟩⟩
  · rw [if_neg h6] at h
    rw [if_neg h6, if_neg h6]
    cases e : q.C x with
    | none => exact ⟨rfl, .inl rfl⟩
    | some c => rw [e] at h; exact (h rfl).elim
theorem bind_back {q : St} (hq : q.Ok) (x : Int) (c : Int × Bool) (h0 : 0 ≤ x) (hc : q.C x = some c) : bindE x c.1 (q.leave x c) = 0 ∧ bindQ x c.1 (q.leave x c) = (q.leave x c).hold x (c.1, false) := by
  obtain ⟨a1, a2, a3, a4, a5⟩ := hq.c x c.1 c.2 hc
  have e : bindE x c.1 (q.leave x c) = 0 := by
    unfold bindE
    have k1 : (q.leave x c).C x = none := if_pos rfl
    have k2 : (q.leave x c).F c.1 = none := if_pos rfl
    rw [if_neg (by omega), if_neg (by omega), k1, k2, if_neg (by simp)]
  exact ⟨e, by unfold bindQ; rw [if_pos e]⟩
end Go.Proofs.Ytboelnkeejmjnaa
