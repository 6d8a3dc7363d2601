/- What must be whatever is asked: live; a nil book. -/
import Derived.Test.YtpmndhbcohjboaaRvL
namespace Go.Proofs.Ytpmndhbcohjboaa
open Go.RowKit Go.Maps
set_option linter.unusedVariables false
set_option maxRecDepth 100000
def l1 : Rs := ⟨[(0, 5, 13)], fun _ => []⟩
def l2 : Rs := ⟨[], fun e => if e = 0 then [5] else []⟩
def l3 : Rs := ⟨[], fun _ => []⟩
theorem live1 : askE 0 5 10 3 q0 = 0 ∧ askQ 0 5 10 3 q0 = l1 := ⟨rfl, rfl⟩
theorem live2 : dueL 12 l1 = [] ∧ dueQ 12 l1 = l1 := ⟨rfl, by
  show (⟨[(0, 5, 13)], layV [] (fun _ => [])⟩ : Rs) = _
  rw [layV_nil]
  rfl⟩
theorem live3 : dueL 13 l1 = [(0, 5, 13)] ∧ dueQ 13 l1 = l2 := ⟨rfl, by
  show (⟨[], layV [(0, 5, 13)] (fun _ => [])⟩ : Rs) = ⟨[], fun e => if e = 0 then [5] else []⟩
  congr 1
  funext e
  revert e
  exact all6 rfl rfl rfl rfl rfl rfl⟩
theorem live4 : nextV 0 l2 = 5 ∧ nextB 0 l2 = true ∧ nextQ 0 l2 = l3 := ⟨rfl, rfl, by
  show (⟨[], fun e : Fin 6 => if (e.1 : Int) = 0 then (if e = 0 then [5] else ([] : List Int)).tail else (if e = 0 then [5] else [])⟩ : Rs) = ⟨[], fun _ => []⟩
  congr 1
  funext e
  revert e
  exact all6 rfl rfl rfl rfl rfl rfl⟩
theorem l1_ok : l1.Ok 1 := ⟨by decide, by simp [l1, KeysD], fun d hd => by
  have : d = (0, 5, 13) := by simpa [l1] using hd
  subst this
  decide, fun e => Nat.le_refl _⟩
theorem l2_ok : l2.Ok 1 := ⟨by decide, List.Pairwise.nil, (fun d hd => by cases hd), all6 (by decide) (by decide) (by decide) (by decide) (by decide) (by decide)⟩
theorem l3_ok : l3.Ok 1 := ⟨by decide, List.Pairwise.nil, (fun d hd => by cases hd), fun e => Nat.zero_le _⟩
/-- A world in which a book lies, as a step of one ahead. -/
structure Liv (w0 w : World) (b m : Nat) (q : Rs) : Prop where
  out : ∃ av vs, Bk w0.heap.size w b m av vs q
  below : Below w0.heap.size w0 w
theorem Liv.step {w0 w w' : World} {b m : Nat} {av : Value} {vs : Fin 6 → Value} {q q' : Rs} (h : Bk w0.heap.size w b m av vs q) (hb : Below w0.heap.size w0 w) (k : BStp w0.heap.size w w' b m av vs q') : Liv w0 w' b m q' := by
  obtain ⟨av', vs', h1, h2, h3⟩ := k.out
  exact ⟨⟨av', vs', h1⟩, hb.trans (h2.below _ (fun k e => (h.lt k e).1) hb.size)⟩
set_option maxHeartbeats 2000000 in
theorem live_any (w : World) : Calls Try.prog 10 #[] w fun e w' => e = .returned (.bool true) ∧ Below w.heap.size w w' := by
  go_enter Try.func10, Try.ntmps10
  go_wp2_with fail
  refine (new_any w).mono ?_
  rintro e W1 ⟨rfl, hB1, hb1⟩
  have c1 := ask_any w.heap.size _ _ _ _ _ 1 0 5 10 3 W1 hB1 (q0_ok 1)
  rw [live1.1, live1.2] at c1
  have H1 := Hid3.mk (And.intro hB1 hb1)
  clear hB1 hb1
  generalize hbe : w.heap.size + 1 = b at *
  have HBE := Hid3.mk hbe
  clear hbe
  go_wp2_with fail
  refine c1.mono ?_
  rintro e W2 ⟨rfl, hs⟩
  have hl := Liv.step H1.out.1 H1.out.2 hs
  obtain ⟨av2, vs2, hB2⟩ := hl.out
  have c2 := due_any w.heap.size _ _ _ _ _ 1 12 W2 hB2 l1_ok (by omega)
  rw [live2.1, live2.2] at c2
  have H2 := Hid3.mk (And.intro hB2 hl.below)
  clear c1 hs hl hB2 H1
  go_wp2_with fail
  refine c2.mono ?_
  rintro e W3 ⟨r3, rfl, hr3, hs⟩
  obtain ⟨a3, k3, rfl⟩ := hr3.sl
  have hl := Liv.step H2.out.1 H2.out.2 hs
  obtain ⟨av3, vs3, hB3⟩ := hl.out
  have c3 := due_any w.heap.size _ _ _ _ _ 1 13 W3 hB3 l1_ok (by omega)
  rw [live3.1, live3.2] at c3
  have H3 := Hid3.mk (And.intro hB3 hl.below)
  clear c2 hs hl hB3 H2 hr3
  go_wp2_with fail
  refine c3.mono ?_
  rintro e W4 ⟨r4, rfl, hr4, hs⟩
  obtain ⟨a4, k4, rfl⟩ := hr4.sl
  have hl := Liv.step H3.out.1 H3.out.2 hs
  obtain ⟨av4, vs4, hB4⟩ := hl.out
  have c4 := next_any w.heap.size _ _ _ _ _ 0 (by omega) W4 hB4
  rw [live4.1, live4.2.1, live4.2.2] at c4
  have H4 := Hid3.mk (And.intro hB4 hl.below)
  clear c3 hs hl hB4 H3 hr4
  go_wp2_with fail
  refine c4.mono ?_
  rintro e W5 ⟨rfl, hs⟩
  have hl := Liv.step H4.out.1 H4.out.2 hs
  obtain ⟨av5, vs5, hB5⟩ := hl.out
  have c5 := open_any w.heap.size _ _ _ _ _ 1 W5 hB5 l3_ok
  have H5 := Hid3.mk hl.below
  clear c4 hs hl hB5 H4
  go_wp2_with fail
  refine c5.mono ?_
  rintro e W6 ⟨r6, rfl, hr6, hb6⟩
  obtain ⟨a6, k6, rfl⟩ := hr6.sl
  have H6 := Hid3.mk (H5.out.trans (hb6.mono H5.out.size))
  clear c5 hr6 hb6 H5
  go_wp2
  go_ret
  exact ⟨rfl, H6.out⟩
end Go.Proofs.Ytpmndhbcohjboaa
