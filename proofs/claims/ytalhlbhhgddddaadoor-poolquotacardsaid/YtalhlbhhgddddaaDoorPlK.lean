/- The pool's live. -/
import Derived.Test.YtalhlbhhgddddaaDoorPlJ
namespace Go.Proofs.YtalhlbhhgddddaaDoor
open Go.RowKit Go.Maps
set_option linter.unusedVariables false
set_option maxRecDepth 100000
structure Lv (w W : World) (b fb n : Nat) (v : Value) (q : Ps) : Prop where
  p : Pl w.heap.size W b fb n v q
  bl : Below w.heap.size w W
theorem own_ge {w : World} {B t size n : Nat} {v : Value} {xs : List Value} (h : w.ownsRow B t size v n xs) {k : Nat} (e : v.ownBlock = some k) : B ≤ k := by
  rcases h.2 with ⟨rfl, _⟩ | ⟨g, cap, cur, rfl, h1, _⟩
  · cases e
  · have e' : some g = some k := e
    injection e' with e'
    omega
theorem Lv.step {w W W' : World} {b fb n : Nat} {v : Value} {q q' : Ps} (h : Lv w W b fb n v q) (s : PStp w.heap.size W W' b fb n v q') : ∃ v', Lv w W' b fb n v' q' := by
  obtain ⟨v', h1, _⟩ := s.out
  refine ⟨v', h1, ⟨s.ap.os.trans h.bl.os, s.ap.tape.trans h.bl.tape, s.ap.output.trans h.bl.output, Nat.le_trans h.bl.size s.ap.size, fun k hk => (s.ap.block k (Nat.lt_of_lt_of_le hk h.bl.size) (fun e => ?_)).trans (h.bl.block k hk)⟩⟩
  rcases e with e | e | e
  · have := h.p.g; omega
  · have := h.p.gf; omega
  · have := own_ge h.p.e e; omega
theorem Lv.low {w W W' : World} {b fb n : Nat} {v : Value} {q : Ps} (h : Lv w W b fb n v q) (k : Below W.heap.size W W') : Lv w W' b fb n v q := ⟨h.p.low k, h.bl.trans (k.mono h.bl.size)⟩
def lq1 : Ps := grQ 8 (newP 8) 0 5 (⟨#[47, 97]⟩, 0)
def lq2 : Ps := shQ 8 lq1 0 1 5
def lq3 : Ps := frQ 8 lq2 0 5
theorem le1 : grE 8 (newP 8) 0 5 (⟨#[47, 97]⟩, 0) = 0 := by decide +kernel
theorem le2 : shE 8 lq1 0 1 5 = 0 := by decide +kernel
theorem le3 : hadE 8 lq2 0 5 = 0 ∧ frB 8 lq2 0 5 = false := by decide +kernel
theorem le4 : (oF 8 lq3 5).testBit 1 = true ∧ (oF 8 lq3 5).testBit 0 = false ∧ grE 8 lq3 2 5 (⟨#[47]⟩, 0) = 6 := by decide +kernel
theorem ln1 : lq1.E.length = 1 := by decide +kernel
theorem ln2 : lq2.E.length = 2 := by decide +kernel
theorem ln3 : lq3.E.length = 3 := by decide +kernel
theorem ln0 : (newP 8).E.length = 0 := rfl
set_option maxHeartbeats 4000000 in
theorem plive_any (w : World) : Calls Tryd.prog 10 #[] w fun r w' => r = .returned (.bool true) ∧ Below w.heap.size w w' := by
  have cN := new_in 8 (by omega) (by omega) w
  go_enter Tryd.func10, Tryd.ntmps10
  go_wp2_with fail
  refine cN.mono ?_
  rintro r W1 ⟨b, fb, rfl, hN⟩
  have H1 : Hid3 (Lv w W1 b fb 8 (.slice none 0 0) (newP 8)) := ⟨⟨hN.pl (by omega), hN.bl⟩⟩
  have c1 := grant_any w.heap.size b fb 8 _ (newP 8) 0 5 (⟨#[47, 97]⟩, 0) W1 H1.out.p (by omega) (by decide) (by rw [ln0]; omega) H1.out.bl.size
  rw [le1] at c1
  clear cN hN
  go_wp2_with fail
  refine c1.mono ?_
  rintro r W2 ⟨rfl, hS⟩
  obtain ⟨v2, h2⟩ := H1.out.step hS
  have H2 : Hid3 (Lv w W2 b fb 8 v2 lq1) := ⟨h2⟩
  have c2 := share_any w.heap.size b fb 8 _ lq1 0 1 5 W2 H2.out.p (by omega) (by rw [ln1]; omega) H2.out.bl.size
  rw [le2] at c2
  clear c1 hS h2 H1
  go_wp2_with fail
  refine c2.mono ?_
  rintro r W3 ⟨rfl, hS⟩
  obtain ⟨v3, h3⟩ := H2.out.step hS
  have H3 : Hid3 (Lv w W3 b fb 8 v3 lq2) := ⟨h3⟩
  have c3 := free_any w.heap.size b fb 8 _ lq2 0 5 W3 H3.out.p (by omega) (by rw [ln2]; omega) H3.out.bl.size
  rw [le3.1, le3.2] at c3
  clear c2 hS h3 H2
  go_wp2_with fail
  refine c3.mono ?_
  rintro r W4 ⟨rfl, hS⟩
  obtain ⟨v4, h4⟩ := H3.out.step hS
  have H4 : Hid3 (Lv w W4 b fb 8 v4 lq3) := ⟨h4⟩
  have c4 := holds_any w.heap.size b fb 8 _ lq3 1 5 (by omega) W4 H4.out.p
  have c5 := holds_any w.heap.size b fb 8 _ lq3 0 5 (by omega) W4 H4.out.p
  have c6 := events_any w.heap.size b fb 8 _ lq3 W4 H4.out.p (by rw [ln3]; omega)
  rw [le4.1] at c4
  rw [le4.2.1] at c5
  rw [ln3] at c6
  clear c3 hS h4 H3
  go_wp2_with fail
  refine c4.mono ?_
  rintro r w' ⟨rfl, rfl⟩
  clear c4
  go_wp2_with fail
  refine c5.mono ?_
  rintro r w' ⟨rfl, rfl⟩
  clear c5
  go_wp2_with fail
  refine c6.mono ?_
  rintro r W5 ⟨v', rfl, hown, hB5⟩
  obtain ⟨a, cap, rfl⟩ : ∃ a cap, v' = .slice a 3 cap := by
    rcases hown.2 with ⟨_, hk0⟩ | ⟨g, cap, cur, hv0, _⟩
    · exact absurd hk0 (by omega)
    · exact ⟨_, _, hv0⟩
  have H5 := Hid3.mk (H4.out.low hB5)
  have c7 := grant_any w.heap.size b fb 8 _ lq3 2 5 (⟨#[47]⟩, 0) W5 H5.out.p (by omega) (by decide) (by rw [ln3]; omega) H5.out.bl.size
  rw [le4.2.2] at c7
  clear c6 hown hB5 H4
  go_wp2_with fail
  refine c7.mono ?_
  rintro r W6 ⟨rfl, hS⟩
  obtain ⟨v6, h6⟩ := H5.out.step hS
  have H6 := Hid3.mk h6.bl
  clear c7 hS h6
  go_wp2
  go_ret
  exact ⟨rfl, H6.out⟩
end Go.Proofs.YtalhlbhhgddddaaDoor
