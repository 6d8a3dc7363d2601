/- twins$1: what is made of a thing, once. -/
import Derived.Test.YtbkpkcndmlapfaaFdTa
namespace Go.Proofs.Ytbkpkcndmlapfaa
open Go.RowKit Go.Maps
set_option linter.unusedVariables false
set_option maxRecDepth 100000
def seenP (L : Lo) (ps : List (Nat × Nat)) : List (Option Nat) := ps.map fun x => some (L.o x.1)
def madeP (ps : List (Nat × Nat)) : List (Option Nat) := ps.map fun x => some x.2
/-- What was seen and made. -/
structure Tw (N : Nat) (L : Lo) (s : Fs) (W : World) (b1 b2 : Nat) (ps : List (Nat × Nat)) : Prop where
  rows : ∃ sv mv, Cl W b1 88 [sv] ∧ Cl W b2 88 [mv] ∧ W.ownsRow N 67 1 sv (seenP L ps).length (pVs (seenP L ps)) ∧ W.ownsRow N 67 1 mv (madeP ps).length (pVs (madeP ps)) ∧ (sv.ownBlock = none ∨ sv.ownBlock ≠ mv.ownBlock)
  nb : b1 ≠ b2
  g1 : N ≤ b1
  g2 : N ≤ b2
  ob : ∀ x ∈ ps, Lv s x.1 ∧ N ≤ x.2 ∧ Cl W x.2 69 (obC s x.1)
  d1 : (ps.map Prod.fst).Nodup
  d2 : (ps.map Prod.snd).Nodup
  len : ps.length ≤ 48
theorem Tw.low {N : Nat} {L : Lo} {s : Fs} {W W' : World} {b1 b2 : Nat} {ps : List (Nat × Nat)} (h : Tw N L s W b1 b2 ps) (k : Below W.heap.size W W') : Tw N L s W' b1 b2 ps := by
  obtain ⟨sv, mv, h1, h2, h3, h4, h5⟩ := h.rows
  exact ⟨⟨sv, mv, h1.below k, h2.below k, own_stay h3 (Apart.of_below (X := fun _ => False) k) (fun _ _ => id), own_stay h4 (Apart.of_below (X := fun _ => False) k) (fun _ _ => id), h5⟩, h.nb, h.g1, h.g2, fun x hx => ⟨(h.ob x hx).1, (h.ob x hx).2.1, (h.ob x hx).2.2.below k⟩, h.d1, h.d2, h.len⟩
/-- The region's world, W1 being the one with the twin. -/
theorem Tw.gd {N : Nat} {L : Lo} {W : World} {ps : List (Nat × Nat)} {sv mv : Value} (hN : N ≤ W.heap.size) (h3 : W.ownsRow N 67 1 sv (seenP L ps).length (pVs (seenP L ps))) (h4 : W.ownsRow N 67 1 mv (madeP ps).length (pVs (madeP ps))) (h5 : sv.ownBlock = none ∨ sv.ownBlock ≠ mv.ownBlock) : Gd N W W sv mv (seenP L ps) (madeP ps) :=
  ⟨h3, h4, h5, Below.refl _ _, fun _ _ _ => rfl, fun g hg => hg.elim (fun e => .inl (own_lt h3 e).2.2) (fun e => .inl (own_lt h4 e).2.2)⟩
theorem seen_idx (L : Lo) (x : Option Nat) : ∀ (ps : List (Nat × Nat)) (i : Nat), (∃ j y, ps[j]? = some y ∧ some (L.o y.1) = x ∧ idxP x (seenP L ps) i = some (i + j)) ∨ (idxP x (seenP L ps) i = none ∧ ∀ y ∈ ps, some (L.o y.1) ≠ x)
  | [], i => .inr ⟨rfl, fun y hy => by cases hy⟩
  | y :: ps, i => by
    show (∃ j z, (y :: ps)[j]? = some z ∧ some (L.o z.1) = x ∧ (if some (L.o y.1) = x then some i else idxP x (seenP L ps) (i + 1)) = some (i + j)) ∨ ((if some (L.o y.1) = x then some i else idxP x (seenP L ps) (i + 1)) = none ∧ _)
    by_cases e : some (L.o y.1) = x
    · rw [if_pos e]
      exact .inl ⟨0, y, rfl, e, rfl⟩
    · rw [if_neg e]
      rcases seen_idx L x ps (i + 1) with ⟨j, z, h1, h2, h3⟩ | ⟨h1, h2⟩
      · exact .inl ⟨j + 1, z, h1, h2, by rw [h3]; congr 1; omega⟩
      · exact .inr ⟨h1, fun z hz => by
          rcases List.mem_cons.1 hz with rfl | hz
          · exact e
          · exact h2 z hz⟩
set_option maxHeartbeats 1000000 in
theorem index_nil (x : Option Nat) (w : World) : Calls Try.prog 52 #[.slice none 0 0, pO x] w fun r w' => r = .returned (.int .i64 (-1)) ∧ w' = w := by
  generalize pO x = px
  go_enter Try.func52, Try.ntmps52
  go_wp2
  go_loopw [8] (fun i W => i = .int .i64 0 ∧ W = w) (fun i _ => 1)
  case atStart => exact ⟨rfl, rfl⟩
  case round =>
    obtain ⟨rfl, rfl⟩ := hrel
    go_wp2
    go_ret
    exact ⟨rfl, rfl⟩
/-- What is behind: the pair is there, and nothing else was changed. -/
structure TwS (N : Nat) (L : Lo) (s : Fs) (W W' : World) (b1 b2 : Nat) (ps ps' : List (Nat × Nat)) (n a : Nat) : Prop where
  tw : Tw N L s W' b1 b2 ps'
  pre : ps <+: ps'
  mem : (n, a) ∈ ps'
  bl : Below N W W'
  kp : ∀ k, k < W.heap.size → (∀ cur, W.heap[k]? ≠ some (.cells cur 67 (0, 0))) → k ≠ b1 → k ≠ b2 → W'.heap[k]? = W.heap[k]?
theorem Tw.idx {N B : Nat} {L : Lo} {s : Fs} {W : World} {b1 b2 : Nat} {ps : List (Nat × Nat)} {sv : Value} (h : Ft B W L s) (n : Nat) (hn : Lv s n) (ho : ∀ x ∈ ps, Lv s x.1) (hl : ps.length ≤ 48) (h3 : W.ownsRow N 67 1 sv (seenP L ps).length (pVs (seenP L ps))) :
    (∃ i a : Nat, ps[i]? = some (n, a) ∧ Calls Try.prog 52 #[sv, .pointer (some ⟨L.o n, 0, none⟩)] W fun r w' => r = .returned (.int .i64 (i : Int)) ∧ w' = W) ∨
    ((∀ x ∈ ps, x.1 ≠ n) ∧ Calls Try.prog 52 #[sv, .pointer (some ⟨L.o n, 0, none⟩)] W fun r w' => r = .returned (.int .i64 (-1)) ∧ w' = W) := by
  have hlen : (seenP L ps).length = ps.length := by unfold seenP; simp
  rcases h3.2 with ⟨rfl, h0⟩ | ⟨g, cap, cur, rfl, h1, hb, hk, _, _, htk⟩
  · right
    have : ps = [] := List.eq_nil_of_length_eq_zero (by omega)
    subst this
    exact ⟨fun x hx => (by cases hx), index_nil (some (L.o n)) W⟩
  · have hc : ∀ j y, (seenP L ps)[j]? = some y → W.cell? ⟨g, j, none⟩ = some (pO y) := fun j y hy => by
      obtain ⟨g', cap', e, _, _, h9⟩ := own_cell h3 j (pO y) (by unfold pVs; rw [List.getElem?_map, hy]; rfl)
      injection e with e
      injection e with e
      injection e with e
      subst e
      exact h9
    have hI := index_any g cap (seenP L ps) (some (L.o n)) W (by omega) hc ⟨_, _, (h.b.og n hn).2⟩ (fun y hy => by
      obtain ⟨x, hx, rfl⟩ := List.mem_map.1 hy
      exact ⟨_, _, (h.b.og x.1 (ho x hx)).2⟩)
    rcases seen_idx L (some (L.o n)) ps 0 with ⟨j, y, e1, e2, e3⟩ | ⟨e1, e2⟩
    · left
      rw [e3, Nat.zero_add] at hI
      have hy : y.1 = n := h.b.oi y.1 n (ho y (List.mem_of_getElem? e1)) hn (Option.some.inj e2)
      obtain ⟨yn, ya⟩ := y
      simp only at hy
      subst hy
      exact ⟨j, ya, e1, hI⟩
    · right
      rw [e1] at hI
      exact ⟨fun x hx e => e2 x hx (by rw [e]), hI⟩
set_option maxHeartbeats 1000000 in
theorem twin_old (N B : Nat) (L : Lo) (s : Fs) (W : World) (b1 b2 : Nat) (ps : List (Nat × Nat)) (sv mv : Value) (i a n : Nat) (hi : ps[i]? = some (n, a)) (hl : ps.length ≤ 48)
    (h1 : Cl W b1 88 [sv]) (h2 : Cl W b2 88 [mv]) (h4 : W.ownsRow N 67 1 mv (madeP ps).length (pVs (madeP ps)))
    (cI : Calls Try.prog 52 #[sv, .pointer (some ⟨L.o n, 0, none⟩)] W fun r w' => r = .returned (.int .i64 (i : Int)) ∧ w' = W) :
    Calls Try.prog 53 #[.pointer (some ⟨L.o n, 0, none⟩), .pointer (some ⟨b1, 0, none⟩), .pointer (some ⟨b2, 0, none⟩)] W fun r w' => r = .returned (.pointer (some ⟨a, 0, none⟩)) ∧ w' = W := by
  have c1 : W.cell? ⟨b1, 0, none⟩ = some sv := h1.cell 0
  have c2 : W.cell? ⟨b2, 0, none⟩ = some mv := h2.cell 0
  have hlen : (madeP ps).length = ps.length := by unfold madeP; simp
  have hil : i < ps.length := (List.getElem?_eq_some_iff.1 hi).1
  obtain ⟨g, cap, rfl, _, hg, c3⟩ := own_cell h4 i (pO (some a)) (by unfold pVs madeP; rw [List.getElem?_map, List.getElem?_map, hi]; rfl)
  rw [hlen] at c2
  have hiz : (i : Int) < (ps.length : Int) := by omega
  have hi0 : ¬ (i : Int) < 0 := by omega
  simp only [pO] at c3
  clear h1 h2 h4 hi
  generalize ps.length = M at *
  go_enter Try.func53, Try.ntmps53
  go_wp2_with fail
  refine cI.mono ?_
  rintro r V ⟨rfl, hV⟩
  rw [hV]
  clear cI hV
  go_wp2
  go_ret
  exact ⟨rfl, rfl⟩
end Go.Proofs.Ytbkpkcndmlapfaa
