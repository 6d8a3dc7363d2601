/- The document's pool in memory; pure facts of bits. -/
import Derived.Test.YtalhlbhhgddddaaDoorPlR
import Derived.Test.YtalhlbhhgddddaaDoorPlJ
namespace Go.Proofs.YtalhlbhhgddddaaDoor
open Go.RowKit Go.Maps
set_option linter.unusedVariables false
set_option maxRecDepth 100000
theorem heldN_bit (O : Nat → Nat) (e : Nat) : ∀ k i, (heldN O e k).testBit i = (decide (i < k) && (O i).testBit e)
  | 0, i => by simp [heldN]
  | k + 1, i => by
    unfold heldN
    have ih := heldN_bit O e k i
    by_cases h : (O k).testBit e = true
    · rw [if_pos h, Nat.testBit_or, ih, Nat.testBit_two_pow]
      by_cases hi : i < k
      · simp [hi, show i < k + 1 by omega, show ¬ k = i by omega]
      · by_cases hk : k = i
        · subst hk; simp [h]
        · simp [hi, hk, show ¬ i < k + 1 by omega]
    · rw [if_neg h, ih]
      by_cases hi : i < k
      · simp [hi, show i < k + 1 by omega]
      · by_cases hk : k = i
        · subst hk; simp [h]
        · simp [hi, show ¬ i < k + 1 by omega]
theorem heldN_256 (O : Nat → Nat) (e : Nat) : heldN O e 8 < 256 := heldN_lt O e 8
theorem bits6 : ∀ s : Nat, s < 64 → (List.range 6).filter (fun i => s.testBit i) = bitsL s := by decide +kernel
theorem bits8 : ∀ s : Nat, s < 256 → (List.range 8).filter (fun i => s.testBit i) = bitsL s := by decide +kernel
theorem pop_room : ∀ s : Nat, s < 256 → ∀ f : Nat, f < 8 → s.testBit f = false → pop9 s ≤ 7 := by decide +kernel
theorem pop_le : ∀ s : Nat, s < 512 → pop9 s ≤ 9 := by decide +kernel
theorem bit_hi (s e : Nat) (hs : s < 64) (he : 6 ≤ e) : s.testBit e = false := Nat.testBit_lt_two_pow (Nat.lt_of_lt_of_le (show s < 2 ^ 6 by omega) (Nat.pow_le_pow_right (by omega) he))
theorem heldN_filter (O : Nat → Nat) (e : Nat) : (List.range 8).filter (fun i => (O i).testBit e) = bitsL (heldN O e 8) := by
  rw [← bits8 _ (heldN_256 O e)]
  apply List.filter_congr
  intro i hi
  rw [heldN_bit, decide_eq_true (List.mem_range.1 hi)]
  rfl
/-- The frames below k that nobody has. -/
def roomN (O : Nat → Nat) : Nat → Nat
  | 0 => 0
  | k + 1 => if O k = 0 then roomN O k ||| 2 ^ k else roomN O k
theorem roomN_lt (O : Nat → Nat) : ∀ k, roomN O k < 2 ^ k
  | 0 => by simp [roomN]
  | k + 1 => by
    have ih := roomN_lt O k
    have h2 : 2 ^ k < 2 ^ (k + 1) := Nat.pow_lt_pow_right (by omega) (by omega)
    unfold roomN
    split
    · exact Nat.or_lt_two_pow (by omega) h2
    · omega
theorem roomN_bit (O : Nat → Nat) : ∀ k i, (roomN O k).testBit i = (decide (i < k) && decide (O i = 0))
  | 0, i => by simp [roomN]
  | k + 1, i => by
    unfold roomN
    have ih := roomN_bit O k i
    by_cases h : O k = 0
    · rw [if_pos h, Nat.testBit_or, ih, Nat.testBit_two_pow]
      by_cases hi : i < k
      · simp [hi, show i < k + 1 by omega, show ¬ k = i by omega]
      · by_cases hk : k = i
        · subst hk; simp [h]
        · simp [hi, hk, show ¬ i < k + 1 by omega]
    · rw [if_neg h, ih]
      by_cases hi : i < k
      · simp [hi, show i < k + 1 by omega]
      · by_cases hk : k = i
        · subst hk; simp [h]
        · simp [hi, show ¬ i < k + 1 by omega]
theorem roomN_filter (O : Nat → Nat) : (List.range 8).filter (fun i => decide (O i = 0)) = bitsL (roomN O 8) := by
  rw [← bits8 _ (roomN_lt O 8)]
  apply List.filter_congr
  intro i hi
  rw [roomN_bit, decide_eq_true (List.mem_range.1 hi)]
  rfl
/-- The document's number for what the program may give. -/
def MRel (M m : Int) : Prop := M = m ∨ (M = 8 ∧ m = 64)
/-- The document's pool: eight frames. -/
structure Rl (B : Nat) (w : World) (b : Nat) (v : Value) (q : Ps) : Prop where
  g : B ≤ b
  o : ∀ i, i < 8 → q.O i < 64
  ev : EvR w v q.E
  gv : ∀ k, v.ownBlock = some k → B ≤ k
  nb : v.ownBlock ≠ some b
  ex : ∃ arr : Array Value, w.heap[b]? = some (.cells arr 87 (0, 0)) ∧ arr.size = 520 ∧ arr[0]? = some (.int .i64 8) ∧ arr[519]? = some v ∧
    (∀ f, f < 8 → arr[1 + f * 2]? = some (.string (q.G f).1) ∧ arr[1 + f * 2 + 1]? = some (.int .u8 (q.G f).2)) ∧
    (∀ f, f < 8 → ∀ e, e < 6 → arr[129 + f * 6 + e]? = some (.bool ((q.O f).testBit e))) ∧
    (∀ e, e < 6 → ∃ m, arr[513 + e]? = some (.int .i64 m) ∧ MRel (MN q e) m)
/-- Its cells. -/
structure RlC (w : World) (b : Nat) (v : Value) (q : Ps) : Prop where
  c0 : w.cell? ⟨b, 0, none⟩ = some (.int .i64 8)
  cv : w.cell? ⟨b, 519, none⟩ = some v
  cg : ∀ f, f < 8 → w.cell? ⟨b, 1 + f * 2, none⟩ = some (.string (q.G f).1) ∧ w.cell? ⟨b, 1 + f * 2 + 1, none⟩ = some (.int .u8 (q.G f).2)
  ch : ∀ f, f < 8 → ∀ e, e < 6 → w.cell? ⟨b, 129 + f * 6 + e, none⟩ = some (.bool ((q.O f).testBit e))
  cm : ∀ e, e < 6 → ∃ m, w.cell? ⟨b, 513 + e, none⟩ = some (.int .i64 m) ∧ MRel (MN q e) m
  fz : ∀ j, w.frozen? ⟨b, j, none⟩ = false
  l : b < w.heap.size
theorem Rl.c {B : Nat} {w : World} {b : Nat} {v : Value} {q : Ps} (h : Rl B w b v q) : RlC w b v q := by
  obtain ⟨arr, h1, h2, h3, h4, h5, h6, h7⟩ := h.ex
  refine ⟨?_, ?_, fun f hf => ?_, fun f hf e he => ?_, fun e he => ?_, fun j => Lib.frozen_of_heap h1 j, (Array.getElem?_eq_some_iff.1 h1).1⟩
  · rw [Lib.cell_of_heap h1]; exact h3
  · rw [Lib.cell_of_heap h1]; exact h4
  · rw [Lib.cell_of_heap h1, Lib.cell_of_heap h1]; exact h5 f hf
  · rw [Lib.cell_of_heap h1]; exact h6 f hf e he
  · obtain ⟨m, h8, h9⟩ := h7 e he
    exact ⟨m, by rw [Lib.cell_of_heap h1]; exact h8, h9⟩
theorem EvR.stay {w w' : World} {v : Value} {L : List Ev} {X : Nat → Prop} (h : EvR w v L) (k : Apart X w w') (hx : ∀ i, v.ownBlock = some i → ¬ X i) : EvR w' v L := by
  rcases h with h | ⟨g, cap, h1, h2, h3, h4⟩
  · exact .inl h
  · refine .inr ⟨g, cap, h1, Nat.lt_of_lt_of_le h2 k.size, h3, fun j u hu => ?_⟩
    rw [World.cell?_of_block (w := w) (k.block g h2 (hx g (by rw [h1]; rfl)))]
    exact h4 j u hu
theorem Rl.stay {B : Nat} {w w' : World} {b : Nat} {v : Value} {q : Ps} {X : Nat → Prop} (h : Rl B w b v q) (k : Apart X w w') (hb : ¬ X b) (hx : ∀ i, v.ownBlock = some i → ¬ X i) : Rl B w' b v q := by
  have hl := h.c.l
  obtain ⟨arr, h1, h2⟩ := h.ex
  exact ⟨h.g, h.o, h.ev.stay k hx, h.gv, h.nb, arr, (k.block b hl hb).trans h1, h2⟩
theorem Rl.low {B : Nat} {w w' : World} {b : Nat} {v : Value} {q : Ps} (h : Rl B w b v q) (k : Below w.heap.size w w') : Rl B w' b v q := h.stay (Apart.of_below (X := fun _ => False) k) id (fun _ _ => id)
/-- What a call that changes it comes to. -/
structure RStp (B : Nat) (w w' : World) (b : Nat) (v : Value) (q' : Ps) : Prop where
  out : ∃ v', Rl B w' b v' q' ∧ ∀ k, v'.ownBlock = some k → v.ownBlock = some k ∨ w.heap.size ≤ k
  ap : Apart (fun k => k = b) w w'
theorem RStp.same {B : Nat} {w w' : World} {b : Nat} {v : Value} {q : Ps} (h : Rl B w b v q) (k : Below w.heap.size w w') : RStp B w w' b v q := ⟨⟨v, h.low k, fun _ e => .inl e⟩, Apart.of_below k⟩
theorem RStp.pre {B : Nat} {w w1 w' : World} {b : Nat} {v : Value} {q' : Ps} (k : Below w.heap.size w w1) (h : RStp B w1 w' b v q') : RStp B w w' b v q' := by
  obtain ⟨v', h1, h2⟩ := h.out
  exact ⟨⟨v', h1, fun k' e => (h2 k' e).imp id (fun h => Nat.le_trans k.size h)⟩, (Apart.of_below k).trans h.ap⟩
theorem RStp.then {B : Nat} {w w1 w' : World} {b : Nat} {v v1 : Value} {q' : Ps} (k : Apart (fun i => i = b) w w1) (hv : ∀ k, v1.ownBlock = some k → v.ownBlock = some k ∨ w.heap.size ≤ k) (h : RStp B w1 w' b v1 q') : RStp B w w' b v q' := by
  obtain ⟨v', h1, h2⟩ := h.out
  refine ⟨⟨v', h1, fun k' e => ?_⟩, k.trans h.ap⟩
  rcases h2 k' e with e1 | e1
  · exact hv k' e1
  · exact .inr (Nat.le_trans k.size e1)
set_option maxHeartbeats 1000000 in
theorem may_any (b : Nat) (v : Value) (q : Ps) (e f : Nat) (hf : f ≤ 255) (w : World) (h : RlC w b v q) : Calls Tryd.prog 59 #[.pointer (some ⟨b, 0, none⟩), .int .u8 e, .int .u8 f] w fun r w' => r = .returned (.int .i64 (thE 8 e f)) ∧ w' = w := by
  have c0 := h.c0
  have hb := h.l
  have hfz : (f : Int) ≤ 255 := by omega
  unfold thE
  clear h
  by_cases h6 : 6 ≤ e
  · have h6z : (6 : Int) ≤ (e : Int) := by omega
    rw [if_pos (.inl h6)]
    go_enter Tryd.func59, Tryd.ntmps59
    go_wp2
    go_ret
    exact ⟨rfl, rfl⟩
  · have h6z : ¬ (6 : Int) ≤ (e : Int) := by omega
    by_cases hn : 8 ≤ f
    · have hnz : (8 : Int) ≤ (f : Int) := by omega
      rw [if_pos (.inr hn)]
      go_enter Tryd.func59, Tryd.ntmps59
      go_wp2
      go_ret
      exact ⟨rfl, rfl⟩
    · have hnz : ¬ (8 : Int) ≤ (f : Int) := by omega
      rw [if_neg (by omega)]
      go_enter Tryd.func59, Tryd.ntmps59
      go_wp2
      go_ret
      exact ⟨rfl, rfl⟩
theorem thE_ok {e f : Nat} (he : e < 6) (hf : f < 8) : thE 8 e f = 0 := by unfold thE; rw [if_neg (by omega)]
theorem thE_bad {e f : Nat} (h : 6 ≤ e ∨ 8 ≤ f) : thE 8 e f = 2 := by unfold thE; rw [if_pos h]
end Go.Proofs.YtalhlbhhgddddaaDoor
