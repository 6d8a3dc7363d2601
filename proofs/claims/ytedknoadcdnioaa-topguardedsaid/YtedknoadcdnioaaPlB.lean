/- The program's pool in memory; there, owners, Holds, held, full. -/
import Derived.Test.YtedknoadcdnioaaPlA
import Derived.Deep.RegionHeld3
namespace Go.Proofs.Ytedknoadcdnioaa
open Go.RowKit Go.Maps
set_option linter.unusedVariables false
set_option maxRecDepth 100000
abbrev Ev := Int × Int × Int
/-- Who has which frames (a bit each), behind which guard, how many each may have, what became of them. -/
structure Ps where
  O : Nat → Nat
  G : Nat → ByteArray × Int
  M : Fin 6 → Int
  E : List Ev
def evC (x : Ev) : List Value := [.int .u8 x.1, .int .u8 x.2.1, .int .u8 x.2.2]
def evCs (l : List Ev) : List Value := l.flatMap evC
theorem evCs_app (l : List Ev) (x : Ev) : evCs (l ++ [x]) = evCs l ++ evC x := by simp [evCs]
/-- The frames' block. -/
def Fr (w : World) (fb n : Nat) (O : Nat → Nat) (G : Nat → ByteArray × Int) : Prop := ∃ arr : Array Value, w.heap[fb]? = some (.cells arr 49 (0, 0)) ∧ arr.size = n * 3 ∧ ∀ i, i < n → arr[i * 3]? = some (.int .u64 (O i)) ∧ arr[i * 3 + 1]? = some (.string (G i).1) ∧ arr[i * 3 + 2]? = some (.int .u8 (G i).2)
theorem Fr.lt {w : World} {fb n : Nat} {O : Nat → Nat} {G : Nat → ByteArray × Int} (h : Fr w fb n O G) : fb < w.heap.size := by
  obtain ⟨_, h1, _⟩ := h
  exact (Array.getElem?_eq_some_iff.1 h1).1
theorem Fr.stay {w w' : World} {fb n : Nat} {O : Nat → Nat} {G : Nat → ByteArray × Int} {X : Nat → Prop} (h : Fr w fb n O G) (k : Apart X w w') (hx : ¬ X fb) : Fr w' fb n O G := by
  have hl := h.lt
  obtain ⟨arr, h1, h2⟩ := h
  exact ⟨arr, (k.block fb hl hx).trans h1, h2⟩
theorem Fr.below {w w' : World} {fb n : Nat} {O : Nat → Nat} {G : Nat → ByteArray × Int} (h : Fr w fb n O G) (k : Below w.heap.size w w') : Fr w' fb n O G := h.stay (Apart.of_below (X := fun _ => False) k) id
theorem Fr.at {w : World} {fb n : Nat} {O : Nat → Nat} {G : Nat → ByteArray × Int} (h : Fr w fb n O G) (i : Nat) (hi : i < n) : w.cell? ⟨fb, i * 3, none⟩ = some (.int .u64 (O i)) ∧ w.cell? ⟨fb, i * 3 + 1, none⟩ = some (.string (G i).1) ∧ w.cell? ⟨fb, i * 3 + 2, none⟩ = some (.int .u8 (G i).2) := by
  obtain ⟨arr, h1, _, h3⟩ := h
  rw [Lib.cell_of_heap h1, Lib.cell_of_heap h1, Lib.cell_of_heap h1]
  exact h3 i hi
theorem Fr.f {w : World} {fb n : Nat} {O : Nat → Nat} {G : Nat → ByteArray × Int} (h : Fr w fb n O G) (j : Nat) : w.frozen? ⟨fb, j, none⟩ = false := by
  obtain ⟨arr, h1, _⟩ := h
  exact Lib.frozen_of_heap h1 j
def poolCs (fb n : Nat) (M : Fin 6 → Int) (v : Value) : List Value := [.slice (some ⟨fb, 0, none⟩) n n, .int .i64 (M 0), .int .i64 (M 1), .int .i64 (M 2), .int .i64 (M 3), .int .i64 (M 4), .int .i64 (M 5), v]
/-- The program's pool. -/
structure Pl (B : Nat) (w : World) (b fb n : Nat) (v : Value) (q : Ps) : Prop where
  g : B ≤ b
  gf : B ≤ fb
  c : Cl w b 41 (poolCs fb n q.M v)
  f : Fr w fb n q.O q.G
  e : w.ownsRow B 78 3 v q.E.length (evCs q.E)
  o : ∀ i, i < n → q.O i < 64
  n9 : n ≤ 9
theorem own_low {w w' : World} {B e size n : Nat} {v : Value} {xs : List Value} (h : w.ownsRow B e size v n xs) (hb : Below w.heap.size w w') : w'.ownsRow B e size v n xs := h.kept (⟨hb.os, hb.tape, hb.output, hb.size, fun k hk _ => hb.block k hk⟩ : w.grownBy w' none) (Classical.em _)
theorem Pl.low {B : Nat} {w w' : World} {b fb n : Nat} {v : Value} {q : Ps} (h : Pl B w b fb n v q) (k : Below w.heap.size w w') : Pl B w' b fb n v q := ⟨h.g, h.gf, h.c.below k, h.f.below k, own_low h.e k, h.o, h.n9⟩
theorem Pl.cells {B : Nat} {w : World} {b fb n : Nat} {v : Value} {q : Ps} (h : Pl B w b fb n v q) : w.cell? ⟨b, 0, none⟩ = some (.slice (some ⟨fb, 0, none⟩) n n) ∧ w.cell? ⟨b, 7, none⟩ = some v := ⟨h.c.cell 0, h.c.cell 7⟩
def thE (n e f : Nat) : Int := if 6 ≤ e ∨ n ≤ f then 2 else 0
set_option maxHeartbeats 1000000 in
theorem there_any (B b fb n : Nat) (v : Value) (q : Ps) (e f : Nat) (hf : f ≤ 255) (w : World) (h : Pl B w b fb n v q) : Calls Try.prog 11 #[.pointer (some ⟨b, 0, none⟩), .int .u8 e, .int .u8 f] w fun r w' => r = .returned (.int .i64 (thE n e f)) ∧ w' = w := by
  have c0 := h.cells.1
  have hb := h.c.lt
  have hfz : (f : Int) ≤ 255 := by omega
  unfold thE
  clear h
  by_cases h6 : 6 ≤ e
  · have h6z : (6 : Int) ≤ (e : Int) := by omega
    rw [if_pos (.inl h6)]
    go_enter Try.func11, Try.ntmps11
    go_wp2
    go_ret
    exact ⟨rfl, rfl⟩
  · have h6z : ¬ (6 : Int) ≤ (e : Int) := by omega
    by_cases hn : n ≤ f
    · have hnz : (n : Int) ≤ (f : Int) := by omega
      rw [if_pos (.inr hn)]
      go_enter Try.func11, Try.ntmps11
      go_wp2
      go_ret
      exact ⟨rfl, rfl⟩
    · have hnz : ¬ (n : Int) ≤ (f : Int) := by omega
      rw [if_neg (by omega)]
      go_enter Try.func11, Try.ntmps11
      go_wp2
      go_ret
      exact ⟨rfl, rfl⟩
def oF (n : Nat) (q : Ps) (f : Nat) : Nat := if f < n then q.O f else 0
set_option maxHeartbeats 1000000 in
theorem owners_any (B b fb n : Nat) (v : Value) (q : Ps) (f : Nat) (hf : f ≤ 255) (w : World) (h : Pl B w b fb n v q) : Calls Try.prog 17 #[.pointer (some ⟨b, 0, none⟩), .int .u8 f] w fun r w' => r = .returned (.int .u64 (oF n q f)) ∧ w' = w := by
  have c0 := h.cells.1
  have hb := h.c.lt
  have hfl := h.f.lt
  have hfz : (f : Int) ≤ 255 := by omega
  unfold oF
  by_cases hn : f < n
  · have hnz : ¬ (n : Int) ≤ (f : Int) := by omega
    have hnz2 : (f : Int) < (n : Int) := by omega
    have cf := (h.f.at f hn).1
    rw [if_pos hn]
    clear h
    go_enter Try.func17, Try.ntmps17
    go_wp2
    go_ret
    exact ⟨rfl, rfl⟩
  · have hnz : (n : Int) ≤ (f : Int) := by omega
    rw [if_neg hn]
    clear h
    go_enter Try.func17, Try.ntmps17
    go_wp2
    go_ret
    exact ⟨rfl, rfl⟩
theorem oF_lt {B : Nat} {w : World} {b fb n : Nat} {v : Value} {q : Ps} (h : Pl B w b fb n v q) (f : Nat) : oF n q f < 64 := by
  unfold oF
  split
  · exact h.o f (by assumption)
  · omega
/-- The frames below k that one has. -/
def heldN (O : Nat → Nat) (e : Nat) : Nat → Nat
  | 0 => 0
  | k + 1 => if (O k).testBit e then heldN O e k ||| 2 ^ k else heldN O e k
theorem heldN_lt (O : Nat → Nat) (e : Nat) : ∀ k, heldN O e k < 2 ^ k
  | 0 => by simp [heldN]
  | k + 1 => by
    have ih := heldN_lt O e k
    have h2 : 2 ^ k < 2 ^ (k + 1) := Nat.pow_lt_pow_right (by omega) (by omega)
    unfold heldN
    split
    · exact Nat.or_lt_two_pow (by omega) h2
    · omega
set_option maxHeartbeats 1000000 in
theorem held1_any (s e bx : Nat) (hs : s < 64) (w : World) (hc : w.cell? ⟨bx, 0, none⟩ = some (.int .u8 e)) : Calls Try.prog 36 #[.int .u64 s, .pointer (some ⟨bx, 0, none⟩)] w fun r w' => r = .returned (.bool (s.testBit e)) ∧ w' = w := by
  have cH := has_all s e (by omega) w
  generalize s.testBit e = tb at *
  have hl := World.block_lt_of_cell? w _ hc
  simp only at hl
  go_enter Try.func36, Try.ntmps36
  go_wp2_with fail
  refine cH.mono ?_
  rintro r w' ⟨rfl, rfl⟩
  clear cH
  go_wp2
  go_ret
  exact ⟨rfl, rfl⟩
set_option maxHeartbeats 4000000 in
theorem those_any (B b fb n : Nat) (v : Value) (q : Ps) (e bx : Nat) (w : World) (h : Pl B w b fb n v q) (hc : w.cell? ⟨bx, 0, none⟩ = some (.int .u8 e)) : Calls Try.prog 35 #[.pointer (some ⟨b, 0, none⟩), .func (.func 36) #[] #[.pointer (some ⟨bx, 0, none⟩)]] w fun r w' => r = .returned (.int .u64 (heldN q.O e n)) ∧ Below w.heap.size w w' := by
  have c0 := h.cells.1
  have hb := h.c.lt
  have HP := Hid3.mk h
  have hbx := World.block_lt_of_cell? w _ hc
  have HC := Hid3.mk hc
  simp only at hbx
  clear h hc
  go_enter Try.func35, Try.ntmps35
  go_wp2_with fail
  go_loopw [5, 13] (fun s5 s13 wr => ∃ k : Nat, k ≤ n ∧ s13 = .int .i64 k ∧ s5 = .int .u64 (heldN q.O e k) ∧ Hid3 (Below w.heap.size w wr)) (fun _ s _ => n - (intOf s).toNat)
  case atStart => exact ⟨0, Nat.zero_le _, rfl, rfl, ⟨Below.refl _ _⟩⟩
  case round =>
    obtain ⟨k, hk, rfl, rfl, HB⟩ := hrel
    by_cases hlt : k < n
    · have hltz : (k : Int) < (n : Int) := by omega
      have hn9 := HP.out.n9
      have hP := HP.out.low HB.out
      obtain ⟨f0, f1, f2⟩ := hP.f.at k hlt
      have hfl := hP.f.lt
      have ho := hP.o k hlt
      have hE : heldN q.O e (k + 1) = if (q.O k).testBit e then heldN q.O e k ||| 2 ^ k else heldN q.O e k := rfl
      have hh := heldN_lt q.O e k
      have hp2 : 2 ^ k ≤ 2 ^ 9 := Nat.pow_le_pow_right (by omega) (by omega)
      have hor := bits_or_u64_nat (heldN q.O e k) (powZ k) (by omega) (powZ_lt k)
      have hpz : powZ k = 2 ^ k := by unfold powZ; rw [if_pos (by omega)]
      have cO := fun W => of_all k W
      have hwk : IntKind.u8.wrap (k : Int) = (k : Int) := by rw [IntKind.wrap_u8]; omega
      have hwi : IntKind.i64.wrap ((k : Int) + 1) = ((k + 1 : Nat) : Int) := by rw [IntKind.wrap_i64]; omega
      have HX := Hid3.mk (HB.out.alloc HB.out.size (.cells #[.int .u64 (q.O k), .string (q.G k).1, .int .u8 (q.G k).2] 49))
      have cF := held1_any (q.O k) e bx ho (wr.alloc (.cells #[.int .u64 (q.O k), .string (q.G k).1, .int .u8 (q.G k).2] 49)) ((HX.out.cell (p := ⟨bx, 0, none⟩) hbx).trans HC.out)
      rw [hpz] at hor cO
      have HE := Hid3.mk hE
      generalize q.O k = ok at *
      generalize (q.G k).1 = gk at *
      generalize (q.G k).2 = rk at *
      clear hP hE hpz hp2 hh
      generalize heldN q.O e k = hk0 at *
      generalize 2 ^ k = pk at *
      cases ht : ok.testBit e with
      | true =>
        rw [ht] at cF
        have HE2 : Hid3 (heldN q.O e (k + 1) = hk0 ||| pk) := ⟨by rw [HE.out, ht]; rfl⟩
        clear ht HE
        generalize hk0 ||| pk = hk1 at *
        go_wp2_with fail
        refine cF.mono ?_
        rintro r w' ⟨rfl, rfl⟩
        clear cF
        go_wp2_with fail
        refine (cO _).mono ?_
        rintro r w' ⟨rfl, rfl⟩
        clear cO
        go_wp2
        go_roundw
        case rel => exact ⟨k + 1, by omega, by go_num, by rw [HE2.out], HX⟩
        case measure => simp [intOf]; omega
      | false =>
        rw [ht] at cF
        have HE2 : Hid3 (heldN q.O e (k + 1) = hk0) := ⟨by rw [HE.out, ht]; rfl⟩
        clear ht HE hor
        go_wp2_with fail
        refine cF.mono ?_
        rintro r w' ⟨rfl, rfl⟩
        clear cF
        go_wp2
        go_roundw
        case rel => exact ⟨k + 1, by omega, by go_num, by rw [HE2.out], HX⟩
        case measure => simp [intOf]; omega
    · obtain rfl : k = n := by omega
      go_wp2
      go_ret
      exact ⟨rfl, HB.out⟩
set_option maxHeartbeats 1000000 in
theorem held_any (B b fb n : Nat) (v : Value) (q : Ps) (e : Nat) (w : World) (h : Pl B w b fb n v q) : Calls Try.prog 23 #[.pointer (some ⟨b, 0, none⟩), .int .u8 e] w fun r w' => r = .returned (.int .u64 (heldN q.O e n)) ∧ Below w.heap.size w w' := by
  have hX := below_new w (.cells #[.int .u8 e] 5)
  have cT := those_any B b fb n v q e w.heap.size _ (h.low hX) ((Cl.new w 5 [.int .u8 e]).cell 0)
  have HX := Hid3.mk hX
  generalize (heldN q.O e n : Int) = z at *
  clear h hX
  go_enter Try.func23, Try.ntmps23
  go_wp2_with fail
  refine cT.mono ?_
  rintro r w' ⟨rfl, hB⟩
  have HB := Hid3.mk (HX.out.trans (hB.mono HX.out.size))
  clear cT hB HX
  go_wp2
  go_ret
  exact ⟨rfl, HB.out⟩
def fullB (n : Nat) (q : Ps) (e : Fin 6) : Bool := decide (q.M e ≤ (pop9 (heldN q.O e.1 n) : Int))
theorem Pl.may {B : Nat} {w : World} {b fb n : Nat} {v : Value} {q : Ps} (h : Pl B w b fb n v q) (e : Fin 6) : w.cell? ⟨b, 1 + e.1, none⟩ = some (.int .i64 (q.M e)) := by
  rw [h.c.cell]
  exact (show ∀ e : Fin 6, (poolCs fb n q.M v)[1 + e.1]? = some (.int .i64 (q.M e)) from fun | 0 => rfl | 1 => rfl | 2 => rfl | 3 => rfl | 4 => rfl | 5 => rfl) e
set_option maxHeartbeats 2000000 in
theorem full_any (B b fb n : Nat) (v : Value) (q : Ps) (e : Fin 6) (w : World) (h : Pl B w b fb n v q) : Calls Try.prog 13 #[.pointer (some ⟨b, 0, none⟩), .int .u8 e.1] w fun r w' => r = .returned (.bool (fullB n q e)) ∧ Below w.heap.size w w' := by
  have HP := Hid3.mk h
  have cH := held_any B b fb n v q e.1 w.drew (h.low (Below.refl _ w).drew)
  have hh : heldN q.O e.1 n < 512 := by
    have h1 := heldN_lt q.O e.1 n
    have h2 : 2 ^ n ≤ 2 ^ 9 := Nat.pow_le_pow_right (by omega) h.n9
    omega
  have cS := fun W => size_any (heldN q.O e.1 n) hh W
  have hS0 := Hid3.mk (h.low (Below.refl _ w).drew |>.may e)
  have HS : Hid3 (∀ W, Below w.heap.size w W → W.cell? ⟨b, 1 + e.1, none⟩ = some (.int .i64 (q.M e))) := ⟨fun W hW => (HP.out.low hW).may e⟩
  have hb := h.c.lt
  have he := e.2
  have hez : ((e.1 : Nat) : Int) < 6 := by omega
  unfold fullB
  generalize q.M e = me at *
  generalize pop9 (heldN q.O e.1 n) = pn at *
  generalize heldN q.O e.1 n = hd at *
  clear h hh
  generalize e.1 = en at *
  go_enter Try.func13, Try.ntmps13
  go_wp2_with fail
  go_region_held3 (fun w' => w'.cell? ⟨b, 1 + en, none⟩ = some (.int .i64 me)) (with_reducible (first | exact hS0.out | exact hS1.out)) ((first
    | (go_at_call 23; (with_reducible refine cH.mono ?_); rintro r W1 ⟨rfl, hB1⟩; have HB1 : Hid3 (Below w.heap.size w W1) := ⟨((Below.refl _ w).drew).trans hB1⟩; have hS1 := Hid3.mk (HS.out W1 HB1.out); clear hB1)
    | (go_at_call 24; (with_reducible refine (cS _).mono ?_); rintro r W2 ⟨rfl, rfl⟩)))
  all_goals
    go_wp2
    go_ret
    exact ⟨rfl, HB1.out⟩
end Go.Proofs.Ytedknoadcdnioaa
