/- PoolQuota: names of any length, what is kept, the walk; deeds as they come in, with the sizes of their names. -/
import Derived.Test.YtalhlbhhgddddaaDoorLawPlL
import Derived.Test.YtalhlbhhgddddaaDoorPlIn2
namespace Go.Proofs.YtalhlbhhgddddaaDoor
open Go.RowKit Go.Shelf Go.Maps
set_option linter.unusedVariables false
set_option maxRecDepth 100000
theorem split_someB (s : ByteArray) (w : World) (hs : s.size ≤ 9223372036854775807) {ls : List (List UInt8)} (h : splitO s.data.toList = some ls) :
    Calls Tryd.prog 63 #[.string s] w fun e W' => ∃ a cap, e = .returned (.tuple #[.slice a ls.length cap, .int .i64 0]) ∧ W'.ownsRow w.heap.size 9 1 (.slice a ls.length cap) ls.length (ls.map strV) ∧ Below w.heap.size w W' := by
  refine (split_any s w (by omega)).mono ?_
  rintro e W' ⟨v, err, rfl, hS, hB⟩
  rw [h] at hS
  obtain ⟨rfl, hown⟩ := hS
  obtain ⟨a, cap, rfl⟩ : ∃ a cap, v = .slice a ls.length cap := by
    rcases hown.2 with ⟨hv, h0⟩ | ⟨g, cap, cur, hv, _⟩
    · exact ⟨none, 0, by rw [h0]; exact hv⟩
    · exact ⟨_, _, hv⟩
  exact ⟨a, cap, rfl, hown, hB⟩
theorem split_noneB (s : ByteArray) (w : World) (hs : s.size ≤ 9223372036854775807) (h : splitO s.data.toList = none) :
    Calls Tryd.prog 63 #[.string s] w fun e W' => e = .returned (.tuple #[.slice none 0 0, .int .i64 3]) ∧ Below w.heap.size w W' := by
  refine (split_any s w (by omega)).mono ?_
  rintro e W' ⟨v, err, rfl, hS, hB⟩
  rw [h] at hS
  obtain ⟨rfl, rfl⟩ := hS
  exact ⟨rfl, hB⟩

theorem right_big (n : ByteArray) (r : Int) (w : World) (hn : n.size ≤ 9223372036854775807) :
    Calls Tryd.prog 45 #[capV n r] w fun e W' => e = .returned (.bool (rightB n.data.toList r)) ∧ Below w.heap.size w W' := by
  unfold rightB capV
  cases h : splitO n.data.toList with
  | none =>
    have cS := fun w => split_noneB n w hn h
    clear h
    go_enter Tryd.func45, Tryd.ntmps45
    go_wp2_with fail
    refine (cS _).mono ?_
    rintro e W' ⟨rfl, hB⟩
    rw [World.size_alloc] at hB
    go_wp2
    go_ret
    exact ⟨rfl, ((Below.refl _ w).alloc (Nat.le_refl _) _).trans (hB.mono (by omega))⟩
  | some ls =>
    have cS := fun w => split_someB n w hn h
    clear h
    go_enter Tryd.func45, Tryd.ntmps45
    go_wp2_with fail
    refine (cS _).mono ?_
    rintro e W' ⟨a, cap, rfl, hown, hB⟩
    rw [World.size_alloc] at hB
    obtain ⟨h0, h1⟩ := (CapAt.new w n r _).below hB (by omega)
    clear hown
    go_wp2
    go_ret
    exact ⟨by simp, ((Below.refl _ w).alloc (Nat.le_refl _) _).trans (hB.mono (by omega))⟩


/-! Rights as eight bits. -/

set_option maxHeartbeats 8000000 in
theorem grant_big (B b fb n : Nat) (v : Value) (q : Ps) (e f : Nat) (c : ByteArray × Int) (w : World) (h : Pl B w b fb n v q) (hf : f ≤ 255) (hc : c.1.size ≤ 9223372036854775807) (hl : q.E.length ≤ 1000) (hB : B ≤ w.heap.size) : Calls Tryd.prog 16 #[.pointer (some ⟨b, 0, none⟩), .int .u8 e, .int .u8 f, .agg #[.string c.1, .int .u8 c.2]] w fun r w' => r = .returned (.int .i64 (grE n q e f c)) ∧ PStp B w w' b fb n v (grQ n q e f c) := by
  have hX := below_new w (.cells #[.string c.1, .int .u8 c.2] 43)
  have HK0 : Hid3 (Kb B w (w.alloc (.cells #[.string c.1, .int .u8 c.2] 43)) b fb n w.heap.size v q c) := ⟨⟨h.low hX, Two.new w _ _ _, hX⟩⟩
  have HP := Hid3.mk h
  have cT := there_any B b fb n v q e f hf _ (h.low hX)
  have cR := fun W => right_big c.1 c.2 W hc
  unfold capV at cR
  have HQ : Hid3 (∀ W, Below w.heap.size w W → PStp B w W b fb n v q) := ⟨fun W hW => PStp.same HP.out hW⟩
  unfold grQ grE
  unfold thE at cT
  have hbl := h.c.lt
  clear h hX
  by_cases hg : 6 ≤ e ∨ n ≤ f
  · rw [if_pos hg] at cT ⊢
    rw [if_neg (by decide)]
    go_enter Tryd.func16, Tryd.ntmps16
    go_wp2_with fail
    refine cT.mono ?_
    rintro r w' ⟨rfl, rfl⟩
    clear cT
    go_wp2
    go_ret
    exact ⟨rfl, HQ.out _ HK0.out.bl⟩
  · rw [if_neg hg] at cT ⊢
    have he6 : e < 6 := by omega
    have hfn : f < n := by omega
    cases hr : rightB c.1.data.toList c.2 with
    | false =>
      rw [hr] at cR
      rw [if_pos rfl, if_neg (by decide)]
      have b0 := HK0.out.x.c0
      have b1 := HK0.out.x.c1
      go_enter Tryd.func16, Tryd.ntmps16
      go_wp2_with fail
      refine cT.mono ?_
      rintro r w' ⟨rfl, rfl⟩
      clear cT
      go_wp2_with fail
      refine (cR _).mono ?_
      rintro r W1 ⟨rfl, hB1⟩
      have HK1 := Hid3.mk (HK0.out.low hB1)
      clear hB1 cR b0 b1
      go_wp2
      go_ret
      exact ⟨rfl, HQ.out _ HK1.out.bl⟩
    | true =>
      rw [hr] at cR
      rw [if_neg (by decide)]
      have b0 := HK0.out.x.c0
      have b1 := HK0.out.x.c1
      have hfz : (f : Int) < (n : Int) := by omega
      by_cases ho : q.O f = 0
      · rw [if_neg (by simpa using ho)]
        have cF := fun W (hW : Kb B w W b fb n w.heap.size v q c) => fulln_any B b fb n v q e he6 W hW.p
        cases hfu : fullN n q e with
        | true =>
          rw [hfu] at cF
          rw [if_pos rfl, if_neg (by decide)]
          go_enter Tryd.func16, Tryd.ntmps16
          go_wp2_with fail
          refine cT.mono ?_
          rintro r w' ⟨rfl, rfl⟩
          clear cT
          go_wp2_with fail
          refine (cR _).mono ?_
          rintro r W1 ⟨rfl, hB1⟩
          have HK1 := Hid3.mk (HK0.out.low hB1)
          have c0 := HK1.out.p.cells.1
          have cf := (HK1.out.p.f.at f hfn).1
          rw [ho] at cf
          have hl1 := HK1.out.p.c.lt
          have hl2 := HK1.out.p.f.lt
          clear hB1 cR b0 b1
          go_wp2_with fail
          refine (cF _ HK1.out).mono ?_
          rintro r W2 ⟨rfl, hB2⟩
          have HK2 := Hid3.mk (HK1.out.low hB2)
          clear hB2 cF c0 cf
          go_wp2
          go_ret
          exact ⟨rfl, HQ.out _ HK2.out.bl⟩
        | false =>
          rw [hfu] at cF
          rw [if_neg (by decide), if_pos rfl]
          go_enter Tryd.func16, Tryd.ntmps16
          go_wp2_with fail
          refine cT.mono ?_
          rintro r w' ⟨rfl, rfl⟩
          clear cT
          go_wp2_with fail
          refine (cR _).mono ?_
          rintro r W1 ⟨rfl, hB1⟩
          have HK1 := Hid3.mk (HK0.out.low hB1)
          have c0 := HK1.out.p.cells.1
          have cf := (HK1.out.p.f.at f hfn).1
          rw [ho] at cf
          have hl1 := HK1.out.p.c.lt
          have hl2 := HK1.out.p.f.lt
          clear hB1 cR b0 b1
          go_wp2_with fail
          refine (cF _ HK1.out).mono ?_
          rintro r W2 ⟨rfl, hB2⟩
          have HK2 := Hid3.mk (HK1.out.low hB2)
          clear hB2 cF c0 cf hl1 hl2
          go_wp2_with fail
          have hK3 := HK2.out.low (Below.refl _ W2).drew
          have c0 := hK3.p.cells.1
          obtain ⟨_, g1, g2⟩ := hK3.p.f.at f hfn
          have gf1 := hK3.p.f.f (f * 3 + 1)
          have gf2 := hK3.p.f.f (f * 3 + 1 + 1)
          have g3 : W2.cell? ⟨fb, f * 3 + 1 + 1, none⟩ = some (.int .u8 (q.G f).2) := g2
          have gf3 : W2.frozen? ⟨fb, f * 3 + 1 + 1, none⟩ = false := gf2
          have b0 := hK3.x.c0
          have b1 := hK3.x.c1
          have hl1 := HK2.out.p.c.lt
          have hl2 := HK2.out.p.f.lt
          have hl3 := two_lt HK2.out.x
          have hst : PStp B W2.drew ((W2.drew.setCell ⟨fb, f * 3 + 1, none⟩ (.string c.1)).setCell ⟨fb, f * 3 + 1 + 1, none⟩ (.int .u8 c.2)) b fb n v ⟨q.O, updN q.G f c, q.M, q.E⟩ := hK3.p.frame (q' := ⟨q.O, updN q.G f c, q.M, q.E⟩) ((Apart.at (X := fun i => i = fb) _ fb _ _ rfl).trans (Apart.at (X := fun i => i = fb) _ fb _ _ rfl)) (hK3.p.f.setG f hfn c.1 c.2) HP.out.o rfl rfl
          have HS3 : Hid3 (PStp B w ((W2.setCell ⟨fb, f * 3 + 1, none⟩ (.string c.1)).setCell ⟨fb, f * 3 + 1 + 1, none⟩ (.int .u8 c.2)).drew b fb n v ⟨q.O, updN q.G f c, q.M, q.E⟩) := ⟨PStp.pre (HK2.out.bl.drew) hst⟩
          clear hK3 hst
          generalize (q.G f).1 = og at *
          generalize (q.G f).2 = orr at *
          go_region
          clear c0 g1 g2 g3 gf1 gf2 gf3 b0 b1
          generalize ((W2.setCell ⟨fb, f * 3 + 1, none⟩ (.string c.1)).setCell ⟨fb, f * 3 + 1 + 1, none⟩ (.int .u8 c.2)).drew = W3 at *
          obtain ⟨v1, hP1, hv1⟩ := HS3.out.out
          have HP1 := Hid3.mk hP1
          have HV1 := Hid3.mk hv1
          have cG := give_any B b fb n v1 ⟨q.O, updN q.G f c, q.M, q.E⟩ 1 e f W3 hP1 he6 hfn hl (Nat.le_trans hB HS3.out.ap.size)
          clear hP1 hv1
          go_wp2_with fail
          refine cG.mono ?_
          rintro r W4 ⟨rfl, hG⟩
          have HG := Hid3.mk hG
          clear hG cG
          go_wp2
          go_ret
          exact ⟨rfl, PStp.then HS3.out.ap HV1.out HG.out⟩
      · rw [if_pos ho, if_neg (by decide)]
        have hoz : (((q.O f : Nat) : Int) != 0) = true := by simpa using ho
        go_enter Tryd.func16, Tryd.ntmps16
        go_wp2_with fail
        refine cT.mono ?_
        rintro r w' ⟨rfl, rfl⟩
        clear cT
        go_wp2_with fail
        refine (cR _).mono ?_
        rintro r W1 ⟨rfl, hB1⟩
        have HK1 := Hid3.mk (HK0.out.low hB1)
        have c0 := HK1.out.p.cells.1
        have cf := (HK1.out.p.f.at f hfn).1
        have hl1 := HK1.out.p.c.lt
        have hl2 := HK1.out.p.f.lt
        clear hB1 cR b0 b1
        generalize ((q.O f : Nat) : Int) = ov at *
        go_wp2
        go_ret
        exact ⟨rfl, HQ.out _ HK1.out.bl⟩

def Ok (q : Ps) (e n : Nat) : Prop := pop9 (heldN q.O e 8) ≤ n ∧ MN q e = (n : Int)
theorem or_bit : ∀ x : Nat, x < 64 → ∀ a : Nat, a < 6 → ∀ e : Nat, e < 6 → (x ||| 2 ^ a).testBit e = (x.testBit e || decide (e = a)) := by decide +kernel
theorem pop_or : ∀ x : Nat, x < 256 → ∀ f : Nat, f < 8 → pop9 (x ||| 2 ^ f) ≤ pop9 x + 1 := by decide +kernel
theorem pop_clr8 : ∀ x : Nat, x < 256 → ∀ f : Nat, f < 8 → pop9 (clr x f) ≤ pop9 x := by decide +kernel
theorem or_bit8 : ∀ x : Nat, x < 256 → ∀ f : Nat, f < 8 → (x ||| 2 ^ f) < 256 ∧ ∀ i : Nat, i < 8 → (x ||| 2 ^ f).testBit i = (x.testBit i || decide (i = f)) := by decide +kernel
theorem held_congr (O P : Nat → Nat) (e : Nat) (h : ∀ i, i < 8 → (O i).testBit e = (P i).testBit e) : heldN O e 8 = heldN P e 8 := by
  apply Nat.eq_of_testBit_eq
  intro i
  rw [heldN_bit, heldN_bit]
  by_cases hi : i < 8
  · rw [h i hi]
  · rw [decide_eq_false hi]
    rfl
theorem held_give (O : Nat → Nat) (e f : Nat) (he : e < 6) (hf : f < 8) (ho : O f < 64) : heldN (updN O f (O f ||| 2 ^ e)) e 8 = heldN O e 8 ||| 2 ^ f := by
  apply Nat.eq_of_testBit_eq
  intro i
  obtain ⟨k1, k2⟩ := or_bit8 _ (heldN_256 O e) f hf
  by_cases hi : i < 8
  · rw [k2 i hi, heldN_bit, heldN_bit, decide_eq_true hi]
    unfold updN
    by_cases h : i = f
    · subst h
      rw [if_pos rfl, or_bit _ ho e he e he]
      simp
    · rw [if_neg h]
      simp [h]
  · rw [hi_bit _ i (heldN_256 _ e) (by omega), hi_bit _ i k1 (by omega)]
theorem Ok.give {q : Ps} {e n : Nat} (h : Ok q e n) (k : Int) (a f : Nat) (he : e < 6) (ha : a < 6) (hf : f < 8) (ho : q.O f < 64) (hF : fullN 8 q a ≠ true) : Ok (giveQ k a f q) e n := by
  refine ⟨?_, h.2⟩
  show pop9 (heldN (updN q.O f (q.O f ||| 2 ^ a)) e 8) ≤ n
  by_cases hea : e = a
  · subst hea
    rw [held_give q.O e f he hf ho]
    have h1 := pop_or _ (heldN_256 q.O e) f hf
    unfold fullN at hF
    have hF2 : ¬ MN q e ≤ (pop9 (heldN q.O e 8) : Int) := fun x => hF (decide_eq_true x)
    rw [h.2] at hF2
    omega
  · rw [held_congr _ q.O e (fun i hi => ?_)]
    · exact h.1
    · unfold updN
      by_cases h : i = f
      · subst h
        rw [if_pos rfl, or_bit _ ho a ha e he, decide_eq_false hea, Bool.or_false]
      · rw [if_neg h]
theorem Ok.take {q : Ps} {e n : Nat} (h : Ok q e n) (k : Int) (a f : Nat) (he : e < 6) (ha : a < 6) (hf : f < 8) (ho : q.O f < 64) : Ok (takeQ k a f q) e n := by
  refine ⟨?_, h.2⟩
  show pop9 (heldN (updN q.O f (clr (q.O f) a)) e 8) ≤ n
  by_cases hea : e = a
  · subst hea
    rw [held_take q.O e f he hf ho]
    have h1 := pop_clr8 _ (heldN_256 q.O e) f hf
    have := h.1
    omega
  · rw [held_congr _ q.O e (fun i hi => ?_)]
    · exact h.1
    · unfold updN
      by_cases h : i = f
      · subst h
        rw [if_pos rfl, clr_bit _ ho a ha e he, decide_eq_true hea, Bool.and_true]
      · rw [if_neg h]
theorem Ok.gr {q : Ps} {e n : Nat} (h : Ok q e n) (he : e < 6) (ho : ∀ i, i < 8 → q.O i < 64) (a f : Nat) (c : ByteArray × Int) : Ok (grQ 8 q a f c) e n := by
  unfold grQ
  by_cases hz : grE 8 q a f c = 0
  · rw [if_pos hz]
    unfold grE at hz
    by_cases h1 : 6 ≤ a ∨ 8 ≤ f
    · rw [if_pos h1] at hz; exact absurd hz (by decide)
    · rw [if_neg h1] at hz
      by_cases h2 : rightB c.1.data.toList c.2 = false
      · rw [if_pos h2] at hz; exact absurd hz (by decide)
      · rw [if_neg h2] at hz
        by_cases h3 : q.O f ≠ 0
        · rw [if_pos h3] at hz; exact absurd hz (by decide)
        · rw [if_neg h3] at hz
          by_cases h4 : fullN 8 q a = true
          · rw [if_pos h4] at hz; exact absurd hz (by decide)
          · exact Ok.give (q := ⟨q.O, updN q.G f c, q.M, q.E⟩) ⟨h.1, h.2⟩ 1 a f he (by omega) (by omega) (ho f (by omega)) h4
  · rw [if_neg hz]; exact h
theorem Ok.sh {q : Ps} {e n : Nat} (h : Ok q e n) (he : e < 6) (ho : ∀ i, i < 8 → q.O i < 64) (a c f : Nat) : Ok (shQ 8 q a c f) e n := by
  unfold shQ
  by_cases hz : shE 8 q a c f = 0
  · rw [if_pos hz]
    unfold shE at hz
    by_cases h1 : (6 ≤ a ∨ 6 ≤ c) ∨ 8 ≤ f
    · rw [if_pos h1] at hz; exact absurd hz (by decide)
    · rw [if_neg h1] at hz
      by_cases h2 : (oF 8 q f).testBit a = false
      · rw [if_pos h2] at hz; exact absurd hz (by decide)
      · rw [if_neg h2] at hz
        by_cases h3 : (oF 8 q f).testBit c = true
        · rw [if_pos h3] at hz; exact absurd hz (by decide)
        · rw [if_neg h3] at hz
          by_cases h4 : fullN 8 q c = true
          · rw [if_pos h4] at hz; exact absurd hz (by decide)
          · exact h.give 2 c f he (by omega) (by omega) (ho f (by omega)) h4
  · rw [if_neg hz]; exact h
theorem Ok.fr {q : Ps} {e n : Nat} (h : Ok q e n) (he : e < 6) (ho : ∀ i, i < 8 → q.O i < 64) (a f : Nat) : Ok (frQ 8 q a f) e n := by
  unfold frQ
  by_cases hz : hadE 8 q a f = 0
  · rw [if_pos hz]
    obtain ⟨h1, h2⟩ := hadE_zero hz
    exact h.take 3 a f he h1 h2 (ho f h2)
  · rw [if_neg hz]; exact h
theorem Ok.rp {q : Ps} {e n : Nat} (h : Ok q e n) (he : e < 6) (ho : ∀ i, i < 8 → q.O i < 64) (a f : Nat) : Ok (rpQ 8 q a f) e n := by
  unfold rpQ
  by_cases hz : rpE 8 q a f = 0
  · rw [if_pos hz]
    have hh : hadE 8 q a f = 0 := by
      unfold rpE at hz
      by_cases h0 : hadE 8 q a f = 0
      · exact h0
      · rw [if_neg h0] at hz; exact hz
    obtain ⟨h1, h2⟩ := hadE_zero hh
    exact h.take 4 a f he h1 h2 (ho f h2)
  · rw [if_neg hz]; exact h
theorem lenG (q : Ps) (a f : Nat) (c : ByteArray × Int) : (grQ 8 q a f c).E.length ≤ q.E.length + 1 := by
  unfold grQ giveQ
  split <;> first | omega | (simp only [List.length_append, List.length_cons, List.length_nil]; omega)
theorem lenS (q : Ps) (a c f : Nat) : (shQ 8 q a c f).E.length ≤ q.E.length + 1 := by
  unfold shQ giveQ
  split <;> first | omega | (simp only [List.length_append, List.length_cons, List.length_nil]; omega)
theorem lenF (q : Ps) (a f : Nat) : (frQ 8 q a f).E.length ≤ q.E.length + 1 := by
  unfold frQ takeQ
  split <;> first | omega | (simp only [List.length_append, List.length_cons, List.length_nil]; omega)
theorem lenR (q : Ps) (a f : Nat) : (rpQ 8 q a f).E.length ≤ q.E.length + 1 := by
  unfold rpQ takeQ
  split <;> first | omega | (simp only [List.length_append, List.length_cons, List.length_nil]; omega)
/-- A pool whose environment e has at most n frames, and may have n. -/
structure Qk (w W : World) (b fb e i n : Nat) : Prop where
  ex : ∃ v q, Lv w W b fb 8 v q ∧ Ok q e n ∧ q.E.length ≤ 60 + i
theorem Qk.bl {w W : World} {b fb e i n : Nat} (h : Qk w W b fb e i n) : Below w.heap.size w W := by
  obtain ⟨v, q, hL, _⟩ := h.ex
  exact hL.bl
theorem Qk.low {w W W' : World} {b fb e i n : Nat} (h : Qk w W b fb e i n) (k : Below W.heap.size W W') : Qk w W' b fb e i n := by
  obtain ⟨v, q, hL, h2⟩ := h.ex
  exact ⟨⟨v, q, hL.low k, h2⟩⟩
theorem Qk.up {w W : World} {b fb e i n : Nat} (h : Qk w W b fb e i n) : Qk w W b fb e (i + 1) n := by
  obtain ⟨v, q, hL, h2, h3⟩ := h.ex
  exact ⟨⟨v, q, hL, h2, by omega⟩⟩
theorem Qk.grant {w W : World} {b fb e i n : Nat} (h : Qk w W b fb e i n) (he : e < 6) (hi : i ≤ 20) (a f : Nat) (hf : f ≤ 255) (s : ByteArray) (r : Int) (hs : s.size ≤ 9223372036854775807) : Calls Tryd.prog 16 #[.pointer (some ⟨b, 0, none⟩), .int .u8 a, .int .u8 f, .agg #[.string s, .int .u8 r]] W fun o w' => (∃ z : Int, o = .returned (.int .i64 z)) ∧ Qk w w' b fb e (i + 1) n := by
  obtain ⟨v, q, hL, h2, h3⟩ := h.ex
  refine (grant_big _ b fb 8 v q a f (s, r) W hL.p hf hs (by omega) hL.bl.size).mono ?_
  rintro o w' ⟨hr, hS⟩
  obtain ⟨v', hL'⟩ := hL.step hS
  exact ⟨⟨_, hr⟩, ⟨⟨v', _, hL', h2.gr he hL.p.o a f (s, r), by have := lenG q a f (s, r); omega⟩⟩⟩
theorem Qk.share {w W : World} {b fb e i n : Nat} (h : Qk w W b fb e i n) (he : e < 6) (hi : i ≤ 20) (a c f : Nat) (hf : f ≤ 255) : Calls Tryd.prog 17 #[.pointer (some ⟨b, 0, none⟩), .int .u8 a, .int .u8 c, .int .u8 f] W fun o w' => (∃ z : Int, o = .returned (.int .i64 z)) ∧ Qk w w' b fb e (i + 1) n := by
  obtain ⟨v, q, hL, h2, h3⟩ := h.ex
  refine (share_any _ b fb 8 v q a c f W hL.p hf (by omega) hL.bl.size).mono ?_
  rintro o w' ⟨hr, hS⟩
  obtain ⟨v', hL'⟩ := hL.step hS
  exact ⟨⟨_, hr⟩, ⟨⟨v', _, hL', h2.sh he hL.p.o a c f, by have := lenS q a c f; omega⟩⟩⟩
theorem Qk.free {w W : World} {b fb e i n : Nat} (h : Qk w W b fb e i n) (he : e < 6) (hi : i ≤ 20) (a f : Nat) (hf : f ≤ 255) : Calls Tryd.prog 18 #[.pointer (some ⟨b, 0, none⟩), .int .u8 a, .int .u8 f] W fun o w' => (∃ (y : Bool) (z : Int), o = .returned (.tuple #[.bool y, .int .i64 z])) ∧ Qk w w' b fb e (i + 1) n := by
  obtain ⟨v, q, hL, h2, h3⟩ := h.ex
  refine (free_any _ b fb 8 v q a f W hL.p hf (by omega) hL.bl.size).mono ?_
  rintro o w' ⟨hr, hS⟩
  obtain ⟨v', hL'⟩ := hL.step hS
  exact ⟨⟨_, _, hr⟩, ⟨⟨v', _, hL', h2.fr he hL.p.o a f, by have := lenF q a f; omega⟩⟩⟩
theorem Qk.repo {w W : World} {b fb e i n : Nat} (h : Qk w W b fb e i n) (he : e < 6) (hi : i ≤ 20) (a f : Nat) (hf : f ≤ 255) : Calls Tryd.prog 19 #[.pointer (some ⟨b, 0, none⟩), .int .u8 a, .int .u8 f] W fun o w' => (∃ (y : Bool) (z : Int), o = .returned (.tuple #[.bool y, .int .i64 z])) ∧ Qk w w' b fb e (i + 1) n := by
  obtain ⟨v, q, hL, h2, h3⟩ := h.ex
  refine (repo_any _ b fb 8 v q a f W hL.p hf (by omega) hL.bl.size).mono ?_
  rintro o w' ⟨hr, hS⟩
  obtain ⟨v', hL'⟩ := hL.step hS
  exact ⟨⟨_, _, hr⟩, ⟨⟨v', _, hL', h2.rp he hL.p.o a f, by have := lenR q a f; omega⟩⟩⟩
theorem Qk.frames {w W : World} {b fb e i n : Nat} (h : Qk w W b fb e i n) (hT : TzTab W) : Calls Tryd.prog 14 #[.pointer (some ⟨b, 0, none⟩), .int .u8 e] W fun o w' => ∃ (a : Option Addr) (m c : Nat), o = .returned (.slice a m c) ∧ m ≤ n ∧ Qk w w' b fb e i n := by
  obtain ⟨v, q, hL, h2, h3⟩ := h.ex
  refine (frames_nr _ b fb v q e W hL.p hT).mono ?_
  rintro o w' ⟨u, rfl, hN⟩
  obtain ⟨a, cap, hu, _⟩ := nr_cell hN
  have h256 := heldN_256 q.O e
  refine ⟨a, _, cap, by rw [hu], ?_, ⟨⟨v, q, hL.low hN.bl, h2, h3⟩⟩⟩
  rw [bitsL_len _ (by omega)]
  exact h2.1
theorem quo_ok (q : Ps) (e : Nat) (he : e < 6) : qtE e (((bitsL (heldN q.O e 8)).length : Nat) : Int) = 0 ∧ Ok (qtQ q e (((bitsL (heldN q.O e 8)).length : Nat) : Int)) e (bitsL (heldN q.O e 8)).length ∧ (qtQ q e (((bitsL (heldN q.O e 8)).length : Nat) : Int)).E = q.E := by
  have h256 := heldN_256 q.O e
  have hp := own_few (heldN q.O e 8) (by omega)
  have hq : qtQ q e (((bitsL (heldN q.O e 8)).length : Nat) : Int) = ⟨q.O, q.G, upd q.M ⟨e, he⟩ (((bitsL (heldN q.O e 8)).length : Nat) : Int), q.E⟩ := by
    unfold qtQ
    rw [dif_pos he, if_neg (by omega)]
  refine ⟨by unfold qtE; rw [if_neg (by omega)], ?_, by rw [hq]⟩
  rw [hq]
  refine ⟨?_, ?_⟩
  · show pop9 (heldN q.O e 8) ≤ _
    rw [bitsL_len _ (by omega)]
    exact Nat.le_refl _
  · unfold MN
    rw [dif_pos he]
    simp [upd]
end Go.Proofs.YtalhlbhhgddddaaDoor
namespace Go.Proofs.YtalhlbhhgddddaaDoor
open Go.RowKit Go.Maps
set_option linter.unusedVariables false
set_option maxRecDepth 100000
set_option maxHeartbeats 8000000 in
theorem quota_law (v : Value) (l : List Dd) (en : Nat) (he : en ≤ 255) (v2 : Value) (l2 : List Dd) (w : World) (hd : Dds w v l) (hd2 : Dds w v2 l2 ∧ ∀ d ∈ l2, d.s.size ≤ 9223372036854775807) (hNT : NTabs w) (hT : TzTab w) : Calls Tryd.prog 5 #[v, .int .u8 en, v2] w fun r w' => r = .returned (.bool true) ∧ Below w.heap.size w w' := by
  obtain ⟨e, he0⟩ : ∃ e : Nat, e = en % 6 := ⟨_, rfl⟩
  have he1 : (en : Int) % 6 = (e : Int) := by omega
  have he6 : e < 6 := by omega
  clear he0
  have cP := play_any v l w hd hNT
  obtain ⟨ad, cap, rfl, _⟩ := id hd
  obtain ⟨ad2, cap2, rfl, h8, _⟩ := id hd2.1
  have HT := Hid3.mk hT
  have HD := Hid3.mk hd2.1
  have HS := Hid3.mk hd2.2
  have H8 := Hid3.mk h8
  clear hd hNT hT hd2 h8
  go_enter Tryd.func5, Tryd.ntmps5
  go_wp2_with fail
  refine cP.mono ?_
  rintro r W1 ⟨b, fb, rb, i, rfl, hBo, hi⟩
  have cL := plive_any W1
  have HB := Hid3.mk hBo
  clear cP hBo
  go_wp2_with fail
  refine cL.mono ?_
  rintro r W2 ⟨rfl, hb⟩
  obtain ⟨pv, rv, q, hTw, hRc⟩ := (HB.out.low hb).ex
  have hlen := hRc.len
  have HP : Hid3 (Lv w W2 b fb 8 pv q) := ⟨⟨hTw.p, (HB.out.low hb).bl⟩⟩
  clear cL hb hTw hRc HB
  have c1 := frames_nr _ b fb pv q e W2 HP.out.p (HT.out.low HP.out.bl)
  have h9 := own_few (heldN q.O e 8) (by have := heldN_256 q.O e; omega)
  go_wp2_with fail
  refine c1.mono ?_
  rintro r W3 ⟨u, rfl, hN⟩
  obtain ⟨ua, uc, hu, _⟩ := nr_cell hN
  have HP3 := Hid3.mk (HP.out.low hN.bl)
  subst hu
  clear c1 hN HP
  have cQ := quota_any _ b fb 8 pv q e (((bitsL (heldN q.O e 8)).length : Nat) : Int) W3 HP3.out.p
  obtain ⟨k0, k1, k2⟩ := quo_ok q e he6
  rw [k0] at cQ
  have HK1 := Hid3.mk k1
  clear k0 k1
  generalize qtQ q e (((bitsL (heldN q.O e 8)).length : Nat) : Int) = q2 at *
  generalize (bitsL (heldN q.O e 8)).length = N at *
  go_wp2_with fail
  refine cQ.mono ?_
  rintro r W4 ⟨rfl, hS⟩
  have HQ0 : Hid3 (Qk w W4 b fb e 0 N) := by
    obtain ⟨v4, h4⟩ := HP3.out.step hS
    exact ⟨⟨⟨v4, q2, h4, HK1.out, by rw [k2]; omega⟩⟩⟩
  clear cQ hS HP3 HK1 k2 hlen hi
  go_wp2_with fail
  go_loopw [11] (fun s11 wr => ∃ i : Nat, i ≤ l2.length ∧ i ≤ 20 ∧ s11 = .int .i64 i ∧ Hid3 (Qk w wr b fb e i N)) (fun s _ => 20 - (intOf s).toNat)
  case atStart => exact ⟨0, Nat.zero_le _, by omega, rfl, HQ0⟩
  case round =>
    obtain ⟨i, hil, hi6, rfl, HQ⟩ := hrel
    clear HQ0
    by_cases hlt : i < l2.length
    · have hltz : (i : Int) < (l2.length : Int) := by omega
      by_cases h60 : i < 20
      · have h60z : (i : Int) < 20 := by omega
        obtain ⟨_, _, e0, _, hc⟩ := HD.out.below HQ.out.bl
        injection e0 with e1 e2 e3
        obtain ⟨g, off, e4, c0, c1, c2, c3, c4, c5, c6⟩ := hc i l2[i] (List.getElem?_eq_getElem hlt)
        rw [← e1] at e4
        subst e4
        have hf5 := H8.out _ (List.getElem_mem hlt)
        have hs5 := HS.out _ (List.getElem_mem hlt)
        clear hc e1 e2 e3
        generalize l2[i] = d at *
        obtain ⟨d0, d1, d2, d3, d4, d5, d6⟩ := d
        simp only at c0 c1 c2 c3 c4 c5 c6 hf5 hs5
        have HS5 := Hid3.mk hs5
        clear hs5
        have HQ1 := Hid3.mk (HQ.out.low (below_new wr (.cells #[.int .i64 d0, .int .i64 d1, .int .u8 d2, .int .u8 d3, .int .u8 d4, .string d5, .int .u8 d6] 45)))
        by_cases z0 : d0 = 0
        · subst z0
          go_wp2
          go_roundw
          case rel => exact ⟨i + 1, by omega, by omega, by go_num, ⟨HQ1.out.up⟩⟩
          case measure => simp [intOf]; omega
        by_cases z1 : d0 = 1
        · subst z1
          have cC := HQ1.out.grant he6 (by omega) d2 d4 hf5 d5 d6 HS5.out
          go_wp2_with fail
          refine cC.mono ?_
          rintro r W5 ⟨⟨z, rfl⟩, hQ5⟩
          have HQ5 := Hid3.mk hQ5
          have cF := HQ5.out.frames (HT.out.low HQ5.out.bl)
          clear cC hQ5
          go_wp2_with fail
          refine cF.mono ?_
          rintro r W6 ⟨fa, fm, fc, rfl, hfm, hQ6⟩
          have HQ6 := Hid3.mk hQ6
          have hfz : ¬ (N : Int) < (fm : Int) := by omega
          clear cF hQ6 HQ5
          go_wp2
          go_roundw
          case rel => exact ⟨i + 1, by omega, by omega, by go_num, HQ6⟩
          case measure => simp [intOf]; omega
        by_cases z2 : d0 = 2
        · subst z2
          have cC := HQ1.out.share he6 (by omega) d2 d3 d4 hf5
          go_wp2_with fail
          refine cC.mono ?_
          rintro r W5 ⟨⟨z, rfl⟩, hQ5⟩
          have HQ5 := Hid3.mk hQ5
          have cF := HQ5.out.frames (HT.out.low HQ5.out.bl)
          clear cC hQ5
          go_wp2_with fail
          refine cF.mono ?_
          rintro r W6 ⟨fa, fm, fc, rfl, hfm, hQ6⟩
          have HQ6 := Hid3.mk hQ6
          have hfz : ¬ (N : Int) < (fm : Int) := by omega
          clear cF hQ6 HQ5
          go_wp2
          go_roundw
          case rel => exact ⟨i + 1, by omega, by omega, by go_num, HQ6⟩
          case measure => simp [intOf]; omega
        by_cases z3 : d0 = 3
        · subst z3
          have cC := HQ1.out.free he6 (by omega) d2 d4 hf5
          go_wp2_with fail
          refine cC.mono ?_
          rintro r W5 ⟨⟨y, z, rfl⟩, hQ5⟩
          have HQ5 := Hid3.mk hQ5
          have cF := HQ5.out.frames (HT.out.low HQ5.out.bl)
          clear cC hQ5
          go_wp2_with fail
          refine cF.mono ?_
          rintro r W6 ⟨fa, fm, fc, rfl, hfm, hQ6⟩
          have HQ6 := Hid3.mk hQ6
          have hfz : ¬ (N : Int) < (fm : Int) := by omega
          clear cF hQ6 HQ5
          go_wp2
          go_roundw
          case rel => exact ⟨i + 1, by omega, by omega, by go_num, HQ6⟩
          case measure => simp [intOf]; omega
        have cC := HQ1.out.repo he6 (by omega) d2 d4 hf5
        go_wp2_with fail
        refine cC.mono ?_
        rintro r W5 ⟨⟨y, z, rfl⟩, hQ5⟩
        have HQ5 := Hid3.mk hQ5
        have cF := HQ5.out.frames (HT.out.low HQ5.out.bl)
        clear cC hQ5
        go_wp2_with fail
        refine cF.mono ?_
        rintro r W6 ⟨fa, fm, fc, rfl, hfm, hQ6⟩
        have HQ6 := Hid3.mk hQ6
        have hfz : ¬ (N : Int) < (fm : Int) := by omega
        clear cF hQ6 HQ5
        go_wp2
        go_roundw
        case rel => exact ⟨i + 1, by omega, by omega, by go_num, HQ6⟩
        case measure => simp [intOf]; omega
      · have h60z : ¬ (i : Int) < 20 := by omega
        go_wp2
        go_ret
        exact ⟨rfl, HQ.out.bl⟩
    · have hltz : ¬ (i : Int) < (l2.length : Int) := by omega
      go_wp2
      go_ret
      exact ⟨rfl, HQ.out.bl⟩
end Go.Proofs.YtalhlbhhgddddaaDoor
namespace Go.Proofs.YtalhlbhhgddddaaDoor
open Go.ChangeShapes Go.WideShapes Go.ChangeAt Go.RowKit Go.ChangeMaps Go.Joins
set_option linter.unusedVariables false
set_option maxRecDepth 100000
theorem pd_cellsS {H : Type} {enc : TypeId × Value → H} {W : World} {base n : Nat} {spare : Nat → Bool} {held : Bool} {cs : List Value} {x : DataW H × List MemPlace} (h : DataW.trod enc Tryd.prog W base spare held n 45 cs = some x) :
    ∃ (k m : Int) (e t f : Nat) (s : ByteArray) (r : Nat), cs = [.int .i64 k, .int .i64 m, .int .u8 e, .int .u8 t, .int .u8 f, .string s, .int .u8 r] ∧ e ≤ 255 ∧ t ≤ 255 ∧ f ≤ 255 ∧ r ≤ 255 ∧ s.size ≤ 9223372036854775807 := by
  obtain ⟨xs, m, _, _, hl, hxl, hf⟩ := DataW.trod_struct Tryd.underlying45 h
  have hc : Tryd.prog.cellsOf 45 = 7 := by kernel_rfl
  have c1 : Tryd.prog.cellsOf 3 = 1 := by kernel_rfl
  have c2 : Tryd.prog.cellsOf 5 = 1 := by kernel_rfl
  have c3 : Tryd.prog.cellsOf 43 = 2 := by kernel_rfl
  have c4 : Tryd.prog.cellsOf 9 = 1 := by kernel_rfl
  rw [hc] at hl
  match xs, hxl, cs, hl with
  | [y0, y1, y2, y3, y4, y5], _, [v0, v1, v2, v3, v4, v5, v6], _ =>
    have g0 := hf 0 _ rfl
    have g1 := hf 1 _ rfl
    have g2 := hf 2 _ rfl
    have g3 := hf 3 _ rfl
    have g4 := hf 4 _ rfl
    have g5 := hf 5 _ rfl
    simp [c1, c2, c3] at g0 g1 g2 g3 g4 g5
    obtain ⟨z0, z1, n', hz, _, q0, q1⟩ := trod_struct2 Tryd.underlying43 g5
    simp only [c4, c2, List.drop_succ_cons, List.drop_zero, List.take_succ_cons, List.take_zero] at q0 q1
    obtain ⟨r0, e0, _, w0⟩ := DataW.trod_int Tryd.underlying3 g0
    obtain ⟨r1, e1, _, w1⟩ := DataW.trod_int Tryd.underlying3 g1
    obtain ⟨r2, e2, _, w2⟩ := DataW.trod_int Tryd.underlying5 g2
    obtain ⟨r3, e3, _, w3⟩ := DataW.trod_int Tryd.underlying5 g3
    obtain ⟨r4, e4, _, w4⟩ := DataW.trod_int Tryd.underlying5 g4
    obtain ⟨s, e5, _, hs⟩ := DataW.trod_string Tryd.underlying9 q0
    obtain ⟨r6, e6, _, w6⟩ := DataW.trod_int Tryd.underlying5 q1
    obtain ⟨a2, rfl, b2⟩ := u8_nat w2
    obtain ⟨a3, rfl, b3⟩ := u8_nat w3
    obtain ⟨a4, rfl, b4⟩ := u8_nat w4
    obtain ⟨a6, rfl, b6⟩ := u8_nat w6
    cases e0
    cases e1
    cases e2
    cases e3
    cases e4
    cases e5
    cases e6
    exact ⟨r0, r1, a2, a3, a4, s, a6, rfl, b2, b3, b4, b6, hs⟩
theorem dds_openS {H : Type} {enc : TypeId × Value → H} {W : World} {base b0 : Nat} {r : Reach} {v : Value} {d : DataW H} {p : List MemPlace} (hv : Value.okWide Tryd.prog W r b0 22 v) (h : DataW.Trod enc Tryd.prog W base (fun _ => true) true 22 v d p) :
    ∃ l, Dds W v l ∧ ∀ d ∈ l, d.s.size ≤ 9223372036854775807 := by
  obtain ⟨a0, len, cap, rfl⟩ := okWide_slice Tryd.underlying22 hv
  obtain ⟨fuel, hf⟩ := h
  have hc : Tryd.prog.cellsOf 45 = 7 := by kernel_rfl
  rcases Deep.open_slice Tryd.underlying22 hf with ⟨hcs, _⟩ | ⟨a, len', cap', m, n, D, Pl, hcs, _, hl, hm, hmm, _, hx⟩
  · simp [Value.cells] at hcs
    obtain ⟨rfl, rfl, rfl⟩ := hcs
    exact ⟨[], ⟨none, 0, rfl, fun i h => (by cases h), fun j i h => by cases h⟩, fun d h => by cases h⟩
  · simp [Value.cells] at hcs
    obtain ⟨rfl, rfl, rfl⟩ := hcs
    simp only [if_true] at hmm
    rw [hc] at hx
    have each : ∀ i, i < len → ∃ q : Dd, (q.f ≤ 255 ∧ q.s.size ≤ 9223372036854775807) ∧ W.cell? (a.add (i * 7)) = some (.int .i64 q.k) ∧ W.cell? ((a.add (i * 7)).add 1) = some (.int .i64 q.n) ∧ W.cell? ((a.add (i * 7)).add 2) = some (.int .u8 q.e) ∧ W.cell? ((a.add (i * 7)).add 3) = some (.int .u8 q.t) ∧ W.cell? ((a.add (i * 7)).add 4) = some (.int .u8 q.f) ∧ W.cell? ((a.add (i * 7)).add 5) = some (.string q.s) ∧ W.cell? ((a.add (i * 7)).add 6) = some (.int .u8 q.r) := by
      intro i hi
      obtain ⟨cs', h1, h2⟩ := hx i (by omega)
      obtain ⟨k, m, e, t, f, s, r, rfl, b1, b2, b3, b4, b5⟩ := pd_cellsS h2
      obtain ⟨_, _, hcell⟩ := World.cells?_some h1
      have k0 := hcell 0 (by omega)
      have k1 := hcell 1 (by omega)
      have k2 := hcell 2 (by omega)
      have k3 := hcell 3 (by omega)
      have k4 := hcell 4 (by omega)
      have k5 := hcell 5 (by omega)
      have k6 := hcell 6 (by omega)
      refine ⟨⟨k, m, e, t, f, s, r⟩, ⟨b3, b5⟩, ?_, by simpa using k1, by simpa using k2, by simpa using k3, by simpa using k4, by simpa using k5, by simpa using k6⟩
      have e0 : (a.add (i * 7)).add 0 = a.add (i * 7) := by unfold Addr.add; split <;> simp_all
      rw [← e0]
      simpa using k0
    haveI : Inhabited Dd := ⟨⟨0, 0, 0, 0, 0, ⟨#[]⟩, 0⟩⟩
    obtain ⟨q, hq⟩ := Deep.choose_lt each
    refine ⟨(List.range len).map q, ⟨some a, cap, by simp, fun i hi => ?_, fun j i hi => ?_⟩, fun d hd => ?_⟩
    · obtain ⟨j, hj, rfl⟩ := List.mem_map.1 hi
      exact (hq j (List.mem_range.1 hj)).1.1
    · rw [List.getElem?_map] at hi
      by_cases hj : j < len
      · rw [List.getElem?_range hj] at hi
        simp only [Option.map_some, Option.some.injEq] at hi
        subst hi
        obtain ⟨_, k0, k1, k2, k3, k4, k5, k6⟩ := hq j hj
        obtain ⟨ab, ao, spot⟩ := a
        have hspot : spot = none := by
          have h0 := World.cell?_spot (hq 0 (by omega)).2.1
          simpa [Addr.add] using h0
        subst hspot
        rw [plain_add] at k0 k1 k2 k3 k4 k5 k6
        rw [plain_add] at k1 k2 k3 k4 k5 k6
        exact ⟨ab, ao, rfl, k0, k1, k2, k3, k4, k5, k6⟩
      · rw [List.getElem?_eq_none (by simp; omega)] at hi
        cases hi
    · obtain ⟨j, hj, rfl⟩ := List.mem_map.1 hd
      exact (hq j (List.mem_range.1 hj)).1.2
end Go.Proofs.YtalhlbhhgddddaaDoor
