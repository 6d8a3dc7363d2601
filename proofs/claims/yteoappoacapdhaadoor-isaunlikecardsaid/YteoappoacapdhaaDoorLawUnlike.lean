/- IsaUnlike: unlike right instructions have unlike bytes, and unlike texts. -/
import Derived.Test.YteoappoacapdhaaDoorIsaL
import Derived.Lib.QuietBelow
import Derived.StillTail
namespace Go.Proofs.YteoappoacapdhaaDoor
open Go.RowKit Go.Shelf Go.Sort
set_option linter.unusedVariables false

set_option maxHeartbeats 4000000 in
set_option maxRecDepth 100000 in
theorem unlike_no (x y : Int) (hxy : (x = 3 ∧ y = 3) ∨ (x = 3 ∧ y = 0) ∨ (x = 0 ∧ y = 3)) (o a b m o' a' b' m' : Int) (s t : ByteArray) (w : World) (hW : Wds w) (hT : Tabs w) (hP : Pow w)
    (c1 : ∀ w, Calls Tryd.prog 9 #[.agg #[.int .u8 o, .int .u8 a, .int .u8 b, .int .u16 m]] w fun e w' => (∃ v, e = .returned (.tuple #[v, .int .i64 x])) ∧ Below w.heap.size w w')
    (c2 : ∀ w, Calls Tryd.prog 9 #[.agg #[.int .u8 o', .int .u8 a', .int .u8 b', .int .u16 m']] w fun e w' => (∃ v, e = .returned (.tuple #[v, .int .i64 y])) ∧ Below w.heap.size w w')
    (c3 : ∀ w, Wds w → Pow w → Calls Tryd.prog 29 #[.agg #[.int .u8 o, .int .u8 a, .int .u8 b, .int .u16 m]] w fun e w' => e = .returned (.tuple #[.string s, .int .i64 x]) ∧ Below w.heap.size w w')
    (c4 : ∀ w, Wds w → Pow w → Calls Tryd.prog 29 #[.agg #[.int .u8 o', .int .u8 a', .int .u8 b', .int .u16 m']] w fun e w' => e = .returned (.tuple #[.string t, .int .i64 y]) ∧ Below w.heap.size w w') :
    Calls Tryd.prog 8 #[.agg #[.int .u8 o, .int .u8 a, .int .u8 b, .int .u16 m], .agg #[.int .u8 o', .int .u8 a', .int .u8 b', .int .u16 m']] w fun e w' => e = .returned (.bool true) ∧ Below w.heap.size w w' := by
  have cV := fun w h1 h2 h3 => ilive_any w h1 h2 h3
  rcases hxy with ⟨rfl, rfl⟩ | ⟨rfl, rfl⟩ | ⟨rfl, rfl⟩
  all_goals
    have hF := (Four.new w (.int .u8 o) (.int .u8 a) (.int .u8 b) (.int .u16 m)).alloc (.cells #[.int .u8 o', .int .u8 a', .int .u8 b', .int .u16 m'] 26)
    have hG := Four.new (w.alloc (.cells #[.int .u8 o, .int .u8 a, .int .u8 b, .int .u16 m] 26)) (.int .u8 o') (.int .u8 a') (.int .u8 b') (.int .u16 m')
    rw [World.size_alloc] at hG
    go_enter Tryd.func8, Tryd.ntmps8
    go_wp2_with fail
    refine (c1 _).mono ?_
    rintro e W1 ⟨⟨v1, rfl⟩, hB1⟩
    rw [World.size_alloc, World.size_alloc] at hB1
    replace hF := hF.below hB1 (by omega)
    replace hG := hG.below hB1 (by omega)
    have b1 : Below w.heap.size w W1 := (((Below.refl _ w).alloc (Nat.le_refl _) _).alloc (by simp) _).trans (hB1.mono (by omega))
    have hs1 : w.heap.size + 1 < W1.heap.size := (Array.getElem?_eq_some_iff.1 hG).1
    have g0 := hG.c0
    have g1 := hG.c1
    have g2 := hG.c2
    have g3 := hG.c3
    clear c1 hB1
    go_wp2_with fail
    refine (c2 _).mono ?_
    rintro e W2 ⟨⟨v2, rfl⟩, hB2⟩
    replace hF := hF.below hB2 (by omega)
    replace hG := hG.below hB2 (by omega)
    have hs2 := hB2.size
    have b2 := b1.trans (hB2.mono b1.size)
    clear g0 g1 g2 g3
    have g0 := hF.c0
    have g1 := hF.c1
    have g2 := hF.c2
    have g3 := hF.c3
    clear c2 hB2 b1
    go_wp2_with fail
    refine (c3 _ (hW.later b2) (hP.later b2)).mono ?_
    rintro e W3 ⟨rfl, hB3⟩
    replace hG := hG.below hB3 (by omega)
    have b3 := b2.trans (hB3.mono b2.size)
    clear g0 g1 g2 g3 hF
    have g0 := hG.c0
    have g1 := hG.c1
    have g2 := hG.c2
    have g3 := hG.c3
    clear c3 hB3 b2
    go_wp2_with fail
    refine (c4 _ (hW.later b3) (hP.later b3)).mono ?_
    rintro e W4 ⟨rfl, hB4⟩
    have b4 := b3.trans (hB4.mono b3.size)
    clear g0 g1 g2 g3 hG c4 hB4 b3
    go_wp2_with fail
    refine (cV _ (hW.later b4) (hT.later b4) (hP.later b4)).mono ?_
    rintro e W5 ⟨rfl, hB5⟩
    go_wp2
    go_ret
    exact ⟨rfl, b4.trans (hB5.mono b4.size)⟩
set_option maxHeartbeats 8000000 in
set_option maxRecDepth 100000 in
theorem unlike_yes (o a b m o' a' b' m' : Int) (s t E E' : List UInt8) (c : Bool) (w : World) (hW : Wds w) (hT : Tabs w) (hP : Pow w)
    (hE : (E == E') = c) (hs : (s == t) = c)
    (eI : ∀ w, (Op.equalIn 10000 26 (.agg #[.int .u8 o, .int .u8 a, .int .u8 b, .int .u16 m]) (.agg #[.int .u8 o', .int .u8 a', .int .u8 b', .int .u16 m'])).run Tryd.prog w = .ok c w)
    (c1 : ∀ w, Calls Tryd.prog 9 #[.agg #[.int .u8 o, .int .u8 a, .int .u8 b, .int .u16 m]] w fun e w' => (∃ v, e = .returned (.tuple #[v, .int .i64 0]) ∧ Bts w' v E) ∧ Below w.heap.size w w')
    (c2 : ∀ w, Calls Tryd.prog 9 #[.agg #[.int .u8 o', .int .u8 a', .int .u8 b', .int .u16 m']] w fun e w' => (∃ v, e = .returned (.tuple #[v, .int .i64 0]) ∧ Bts w' v E') ∧ Below w.heap.size w w')
    (c3 : ∀ w, Wds w → Pow w → Calls Tryd.prog 29 #[.agg #[.int .u8 o, .int .u8 a, .int .u8 b, .int .u16 m]] w fun e w' => e = .returned (.tuple #[.string ⟨s.toArray⟩, .int .i64 0]) ∧ Below w.heap.size w w')
    (c4 : ∀ w, Wds w → Pow w → Calls Tryd.prog 29 #[.agg #[.int .u8 o', .int .u8 a', .int .u8 b', .int .u16 m']] w fun e w' => e = .returned (.tuple #[.string ⟨t.toArray⟩, .int .i64 0]) ∧ Below w.heap.size w w') :
    Calls Tryd.prog 8 #[.agg #[.int .u8 o, .int .u8 a, .int .u8 b, .int .u16 m], .agg #[.int .u8 o', .int .u8 a', .int .u8 b', .int .u16 m']] w fun e w' => e = .returned (.bool true) ∧ Below w.heap.size w w' := by
  cases c
  all_goals
    have cV := fun w h1 h2 h3 => ilive_any w h1 h2 h3
    have hF := (Four.new w (.int .u8 o) (.int .u8 a) (.int .u8 b) (.int .u16 m)).alloc (.cells #[.int .u8 o', .int .u8 a', .int .u8 b', .int .u16 m'] 26)
    have hG := Four.new (w.alloc (.cells #[.int .u8 o, .int .u8 a, .int .u8 b, .int .u16 m] 26)) (.int .u8 o') (.int .u8 a') (.int .u8 b') (.int .u16 m')
    rw [World.size_alloc] at hG
    go_enter Tryd.func8, Tryd.ntmps8
    go_wp2_with fail
    refine (c1 _).mono ?_
    rintro e W1 ⟨⟨v1, rfl, k1⟩, hB1⟩
    rw [World.size_alloc, World.size_alloc] at hB1
    replace hF := hF.below hB1 (by omega)
    replace hG := hG.below hB1 (by omega)
    have b1 : Below w.heap.size w W1 := (((Below.refl _ w).alloc (Nat.le_refl _) _).alloc (by simp) _).trans (hB1.mono (by omega))
    have hs1 : w.heap.size + 1 < W1.heap.size := (Array.getElem?_eq_some_iff.1 hG).1
    have g0 := hG.c0
    have g1 := hG.c1
    have g2 := hG.c2
    have g3 := hG.c3
    clear c1 hB1
    go_wp2_with fail
    refine (c2 _).mono ?_
    rintro e W2 ⟨⟨v2, rfl, k2⟩, hB2⟩
    replace hF := hF.below hB2 (by omega)
    replace hG := hG.below hB2 (by omega)
    replace k1 := k1.below hB2 (Nat.le_refl _)
    have hs2 := hB2.size
    have b2 := b1.trans (hB2.mono b1.size)
    clear g0 g1 g2 g3
    have g0 := hF.c0
    have g1 := hF.c1
    have g2 := hF.c2
    have g3 := hF.c3
    clear c2 hB2 b1
    go_wp2_with fail
    refine (c3 _ (hW.later b2) (hP.later b2)).mono ?_
    rintro e W3 ⟨rfl, hB3⟩
    replace hF := hF.below hB3 (by omega)
    replace hG := hG.below hB3 (by omega)
    replace k1 := k1.below hB3 (Nat.le_refl _)
    replace k2 := k2.below hB3 (Nat.le_refl _)
    have hs3 := hB3.size
    have b3 := b2.trans (hB3.mono b2.size)
    clear g0 g1 g2 g3
    have g0 := hG.c0
    have g1 := hG.c1
    have g2 := hG.c2
    have g3 := hG.c3
    clear c3 hB3 b2
    go_wp2_with fail
    refine (c4 _ (hW.later b3) (hP.later b3)).mono ?_
    rintro e W4 ⟨rfl, hB4⟩
    replace hF := hF.below hB4 (by omega)
    replace hG := hG.below hB4 (by omega)
    replace k1 := k1.below hB4 (Nat.le_refl _)
    replace k2 := k2.below hB4 (Nat.le_refl _)
    have b4 := b3.trans (hB4.mono b3.size)
    clear g0 g1 g2 g3 c4 hB4 b3
    go_wp2_with fail
    have g0 := fun d os => cell_regrown hF.c0 d os
    have g1 := fun d os => cell_regrown hF.c1 d os
    have g2 := fun d os => cell_regrown hF.c2 d os
    have g3 := fun d os => cell_regrown hF.c3 d os
    have g4 := fun d os => cell_regrown hG.c0 d os
    have g5 := fun d os => cell_regrown hG.c1 d os
    have g6 := fun d os => cell_regrown hG.c2 d os
    have g7 := fun d os => cell_regrown hG.c3 d os
    have k3 := fun d os => (k1.below (below_regrown W4 d os) (Nat.le_refl _)).text
    have k4 := fun d os => (k2.below (below_regrown W4 d os) (Nat.le_refl _)).text
    have dV := fun d os => Calls.regrown_of (cV _ (hW.later (b4.trans ((below_regrown W4 d os).mono b4.size))) (hT.later (b4.trans ((below_regrown W4 d os).mono b4.size))) (hP.later (b4.trans ((below_regrown W4 d os).mono b4.size))))
    have eG := eqGuardI
    clear hF hG k1 k2 cV hW hT hP
    refine wp_region_quiet_below (by kernel_rfl) (by kernel_rfl) ?_
    repeat (quiet_step (first | exact dV _ _))
    refine wpQuiet_nil ?_
    intro _ hw'
    obtain ⟨⟨dq, osq⟩, hw''⟩ := hw'
    subst hw''
    go_wp2
    go_ret
    exact ⟨by simp, b4.trans ((below_regrown W4 dq osq).mono b4.size)⟩
theorem enc_inj (o a b m o' a' b' m' : Int) (h : InsOk o a b m) (h' : InsOk o' a' b' m') (r : insR o a b m = true) (r' : insR o' a' b' m' = true) (e : encL o a b m = encL o' a' b' m') : (o, a, b, m) = (o', a', b', m') := by
  have h1 := dec_enc o a b m h r
  have h2 := dec_enc o' a' b' m' h' r'
  rw [e, h2] at h1
  exact (Option.some.inj h1).symm
theorem print_inj (o a b m o' a' b' m' : Int) (h : InsOk o a b m) (h' : InsOk o' a' b' m') (r : insR o a b m = true) (r' : insR o' a' b' m' = true) (e : printL o a b m = printL o' a' b' m') : (o, a, b, m) = (o', a', b', m') := by
  have h1 := ins_print o a b m h r
  have h2 := ins_print o' a' b' m' h' r'
  rw [e, h2] at h1
  exact (Option.some.inj h1).symm
theorem unlike_walk (o a b m o' a' b' m' : Int) (w : World) (h : InsOk o a b m) (h' : InsOk o' a' b' m') (hW : Wds w) (hT : Tabs w) (hP : Pow w) :
    Calls Tryd.prog 8 #[.agg #[.int .u8 o, .int .u8 a, .int .u8 b, .int .u16 m], .agg #[.int .u8 o', .int .u8 a', .int .u8 b', .int .u16 m']] w fun e w' => e = .returned (.bool true) ∧ Below w.heap.size w w' := by
  have c1 := fun w => iencode_any o a b m w h
  have c2 := fun w => iencode_any o' a' b' m' w h'
  have c3 := fun w h1 h2 => print_any o a b m w h h1 h2
  have c4 := fun w h1 h2 => print_any o' a' b' m' w h' h1 h2
  unfold BytP at c1 c2
  unfold txtEV at c3 c4
  have w1 : ∀ (x : Int) (bs : List UInt8) (q : Array Value), (∀ w, Calls Tryd.prog 9 q w fun e w' => (∃ v, e = .returned (.tuple #[v, .int .i64 x]) ∧ Bts w' v bs) ∧ Below w.heap.size w w') → ∀ w, Calls Tryd.prog 9 q w fun e w' => (∃ v, e = .returned (.tuple #[v, .int .i64 x])) ∧ Below w.heap.size w w' :=
    fun x bs q hc w => (hc w).mono fun e w' ⟨⟨v, e1, _⟩, hb⟩ => ⟨⟨v, e1⟩, hb⟩
  cases hR : insR o a b m with
  | false =>
    rw [hR] at c1 c3
    cases hR' : insR o' a' b' m' with
    | false =>
      rw [hR'] at c2 c4
      exact unlike_no 3 3 (.inl ⟨rfl, rfl⟩) o a b m o' a' b' m' _ _ w hW hT hP (w1 _ _ _ c1) (w1 _ _ _ c2) c3 c4
    | true =>
      rw [hR'] at c2 c4
      exact unlike_no 3 0 (.inr (.inl ⟨rfl, rfl⟩)) o a b m o' a' b' m' _ _ w hW hT hP (w1 _ _ _ c1) (w1 _ _ _ c2) c3 c4
  | true =>
    rw [hR] at c1 c3
    cases hR' : insR o' a' b' m' with
    | false =>
      rw [hR'] at c2 c4
      exact unlike_no 0 3 (.inr (.inr ⟨rfl, rfl⟩)) o a b m o' a' b' m' _ _ w hW hT hP (w1 _ _ _ c1) (w1 _ _ _ c2) c3 c4
    | true =>
      rw [hR'] at c2 c4
      refine unlike_yes o a b m o' a' b' m' (printL o a b m) (printL o' a' b' m') (encL o a b m) (encL o' a' b' m') (decide ((o, a, b, m) = (o', a', b', m'))) w hW hT hP ?_ ?_ (fun w => eqIns w o a b m o' a' b' m') c1 c2 c3 c4
      · by_cases e : (o, a, b, m) = (o', a', b', m')
        · have e' := e
          injection e' with e1 e2
          injection e2 with e2 e3
          injection e3 with e3 e4
          subst e1 e2 e3 e4
          simp
        · rw [decide_eq_false e, beq_eq_false_iff_ne]
          exact fun g => e (enc_inj o a b m o' a' b' m' h h' hR hR' g)
      · by_cases e : (o, a, b, m) = (o', a', b', m')
        · have e' := e
          injection e' with e1 e2
          injection e2 with e2 e3
          injection e3 with e3 e4
          subst e1 e2 e3 e4
          simp
        · rw [decide_eq_false e, beq_eq_false_iff_ne]
          exact fun g => e (print_inj o a b m o' a' b' m' h h' hR hR' g)
end Go.Proofs.YteoappoacapdhaaDoor
