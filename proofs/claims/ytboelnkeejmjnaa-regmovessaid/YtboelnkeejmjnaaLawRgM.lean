/- RegMoves: the walk. -/
import Derived.Test.YtboelnkeejmjnaaLawRgO
import Derived.OrdersHeld
namespace Go.Proofs.Ytboelnkeejmjnaa
open Go.RowKit Go.Maps
set_option linter.unusedVariables false
set_option maxRecDepth 100000
theorem frL_congr {q q' : St} (h : ∀ i, q'.C i = q.C i) : ∀ k, frL q' k = frL q k
  | 0 => rfl
  | k + 1 => by
    show frL q' k ++ _ = frL q k ++ _
    rw [frL_congr h k, h]
theorem Rd.stay {w w' : World} {base : Nat} {v : Value} {ys : List Int} {X : Nat → Prop} (h : Rd w base v ys) (k : Apart X w w') (hx : ∀ g, base ≤ g → ¬ X g) : Rd w' base v ys := by
  rcases h with h | ⟨g, cap, h1, h2, h3⟩
  · exact .inl h
  · exact .inr ⟨g, cap, h1, h2, h3.stay k (hx g h2)⟩
/-- The program's registry, a list of frames that was told, and the world below as it was. -/
structure Kf (w W : World) (b rc rf : Nat) (q : St) (base : Nat) (v : Value) (L : List Int) : Prop where
  k : Kp w W b rc rf q
  r : Rd W base v L
  c : rc < base
  f : rf < base
theorem Kf.below {w W W' : World} {b rc rf base : Nat} {q : St} {v : Value} {L : List Int} (h : Kf w W b rc rf q base v L) (k : Below W.heap.size W W') : Kf w W' b rc rf q base v L := ⟨h.k.below k, h.r.below k, h.c, h.f⟩
theorem Kf.step {w W W' : World} {b rc rf base : Nat} {q q' : St} {v : Value} {L : List Int} (h : Kf w W b rc rf q base v L) (k : StpS w.heap.size W W' b rc rf q') : Kf w W' b rc rf q' base v L := ⟨h.k.step k, h.r.stay k.ap (fun g hg e => by
  have h1 := h.c
  have h2 := h.f
  rcases e with e | e <;> omega), h.c, h.f⟩
theorem Kf.tx {w W : World} {b rc rf base : Nat} {q : St} {v : Value} {L : List Int} (h : Kf w W b rc rf q base v L) : (convert 30 9 v).run Try.prog W = .ok (.string (strOfNums L)) W := TxR.of h.r W (Below.refl _ _)
theorem Rg.lts {B : Nat} {w : World} {b rc rf : Nat} {q : St} (h : RgS B w b rc rf q) : rc < w.heap.size ∧ rf < w.heap.size := ⟨h.mc.elim fun _ hc => hc.1.lt, h.mf.elim fun _ hc => hc.1.lt⟩
theorem moQ_pos {f t : Int} {q : St} (h : moE f t q = 0) : moQ f t q = (q.leave f (ctC q.C f)).hold t (ctC q.C f) := by unfold moQ; rw [if_pos h]
theorem takeD {ops : Array Oper} {Q : Exit → Act → World → Prop} {S : World → Prop} {i : Nat} {oi : Oper} {v : Value} {fuel : Nat} {listed : Array Bool} {a : Act} {w : World} (d : Option Nat) (hi : ops[i]? = some oi) (hd : oi.dst = d)
    (hs : Region.noSelect ops = true) (hf : Region.free .any ops listed i = true) (hr : (Region.ready .any ops listed).contains i = true)
    (hQ : ∀ c a w, Q (.panic c) (a.put d v) w → Q (.panic c) a w) (hy : YieldsIf Try.prog ops S oi v a) (hS : S w)
    (h : wpAnyH Try.prog .any ops Q S fuel (listed.setIfInBounds i true) (a.put d v) w) : wpAnyH Try.prog .any ops Q S (fuel + 1) listed a w := by
  subst hd
  exact wpAnyH_take hi hs hf hr hQ hy hS h
/-- What a move, and the move back, come to. -/
theorem mo_facts {q : St} (hq : q.Ok) (x y : Int) (hx : 0 ≤ x) (hy : 0 ≤ y) (h : moE x y q = 0) : ∃ c : Int × Bool, ctE q.C x = 0 ∧ ctC q.C x = c ∧ x ≠ y ∧ moQ x y q = (q.leave x c).hold y c ∧ ctE (moQ x y q).C y = 0 ∧ ctC (moQ x y q).C y = c ∧ ctE (moQ x y q).C x ≠ 0 ∧ moE y x (moQ x y q) = 0 ∧ (∀ i, (moQ y x (moQ x y q)).C i = q.C i) ∧ (moQ y x (moQ x y q)).Ok := by
  have hm : moQ x y q = (q.leave x (ctC q.C x)).hold y (ctC q.C x) := by unfold moQ; rw [if_pos h]
  unfold moE at h
  by_cases hy6 : 64 ≤ y
  · rw [if_pos hy6] at h; omega
  rw [if_neg hy6] at h
  by_cases hx0 : ctE q.C x = 0
  · rw [if_pos hx0] at h
    by_cases hy0 : ctE q.C y = 0
    · rw [if_pos hy0] at h; omega
    obtain ⟨hx6, c, hcx, hcc, c0, c1⟩ := ct_some hq hx0
    have hyn : q.C y = none := ct_none (by omega) hy0
    have hne : x ≠ y := fun e => by rw [e, hyn] at hcx; cases hcx
    rw [hcc] at hm
    have hCy : (moQ x y q).C y = some c := by rw [hm]; exact if_pos rfl
    have hCx : (moQ x y q).C x = none := by
      rw [hm]
      show upI (upI q.C x none) y (some c) x = none
      unfold upI
      rw [if_neg hne, if_pos rfl]
    have h1 : ctE (moQ x y q).C y = 0 := by unfold ctE; rw [if_neg hy6, hCy]; rfl
    have h2 : ctC (moQ x y q).C y = c := by unfold ctC; rw [if_neg hy6, hCy]; rfl
    have h3 : ctE (moQ x y q).C x = 5 := by unfold ctE; rw [if_neg (by omega), hCx]; rfl
    have h4 : moE y x (moQ x y q) = 0 := by unfold moE; rw [if_neg (by omega), if_pos h1, if_neg (by rw [h3]; decide)]
    have h5 : moQ y x (moQ x y q) = ((moQ x y q).leave y c).hold x c := by rw [moQ_pos h4, h2]
    refine ⟨c, hx0, hcc, hne, hm, h1, h2, by rw [h3]; decide, h4, fun i => ?_, mo_ok (mo_ok hq x y hx hy) y x hy hx⟩
    rw [h5, hm]
    show upI (upI (upI (upI q.C x none) y (some c)) y none) x (some c) i = q.C i
    unfold upI
    by_cases e1 : i = x
    · rw [if_pos e1, e1, hcx]
    · rw [if_neg e1]
      by_cases e2 : i = y
      · rw [if_pos e2, e2, hyn]
      · rw [if_neg e2, if_neg e2, if_neg e1]
  · rw [if_neg hx0] at h
    exact absurd h hx0
set_option maxHeartbeats 8000000 in
theorem moves_law (v : Value) (l : List Dd) (x y : Int) (w : World) (hd : Dds w v l) (hok : ∀ d ∈ l, d.Ok) (hx : 0 ≤ x) (hy : 0 ≤ y) : Calls Try.prog 5 #[v, .int .u8 x, .int .u8 y] w fun e w' => e = .returned (.bool true) ∧ Below w.heap.size w w' := by
  have cP := play_any v l w hd hok
  clear hd
  go_enter Try.func5, Try.ntmps5
  go_wp2_with fail
  refine cP.mono ?_
  rintro r W1 ⟨b, rc, rf, rb, rfl, hT, hB⟩
  generalize playQ (l.take 50) q0 = q at *
  have HQ := Hid3.mk hT.ok
  have HK1 : Hid3 (Kp w W1 b rc rf q) := ⟨⟨hT.t, hB⟩⟩
  clear cP hT hB
  go_wp2_with fail
  refine (live_any _).mono ?_
  rintro r W2 ⟨rfl, hB⟩
  have HK2 := Hid3.mk (HK1.out.below hB)
  clear hB HK1
  go_wp2_with fail
  refine (sector_any w.heap.size b rc rf q.C q.F x W2 HK2.out.r).mono ?_
  rintro r W3 ⟨rfl, hB⟩
  have HK3 := Hid3.mk (HK2.out.below hB)
  clear hB HK2
  go_wp2_with fail
  refine (written_any w.heap.size b rc rf q.C q.F x W3 HK3.out.r).mono ?_
  rintro r W4 ⟨rfl, hB⟩
  have HK4 := Hid3.mk (HK3.out.below hB)
  clear hB HK3
  go_wp2_with fail
  refine (frames_any _ _ _ _ _ _ HK4.out.r HQ.out).mono ?_
  rintro r W5 ⟨vf, rfl, hr, hB⟩
  have HK5 : Hid3 (Kf w W5 b rc rf q W4.heap.size vf (frL q 64)) := ⟨⟨HK4.out.below hB, hr, (Rg.lts HK4.out.r).1, (Rg.lts HK4.out.r).2⟩⟩
  clear hr hB HK4
  generalize W4.heap.size = base at *
  go_wp2_with fail
  refine (move_any w.heap.size b rc rf q x y W5 HK5.out.k.r).mono ?_
  rintro r W6 ⟨rfl, hS⟩
  by_cases hm : moE x y q = 0
  · obtain ⟨c, f1, f2, f3, f4, f5, f6, f7, f8, f9, f10⟩ := mo_facts HQ.out x y hx hy hm
    have HK6 := Hid3.mk (HK5.out.step hS)
    have g1 : (ctE q.C x == 0) = true := by rw [f1]; rfl
    have g2 : (ctE (moQ x y q).C y == 0) = true := by rw [f5]; rfl
    have g3 : (ctE (moQ x y q).C x == 0) = false := by simpa using f7
    have c1 := fun W (hW : Kf w W b rc rf (moQ x y q) base vf (frL q 64)) => sector_any w.heap.size b rc rf (moQ x y q).C (moQ x y q).F y W hW.k.r
    have c2 := fun W (hW : Kf w W b rc rf (moQ x y q) base vf (frL q 64)) => sector_any w.heap.size b rc rf (moQ x y q).C (moQ x y q).F x W hW.k.r
    have c3 := fun W (hW : Kf w W b rc rf (moQ x y q) base vf (frL q 64)) => written_any w.heap.size b rc rf (moQ x y q).C (moQ x y q).F y W hW.k.r
    have c4 := fun W (hW : Kf w W b rc rf (moQ x y q) base vf (frL q 64)) => move_any w.heap.size b rc rf (moQ x y q) y x W hW.k.r
    have c5 := fun W (hW : Kf w W b rc rf (moQ y x (moQ x y q)) base vf (frL q 64)) => frames_any w.heap.size b rc rf (moQ y x (moQ x y q)) W hW.k.r f10
    have c6 := fun W (hW : Kf w W b rc rf (moQ y x (moQ x y q)) base vf (frL q 64)) => written_any w.heap.size b rc rf (moQ y x (moQ x y q)).C (moQ y x (moQ x y q)).F x W hW.k.r
    have e6 : ctC (moQ y x (moQ x y q)).C x = c := by unfold ctC at f2 ⊢; rw [f9]; exact f2
    simp only [f6, g2] at c1
    simp only [g3] at c2
    simp only [f6] at c3
    simp only [f8] at c4
    simp only [frL_congr f9] at c5
    simp only [e6] at c6
    rw [hm, f2, g1]
    generalize moQ y x (moQ x y q) = q2 at *
    generalize moQ x y q = q1 at *
    generalize (ctC q1.C x).1 = s0 at *
    generalize frL q 64 = L at *
    obtain ⟨cs, cb⟩ := c
    simp only at c1 c3 c6
    have n1 : (x != y) = true := by simpa using f3
    have n2 : ¬ x = y := f3
    clear f1 f2 f3 f4 f5 f6 f7 f8 f9 f10 g1 g2 g3 e6 hm HK5 hS HQ
    go_wp2_with fail
    refine (c1 _ HK6.out).mono ?_
    rintro r W7 ⟨rfl, hB⟩
    have HK7 := Hid3.mk (HK6.out.below hB)
    clear hB HK6
    go_wp2_with fail
    refine (c2 _ HK7.out).mono ?_
    rintro r W8 ⟨rfl, hB⟩
    have HK8 := Hid3.mk (HK7.out.below hB)
    have HK8d := Hid3.mk (HK8.out.below (below_drew W8))
    clear hB HK7 HK8 c1 c2
    have hS8 := Hid3.mk HK8d.out.tx
    go_wp2_with fail
    refine wp_region_held_drew (S := fun w' => (convert 30 9 vf).run Try.prog w' = .ok (.string (strOfNums L)) w') (by kernel_rfl) hS8.out (fun hHeld => ?_)
    refine takeD (i := 0) (v := ?v0) (some 64) rfl rfl (by kernel_rfl) (by kernel_rfl) (by kernel_rfl) (fun _ _ _ h => h) (Or.inl ⟨by rfl, ?hy0⟩) (by assumption) ?_
    case hy0 => (intro w' hSw; (try dsimp only at hSw); go_simp; try (with_reducible rfl))
    simp only [Act.put, List.setIfInBounds_toArray, List.set_cons_zero, List.set_cons_succ]
    refine takeD (i := 1) (v := ?v1) (some 65) rfl rfl (by kernel_rfl) (by kernel_rfl) (by kernel_rfl) (fun _ _ _ h => h) (Or.inl ⟨by rfl, ?hy1⟩) (by assumption) ?_
    case hy1 => (intro w' hSw; (try dsimp only at hSw); go_simp; try (with_reducible rfl))
    simp only [Act.put, List.setIfInBounds_toArray, List.set_cons_zero, List.set_cons_succ]
    refine takeD (i := 2) (v := ?v2) (some 66) rfl rfl (by kernel_rfl) (by kernel_rfl) (by kernel_rfl) (fun _ _ _ h => h) (Or.inl ⟨by rfl, ?hy2⟩) (by assumption) ?_
    case hy2 => (intro w' hSw; (try dsimp only at hSw); go_simp; try (with_reducible rfl))
    simp only [Act.put, List.setIfInBounds_toArray, List.set_cons_zero, List.set_cons_succ]
    refine takeD (i := 3) (v := ?v3) (some 67) rfl rfl (by kernel_rfl) (by kernel_rfl) (by kernel_rfl) (fun _ _ _ h => h) (Or.inl ⟨by rfl, ?hy3⟩) (by assumption) ?_
    case hy3 => (intro w' hSw; (try dsimp only at hSw); go_simp; try (with_reducible rfl))
    simp only [Act.put, List.setIfInBounds_toArray, List.set_cons_zero, List.set_cons_succ]
    refine takeD (i := 4) (v := ?v4) (some 68) rfl rfl (by kernel_rfl) (by kernel_rfl) (by kernel_rfl) (fun _ _ _ h => h) (Or.inl ⟨by rfl, ?hy4⟩) (by assumption) ?_
    case hy4 => (intro w' hSw; (try dsimp only at hSw); go_simp; try (with_reducible rfl))
    simp only [Act.put, List.setIfInBounds_toArray, List.set_cons_zero, List.set_cons_succ]
    refine takeD (i := 5) (v := ?v5) (some 69) rfl rfl (by kernel_rfl) (by kernel_rfl) (by kernel_rfl) (fun _ _ _ h => h) (Or.inl ⟨by rfl, ?hy5⟩) (by assumption) ?_
    case hy5 => (intro w' hSw; (try dsimp only at hSw); go_simp; try (with_reducible rfl))
    simp only [Act.put, List.setIfInBounds_toArray, List.set_cons_zero, List.set_cons_succ]
    refine takeD (i := 6) (v := ?v6) (some 70) rfl rfl (by kernel_rfl) (by kernel_rfl) (by kernel_rfl) (fun _ _ _ h => h) (Or.inl ⟨by rfl, ?hy6⟩) (by assumption) ?_
    case hy6 => (intro w' hSw; (try dsimp only at hSw); go_simp; try (with_reducible rfl))
    simp only [Act.put, List.setIfInBounds_toArray, List.set_cons_zero, List.set_cons_succ]
    refine takeD (i := 7) (v := ?v7) (some 71) rfl rfl (by kernel_rfl) (by kernel_rfl) (by kernel_rfl) (fun _ _ _ h => h) (Or.inl ⟨by rfl, ?hy7⟩) (by assumption) ?_
    case hy7 => (intro w' hSw; (try dsimp only at hSw); go_simp; try (with_reducible rfl))
    simp only [Act.put, List.setIfInBounds_toArray, List.set_cons_zero, List.set_cons_succ]
    refine takeD (i := 8) (v := ?v8) (some 72) rfl rfl (by kernel_rfl) (by kernel_rfl) (by kernel_rfl) (fun _ _ _ h => h) (Or.inl ⟨by rfl, ?hy8⟩) (by assumption) ?_
    case hy8 => (intro w' hSw; (try dsimp only at hSw); go_simp; try (with_reducible rfl))
    simp only [Act.put, List.setIfInBounds_toArray, List.set_cons_zero, List.set_cons_succ]
    refine takeD (i := 9) (v := ?v9) (some 73) rfl rfl (by kernel_rfl) (by kernel_rfl) (by kernel_rfl) (fun _ _ _ h => h) (Or.inl ⟨by rfl, ?hy9⟩) (by assumption) ?_
    case hy9 => (intro w' hSw; (try dsimp only at hSw); go_simp; try (with_reducible rfl))
    simp only [Act.put, List.setIfInBounds_toArray, List.set_cons_zero, List.set_cons_succ]
    refine takeD (i := 10) (v := ?v10) (some 74) rfl rfl (by kernel_rfl) (by kernel_rfl) (by kernel_rfl) (fun _ _ _ h => h) (Or.inl ⟨by rfl, ?hy10⟩) (by assumption) ?_
    case hy10 => (intro w' hSw; (try dsimp only at hSw); go_simp; try (with_reducible rfl))
    simp only [Act.put, List.setIfInBounds_toArray, List.set_cons_zero, List.set_cons_succ]
    refine takeD (i := 11) (v := ?v11) (some 75) rfl rfl (by kernel_rfl) (by kernel_rfl) (by kernel_rfl) (fun _ _ _ h => h) (Or.inl ⟨by rfl, ?hy11⟩) (by assumption) ?_
    case hy11 => (intro w' hSw; (try dsimp only at hSw); go_simp; try (with_reducible rfl))
    simp only [Act.put, List.setIfInBounds_toArray, List.set_cons_zero, List.set_cons_succ]
    refine takeD (i := 13) (v := ?v13) (some 77) rfl rfl (by kernel_rfl) (by kernel_rfl) (by kernel_rfl) (fun _ _ _ h => h) (Or.inl ⟨by rfl, ?hy13⟩) (by assumption) ?_
    case hy13 => (intro w' hSw; (try dsimp only at hSw); go_simp; try (with_reducible rfl))
    simp only [Act.put, List.setIfInBounds_toArray, List.set_cons_zero, List.set_cons_succ]
    refine wpAnyH_ready (rs := [12]) (by kernel_rfl) (by simp) (AllReadyH.cons rfl (fun K hK => ?_) AllReadyH.nil)
    go_simp
    with_reducible refine (c3 W8.drew HK8d.out).mono ?_
    rintro e W9 ⟨rfl, hB9⟩
    have HK9 := Hid3.mk (HK8d.out.below hB9)
    have hS9 := Hid3.mk HK9.out.tx
    clear hB9
    refine hK.out _ _ hS9.out (fun hHeld2 => ?_)
    clear hK K hHeld
    have hHeld := hHeld2
    clear hHeld2
    try simp only [Act.put, List.setIfInBounds_toArray, List.set_cons_zero, List.set_cons_succ]
    refine takeD (i := 14) (v := ?v14) (some 78) rfl rfl (by kernel_rfl) (by kernel_rfl) (by kernel_rfl) (fun _ _ _ h => h) (Or.inl ⟨by rfl, ?hy14⟩) (by assumption) ?_
    case hy14 => (intro w' hSw; (try dsimp only at hSw); go_simp; try (with_reducible rfl))
    simp only [Act.put, List.setIfInBounds_toArray, List.set_cons_zero, List.set_cons_succ]
    refine takeD (i := 15) (v := ?v15) (some 79) rfl rfl (by kernel_rfl) (by kernel_rfl) (by kernel_rfl) (fun _ _ _ h => h) (Or.inl ⟨by rfl, ?hy15⟩) (by assumption) ?_
    case hy15 => (intro w' hSw; (try dsimp only at hSw); go_simp; try (with_reducible rfl))
    simp only [Act.put, List.setIfInBounds_toArray, List.set_cons_zero, List.set_cons_succ]
    refine takeD (i := 16) (v := ?v16) (some 80) rfl rfl (by kernel_rfl) (by kernel_rfl) (by kernel_rfl) (fun _ _ _ h => h) (Or.inl ⟨by rfl, ?hy16⟩) (by assumption) ?_
    case hy16 => (intro w' hSw; (try dsimp only at hSw); go_simp; try (with_reducible rfl))
    simp only [Act.put, List.setIfInBounds_toArray, List.set_cons_zero, List.set_cons_succ]
    refine takeD (i := 17) (v := ?v17) (some 81) rfl rfl (by kernel_rfl) (by kernel_rfl) (by kernel_rfl) (fun _ _ _ h => h) (Or.inl ⟨by rfl, ?hy17⟩) (by assumption) ?_
    case hy17 => (intro w' hSw; (try dsimp only at hSw); go_simp; try (with_reducible rfl))
    simp only [Act.put, List.setIfInBounds_toArray, List.set_cons_zero, List.set_cons_succ]
    refine takeD (i := 18) (v := ?v18) (some 82) rfl rfl (by kernel_rfl) (by kernel_rfl) (by kernel_rfl) (fun _ _ _ h => h) (Or.inl ⟨by rfl, ?hy18⟩) (by assumption) ?_
    case hy18 => (intro w' hSw; (try dsimp only at hSw); go_simp; try (with_reducible rfl))
    simp only [Act.put, List.setIfInBounds_toArray, List.set_cons_zero, List.set_cons_succ]
    refine takeD (i := 19) (v := ?v19) (some 83) rfl rfl (by kernel_rfl) (by kernel_rfl) (by kernel_rfl) (fun _ _ _ h => h) (Or.inl ⟨by rfl, ?hy19⟩) (by assumption) ?_
    case hy19 => (intro w' hSw; (try dsimp only at hSw); go_simp; try (with_reducible rfl))
    simp only [Act.put, List.setIfInBounds_toArray, List.set_cons_zero, List.set_cons_succ]
    refine takeD (i := 20) (v := ?v20) (some 84) rfl rfl (by kernel_rfl) (by kernel_rfl) (by kernel_rfl) (fun _ _ _ h => h) (Or.inl ⟨by rfl, ?hy20⟩) (by assumption) ?_
    case hy20 => (intro w' hSw; (try dsimp only at hSw); go_simp; try (with_reducible rfl))
    simp only [Act.put, List.setIfInBounds_toArray, List.set_cons_zero, List.set_cons_succ]
    refine takeD (i := 21) (v := ?v21) (some 85) rfl rfl (by kernel_rfl) (by kernel_rfl) (by kernel_rfl) (fun _ _ _ h => h) (Or.inl ⟨by rfl, ?hy21⟩) (by assumption) ?_
    case hy21 => (intro w' hSw; (try dsimp only at hSw); go_simp; try (with_reducible rfl))
    simp only [Act.put, List.setIfInBounds_toArray, List.set_cons_zero, List.set_cons_succ]
    refine takeD (i := 22) (v := ?v22) (some 86) rfl rfl (by kernel_rfl) (by kernel_rfl) (by kernel_rfl) (fun _ _ _ h => h) (Or.inl ⟨by rfl, ?hy22⟩) (by assumption) ?_
    case hy22 => (intro w' hSw; (try dsimp only at hSw); go_simp; try (with_reducible rfl))
    simp only [Act.put, List.setIfInBounds_toArray, List.set_cons_zero, List.set_cons_succ]
    refine takeD (i := 23) (v := ?v23) (some 87) rfl rfl (by kernel_rfl) (by kernel_rfl) (by kernel_rfl) (fun _ _ _ h => h) (Or.inl ⟨by rfl, ?hy23⟩) (by assumption) ?_
    case hy23 => (intro w' hSw; (try dsimp only at hSw); go_simp; try (with_reducible rfl))
    simp only [Act.put, List.setIfInBounds_toArray, List.set_cons_zero, List.set_cons_succ]
    refine takeD (i := 24) (v := ?v24) (some 88) rfl rfl (by kernel_rfl) (by kernel_rfl) (by kernel_rfl) (fun _ _ _ h => h) (Or.inl ⟨by rfl, ?hy24⟩) (by assumption) ?_
    case hy24 => (intro w' hSw; (try dsimp only at hSw); go_simp; try (with_reducible rfl))
    simp only [Act.put, List.setIfInBounds_toArray, List.set_cons_zero, List.set_cons_succ]
    refine takeD (i := 25) (v := ?v25) (some 89) rfl rfl (by kernel_rfl) (by kernel_rfl) (by kernel_rfl) (fun _ _ _ h => h) (Or.inl ⟨by rfl, ?hy25⟩) (by assumption) ?_
    case hy25 => (intro w' hSw; (try dsimp only at hSw); go_simp; try (with_reducible rfl))
    simp only [Act.put, List.setIfInBounds_toArray, List.set_cons_zero, List.set_cons_succ]
    refine takeD (i := 26) (v := ?v26) (some 90) rfl rfl (by kernel_rfl) (by kernel_rfl) (by kernel_rfl) (fun _ _ _ h => h) (Or.inl ⟨by rfl, ?hy26⟩) (by assumption) ?_
    case hy26 => (intro w' hSw; (try dsimp only at hSw); go_simp; try (with_reducible rfl))
    simp only [Act.put, List.setIfInBounds_toArray, List.set_cons_zero, List.set_cons_succ]
    refine takeD (i := 27) (v := ?v27) (some 91) rfl rfl (by kernel_rfl) (by kernel_rfl) (by kernel_rfl) (fun _ _ _ h => h) (Or.inl ⟨by rfl, ?hy27⟩) (by assumption) ?_
    case hy27 => (intro w' hSw; (try dsimp only at hSw); go_simp; try (with_reducible rfl))
    simp only [Act.put, List.setIfInBounds_toArray, List.set_cons_zero, List.set_cons_succ]
    refine takeD (i := 28) (v := ?v28) (some 92) rfl rfl (by kernel_rfl) (by kernel_rfl) (by kernel_rfl) (fun _ _ _ h => h) (Or.inl ⟨by rfl, ?hy28⟩) (by assumption) ?_
    case hy28 => (intro w' hSw; (try dsimp only at hSw); go_simp; try (with_reducible rfl))
    simp only [Act.put, List.setIfInBounds_toArray, List.set_cons_zero, List.set_cons_succ]
    refine wpAnyH_ready (rs := [29]) (by kernel_rfl) (by simp) (AllReadyH.cons rfl (fun K hK => ?_) AllReadyH.nil)
    go_simp
    with_reducible refine (c4 W9 HK9.out).mono ?_
    rintro e W10 ⟨rfl, hS10⟩
    have HK10 := Hid3.mk (HK9.out.step hS10)
    have hS10 := Hid3.mk HK10.out.tx
    refine hK.out _ _ hS10.out (fun hHeld2 => ?_)
    clear hK K hHeld
    have hHeld := hHeld2
    clear hHeld2
    try simp only [Act.put, List.setIfInBounds_toArray, List.set_cons_zero, List.set_cons_succ]
    refine takeD (i := 30) (v := ?v30) (some 94) rfl rfl (by kernel_rfl) (by kernel_rfl) (by kernel_rfl) (fun _ _ _ h => h) (Or.inl ⟨by rfl, ?hy30⟩) (by assumption) ?_
    case hy30 => (intro w' hSw; (try dsimp only at hSw); go_simp; try (with_reducible rfl))
    simp only [Act.put, List.setIfInBounds_toArray, List.set_cons_zero, List.set_cons_succ]
    refine takeD (i := 31) (v := ?v31) (some 95) rfl rfl (by kernel_rfl) (by kernel_rfl) (by kernel_rfl) (fun _ _ _ h => h) (Or.inl ⟨by rfl, ?hy31⟩) (by assumption) ?_
    case hy31 => (intro w' hSw; (try dsimp only at hSw); go_simp; try (with_reducible rfl))
    simp only [Act.put, List.setIfInBounds_toArray, List.set_cons_zero, List.set_cons_succ]
    refine takeD (i := 32) (v := ?v32) (some 96) rfl rfl (by kernel_rfl) (by kernel_rfl) (by kernel_rfl) (fun _ _ _ h => h) (Or.inl ⟨by rfl, ?hy32⟩) (by assumption) ?_
    case hy32 => (intro w' hSw; (try dsimp only at hSw); go_simp; try (with_reducible rfl))
    simp only [Act.put, List.setIfInBounds_toArray, List.set_cons_zero, List.set_cons_succ]
    refine takeD (i := 33) (v := ?v33) (some 97) rfl rfl (by kernel_rfl) (by kernel_rfl) (by kernel_rfl) (fun _ _ _ h => h) (Or.inl ⟨by rfl, ?hy33⟩) (by assumption) ?_
    case hy33 => (intro w' hSw; (try dsimp only at hSw); go_simp; try (with_reducible rfl))
    simp only [Act.put, List.setIfInBounds_toArray, List.set_cons_zero, List.set_cons_succ]
    refine takeD (i := 36) (v := ?v36) (some 100) rfl rfl (by kernel_rfl) (by kernel_rfl) (by kernel_rfl) (fun _ _ _ h => h) (Or.inl ⟨by rfl, ?hy36⟩) (by assumption) ?_
    case hy36 => (intro w' hSw; (try dsimp only at hSw); go_simp; try (with_reducible rfl))
    simp only [Act.put, List.setIfInBounds_toArray, List.set_cons_zero, List.set_cons_succ]
    refine takeD (i := 37) (v := ?v37) (some 101) rfl rfl (by kernel_rfl) (by kernel_rfl) (by kernel_rfl) (fun _ _ _ h => h) (Or.inl ⟨by rfl, ?hy37⟩) (by assumption) ?_
    case hy37 => (intro w' hSw; (try dsimp only at hSw); go_simp; try (with_reducible rfl))
    simp only [Act.put, List.setIfInBounds_toArray, List.set_cons_zero, List.set_cons_succ]
    refine wpAnyH_ready (rs := [34]) (by kernel_rfl) (by simp) (AllReadyH.cons rfl (fun K hK => ?_) AllReadyH.nil)
    go_simp
    with_reducible refine (c5 W10 HK10.out).mono ?_
    rintro e W11 ⟨r11, rfl, hr11, hB11⟩
    have HK11 := Hid3.mk (HK10.out.below hB11)
    have hS11 := Hid3.mk HK11.out.tx
    have u11 := TxR.of hr11 W11 (Below.refl _ _)
    clear hr11 hB11
    refine hK.out _ _ hS11.out (fun hHeld2 => ?_)
    clear hK K hHeld
    have hHeld := hHeld2
    clear hHeld2
    try simp only [Act.put, List.setIfInBounds_toArray, List.set_cons_zero, List.set_cons_succ]
    refine wpAnyH_ready (rs := [35]) (by kernel_rfl) (by simp) (AllReadyH.cons rfl (fun K hK => ?_) AllReadyH.nil)
    go_simp
    refine hK.out _ _ hS11.out (fun hHeld2 => ?_)
    clear hK K hHeld
    have hHeld := hHeld2
    clear hHeld2
    try simp only [Act.put, List.setIfInBounds_toArray, List.set_cons_zero, List.set_cons_succ]
    refine takeD (i := 38) (v := ?v38) (some 102) rfl rfl (by kernel_rfl) (by kernel_rfl) (by kernel_rfl) (fun _ _ _ h => h) (Or.inl ⟨by rfl, ?hy38⟩) (by assumption) ?_
    case hy38 => (intro w' hSw; (try dsimp only at hSw); go_simp; try (with_reducible rfl))
    simp only [Act.put, List.setIfInBounds_toArray, List.set_cons_zero, List.set_cons_succ]
    refine takeD (i := 39) (v := ?v39) (some 103) rfl rfl (by kernel_rfl) (by kernel_rfl) (by kernel_rfl) (fun _ _ _ h => h) (Or.inl ⟨by rfl, ?hy39⟩) (by assumption) ?_
    case hy39 => (intro w' hSw; (try dsimp only at hSw); go_simp; try (with_reducible rfl))
    simp only [Act.put, List.setIfInBounds_toArray, List.set_cons_zero, List.set_cons_succ]
    refine takeD (i := 40) (v := ?v40) (some 104) rfl rfl (by kernel_rfl) (by kernel_rfl) (by kernel_rfl) (fun _ _ _ h => h) (Or.inl ⟨by rfl, ?hy40⟩) (by assumption) ?_
    case hy40 => (intro w' hSw; (try dsimp only at hSw); go_simp; try (with_reducible rfl))
    simp only [Act.put, List.setIfInBounds_toArray, List.set_cons_zero, List.set_cons_succ]
    refine takeD (i := 41) (v := ?v41) (some 105) rfl rfl (by kernel_rfl) (by kernel_rfl) (by kernel_rfl) (fun _ _ _ h => h) (Or.inl ⟨by rfl, ?hy41⟩) (by assumption) ?_
    case hy41 => (intro w' hSw; (try dsimp only at hSw); go_simp; try (with_reducible rfl))
    simp only [Act.put, List.setIfInBounds_toArray, List.set_cons_zero, List.set_cons_succ]
    refine takeD (i := 42) (v := ?v42) (some 106) rfl rfl (by kernel_rfl) (by kernel_rfl) (by kernel_rfl) (fun _ _ _ h => h) (Or.inl ⟨by rfl, ?hy42⟩) (by assumption) ?_
    case hy42 => (intro w' hSw; (try dsimp only at hSw); go_simp; try (with_reducible rfl))
    simp only [Act.put, List.setIfInBounds_toArray, List.set_cons_zero, List.set_cons_succ]
    refine takeD (i := 44) (v := ?v44) (some 108) rfl rfl (by kernel_rfl) (by kernel_rfl) (by kernel_rfl) (fun _ _ _ h => h) (Or.inl ⟨by rfl, ?hy44⟩) (by assumption) ?_
    case hy44 => (intro w' hSw; (try dsimp only at hSw); go_simp; try (with_reducible rfl))
    simp only [Act.put, List.setIfInBounds_toArray, List.set_cons_zero, List.set_cons_succ]
    refine wpAnyH_ready (rs := [43]) (by kernel_rfl) (by simp) (AllReadyH.cons rfl (fun K hK => ?_) AllReadyH.nil)
    go_simp
    with_reducible refine (c6 W11 HK11.out).mono ?_
    rintro e W12 ⟨rfl, hB12⟩
    have HK12 := Hid3.mk (HK11.out.below hB12)
    have hS12 := Hid3.mk HK12.out.tx
    clear hB12
    refine hK.out _ _ hS12.out (fun hHeld2 => ?_)
    clear hK K hHeld
    have hHeld := hHeld2
    clear hHeld2
    try simp only [Act.put, List.setIfInBounds_toArray, List.set_cons_zero, List.set_cons_succ]
    refine takeD (i := 45) (v := ?v45) (some 109) rfl rfl (by kernel_rfl) (by kernel_rfl) (by kernel_rfl) (fun _ _ _ h => h) (Or.inl ⟨by rfl, ?hy45⟩) (by assumption) ?_
    case hy45 => (intro w' hSw; (try dsimp only at hSw); go_simp; try (with_reducible rfl))
    simp only [Act.put, List.setIfInBounds_toArray, List.set_cons_zero, List.set_cons_succ]
    refine takeD (i := 46) (v := ?v46) (some 110) rfl rfl (by kernel_rfl) (by kernel_rfl) (by kernel_rfl) (fun _ _ _ h => h) (Or.inl ⟨by rfl, ?hy46⟩) (by assumption) ?_
    case hy46 => (intro w' hSw; (try dsimp only at hSw); go_simp; try (with_reducible rfl))
    simp only [Act.put, List.setIfInBounds_toArray, List.set_cons_zero, List.set_cons_succ]
    refine takeD (i := 47) (v := ?v47) (some 6) rfl rfl (by kernel_rfl) (by kernel_rfl) (by kernel_rfl) (fun _ _ _ h => h) (Or.inl ⟨by rfl, ?hy47⟩) (by assumption) ?_
    case hy47 => (intro w' hSw; (try dsimp only at hSw); go_simp; try (with_reducible rfl))
    simp only [Act.put, List.setIfInBounds_toArray, List.set_cons_zero, List.set_cons_succ]
    refine wpAnyH_done (by kernel_rfl) ?_ _
    go_wp2
    go_ret
    exact ⟨rfl, HK12.out.k.bl⟩
  · have hmq : moQ x y q = q := by unfold moQ; rw [if_neg hm]
    rw [hmq] at hS
    have HK6 := Hid3.mk (HK5.out.step hS)
    have HK6d := Hid3.mk (HK6.out.below (below_drew W6))
    have cF := frames_any w.heap.size b rc rf q W6.drew HK6d.out.k.r HQ.out
    have t0 := HK6d.out.tx
    have hmb : (moE x y q == 0) = false := by simpa using hm
    generalize frL q 64 = L at *
    generalize moE x y q = em at *
    clear HK5 HK6 hS hmq
    go_wp2_with fail
    go_region_with ((first
      | (go_at_call 10; refine cF.mono ?_; rintro e W7 ⟨r7, rfl, hr7, hB7⟩; have HK7 := Hid3.mk (HK6d.out.below hB7); have t7 := HK7.out.tx; have u7 := TxR.of hr7 W7 (Below.refl _ _); clear hr7 hB7)))
    all_goals
      go_wp2
      go_ret
      exact ⟨rfl, HK7.out.k.bl⟩
end Go.Proofs.Ytboelnkeejmjnaa
