/- The document's registry: Bind, Unbind, Dirty, Move. -/
import Derived.Test.YtboelnkeejmjnaaRgR
namespace Go.Proofs.Ytboelnkeejmjnaa
open Go.RowKit Go.Maps
set_option linter.unusedVariables false
set_option maxRecDepth 100000
theorem natOf {f : Int} (h0 : 0 ≤ f) : ∃ i : Nat, f = i := ⟨f.toNat, by omega⟩
set_option maxHeartbeats 4000000 in
theorem rbind_any (B b : Nat) (q : St) (f s : Int) (w : World) (h : Rf B w b q.C) (hq : q.Ok) (h0 : 0 ≤ f) : Calls Try.prog 34 #[.pointer (some ⟨b, 0, none⟩), .int .u8 f, .int .i64 s] w fun r w' => r = .returned (.int .i64 (bindE f s q)) ∧ FStp B w w' b (bindQ f s q).C := by
  have H0 := Hid3.mk h
  have cT := rmay_any b f w
  unfold bindQ
  unfold bindE
  unfold thE at cT
  by_cases h6 : 64 ≤ f
  · rw [if_pos h6] at cT
    simp only [if_pos h6]
    clear h
    go_enter Try.func34, Try.ntmps34
    go_wp2_with fail
    refine cT.mono ?_
    rintro r W ⟨rfl, rfl⟩
    go_wp2
    go_ret
    exact ⟨rfl, FStp.same H0.out (Below.refl _ _)⟩
  rw [if_neg h6] at cT
  simp only [if_neg h6]
  by_cases hs : s < 0 ∨ 64 ≤ s
  · simp only [if_pos hs]
    clear h
    by_cases hs1 : s < 0
    · clear hs
      go_enter Try.func34, Try.ntmps34
      go_wp2_with fail
      refine cT.mono ?_
      rintro r W ⟨rfl, rfl⟩
      go_wp2
      go_ret
      exact ⟨rfl, FStp.same H0.out (Below.refl _ _)⟩
    · have hs2 : 64 ≤ s := by omega
      clear hs
      go_enter Try.func34, Try.ntmps34
      go_wp2_with fail
      refine cT.mono ?_
      rintro r W ⟨rfl, rfl⟩
      go_wp2
      go_ret
      exact ⟨rfl, FStp.same H0.out (Below.refl _ _)⟩
  simp only [if_neg hs]
  have hs1 : ¬ s < 0 := fun e => hs (.inl e)
  have hs2 : ¬ 64 ≤ s := fun e => hs (.inr e)
  have cF := rframe_any B b q s w h hq
  obtain ⟨i, rfl⟩ := natOf h0
  have hi : i < 64 := by omega
  have hiz : (i : Int) < 64 := by omega
  have c0 := (h.cs i hi).1
  have f0 := h.f i
  have hb := h.lt
  have hz := sV_none hq i
  have hws : IntKind.i64.wrap (s + 1) = s + 1 := by rw [IntKind.wrap_i64]; omega
  have HS : Hid3 ((q.C i).isSome = false → FStp B w (w.setCell ⟨b, i, none⟩ (.int .i64 (s + 1))) b (q.hold i (s, false)).C) := ⟨fun e => h.setS i hi (some (s, false)) (by
    cases e2 : q.C i with
    | none => rfl
    | some c => rw [e2] at e; cases e)⟩
  generalize sV (q.C i) = v at *
  generalize (q.C i).isSome = z1 at *
  generalize (q.F s).isSome = z2 at *
  generalize (q.F s).getD 0 = v2 at *
  clear h hs
  cases z2 with
  | true =>
    cases z1
    all_goals (
      go_enter Try.func34, Try.ntmps34
      go_wp2_with fail
      refine cT.mono ?_
      rintro r W ⟨rfl, rfl⟩
      clear cT
      go_wp2_with fail
      refine cF.mono ?_
      rintro r W ⟨rfl, rfl⟩
      clear cF
      go_wp2
      go_ret
      exact ⟨by simp, by simpa using FStp.same H0.out (Below.refl _ _)⟩)
  | false =>
    cases z1 with
    | true =>
      simp only [Bool.not_true] at hz
      go_enter Try.func34, Try.ntmps34
      go_wp2_with fail
      refine cT.mono ?_
      rintro r W ⟨rfl, rfl⟩
      clear cT
      go_wp2_with fail
      refine cF.mono ?_
      rintro r W ⟨rfl, rfl⟩
      clear cF
      go_wp2
      go_ret
      exact ⟨by simp, by simpa using FStp.same H0.out (Below.refl _ _)⟩
    | false =>
      simp only [Bool.not_false] at hz
      have HS' := Hid3.mk (HS.out rfl)
      go_enter Try.func34, Try.ntmps34
      go_wp2_with fail
      refine cT.mono ?_
      rintro r W ⟨rfl, rfl⟩
      clear cT
      go_wp2_with fail
      refine cF.mono ?_
      rintro r W ⟨rfl, rfl⟩
      clear cF
      go_wp2
      go_ret
      exact ⟨by simp, by simpa using HS'.out⟩
theorem ct_some {q : St} {f : Int} (hq : q.Ok) (h : ctE q.C f = 0) : f < 64 ∧ ∃ c, q.C f = some c ∧ ctC q.C f = c ∧ 0 ≤ c.1 ∧ c.1 < 64 := by
  unfold ctE at h
  unfold ctC
  by_cases h6 : 64 ≤ f
  · rw [if_pos h6] at h
    omega
  · rw [if_neg h6] at h
    rw [if_neg h6]
    cases e : q.C f with
    | none => rw [e] at h; simp at h
    | some c =>
      obtain ⟨_, _, h3, h4, _⟩ := hq.c f c.1 c.2 e
      exact ⟨by omega, c, rfl, rfl, h3, h4⟩
set_option maxHeartbeats 4000000 in
theorem runbind_any (B b : Nat) (q : St) (f : Int) (w : World) (h : Rf B w b q.C) (hq : q.Ok) (h0 : 0 ≤ f) : Calls Try.prog 35 #[.pointer (some ⟨b, 0, none⟩), .int .u8 f] w fun r w' => r = .returned (.tuple #[.int .i64 (unV f q), .int .i64 (unE f q)]) ∧ FStp B w w' b (unQ f q).C := by
  have H0 := Hid3.mk h
  have cT := rholds_any B b q f w h hq h0
  by_cases hc : ctE q.C f = 0
  · obtain ⟨h6, c, hcf, hcc, hc0, hc1⟩ := ct_some hq hc
    obtain ⟨i, rfl⟩ := natOf h0
    have hi : i < 64 := by omega
    have hb := h.lt
    have c0 := (h.cs i hi).1
    have c1 := (h.cs i hi).2
    have f0 := h.f i
    have HS : Hid3 (c.2 = false → FStp B w (w.setCell ⟨b, i, none⟩ (.int .i64 0)) b (q.leave i c).C) := ⟨fun e => h.setS i hi none (by rw [hcf]; show false = c.2; rw [e])⟩
    unfold unQ unV unE
    rw [hc] at cT ⊢
    rw [hcc]
    rw [hcf] at c0 c1
    obtain ⟨cs, cb⟩ := c
    simp only [sV, wV] at c0 c1
    have hsub : IntKind.i64.wrap (cs + 1 - 1) = cs := by rw [IntKind.wrap_i64]; simp only at hc0 hc1; omega
    clear h hcf hcc hc
    cases cb with
    | true =>
      go_enter Try.func35, Try.ntmps35
      go_wp2_with fail
      refine cT.mono ?_
      rintro r W ⟨rfl, rfl⟩
      go_wp2
      go_ret2
      exact ⟨rfl, FStp.same H0.out (Below.refl _ _)⟩
    | false =>
      have HS' := Hid3.mk (HS.out rfl)
      go_enter Try.func35, Try.ntmps35
      go_wp2_with fail
      refine cT.mono ?_
      rintro r W ⟨rfl, rfl⟩
      go_wp2
      go_ret2
      exact ⟨rfl, HS'.out⟩
  · unfold unQ unV unE
    simp only [if_neg hc]
    generalize ctE q.C f = ce at *
    clear h
    go_enter Try.func35, Try.ntmps35
    go_wp2_with fail
    refine cT.mono ?_
    rintro r W ⟨rfl, rfl⟩
    go_wp2
    go_ret2
    exact ⟨rfl, FStp.same H0.out (Below.refl _ _)⟩
set_option maxHeartbeats 4000000 in
theorem rdirty_any (B b : Nat) (q : St) (f : Int) (on : Bool) (w : World) (h : Rf B w b q.C) (hq : q.Ok) (h0 : 0 ≤ f) : Calls Try.prog 36 #[.pointer (some ⟨b, 0, none⟩), .int .u8 f, .bool on] w fun r w' => r = .returned (.int .i64 (ctE q.C f)) ∧ FStp B w w' b (diQ f on q).C := by
  have H0 := Hid3.mk h
  have cT := rholds_any B b q f w h hq h0
  unfold diQ
  by_cases hc : ctE q.C f = 0
  · obtain ⟨h6, c, hcf, hcc, hc0, hc1⟩ := ct_some hq hc
    obtain ⟨i, rfl⟩ := natOf h0
    have hi : i < 64 := by omega
    have hb := h.lt
    have c1 := (h.cs i hi).2
    have f0 := h.f (64 + i)
    have HS : Hid3 (FStp B w (w.setCell ⟨b, 64 + i, none⟩ (.bool on)) b (q.hold i (c.1, on)).C) := ⟨h.setW i hi (some (c.1, on)) (by rw [hcf]; rfl)⟩
    rw [hc] at cT ⊢
    rw [hcc]
    clear h hcf hcc hc
    go_enter Try.func36, Try.ntmps36
    go_wp2_with fail
    refine cT.mono ?_
    rintro r W ⟨rfl, rfl⟩
    go_wp2
    go_ret
    exact ⟨rfl, HS.out⟩
  · simp only [if_neg hc]
    generalize ctE q.C f = ce at *
    clear h
    go_enter Try.func36, Try.ntmps36
    go_wp2_with fail
    refine cT.mono ?_
    rintro r W ⟨rfl, rfl⟩
    go_wp2
    go_ret
    exact ⟨rfl, FStp.same H0.out (Below.refl _ _)⟩
theorem mo_c (q : St) (f t : Int) (c : Int × Bool) (h : f ≠ t) : ((q.leave f c).hold t c).C = upI (upI q.C t (some c)) f none := by
  funext k
  show upI (upI q.C f none) t (some c) k = _
  unfold upI
  by_cases h1 : k = t
  · rw [if_pos h1, if_neg (fun e => h (e.symm.trans h1)), if_pos h1]
  · rw [if_neg h1]
    by_cases h2 : k = f
    · rw [if_pos h2, if_pos h2]
    · rw [if_neg h2, if_neg h2, if_neg h1]
set_option maxHeartbeats 4000000 in
theorem rmove_any (B b : Nat) (q : St) (f t : Int) (w : World) (h : Rf B w b q.C) (hq : q.Ok) (h0 : 0 ≤ f) (h1 : 0 ≤ t) : Calls Try.prog 37 #[.pointer (some ⟨b, 0, none⟩), .int .u8 f, .int .u8 t] w fun r w' => r = .returned (.int .i64 (moE f t q)) ∧ FStp B w w' b (moQ f t q).C := by
  have H0 := Hid3.mk h
  have cF := rmay_any b f w
  have cT := rmay_any b t w
  unfold thE at cF cT
  unfold moQ moE
  by_cases hf6 : 64 ≤ f
  · have hct : ctE q.C f = 2 := by unfold ctE; rw [if_pos hf6]
    have e2 : (if 64 ≤ t then (2 : Int) else if ctE q.C f = 0 then (if ctE q.C t = 0 then 6 else 0) else ctE q.C f) = 2 := by
      split
      · rfl
      · rw [hct]; rfl
    rw [e2]
    rw [if_pos hf6] at cF
    clear h cT
    go_enter Try.func37, Try.ntmps37
    go_wp2_with fail
    refine cF.mono ?_
    rintro r W ⟨rfl, rfl⟩
    go_wp2
    go_ret
    exact ⟨rfl, FStp.same H0.out (Below.refl _ _)⟩
  rw [if_neg hf6] at cF
  by_cases ht6 : 64 ≤ t
  · simp only [if_pos ht6]
    rw [if_pos ht6] at cT
    clear h
    go_enter Try.func37, Try.ntmps37
    go_wp2_with fail
    refine cF.mono ?_
    rintro r W ⟨rfl, rfl⟩
    clear cF
    go_wp2_with fail
    refine cT.mono ?_
    rintro r W ⟨rfl, rfl⟩
    go_wp2
    go_ret
    exact ⟨rfl, FStp.same H0.out (Below.refl _ _)⟩
  rw [if_neg ht6] at cT
  simp only [if_neg ht6]
  obtain ⟨i, rfl⟩ := natOf h0
  obtain ⟨j, rfl⟩ := natOf h1
  have hi : i < 64 := by omega
  have hj : j < 64 := by omega
  have hiz : (i : Int) < 64 := by omega
  have hjz : (j : Int) < 64 := by omega
  have hb := h.lt
  have c0 := (h.cs i hi).1
  have c1 := (h.cs i hi).2
  have d0 := (h.cs j hj).1
  have d1 := (h.cs j hj).2
  have zi := sV_none hq i
  have zj := sV_none hq j
  have ei : ctE q.C i = if (q.C i).isSome then 0 else 5 := by unfold ctE; rw [if_neg hf6]
  have ej : ctE q.C j = if (q.C j).isSome then 0 else 5 := by unfold ctE; rw [if_neg ht6]
  have ec : ctC q.C i = (q.C i).getD (0, false) := by unfold ctC; rw [if_neg hf6]
  rw [ei, ej, ec]
  cases e1 : q.C i with
  | none =>
    rw [e1] at zi c0
    simp only [sV] at c0
    clear h ei ej ec zi zj c1 d0 d1
    go_enter Try.func37, Try.ntmps37
    go_wp2_with fail
    refine cF.mono ?_
    rintro r W ⟨rfl, rfl⟩
    clear cF
    go_wp2_with fail
    refine cT.mono ?_
    rintro r W ⟨rfl, rfl⟩
    clear cT
    go_wp2
    go_ret
    exact ⟨rfl, FStp.same H0.out (Below.refl _ _)⟩
  | some c =>
    obtain ⟨_, _, hc0, hc1, _⟩ := hq.c i c.1 c.2 e1
    rw [e1] at c0 c1
    simp only [sV, wV] at c0 c1
    have n1 : ((c.1 + 1) == 0) = false := by rw [beq_eq_false_iff_ne]; omega
    cases e2 : q.C j with
    | some c2 =>
      obtain ⟨_, _, hd0, hd1, _⟩ := hq.c j c2.1 c2.2 e2
      rw [e2] at d0
      simp only [sV] at d0
      have n2 : ((c2.1 + 1) != 0) = true := by simp; omega
      clear h ei ej ec zi zj c1 d1 e1 e2
      go_enter Try.func37, Try.ntmps37
      go_wp2_with fail
      refine cF.mono ?_
      rintro r W ⟨rfl, rfl⟩
      clear cF
      go_wp2_with fail
      refine cT.mono ?_
      rintro r W ⟨rfl, rfl⟩
      clear cT
      go_wp2
      go_ret
      exact ⟨rfl, FStp.same H0.out (Below.refl _ _)⟩
    | none =>
      have hij : i ≠ j := fun e => by rw [e, e2] at e1; cases e1
      rw [e2] at d0 d1
      simp only [sV, wV] at d0 d1
      have S1 := (h.set j hj (some c)).drew
      have S2 := (S1.a.set i hi none).drew
      have HQ : ((q.leave (i : Int) c).hold j c).C = upI (upI q.C j (some c)) i none := mo_c q i j c (by omega)
      have HS := Hid3.mk (HQ ▸ S1.trans S2 : FStp B w _ b ((q.leave (i : Int) c).hold j c).C)
      have f0 := h.f j
      have f1 := h.f (64 + j)
      have g0 := S1.a.f i
      have g1 := S1.a.f (64 + i)
      have x0 := (S1.a.cs i hi).1
      have x1 := (S1.a.cs i hi).2
      have hb1 := S1.a.lt
      simp only [sV, wV] at HS g0 g1 x0 x1 hb1
      have G0 := Hid3.mk g0
      have G1 := Hid3.mk g1
      have X0 := Hid3.mk x0
      have X1 := Hid3.mk x1
      have HB1 := Hid3.mk hb1
      clear h ei ej ec zi zj e1 e2 S1 S2 HQ g0 g1 x0 x1 hb1
      obtain ⟨cs, cb⟩ := c
      simp only at *
      go_enter Try.func37, Try.ntmps37
      go_wp2_with fail
      refine cF.mono ?_
      rintro r W ⟨rfl, rfl⟩
      clear cF
      go_wp2_with fail
      refine cT.mono ?_
      rintro r W ⟨rfl, rfl⟩
      clear cT
      go_wp2_with fail
      go_region
      have g0 := G0.out
      have g1 := G1.out
      have x0 := X0.out
      have x1 := X1.out
      have hb1 := HB1.out
      clear c0 c1 d0 d1 f0 f1 G0 G1 X0 X1 HB1
      generalize ((W.setCell ⟨b, j, none⟩ (.int .i64 (cs + 1))).setCell ⟨b, 64 + j, none⟩ (.bool cb)).drew = W1 at *
      go_wp2_with fail
      go_region
      go_wp2
      go_ret
      exact ⟨rfl, HS.out⟩
end Go.Proofs.Ytboelnkeejmjnaa
