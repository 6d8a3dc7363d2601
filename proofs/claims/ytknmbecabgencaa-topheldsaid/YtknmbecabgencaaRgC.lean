/- The program's registry: New, Bind, Unbind, Dirty, Move. -/
import Derived.Test.YtknmbecabgencaaRgB
namespace Go.Proofs.Ytknmbecabgencaa
open Go.RowKit Go.Maps
set_option linter.unusedVariables false
set_option maxRecDepth 100000
structure St where
  C : Int → Option (Int × Bool)
  F : Int → Option Int
def St.Ok (q : St) : Prop := Both q.C q.F
def q0 : St := ⟨fun _ => none, fun _ => none⟩
def St.hold (q : St) (f : Int) (c : Int × Bool) : St := ⟨upI q.C f (some c), upI q.F c.1 (some f)⟩
def St.leave (q : St) (f : Int) (c : Int × Bool) : St := ⟨upI q.C f none, upI q.F c.1 none⟩
abbrev RgS (B : Nat) (w : World) (b rc rf : Nat) (q : St) : Prop := Rg B w b rc rf q.C q.F
abbrev StpS (B : Nat) (w w' : World) (b rc rf : Nat) (q : St) : Prop := RStp B w w' b rc rf q.C q.F
set_option maxHeartbeats 1000000 in
theorem new_any (w : World) : Calls Try.prog 4 #[] w fun r w' => r = .returned (.pointer (some ⟨w.heap.size + 1 + 1, 0, none⟩)) ∧ RgS w.heap.size w' (w.heap.size + 1 + 1) w.heap.size (w.heap.size + 1) q0 ∧ Below w.heap.size w w' := by
  have hmm := @run_makeMap Try.prog
  have HB : Below w.heap.size w (((w.alloc (.map #[] 0)).alloc (.map #[] 0)).alloc (.cells #[.map (some w.heap.size), .map (some (w.heap.size + 1))] 40)) := (((Below.refl _ w).alloc (Nat.le_refl _) _).alloc (by simp) _).alloc (by simp; omega) _
  have m1 : Mp (((w.alloc (.map #[] 0)).alloc (.map #[] 0)).alloc (.cells #[.map (some w.heap.size), .map (some (w.heap.size + 1))] 40)) w.heap.size .u8 [] := ((Mp.new w .u8).below (below_new _ _)).below (below_new _ _)
  have m2 : Mp (((w.alloc (.map #[] 0)).alloc (.map #[] 0)).alloc (.cells #[.map (some w.heap.size), .map (some (w.heap.size + 1))] 40)) (w.heap.size + 1) .i64 [] := by
    have := (Mp.new (w.alloc (.map #[] 0)) .i64).below (below_new _ (.cells #[.map (some w.heap.size), .map (some (w.heap.size + 1))] 40))
    rw [World.size_alloc] at this
    exact this
  have hr : Cl (((w.alloc (.map #[] 0)).alloc (.map #[] 0)).alloc (.cells #[.map (some w.heap.size), .map (some (w.heap.size + 1))] 40)) (w.heap.size + 1 + 1) 40 [.map (some w.heap.size), .map (some (w.heap.size + 1))] := by
    have := Cl.new ((w.alloc (.map #[] 0)).alloc (.map #[] 0)) 40 [.map (some w.heap.size), .map (some (w.heap.size + 1))]
    rw [World.size_alloc, World.size_alloc] at this
    exact this
  go_enter Try.func4, Try.ntmps4
  go_wp2
  go_ret
  exact ⟨rfl, ⟨by omega, Nat.le_refl _, by omega, by omega, hr, ⟨[], m1, by simp [keys], fun k => rfl⟩, ⟨[], m2, by simp [keys], fun k => rfl⟩⟩, HB⟩
def bindE (f s : Int) (q : St) : Int := if 64 ≤ f then 2 else if s < 0 ∨ 64 ≤ s then 2 else if (q.C f).isSome = true ∨ (q.F s).isSome = true then 6 else 0
def bindQ (f s : Int) (q : St) : St := if bindE f s q = 0 then q.hold f (s, false) else q
set_option maxHeartbeats 4000000 in
theorem bind_any (B b rc rf : Nat) (q : St) (f s : Int) (w : World) (h : RgS B w b rc rf q) : Calls Try.prog 5 #[.pointer (some ⟨b, 0, none⟩), .int .u8 f, .int .i64 s] w fun r w' => r = .returned (.int .i64 (bindE f s q)) ∧ StpS B w w' b rc rf (bindQ f s q) := by
  have H0 := Hid3.mk h
  have cT := there_any b f w
  unfold bindQ
  unfold bindE
  unfold thE at cT
  by_cases h6 : 64 ≤ f
  · rw [if_pos h6] at cT
    simp only [if_pos h6]
    clear h
    go_enter Try.func5, Try.ntmps5
    go_wp2_with fail
    refine cT.mono ?_
    rintro r W ⟨rfl, rfl⟩
    go_wp2
    go_ret
    exact ⟨rfl, RStp.same H0.out (Below.refl _ _)⟩
  rw [if_neg h6] at cT
  simp only [if_neg h6]
  by_cases hs : s < 0 ∨ 64 ≤ s
  · simp only [if_pos hs]
    clear h
    by_cases hs1 : s < 0
    · clear hs
      go_enter Try.func5, Try.ntmps5
      go_wp2_with fail
      refine cT.mono ?_
      rintro r W ⟨rfl, rfl⟩
      go_wp2
      go_ret
      exact ⟨rfl, RStp.same H0.out (Below.refl _ _)⟩
    · have hs2 : 64 ≤ s := by omega
      clear hs
      go_enter Try.func5, Try.ntmps5
      go_wp2_with fail
      refine cT.mono ?_
      rintro r W ⟨rfl, rfl⟩
      go_wp2
      go_ret
      exact ⟨rfl, RStp.same H0.out (Below.refl _ _)⟩
  simp only [if_neg hs]
  have hs1 : ¬ s < 0 := fun e => hs (.inl e)
  have hs2 : ¬ 64 ≤ s := fun e => hs (.inr e)
  have cS := sector_any B b rc rf q.C q.F f w h
  have hsec : (ctE q.C f == 0) = (q.C f).isSome := by
    unfold ctE
    rw [if_neg h6]
    cases (q.C f).isSome <;> rfl
  rw [hsec] at cS
  have cF := fun W (hW : RgS B W b rc rf q) => frame_any B b rc rf q.C q.F s W hW
  have cH := fun W (hW : RgS B W b rc rf q) => hold_any B b rc rf q.C q.F f (s, false) W hW
  generalize hz1 : (q.C f).isSome = z1 at *
  generalize hz2 : (q.F s).isSome = z2 at *
  generalize (ctC q.C f).1 = v1 at *
  generalize (q.F s).getD 0 = v2 at *
  clear h hs hz1 hz2 hsec
  unfold cV at cH
  go_enter Try.func5, Try.ntmps5
  go_wp2_with fail
  refine cT.mono ?_
  rintro r W ⟨rfl, rfl⟩
  clear cT
  go_wp2_with fail
  refine cS.mono ?_
  rintro r W2 ⟨rfl, hB2⟩
  have hA2 := H0.out.below hB2
  have cF2 := cF W2 hA2
  have cH2 := cH W2 hA2
  have HB2 := Hid3.mk hB2
  clear cS cF cH hB2
  go_wp2_with fail
  refine cF2.mono ?_
  rintro r W3 ⟨rfl, hW⟩
  rw [hW]
  clear cF2 hW
  cases z1 with
  | true =>
    go_wp2
    go_ret
    exact ⟨rfl, RStp.same H0.out HB2.out⟩
  | false =>
    cases z2 with
    | true =>
      go_wp2
      go_ret
      exact ⟨rfl, RStp.same H0.out HB2.out⟩
    | false =>
      go_wp2_with fail
      refine cH2.mono ?_
      rintro r W4 ⟨rfl, hS⟩
      have HS := Hid3.mk (RStp.pre HB2.out hS)
      clear cH2 hS
      go_wp2
      go_ret
      exact ⟨rfl, HS.out⟩
def unE (f : Int) (q : St) : Int := if ctE q.C f = 0 then (if (ctC q.C f).2 then 8 else 0) else ctE q.C f
def unV (f : Int) (q : St) : Int := if unE f q = 0 then (ctC q.C f).1 else 0
def unQ (f : Int) (q : St) : St := if unE f q = 0 then q.leave f (ctC q.C f) else q
def diQ (f : Int) (on : Bool) (q : St) : St := if ctE q.C f = 0 then q.hold f ((ctC q.C f).1, on) else q
def moE (f t : Int) (q : St) : Int := if 64 ≤ t then 2 else if ctE q.C f = 0 then (if ctE q.C t = 0 then 6 else 0) else ctE q.C f
def moQ (f t : Int) (q : St) : St := if moE f t q = 0 then (q.leave f (ctC q.C f)).hold t (ctC q.C f) else q
set_option maxHeartbeats 4000000 in
theorem move_any (B b rc rf : Nat) (q : St) (f t : Int) (w : World) (h : RgS B w b rc rf q) : Calls Try.prog 6 #[.pointer (some ⟨b, 0, none⟩), .int .u8 f, .int .u8 t] w fun r w' => r = .returned (.int .i64 (moE f t q)) ∧ StpS B w w' b rc rf (moQ f t q) := by
  have H0 := Hid3.mk h
  have cT := there_any b t w
  unfold moQ moE
  unfold thE at cT
  by_cases h6 : 64 ≤ t
  · rw [if_pos h6] at cT
    simp only [if_pos h6]
    clear h
    go_enter Try.func6, Try.ntmps6
    go_wp2_with fail
    refine cT.mono ?_
    rintro r W ⟨rfl, rfl⟩
    go_wp2
    go_ret
    exact ⟨rfl, RStp.same H0.out (Below.refl _ _)⟩
  rw [if_neg h6] at cT
  simp only [if_neg h6]
  have cC := content_any B b rc rf q.C q.F f w h
  have cS := fun W (hW : RgS B W b rc rf q) => sector_any B b rc rf q.C q.F t W hW
  have cL := fun W (hW : RgS B W b rc rf q) => leave_any B b rc rf q.C q.F f (ctC q.C f) W hW
  have cH := fun W (hW : RgS B W b rc rf (q.leave f (ctC q.C f))) => hold_any B b rc rf (q.leave f (ctC q.C f)).C (q.leave f (ctC q.C f)).F t (ctC q.C f) W hW
  generalize ctE q.C f = ce at *
  generalize ctE q.C t = te at *
  generalize ctC q.C f = cc at *
  generalize (ctC q.C t).1 = tv at *
  obtain ⟨cs, cb⟩ := cc
  have HG : Hid3 (∀ W W', StpS B W W' b rc rf (q.leave f (cs, cb)) → RgS B W' b rc rf (q.leave f (cs, cb))) := ⟨fun _ _ h => h.a⟩
  unfold cV at cC cL cH
  simp only at cL cH
  clear h
  by_cases h0 : ce = 0
  · subst h0
    simp only [if_true]
    by_cases h1 : te = 0
    · subst h1
      simp only [if_true]
      clear cL cH
      go_enter Try.func6, Try.ntmps6
      go_wp2_with fail
      refine cT.mono ?_
      rintro r W ⟨rfl, rfl⟩
      clear cT
      go_wp2_with fail
      refine cC.mono ?_
      rintro r W2 ⟨rfl, hB⟩
      have hX := hB.trans ((below_new W2 (.cells #[.int .i64 cs, .bool cb] 44)).mono hB.size)
      have cS2 := cS _ (H0.out.below hX)
      have HX := Hid3.mk hX
      clear hB cS cC hX
      go_wp2_with fail
      refine cS2.mono ?_
      rintro r W3 ⟨rfl, hB3⟩
      have HX3 := Hid3.mk (HX.out.trans (hB3.mono HX.out.size))
      clear cS2 hB3
      go_wp2
      go_ret
      exact ⟨rfl, RStp.same H0.out HX3.out⟩
    · simp only [if_neg h1]
      have hte : (te == 0) = false := by simpa using h1
      rw [hte] at cS
      go_enter Try.func6, Try.ntmps6
      go_wp2_with fail
      refine cT.mono ?_
      rintro r W ⟨rfl, rfl⟩
      clear cT
      go_wp2_with fail
      refine cC.mono ?_
      rintro r W2 ⟨rfl, hB⟩
      have hX := hB.trans ((below_new W2 (.cells #[.int .i64 cs, .bool cb] 44)).mono hB.size)
      have cS2 := cS _ (H0.out.below hX)
      have HX := Hid3.mk hX
      have HC := Hid3.mk (Cl.new W2 44 [.int .i64 cs, .bool cb])
      have hlt : rc < W2.heap.size ∧ rf < W2.heap.size := ⟨(H0.out.below hB).mc.elim fun _ hc => hc.1.lt, (H0.out.below hB).mf.elim fun _ hc => hc.1.lt⟩
      clear hB cS cC hX
      go_wp2_with fail
      refine cS2.mono ?_
      rintro r W3 ⟨rfl, hB3⟩
      have hC3 := HC.out.below hB3
      have hX3 := HX.out.trans (hB3.mono HX.out.size)
      have y0 : W3.cell? ⟨W2.heap.size, 0, none⟩ = some (.int .i64 cs) := hC3.cell 0
      have y1 : W3.cell? ⟨W2.heap.size, 1, none⟩ = some (.bool cb) := hC3.cell 1
      have HC3 := Hid3.mk hC3
      have cL3 := cL W3 (H0.out.below hX3)
      have HX3 := Hid3.mk hX3
      clear cS2 hB3 hX3 hC3 HC HX cL
      go_wp2_with fail
      refine cL3.mono ?_
      rintro r W4 ⟨rfl, hS⟩
      have hC4 := HC3.out.stay hS.ap (fun e => by rcases e with e | e <;> omega)
      have z0 : W4.cell? ⟨W2.heap.size, 0, none⟩ = some (.int .i64 cs) := hC4.cell 0
      have z1 : W4.cell? ⟨W2.heap.size, 1, none⟩ = some (.bool cb) := hC4.cell 1
      have cH4 := cH W4 hS.a
      have HS4 := Hid3.mk (RStp.pre HX3.out hS)
      clear cL3 hS hC4 HC3 HX3 y0 y1 cH
      generalize W2.heap.size = x at *
      go_wp2_with fail
      refine cH4.mono ?_
      rintro r W5 ⟨rfl, hS⟩
      have HS5 := Hid3.mk (RStp.trans HS4.out hS)
      clear cH4 hS HS4
      go_wp2
      go_ret
      exact ⟨rfl, HS5.out⟩
  · simp only [if_neg h0]
    clear cL cH cS
    go_enter Try.func6, Try.ntmps6
    go_wp2_with fail
    refine cT.mono ?_
    rintro r W ⟨rfl, rfl⟩
    clear cT
    go_wp2_with fail
    refine cC.mono ?_
    rintro r W2 ⟨rfl, hB⟩
    have HX := Hid3.mk (hB.trans ((below_new W2 (.cells #[.int .i64 cs, .bool cb] 44)).mono hB.size))
    clear hB cC
    go_wp2
    go_ret
    exact ⟨rfl, RStp.same H0.out HX.out⟩
end Go.Proofs.Ytknmbecabgencaa
