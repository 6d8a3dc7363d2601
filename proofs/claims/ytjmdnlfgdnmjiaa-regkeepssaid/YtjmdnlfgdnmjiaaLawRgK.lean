/- RegKeeps: the walk. -/
import Derived.Test.YtjmdnlfgdnmjiaaRgY
namespace Go.Proofs.Ytjmdnlfgdnmjiaa
open Go.RowKit Go.Maps
set_option linter.unusedVariables false
set_option maxRecDepth 100000
/-- The program's registry, and the world below it as it was. -/
structure Kp (w W : World) (b rc rf : Nat) (q : St) : Prop where
  r : RgS w.heap.size W b rc rf q
  bl : Below w.heap.size w W
theorem Kp.below {w W W' : World} {b rc rf : Nat} {q : St} (h : Kp w W b rc rf q) (k : Below W.heap.size W W') : Kp w W' b rc rf q := ⟨h.r.below k, h.bl.trans (k.mono h.bl.size)⟩
theorem Kp.step {w W W' : World} {b rc rf : Nat} {q q' : St} (h : Kp w W b rc rf q) (k : StpS w.heap.size W W' b rc rf q') : Kp w W' b rc rf q' := ⟨k.a, h.bl.trans (k.belowB h.bl.size)⟩
theorem ct_hold (q : St) (x : Int) (c : Int × Bool) (h : x < 64) : ctE (q.hold x c).C x = 0 ∧ ctC (q.hold x c).C x = c := by
  have e : (q.hold x c).C x = some c := if_pos rfl
  have hn : ¬ 64 ≤ x := by omega
  unfold ctE ctC
  rw [if_neg hn, if_neg hn, e]
  exact ⟨rfl, rfl⟩
theorem ct_no {q : St} {x : Int} (h : ctE q.C x ≠ 0) : (ctC q.C x).2 = false ∧ ((ctE q.C x == 5) = true ∨ ((ctE q.C x == 5) = false ∧ (ctE q.C x == 2) = true)) := by
  unfold ctE at h ⊢
  unfold ctC
  by_cases h6 : 64 ≤ x
  · rw [if_pos h6, if_pos h6]
    exact ⟨rfl, .inr ⟨rfl, rfl⟩⟩
  · rw [if_neg h6] at h
    rw [if_neg h6, if_neg h6]
    cases e : q.C x with
    | none => exact ⟨rfl, .inl rfl⟩
    | some c => rw [e] at h; exact (h rfl).elim
theorem bind_back {q : St} (hq : q.Ok) (x : Int) (c : Int × Bool) (h0 : 0 ≤ x) (hc : q.C x = some c) : bindE x c.1 (q.leave x c) = 0 ∧ bindQ x c.1 (q.leave x c) = (q.leave x c).hold x (c.1, false) := by
  obtain ⟨a1, a2, a3, a4, a5⟩ := hq.c x c.1 c.2 hc
  have e : bindE x c.1 (q.leave x c) = 0 := by
    unfold bindE
    have k1 : (q.leave x c).C x = none := if_pos rfl
    have k2 : (q.leave x c).F c.1 = none := if_pos rfl
    rw [if_neg (by omega), if_neg (by omega), k1, k2, if_neg (by simp)]
  exact ⟨e, by unfold bindQ; rw [if_pos e]⟩
set_option maxHeartbeats 4000000 in
theorem keeps_law (v : Value) (l : List Dd) (x : Int) (w : World) (hd : Dds w v l) (hok : ∀ d ∈ l, d.Ok) (hx : 0 ≤ x) : Calls Try.prog 5 #[v, .int .u8 x] w fun e w' => e = .returned (.bool true) ∧ Below w.heap.size w w' := by
  have cP := play_any v l w hd hok
  clear hd
  go_enter Try.func5, Try.ntmps5
  go_wp2_with fail
  refine cP.mono ?_
  rintro r W1 ⟨b, rc, rf, rb, rfl, hT, hB⟩
  generalize playQ (l.take 50) q0 = q at *
  have HQ := Hid3.mk hT.ok
  have HK1 : Hid3 (Kp w W1 b rc rf q) := ⟨⟨hT.t, hB⟩⟩
  clear cP hT hB
  go_wp2_with fail
  refine (live_any _).mono ?_
  rintro r W2 ⟨rfl, hB⟩
  have HK2 := Hid3.mk (HK1.out.below hB)
  have cS := sector_any w.heap.size b rc rf q.C q.F x W2 HK2.out.r
  clear hB HK1
  by_cases h0 : ctE q.C x = 0
  · obtain ⟨h6, c, hcf, hcc, c0, c1⟩ := ct_some HQ.out h0
    have hz : (ctE q.C x == 0) = true := by rw [h0]; rfl
    rw [hz, hcc] at cS
    have cW := fun W (hW : RgS w.heap.size W b rc rf q) => written_any w.heap.size b rc rf q.C q.F x W hW
    have cU := fun W (hW : RgS w.heap.size W b rc rf q) => unbind_any w.heap.size b rc rf q x W hW
    simp only [hcc] at cW
    obtain ⟨cs, cb⟩ := c
    simp only at cS cW
    cases cb with
    | true =>
      have u1 : unE x q = 8 := by unfold unE; rw [if_pos h0, hcc]; rfl
      have u2 : unV x q = 0 := by unfold unV; rw [u1]; rfl
      have u3 : unQ x q = q := by unfold unQ; rw [u1]; rfl
      simp only [u1, u2, u3] at cU
      have cD := fun W (hW : RgS w.heap.size W b rc rf q) => dirty_any w.heap.size b rc rf q x false W hW
      have d1 : diQ x false q = q.hold x (cs, false) := by unfold diQ; rw [if_pos h0, hcc]
      obtain ⟨k1, k2⟩ := ct_hold q x (cs, false) h6
      have cV := fun W (hW : RgS w.heap.size W b rc rf (q.hold x (cs, false))) => unbind_any w.heap.size b rc rf (q.hold x (cs, false)) x W hW
      have v1 : unE x (q.hold x (cs, false)) = 0 := by unfold unE; rw [if_pos k1, k2]; rfl
      have v2 : unV x (q.hold x (cs, false)) = cs := by unfold unV; rw [if_pos v1, k2]
      simp only [h0, d1] at cD
      simp only [v1, v2] at cV
      generalize unQ x (q.hold x (cs, false)) = q3 at *
      generalize q.hold x (cs, false) = q2 at *
      have hcs : (cs == cs) = true := by simp
      clear h0 hz hcf hcc c0 c1 u1 u2 u3 d1 k1 k2 v1 v2
      go_wp2_with fail
      refine cS.mono ?_
      rintro r W3 ⟨rfl, hB⟩
      have HK3 := Hid3.mk (HK2.out.below hB)
      clear cS hB HK2
      go_wp2_with fail
      refine (cW _ HK3.out.r).mono ?_
      rintro r W4 ⟨rfl, hB⟩
      have HK4 := Hid3.mk (HK3.out.below hB)
      clear hB HK3
      go_wp2_with fail
      refine (cU _ HK4.out.r).mono ?_
      rintro r W5 ⟨rfl, hS⟩
      have HK5 := Hid3.mk (HK4.out.step hS)
      clear hS HK4
      go_wp2_with fail
      refine (cD _ HK5.out.r).mono ?_
      rintro r W6 ⟨rfl, hS⟩
      have HK6 := Hid3.mk (HK5.out.step hS)
      clear hS HK5
      go_wp2_with fail
      refine (cV _ HK6.out.r).mono ?_
      rintro r W7 ⟨rfl, hS⟩
      have HK7 := Hid3.mk (HK6.out.step hS)
      clear hS HK6
      go_wp2
      go_ret
      exact ⟨rfl, HK7.out.bl⟩
    | false =>
      have u1 : unE x q = 0 := by unfold unE; rw [if_pos h0, hcc]; rfl
      have u2 : unV x q = cs := by unfold unV; rw [if_pos u1, hcc]
      have u3 : unQ x q = q.leave x (cs, false) := by unfold unQ; rw [if_pos u1, hcc]
      simp only [u1, u2, u3] at cU
      have cD := fun W (hW : RgS w.heap.size W b rc rf (q.leave x (cs, false))) => bind_any w.heap.size b rc rf (q.leave x (cs, false)) x cs W hW
      obtain ⟨k1, k2⟩ := bind_back HQ.out x (cs, false) hx hcf
      simp only at k1 k2
      simp only [k1, k2] at cD
      have cV := fun W (hW : RgS w.heap.size W b rc rf ((q.leave x (cs, false)).hold x (cs, false))) => written_any w.heap.size b rc rf ((q.leave x (cs, false)).hold x (cs, false)).C ((q.leave x (cs, false)).hold x (cs, false)).F x W hW
      simp only [(ct_hold (q.leave x (cs, false)) x (cs, false) h6).2] at cV
      generalize (q.leave x (cs, false)).hold x (cs, false) = q3 at *
      generalize q.leave x (cs, false) = q2 at *
      clear h0 hz hcf hcc c0 c1 u1 u2 u3 k1 k2
      go_wp2_with fail
      refine cS.mono ?_
      rintro r W3 ⟨rfl, hB⟩
      have HK3 := Hid3.mk (HK2.out.below hB)
      clear cS hB HK2
      go_wp2_with fail
      refine (cW _ HK3.out.r).mono ?_
      rintro r W4 ⟨rfl, hB⟩
      have HK4 := Hid3.mk (HK3.out.below hB)
      clear hB HK3
      go_wp2_with fail
      refine (cU _ HK4.out.r).mono ?_
      rintro r W5 ⟨rfl, hS⟩
      have HK5 := Hid3.mk (HK4.out.step hS)
      clear hS HK4
      go_wp2_with fail
      refine (cD _ HK5.out.r).mono ?_
      rintro r W6 ⟨rfl, hS⟩
      have HK6 := Hid3.mk (HK5.out.step hS)
      clear hS HK5
      go_wp2_with fail
      refine (cV _ HK6.out.r).mono ?_
      rintro r W7 ⟨rfl, hB⟩
      have HK7 := Hid3.mk (HK6.out.below hB)
      clear hB HK6
      go_wp2
      go_ret
      exact ⟨rfl, HK7.out.bl⟩
  · have hz : (ctE q.C x == 0) = false := by simpa using h0
    obtain ⟨hw, h52⟩ := ct_no h0
    rw [hz] at cS
    have cU := fun W (hW : RgS w.heap.size W b rc rf q) => unbind_any w.heap.size b rc rf q x W hW
    have cD := fun W (hW : RgS w.heap.size W b rc rf q) => dirty_any w.heap.size b rc rf q x true W hW
    have cV := fun W (hW : RgS w.heap.size W b rc rf q) => written_any w.heap.size b rc rf q.C q.F x W hW
    have u1 : unE x q = ctE q.C x := by unfold unE; rw [if_neg h0]
    have u3 : unQ x q = q := by unfold unQ; rw [if_neg (by rw [u1]; exact h0)]
    have d1 : diQ x true q = q := by unfold diQ; rw [if_neg h0]
    simp only [u1, u3] at cU
    simp only [d1] at cD
    simp only [hw] at cV
    generalize unV x q = uv at *
    generalize (ctC q.C x).1 = sv at *
    generalize ctE q.C x = z at *
    have hzz : (z == z) = true := by simp
    clear u1 u3 d1 hw h0 hz
    rcases h52 with h5 | ⟨h5, h2⟩
    all_goals (
      go_wp2_with fail
      refine cS.mono ?_
      rintro r W3 ⟨rfl, hB⟩
      have HK3 := Hid3.mk (HK2.out.below hB)
      clear cS hB HK2
      go_wp2_with fail
      refine (cU _ HK3.out.r).mono ?_
      rintro r W4 ⟨rfl, hS⟩
      have HK4 := Hid3.mk (HK3.out.step hS)
      clear hS HK3
      go_wp2_with fail
      refine (cD _ HK4.out.r).mono ?_
      rintro r W5 ⟨rfl, hS⟩
      have HK5 := Hid3.mk (HK4.out.step hS)
      clear hS HK4
      go_wp2_with fail
      refine (cV _ HK5.out.r).mono ?_
      rintro r W6 ⟨rfl, hB⟩
      have HK6 := Hid3.mk (HK5.out.below hB)
      clear hB HK5
      go_wp2
      go_ret
      exact ⟨rfl, HK6.out.bl⟩)
end Go.Proofs.Ytjmdnlfgdnmjiaa
