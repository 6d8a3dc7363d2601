/- VmEnds: the walk. -/
import Derived.Test.YtfmcoibpbcheiaaVrU
import Derived.Test.YtfmcoibpbcheiaaVmN
namespace Go.Proofs.Ytfmcoibpbcheiaa
open Go.RowKit Go.Maps
set_option linter.unusedVariables false
set_option maxRecDepth 100000
set_option maxHeartbeats 1000000 in
theorem vrefs_ok (B : Nat) (l : Lo) (s : Vs) (k : Nat) (hk : k < 64) (w : World) (h : Vb B w l s) : Calls Try.prog 10 #[.pointer (some ⟨l.b, 0, none⟩), .int .i64 (k : Nat)] w fun r w' => r = .returned (.int .i64 (s.rf.getD k 0)) ∧ w' = w := by
  have c0 := h.rf k hk
  generalize s.rf.getD k 0 = x at *
  have h1 : ¬ (k : Int) < 0 := by omega
  have h2 : ¬ (64 : Int) ≤ (k : Int) := by omega
  have h3 : (k : Int) < 64 := by omega
  clear h
  go_enter Try.func10, Try.ntmps10
  go_wp2
  go_ret
  exact ⟨rfl, rfl⟩
/-- The program's alone: nobody below k is there any more. -/
structure Pa (w W : World) (vb N c k : Nat) : Prop where
  ex : ∃ l s V, Va w.heap.size W vb N l s V c ∧ ∀ q : Fin 6, q.1 < k → s.has q = false
  bl : Below w.heap.size w W
theorem Pa.low {w W W' : World} {vb N c k : Nat} (h : Pa w W vb N c k) (j : Below W.heap.size W W') : Pa w W' vb N c k := by
  obtain ⟨l, s, V, h1, h2⟩ := h.ex
  exact ⟨⟨l, s, V, ⟨h1.e, h1.v.below j, h1.i, h1.cp⟩, h2⟩, h.bl.trans (j.mono h.bl.size)⟩
theorem Pb.pa {w W : World} {vb rb N c : Nat} (h : Pb w W vb rb N c) : Pa w W vb N c 0 := by
  obtain ⟨S, hS⟩ := h.ex
  obtain ⟨l, s, V, o, L, h1, _⟩ := hS.ex
  exact ⟨⟨l, s, V, h1, fun q hq => absurd hq (Nat.not_lt_zero _)⟩, h.bl⟩
theorem pa_refs {w W : World} {vb N c : Nat} (h : Pa w W vb N c 0) (k : Nat) (hk : k < 64) : ∃ x : Int, 0 ≤ x ∧ x ≤ 96 ∧ Calls Try.prog 10 #[.pointer (some ⟨vb, 0, none⟩), .int .i64 (k : Nat)] W fun r w' => r = .returned (.int .i64 x) ∧ w' = W := by
  obtain ⟨l, s, V, h1, _⟩ := h.ex
  have hb := h1.i.fr.bnd k hk
  have := vrefs_ok w.heap.size l s k hk W h1.v
  rw [h1.e] at this
  exact ⟨_, hb.1, hb.2, this⟩
theorem pa_end {w W : World} {vb N c k : Nat} (h : Pa w W vb N c k) (hk : k < 6) : ∃ e : Int, (e = 0 ∨ e = 5) ∧ Calls Try.prog 11 #[.pointer (some ⟨vb, 0, none⟩), .int .i64 (k : Nat)] W fun r w' => r = .returned (.int .i64 e) ∧ Pa w w' vb N c (k + 1) := by
  obtain ⟨l, s, V, h1, h2⟩ := h.ex
  have hrest : ∀ w' s', Vt w.heap.size W w' vb N l s s' V c → (∀ q : Fin 6, q.1 < k + 1 → s'.has q = false) → Pa w w' vb N c (k + 1) := fun w' s' vt hs => by
    obtain ⟨l', k1, _⟩ := vt.out
    exact ⟨⟨l', s', V, k1, hs⟩, h.bl.trans (vt.ap.below w.heap.size (fun j hj => h1.v.ge hj) h.bl.size)⟩
  refine ⟨endE s (k : Nat), ?_, ?_⟩
  · unfold endE
    cases prc s ((k : Nat) : Int) with
    | none => exact .inr rfl
    | some p => exact .inl rfl
  · refine (va_end w.heap.size l s V vb N c (k : Nat) W h1).mono ?_
    rintro r w' ⟨rfl, s', vt, ⟨e, rfl⟩ | ⟨p, e, hE⟩⟩
    · refine ⟨rfl, hrest w' _ vt (fun q hq => ?_)⟩
      by_cases c : q.1 = k
      · cases hh : s'.has q with
        | false => rfl
        | true =>
          have := prc_has0 s' q hh
          rw [c, e] at this
          cases this
      · exact h2 q (by omega)
    · refine ⟨rfl, hrest w' s' vt (fun q hq => ?_)⟩
      rw [hE.has]
      have hpk : p.1 = k := by
        rcases prc_cases s ((k : Nat) : Int) with ⟨e2, _⟩ | ⟨p', e2, e3, _⟩
        · rw [e2] at e; cases e
        · rw [e2] at e
          injection e with e
          rw [← e]
          omega
      by_cases c : q = p
      · rw [c, upF_same]
      · rw [upF_other _ _ _ _ c]
        exact h2 q (by
          have : q.1 ≠ p.1 := fun x => c (Fin.ext x)
          omega)
theorem pa_left {w W : World} {vb N c : Nat} (h : Pa w W vb N c 6) : Calls Try.prog 12 #[.pointer (some ⟨vb, 0, none⟩)] W fun r w' => r = .returned (.int .i64 (N : Nat)) ∧ Below W.heap.size W w' := by
  obtain ⟨l, s, V, h1, h2⟩ := h.ex
  have := vleft_any w.heap.size l s N h1.i.fr.n W h1.v
  rw [h1.e] at this
  have e : zrs (fun k => s.rf.getD k 0) N = N := zrs_all _ N (fun j hj => by
    have hN := h1.i.fr.hi
    show s.rf.getD j 0 = 0
    rw [h1.i.fr.rf j (by omega), cnt_zero s.pg (j : Int) (fun p z hz => by
      have := h1.i.fr.no p (h2 p p.2)
      rw [this] at hz
      cases hz)]
    rfl)
  rw [e] at this
  exact this
set_option maxHeartbeats 2000000 in
theorem ends_law (x0 : Nat) (v : Value) (l : List Dv) (h0 : x0 ≤ 255) (w : World) (hd : Dvs w.heap.size w v l) : Calls Try.prog 4 #[.int .u8 x0, v] w fun r w' => r = .returned (.bool true) ∧ Below w.heap.size w w' := by
  have cP := play_any x0 v l h0 w hd
  obtain ⟨N, hN⟩ : ∃ N : Nat, N = x0 % 8 + 1 := ⟨_, rfl⟩
  have hn1 : wrap64 ((x0 : Nat) : Int) = (x0 : Int) := by unfold wrap64; omega
  have hn2 : Int.tmod (x0 : Int) 8 = ((x0 % 8 : Nat) : Int) := by rw [Int.tmod_eq_emod_of_nonneg (by omega)]; omega
  have hn3 : (x0 : Int) % 8 = ((x0 % 8 : Nat) : Int) := by omega
  have hn4 : IntKind.i64.wrap (((x0 % 8 : Nat) : Int) + 1) = (N : Int) := by rw [IntKind.wrap_i64]; omega
  have hn5 : ((x0 % 8 : Nat) : Int) + 1 = (N : Int) := by omega
  have hNb : (N : Int) ≤ 8 := by omega
  rw [← hN] at cP
  clear hN
  generalize ((x0 % 8 : Nat) : Int) = y at *
  clear hd
  go_enter Try.func4, Try.ntmps4
  go_wp2_with fail
  refine cP.mono ?_
  rintro r W1 ⟨vb, rb, rfl, hPb⟩
  have HB := Hid3.mk hPb.pa
  have cL := live_ok W1
  clear cP hPb
  go_wp2_with fail
  refine cL.mono ?_
  rintro r W2 ⟨rfl, hb⟩
  have HB2 := Hid3.mk (HB.out.low hb)
  clear cL hb HB
  go_wp2_with fail
  go_loopw [8, 9] (fun x i W => W = W2 ∧ ∃ (k : Nat) (z : Int), k ≤ 8 ∧ i = .int .i64 (k : Int) ∧ x = .int .i64 z ∧ 0 ≤ z ∧ z ≤ 96 * k) (fun _ i _ => 8 - (intOf i).toNat)
  case atStart => exact ⟨rfl, 0, 0, by omega, rfl, rfl, by omega, by omega⟩
  case round =>
    obtain ⟨rfl, k, z, hk, rfl, rfl, hz0, hz1⟩ := hrel
    by_cases hk8 : k < 8
    · have hkz : (k : Int) < 8 := by omega
      obtain ⟨x, hx0, hx1, cR⟩ := pa_refs HB2.out k (by omega)
      have hw : IntKind.i64.wrap (z + x) = z + x := by rw [IntKind.wrap_i64]; omega
      go_wp2_with fail
      refine cR.mono ?_
      rintro r W3 ⟨rfl, rfl⟩
      clear cR
      go_wp2
      go_roundw
      case rel => exact ⟨by first | rfl | trivial, k + 1, z + x, by omega, by go_num, by first | rfl | trivial, by omega, by omega⟩
      case measure => simp [intOf]; omega
    · have hkz : ¬ (k : Int) < 8 := by omega
      have hzb : z ≤ 768 := by omega
      generalize (k : Int) = k4 at *
      clear hk8 hz1
      go_wp2_with fail
      clear hkz
      go_loopw [10] (fun i W => ∃ k : Nat, k ≤ 6 ∧ i = .int .i64 (k : Int) ∧ Hid3 (Pa w W vb N 704 k)) (fun i _ => 6 - (intOf i).toNat)
      case atStart => exact ⟨0, by omega, rfl, HB2⟩
      case round =>
        obtain ⟨k, hk, rfl, HK⟩ := hrel
        clear HB2
        by_cases hk6 : k < 6
        · have hkz : (k : Int) < 6 := by omega
          obtain ⟨e, he, cE⟩ := pa_end HK.out hk6
          go_wp2_with fail
          refine cE.mono ?_
          rintro r W3 ⟨rfl, hP⟩
          have HK2 := Hid3.mk hP
          clear cE hP HK
          rcases he with rfl | rfl
          · go_wp2
            go_roundw
            case rel => exact ⟨k + 1, by omega, by go_num, HK2⟩
            case measure => simp [intOf]; omega
          · go_wp2
            go_roundw
            case rel => exact ⟨k + 1, by omega, by go_num, HK2⟩
            case measure => simp [intOf]; omega
        · have hkz : ¬ (k : Int) < 6 := by omega
          have e : k = 6 := by omega
          subst e
          have hs1 : IntKind.i64.wrap ((N : Int) - (N : Int)) = 0 := by rw [IntKind.wrap_i64]; omega
          have hs2 : (N : Int) - (N : Int) = 0 := by omega
          have cLf := fun W (h : Pa w W vb N 704 6) => pa_left h
          have hN0 : (0 : Int) ≤ (N : Int) := by omega
          generalize (N : Int) = nn at *
          go_wp2_with fail
          refine (cLf _ HK.out).mono ?_
          rintro r W3 ⟨rfl, hb3⟩
          have HK3 := Hid3.mk (HK.out.low hb3)
          clear hb3
          go_wp2_with fail
          refine (cLf _ HK3.out).mono ?_
          rintro r W4 ⟨rfl, hb4⟩
          have HK4 := Hid3.mk (HK3.out.low hb4).bl
          clear hb4
          have hnn : (nn == nn) = true := by simp
          go_wp2
          go_ret
          exact ⟨rfl, HK4.out⟩
end Go.Proofs.Ytfmcoibpbcheiaa
