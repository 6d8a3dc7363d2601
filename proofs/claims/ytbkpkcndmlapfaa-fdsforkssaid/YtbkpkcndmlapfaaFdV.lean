/- The document's table: Fork, Copy, End; SameOpens, SameInts. -/
import Derived.Test.YtbkpkcndmlapfaaFdU
namespace Go.Proofs.Ytbkpkcndmlapfaa
open Go.RowKit Go.Maps
set_option linter.unusedVariables false
set_option maxRecDepth 100000
set_option maxHeartbeats 1000000 in
theorem rfork_ok (B b : Nat) (s : Fs) (p q : Fin 6) (w : World) (h : Rt B w b s) (hp : s.has p = true) (hq : s.has q = false) : Calls Try.prog 45 #[.pointer (some ⟨b, 0, none⟩), .int .i64 p.1, .int .i64 q.1] w fun r w' => r = .returned (.int .i64 0) ∧ RStp B w w' b (fkS s p q) := by
  have cM := may_ok b s p w h.c hp
  have cV := fresh_any b s q.1 w h.c
  rw [freshE_at, hq] at cV
  simp only [Bool.false_eq_true, if_false] at cV
  have HF := Hid3.mk (rfork_stp h p q)
  have hlt := h.lt
  have hC := h.c
  have d0 := hC.d p 0
  have d1 := hC.d p 1
  have d2 := hC.d p 2
  have d3 := hC.d p 3
  have d4 := hC.d p 4
  have d5 := hC.d p 5
  have d6 := hC.d p 6
  have d7 := hC.d p 7
  have e0 := hC.d q 0
  have e1 := hC.d q 1
  have e2 := hC.d q 2
  have e3 := hC.d q 3
  have e4 := hC.d q 4
  have e5 := hC.d q 5
  have e6 := hC.d q 6
  have e7 := hC.d q 7
  have ch := hC.h q
  have f0 := hC.f (6 + q.1 * 8)
  have f1 := hC.f (6 + q.1 * 8 + 1)
  have f2 := hC.f (6 + q.1 * 8 + 2)
  have f3 := hC.f (6 + q.1 * 8 + 3)
  have f4 := hC.f (6 + q.1 * 8 + 4)
  have f5 := hC.f (6 + q.1 * 8 + 5)
  have f6 := hC.f (6 + q.1 * 8 + 6)
  have f7 := hC.f (6 + q.1 * 8 + 7)
  have fh := hC.f q.1
  change w.cell? ⟨b, 6 + p.1 * 8, none⟩ = _ at d0
  change w.cell? ⟨b, 6 + p.1 * 8 + 1, none⟩ = _ at d1
  change w.cell? ⟨b, 6 + p.1 * 8 + 2, none⟩ = _ at d2
  change w.cell? ⟨b, 6 + p.1 * 8 + 3, none⟩ = _ at d3
  change w.cell? ⟨b, 6 + p.1 * 8 + 4, none⟩ = _ at d4
  change w.cell? ⟨b, 6 + p.1 * 8 + 5, none⟩ = _ at d5
  change w.cell? ⟨b, 6 + p.1 * 8 + 6, none⟩ = _ at d6
  change w.cell? ⟨b, 6 + p.1 * 8 + 7, none⟩ = _ at d7
  change w.cell? ⟨b, 6 + q.1 * 8, none⟩ = _ at e0
  change w.cell? ⟨b, 6 + q.1 * 8 + 1, none⟩ = _ at e1
  change w.cell? ⟨b, 6 + q.1 * 8 + 2, none⟩ = _ at e2
  change w.cell? ⟨b, 6 + q.1 * 8 + 3, none⟩ = _ at e3
  change w.cell? ⟨b, 6 + q.1 * 8 + 4, none⟩ = _ at e4
  change w.cell? ⟨b, 6 + q.1 * 8 + 5, none⟩ = _ at e5
  change w.cell? ⟨b, 6 + q.1 * 8 + 6, none⟩ = _ at e6
  change w.cell? ⟨b, 6 + q.1 * 8 + 7, none⟩ = _ at e7
  generalize ((s.fd p 0 : Nat) : Int) = x0 at *
  generalize ((s.fd p 1 : Nat) : Int) = x1 at *
  generalize ((s.fd p 2 : Nat) : Int) = x2 at *
  generalize ((s.fd p 3 : Nat) : Int) = x3 at *
  generalize ((s.fd p 4 : Nat) : Int) = x4 at *
  generalize ((s.fd p 5 : Nat) : Int) = x5 at *
  generalize ((s.fd p 6 : Nat) : Int) = x6 at *
  generalize ((s.fd p 7 : Nat) : Int) = x7 at *
  generalize ((s.fd q 0 : Nat) : Int) = y0 at *
  generalize ((s.fd q 1 : Nat) : Int) = y1 at *
  generalize ((s.fd q 2 : Nat) : Int) = y2 at *
  generalize ((s.fd q 3 : Nat) : Int) = y3 at *
  generalize ((s.fd q 4 : Nat) : Int) = y4 at *
  generalize ((s.fd q 5 : Nat) : Int) = y5 at *
  generalize ((s.fd q 6 : Nat) : Int) = y6 at *
  generalize ((s.fd q 7 : Nat) : Int) = y7 at *
  generalize s.has q = hh at *
  generalize fkS s p q = s' at *
  clear h hp hq hC
  obtain ⟨p, hp6⟩ := p
  obtain ⟨q, hq6⟩ := q
  have h2 : (p : Int) < 6 := by omega
  have h3 : (q : Int) < 6 := by omega
  have h9 : q ≠ 6 + q * 8 := by omega
  simp only at *
  go_enter Try.func45, Try.ntmps45
  go_wp2_with fail
  refine cM.mono ?_
  rintro r W ⟨rfl, rfl⟩
  clear cM
  go_wp2_with fail
  refine cV.mono ?_
  rintro r W' ⟨rfl, hW⟩
  rw [hW]
  clear cV hW
  go_wp2
  go_region
  all_goals
    go_wp2
    go_ret
    exact ⟨rfl, HF.out.post (Below.refl _ _).drew⟩
set_option maxHeartbeats 1000000 in
theorem rfork_to (b : Nat) (s : Fs) (p : Fin 6) (q : Int) (w : World) (h : RtC w b s) (hp : s.has p = true) (he : freshE s q ≠ 0) : Calls Try.prog 45 #[.pointer (some ⟨b, 0, none⟩), .int .i64 p.1, .int .i64 q] w fun r w' => r = .returned (.int .i64 (freshE s q)) ∧ w' = w := by
  have cO := may_ok b s p w h hp
  have cV := fresh_any b s q w h
  generalize freshE s q = e at *
  have h1 : (e != 0) = true := by simpa using he
  clear h he
  go_enter Try.func45, Try.ntmps45
  go_wp2_with fail
  refine cO.mono ?_
  rintro r W ⟨rfl, rfl⟩
  clear cO
  go_wp2_with fail
  refine cV.mono ?_
  rintro r W' ⟨rfl, hW⟩
  rw [hW]
  clear cV hW
  go_wp2
  go_ret
  exact ⟨rfl, rfl⟩
set_option maxHeartbeats 1000000 in
theorem rfork_nop (b : Nat) (s : Fs) (p q : Int) (w : World) (h : RtC w b s) (hp : NoP s p) : Calls Try.prog 45 #[.pointer (some ⟨b, 0, none⟩), .int .i64 p, .int .i64 q] w fun r w' => r = .returned (.int .i64 5) ∧ w' = w := by
  have cO := may_bad b s p w h hp
  clear h hp
  go_enter Try.func45, Try.ntmps45
  go_wp2_with fail
  refine cO.mono ?_
  rintro r W ⟨rfl, rfl⟩
  clear cO
  go_wp2
  go_ret
  exact ⟨rfl, rfl⟩
theorem eqGuardO : Try.prog.eqGuardType Try.prog.depth 32 = false := by kernel_rfl
set_option maxHeartbeats 1000000 in
theorem eqO (w : World) (a b : Opn) : (Op.equalIn 10000 32 (.agg #[.int .u8 a.k, .int .i64 a.r, .int .i64 a.p]) (.agg #[.int .u8 b.k, .int .i64 b.r, .int .i64 b.p])).run Try.prog w = .ok (decide (a = b)) w := by
  show (Op.equalIn (9998 + 1 + 1) 32 _ _).run Try.prog w = _
  rw [Op.equalIn]
  simp only [Sem.run_bind, run_underlying Try.underlying32, Result.andThen_ok]
  obtain ⟨a0, a1, a2⟩ := a
  obtain ⟨b0, b1, b2⟩ := b
  by_cases h0 : a0 = b0 <;> by_cases h1 : a1 = b1 <;> by_cases h2 : a2 = b2 <;> simp [go_sem, h0, h1, h2]
/-- Rows that tell the same. -/
theorem OpR.cells {w : World} {v : Value} {L : List Opn} (h : OpR w v L) : ∃ a cap, v = .slice a L.length cap ∧ ∀ m o, L[m]? = some o → ∃ g, a = some ⟨g, 0, none⟩ ∧ OpA w g m o := by
  rcases h with ⟨rfl, rfl⟩ | ⟨g, cap, cur, h1, h2, h3, h4⟩
  · exact ⟨none, 0, rfl, fun m o h => by cases h⟩
  · refine ⟨_, cap, h1, fun m o hm => ⟨g, rfl, ?_⟩⟩
    obtain ⟨a, b, c⟩ := opCs_at L m o hm
    have e : ∀ j u, (opCs L)[j]? = some u → w.cell? ⟨g, j, none⟩ = some u := fun j u hu => by
      rw [Lib.cell_of_heap h2]
      simpa using h4 j u hu
    exact ⟨e _ _ a, e _ _ b, e _ _ c, (Array.getElem?_eq_some_iff.1 h2).1⟩
set_option maxHeartbeats 1000000 in
theorem sameopens_any (v v' : Value) (L : List Opn) (w : World) (h : OpR w v L) (h' : OpR w v' L) (hl : L.length ≤ 1000) : Calls Try.prog 44 #[v, v'] w fun r w' => r = .returned (.bool true) ∧ Below w.heap.size w w' := by
  obtain ⟨a, cap, rfl, hc⟩ := h.cells
  obtain ⟨a', cap', rfl, hc'⟩ := h'.cells
  have HC := Hid3.mk hc
  have HC' := Hid3.mk hc'
  have eG := eqGuardO
  obtain ⟨N, hN⟩ : ∃ N, L.length = N := ⟨_, rfl⟩
  have HN := Hid3.mk hN
  rw [hN] at hl ⊢
  clear h h' hc hc' hN
  go_enter Try.func44, Try.ntmps44
  go_wp2
  go_loopw [5] (fun i W => ∃ m : Nat, i = .int .i64 m ∧ m ≤ N ∧ Hid3 (Below w.heap.size w W)) (fun i _ => N - (intOf i).toNat)
  case atStart => exact ⟨0, rfl, Nat.zero_le _, ⟨Below.refl _ _⟩⟩
  case round =>
    obtain ⟨m, rfl, hm, HB⟩ := hrel
    by_cases hmN : m < N
    · have hmz : (m : Int) < (N : Int) := by omega
      have hml : m < L.length := by rw [HN.out]; exact hmN
      obtain ⟨g, rfl, hA⟩ := HC.out m L[m] (List.getElem?_eq_getElem hml)
      obtain ⟨g', rfl, hA'⟩ := HC'.out m L[m] (List.getElem?_eq_getElem hml)
      have c0 := (HB.out.cell (p := ⟨g, m * 3, none⟩) hA.l).trans hA.c0
      have c1 := (HB.out.cell (p := ⟨g, m * 3 + 1, none⟩) hA.l).trans hA.c1
      have c2 := (HB.out.cell (p := ⟨g, m * 3 + 2, none⟩) hA.l).trans hA.c2
      have c0' := (HB.out.cell (p := ⟨g', m * 3, none⟩) hA'.l).trans hA'.c0
      have c1' := (HB.out.cell (p := ⟨g', m * 3 + 1, none⟩) hA'.l).trans hA'.c1
      have c2' := (HB.out.cell (p := ⟨g', m * 3 + 2, none⟩) hA'.l).trans hA'.c2
      have hg := Nat.lt_of_lt_of_le hA.l HB.out.size
      have hg' := Nat.lt_of_lt_of_le hA'.l HB.out.size
      have eM := fun W => eqO W L[m] L[m]
      rw [decide_eq_true rfl] at eM
      generalize L[m] = o at *
      clear hA hA'
      go_wp2
      go_region
      go_wp2
      go_roundw
      case rel => exact ⟨m + 1, by go_num, by omega, ⟨HB.out.drew⟩⟩
      case measure => simp [intOf]; omega
    · have hmz : ¬ (m : Int) < (N : Int) := by omega
      go_wp2
      go_ret
      exact ⟨rfl, HB.out⟩
end Go.Proofs.Ytbkpkcndmlapfaa
