/- The program's Translate and Insert. -/
import Derived.Test.YtdmahmolhdbegaaPgTlbH
import Derived.StillTail
import Derived.StillTactics
namespace Go.Proofs.Ytdmahmolhdbegaa.Tb
open Go.RowKit Go.Maps
set_option linter.unusedVariables false
set_option maxRecDepth 100000

/-- Where an address lies, or the error. -/
def trL (a d : Int) (b : Bool) (L : List Mp) : Int × Int × Int :=
  if 512 ≤ d then (0, 0, 2)
  else match L.findIdx? (ofB a (d / 32)) with
    | none => (0, 0, 10)
    | some k => if b = true ∧ ((L[k]?).getD zM).2.2.2 = false then (0, 0, 10) else (((L[k]?).getD zM).2.2.1, d % 32, 0)
def trV (x : Int × Int × Int) : Value := .tuple #[.int .i64 x.1, .int .i64 x.2.1, .int .i64 x.2.2]
theorem trL_fd (a d : Int) (b : Bool) (L : List Mp) (h : ¬ 512 ≤ d) : trL a d b L = if fdB a (d / 32) L = false ∨ (b = true ∧ (fdM a (d / 32) L).2.2.2 = false) then (0, 0, 10) else ((fdM a (d / 32) L).2.2.1, d % 32, 0) := by
  unfold trL fdB fdM
  rw [if_neg h]
  cases L.findIdx? (ofB a (d / 32)) with
  | none => simp
  | some k => simp
theorem fdM_ok (a p : Int) (L : List Mp) (h : ∀ m ∈ L, MpOk m) : MpOk (fdM a p L) := by
  unfold fdM
  split
  · rename_i k e
    obtain ⟨hk, _⟩ := idx_some e
    rw [List.getElem?_eq_getElem hk]
    exact h _ (List.getElem_mem hk)
  · exact ⟨by decide, by decide, by decide, by decide, by decide, by decide⟩
set_option maxHeartbeats 2000000 in
theorem trans_any (B tb : Nat) (v : Value) (L : List Mp) (a d : Int) (b : Bool) (w : World) (h : Ob B 80 w tb v L) (hL : L.length ≤ 1000) (hk : ∀ m ∈ L, MpOk m) (hd : 0 ≤ d) (hd2 : d ≤ 65535) :
    Calls Try.prog 13 #[.pointer (some ⟨tb, 0, none⟩), .int .u8 a, .int .u16 d, .bool b] w fun e w' => e = .returned (trV (trL a d b L)) ∧ Below w.heap.size w w' := by
  by_cases h5 : 512 ≤ d
  · have e1 : trL a d b L = (0, 0, 2) := by unfold trL; rw [if_pos h5]
    rw [e1]
    clear h
    go_enter Try.func13, Try.ntmps13
    go_wp2
    go_ret3
    exact ⟨rfl, Below.refl _ _⟩
  · have hcon := find_any B tb v L a (d / 32) w h hL
    have hfo := fdM_ok a (d / 32) L hk
    have hE := trL_fd a d b L h5
    have HE : Hid (trL a d b L = if fdB a (d / 32) L = false ∨ (b = true ∧ (fdM a (d / 32) L).2.2.2 = false) then (0, 0, 10) else ((fdM a (d / 32) L).2.2.1, d % 32, 0)) := hE
    clear hE h hk
    generalize fdM a (d / 32) L = m at *
    generalize fdB a (d / 32) L = q at *
    generalize trL a d b L = r at *
    obtain ⟨m0, m1, m2, m3⟩ := m
    obtain ⟨_, _, _, _, hm4, hm5⟩ := hfo
    simp only at hm4 hm5
    unfold mpV at hcon
    have t1 : d.tdiv 32 = d / 32 := Int.tdiv_eq_ediv_of_nonneg hd
    have t2 : d.tmod 32 = d % 32 := Int.tmod_eq_emod_of_nonneg hd
    have w1 : IntKind.u8.wrap (d / 32) = d / 32 := by rw [IntKind.wrap_u8]; omega
    have w2 : IntKind.i64.wrap m2 = m2 := by rw [IntKind.wrap_i64]; omega
    have w3 : IntKind.i64.wrap (d % 32) = d % 32 := by rw [IntKind.wrap_i64]; omega
    have w4 : IntKind.u16.wrap (d / 32) = d / 32 := by rw [IntKind.wrap_u16]; omega
    cases q with
    | false =>
      go_enter Try.func13, Try.ntmps13
      go_wp2_with fail
      refine hcon.mono ?_
      rintro e W1 ⟨rfl, hB1⟩
      go_wp2
      go_ret3
      exact ⟨by rw [HE.out]; rfl, hB1.alloc hB1.size _⟩
    | true =>
      cases b with
      | false =>
        go_enter Try.func13, Try.ntmps13
        go_wp2_with fail
        refine hcon.mono ?_
        rintro e W1 ⟨rfl, hB1⟩
        go_wp2
        go_ret3
        exact ⟨by rw [HE.out]; rfl, hB1.alloc hB1.size _⟩
      | true =>
        cases m3 with
        | false =>
          go_enter Try.func13, Try.ntmps13
          go_wp2_with fail
          refine hcon.mono ?_
          rintro e W1 ⟨rfl, hB1⟩
          go_wp2
          go_ret3
          exact ⟨by rw [HE.out]; rfl, hB1.alloc hB1.size _⟩
        | true =>
          go_enter Try.func13, Try.ntmps13
          go_wp2_with fail
          refine hcon.mono ?_
          rintro e W1 ⟨rfl, hB1⟩
          go_wp2
          go_ret3
          exact ⟨by rw [HE.out]; rfl, hB1.alloc hB1.size _⟩
end Go.Proofs.Ytdmahmolhdbegaa.Tb
