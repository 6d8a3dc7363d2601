/- The program's vector: New, Take, Give, Drop, Over, At, Penalty, Now. -/
import Derived.Test.YtmnolchkcejgaaaQuA
namespace Go.Proofs.Ytmnolchkcejgaaa
open Go.RowKit Go.Maps
set_option linter.unusedVariables false
set_option maxRecDepth 100000
/-- An environment or a place that is none. -/
def Bad (env place : Int) : Prop := 6 ≤ env ∨ place < 0 ∨ 8 ≤ place
theorem eqGuardH : Try.prog.eqGuardType Try.prog.depth 35 = false := by kernel_rfl
set_option maxHeartbeats 2000000 in
theorem eqH (w : World) (a0 b0 : Int) (a1 b1 : Bool) : (Op.equalIn 10000 35 (.agg #[.int .u8 a0, .bool a1]) (.agg #[.int .u8 b0, .bool b1])).run Try.prog w = .ok (decide ((a0, a1) = (b0, b1))) w := by
  show (Op.equalIn (9998 + 1 + 1) 35 _ _).run Try.prog w = _
  rw [Op.equalIn]
  simp only [Sem.run_bind, run_underlying Try.underlying35, Result.andThen_ok]
  by_cases h0 : a0 = b0 <;> by_cases h1 : a1 = b1 <;> simp [go_sem, h0, h1]
set_option maxHeartbeats 1000000 in
theorem there_ok (vb pb : Nat) (q : Qs) (e : Fin 6) (k : Fin 8) (w : World) (h : VecC w vb pb q) : Calls Try.prog 7 #[.pointer (some ⟨vb, 0, none⟩), .int .u8 e.1, .int .i64 k.1] w fun r w' => r = .returned (.int .i64 0) ∧ w' = w := by
  obtain ⟨e, he⟩ := e
  obtain ⟨k, hk⟩ := k
  have c0 := h.c0
  have h1 : ¬ (6 : Int) ≤ (e : Int) := by omega
  have h2 : ¬ (k : Int) < 0 := by omega
  have h3 : ¬ (8 : Int) ≤ (k : Int) := by omega
  clear h
  go_enter Try.func7, Try.ntmps7
  go_wp2
  go_ret
  exact ⟨rfl, rfl⟩
set_option maxHeartbeats 1000000 in
theorem there_bad (vb pb : Nat) (q : Qs) (e k : Int) (w : World) (h : VecC w vb pb q) (hb : Bad e k) : Calls Try.prog 7 #[.pointer (some ⟨vb, 0, none⟩), .int .u8 e, .int .i64 k] w fun r w' => r = .returned (.int .i64 2) ∧ w' = w := by
  have c0 := h.c0
  unfold Bad at hb
  clear h
  by_cases h1 : (6 : Int) ≤ e
  · clear hb
    go_enter Try.func7, Try.ntmps7
    go_wp2
    go_ret
    exact ⟨rfl, rfl⟩
  by_cases h2 : k < 0
  · clear hb
    go_enter Try.func7, Try.ntmps7
    go_wp2
    go_ret
    exact ⟨rfl, rfl⟩
  · have h3 : (8 : Int) ≤ k := by omega
    clear hb
    go_enter Try.func7, Try.ntmps7
    go_wp2
    go_ret
    exact ⟨rfl, rfl⟩
def takeE (e : Fin 6) (k : Fin 8) (q : Qs) : Int := if (q.pl k).isSome then 6 else 0
def takeQ (e : Fin 6) (k : Fin 8) (q : Qs) : Qs := if (q.pl k).isSome then q else { q with pl := upd q.pl k (some e) }
def handE (e : Fin 6) (k : Fin 8) (q : Qs) : Int := if q.pl k = some e then 0 else 7
def handQ (e : Fin 6) (k : Fin 8) (o : Option (Fin 6)) (q : Qs) : Qs := if q.pl k = some e then { q with pl := upd q.pl k o } else q
set_option maxHeartbeats 2000000 in
theorem take_ok (B vb pb : Nat) (q : Qs) (e : Fin 6) (k : Fin 8) (w : World) (h : Vec B w vb pb q) : Calls Try.prog 5 #[.pointer (some ⟨vb, 0, none⟩), .int .u8 e.1, .int .i64 k.1] w fun r w' => r = .returned (.int .i64 (takeE e k q)) ∧ VStp B w w' vb pb (takeQ e k q) := by
  have cT := there_ok vb pb q e k w h.c
  have HS := VStp.place h k (some e)
  have HV : Hid (Vec B w vb pb q) := h
  have c0 := h.c.c0
  have c1 := h.c.h0 k
  have c2 := h.c.h1 k
  have f0 := h.c.fp (k.1 * 2)
  have f1 := h.c.fp (k.1 * 2 + 1)
  have hlv := h.c.lv
  have hlp := h.c.lp
  unfold takeE takeQ
  generalize hs : (q.pl k).isSome = b at *
  clear h
  obtain ⟨e, he⟩ := e
  obtain ⟨k, hk⟩ := k
  have h2 : (k : Int) < 8 := by omega
  simp only at *
  have HS' : Hid (VStp B w ((w.setCell ⟨pb, k * 2, none⟩ (.int .u8 e)).setCell ⟨pb, k * 2 + 1, none⟩ (.bool true)) vb pb { q with pl := upd q.pl ⟨k, hk⟩ (some ⟨e, he⟩) }) := HS
  clear HS
  cases b with
  | true =>
    go_enter Try.func5, Try.ntmps5
    go_wp2_with fail
    refine cT.mono ?_
    rintro r W ⟨rfl, rfl⟩
    go_wp2
    go_ret
    exact ⟨rfl, VStp.same HV.out (Below.refl _ _)⟩
  | false =>
    go_enter Try.func5, Try.ntmps5
    go_wp2_with fail
    refine cT.mono ?_
    rintro r W ⟨rfl, rfl⟩
    go_wp2
    go_ret
    exact ⟨rfl, HS'.out⟩
set_option maxHeartbeats 2000000 in
theorem take_bad (B vb pb : Nat) (q : Qs) (e k : Int) (w : World) (h : Vec B w vb pb q) (hb : Bad e k) : Calls Try.prog 5 #[.pointer (some ⟨vb, 0, none⟩), .int .u8 e, .int .i64 k] w fun r w' => r = .returned (.int .i64 2) ∧ w' = w := by
  have cT := there_bad vb pb q e k w h.c hb
  clear h hb
  go_enter Try.func5, Try.ntmps5
  go_wp2_with fail
  refine cT.mono ?_
  rintro r W ⟨rfl, rfl⟩
  go_wp2
  go_ret
  exact ⟨rfl, rfl⟩
set_option maxHeartbeats 1000000 in
theorem vnow_any (vb pb : Nat) (q : Qs) (w : World) (h : VecC w vb pb q) : Calls Try.prog 9 #[.pointer (some ⟨vb, 0, none⟩)] w fun r w' => r = .returned (.int .i64 q.now.1) ∧ w' = w := by
  have c0 := h.cn
  generalize ((q.now.1 : Nat) : Int) = n at *
  clear h
  go_enter Try.func9, Try.ntmps9
  go_wp2
  go_ret
  exact ⟨rfl, rfl⟩
end Go.Proofs.Ytmnolchkcejgaaa
