/- The program's vm: paged, Map, Peek; the store's counts. -/
import Derived.Test.YtlnpdpfbnbjebaaVmC
namespace Go.Proofs.Ytlnpdpfbnbjebaa
open Go.RowKit Go.Maps
set_option linter.unusedVariables false
set_option maxRecDepth 100000
theorem wpList_look {ops : Array Oper} {rest : List Oper} {o : Oper} {a : Act} {w : World} {Q : Exit → Act → World → Prop} (hgd : o.guard = none) (t : TypeId) (x i : Operand) (ho : o.op = .lookup t x i true) (xv iv u : Value) (hx : a.eval x = xv) (hi : a.eval i = iv) (hL : (Instr.lookup t xv iv true).run Try.prog w = .ok u w)
    (h : wpList Try.prog ops Q rest (a.put o.dst u) w) : wpList Try.prog ops Q (o :: rest) a w :=
  wpList_plain hgd fun K hK => by
    unfold Oper.wp execOp
    simp only [ho, hx, hi, Sem.run_bind, hL, Result.andThen_ok, Sem.run_pure]
    exact hK _ _ h
theorem wpList_mupd {ops : Array Oper} {rest : List Oper} {o : Oper} {a : Act} {w w' : World} {Q : Exit → Act → World → Prop} (hgd : o.guard = none) (t : TypeId) (x i v : Operand) (ho : o.op = .mapUpdate t x i v) (xv iv vv : Value) (hx : a.eval x = xv) (hi : a.eval i = iv) (hv : a.eval v = vv) (hL : (Instr.mapUpdate t xv iv vv).run Try.prog w = .ok () w')
    (h : wpList Try.prog ops Q rest (a.put o.dst undef) w') : wpList Try.prog ops Q (o :: rest) a w :=
  wpList_plain hgd fun K hK => by
    unfold Oper.wp execOp
    simp only [ho, hx, hi, hv, Sem.run_bind, hL, Result.andThen_ok, Sem.run_pure]
    exact hK _ _ h
set_option maxHeartbeats 1000000 in
theorem paged_any (k : Int) (w : World) : Calls Try.prog 40 #[.int .i64 k] w fun r w' => r = .returned (.bool (decide (0 ≤ k) && decide (k < 16))) ∧ w' = w := by
  by_cases h0 : 0 ≤ k
  · by_cases h1 : k < 16
    · simp only [decide_eq_true h0, decide_eq_true h1]
      go_enter Try.func40, Try.ntmps40
      go_wp2
      go_ret
      exact ⟨rfl, rfl⟩
    · simp only [decide_eq_true h0, decide_eq_false h1]
      go_enter Try.func40, Try.ntmps40
      go_wp2
      go_ret
      exact ⟨rfl, rfl⟩
  · simp only [decide_eq_false h0]
    go_enter Try.func40, Try.ntmps40
    go_wp2
    go_ret
    exact ⟨rfl, rfl⟩
set_option maxHeartbeats 2000000 in
theorem map_ok (B : Nat) (l : Lo) (s : Vs) (p : Fin 6) (k : Int) (w : World) (h : Vb B w l s) (hp : s.has p = true) (hk : 0 ≤ k ∧ k < 16) (hn : s.pg p k = none) : Calls Try.prog 14 #[.pointer (some ⟨l.b, 0, none⟩), .int .i64 p.1, .int .i64 k] w fun r w' => r = .returned (.int .i64 0) ∧ Vb B w' l { s with pg := upF s.pg p (upI (s.pg p) k (some (-1))) } ∧ Apart (XB (l.r p)) w w' := by
  have cO := of_ok B l s p w h hp
  have cP := paged_any k w
  rw [decide_eq_true hk.1, decide_eq_true hk.2] at cP
  have hL := lookP (h.sp p hp).2 k
  rw [hn] at hL
  obtain ⟨W1, u1, u2, u3⟩ := stepP (h.sp p hp).2 k (-1)
  have HV := Hid3.mk (h.respace p hp _ u3 u2)
  have HA := Hid3.mk u3
  have U1 := Hid3.mk u1
  generalize l.r p = r at *
  simp only [Option.getD_none, Option.isSome_none, Bool.and_true] at *
  clear h u1 u2 u3 hn hk
  go_enter Try.func14, Try.ntmps14
  go_wp2_with fail
  refine cO.mono ?_
  rintro r W ⟨rfl, hW⟩
  rw [hW]
  clear cO hW
  go_wp2_with fail
  refine cP.mono ?_
  rintro r W ⟨rfl, hW⟩
  rw [hW]
  clear cP hW
  go_wp2_with (first | (refine wpList_look rfl 66 _ _ rfl _ _ _ rfl rfl hL ?_) | (refine wpList_mupd rfl 66 _ _ _ rfl _ _ _ rfl rfl rfl U1.out ?_))
  go_ret
  exact ⟨rfl, HV.out, HA.out⟩
set_option maxHeartbeats 2000000 in
theorem peek_ok (B : Nat) (l : Lo) (s : Vs) (p : Fin 6) (a f : Nat) (w : World) (h : Vb B w l s) (hp : s.has p = true) (ha : a < 512) (hn : s.pg p ((a / 32 : Nat) : Int) = some (f : Int)) (hf : (f : Int) < s.n) : Calls Try.prog 18 #[.pointer (some ⟨l.b, 0, none⟩), .int .i64 p.1, .int .i64 a] w fun r w' => r = .returned (.tuple #[.int .u8 (s.L.getD (f * 32 + a % 32) 0), .int .i64 0]) ∧ w' = w := by
  have cO := of_ok B l s p w h hp
  have cP := addressed_any a 1 w
  rw [decide_eq_true (by omega : (0 : Int) ≤ (a : Int)), decide_eq_true (by omega : (a : Int) < 512), decide_eq_true (by omega : (1 : Int) ≤ 512 - (a : Int))] at cP
  have hL := lookP (h.sp p hp).2 ((a / 32 : Nat) : Int)
  rw [hn] at hL
  have cB := byte_ok l.m f (a % 32) s.n s.L w h.m hf (by omega)
  have c0 := h.mem
  have e2 : Int.tdiv (a : Int) 32 = ((a / 32 : Nat) : Int) := by rw [Int.tdiv_eq_ediv_of_nonneg (by omega)]; omega
  have e3 : Int.tmod (a : Int) 32 = ((a % 32 : Nat) : Int) := by rw [Int.tmod_eq_emod_of_nonneg (by omega)]; omega
  have e1 : wrap64 ((a / 32 : Nat) : Int) = ((a / 32 : Nat) : Int) := by unfold wrap64; omega
  have e4 : wrap64 ((a % 32 : Nat) : Int) = ((a % 32 : Nat) : Int) := by unfold wrap64; omega
  have e5 : ((f : Int) == -1) = false := by simp
  have e6 : ¬ (f : Int) = -1 := by omega
  generalize l.r p = r at *
  generalize ((a / 32 : Nat) : Int) = d at *
  generalize ((a % 32 : Nat) : Int) = m at *
  generalize s.L.getD (f * 32 + a % 32) 0 = x at *
  simp only [Option.getD_some, Option.isSome_some, Bool.and_true] at *
  have hlt := h.c.lt
  clear h hn hf ha
  go_enter Try.func18, Try.ntmps18
  go_wp2_with fail
  refine cO.mono ?_
  rintro r W ⟨rfl, hW⟩
  rw [hW]
  clear cO hW
  go_wp2_with fail
  refine cP.mono ?_
  rintro r W ⟨rfl, hW⟩
  rw [hW]
  clear cP hW
  go_wp2_with (refine wpList_look rfl 66 _ _ rfl _ _ _ rfl rfl hL ?_)
  refine cB.mono ?_
  rintro r W ⟨rfl, hW⟩
  rw [hW]
  clear cB hW
  go_wp2
  go_ret2
  exact ⟨rfl, rfl⟩
end Go.Proofs.Ytlnpdpfbnbjebaa
