/- The program's vm: paged, Map, Peek; the store's counts. The program's vm: the store's leave, counts, left, next. The program's vm: the store's alone: a page goes to be written. -/
import Derived.Test.YtfmcoibpbcheiaaVmC
import Derived.BigQuiet
namespace Go.Proofs.Ytfmcoibpbcheiaa
open Go.RowKit Go.Maps
set_option linter.unusedVariables false
set_option maxRecDepth 100000
theorem wpList_look {ops : Array Oper} {rest : List Oper} {o : Oper} {a : Act} {w : World} {Q : Exit → Act → World → Prop} (hgd : o.guard = none) (t : TypeId) (x i : Operand) (ho : o.op = .lookup t x i true) (xv iv u : Value) (hx : a.eval x = xv) (hi : a.eval i = iv) (hL : (Instr.lookup t xv iv true).run Try.prog w = .ok u w)
    (h : wpList Try.prog ops Q rest (a.put o.dst u) w) : wpList Try.prog ops Q (o :: rest) a w :=
  wpList_plain hgd fun K hK => by
    unfold Oper.wp execOp
    simp only [ho, hx, hi, Sem.run_bind, hL, Result.andThen_ok, Sem.run_pure]
    exact hK _ _ h
theorem wpList_mupd {ops : Array Oper} {rest : List Oper} {o : Oper} {a : Act} {w w' : World} {Q : Exit → Act → World → Prop} (hgd : o.guard = none) (t : TypeId) (x i v : Operand) (ho : o.op = .mapUpdate t x i v) (xv iv vv : Value) (hx : a.eval x = xv) (hi : a.eval i = iv) (hv : a.eval v = vv) (hL : (Instr.mapUpdate t xv iv vv).run Try.prog w = .ok () w')
    (h : wpList Try.prog ops Q rest (a.put o.dst undef) w') : wpList Try.prog ops Q (o :: rest) a w :=
  wpList_plain hgd fun K hK => by
    unfold Oper.wp execOp
    simp only [ho, hx, hi, hv, Sem.run_bind, hL, Result.andThen_ok, Sem.run_pure]
    exact hK _ _ h
set_option maxHeartbeats 1000000 in
theorem paged_any (k : Int) (w : World) : Calls Try.prog 57 #[.int .i64 k] w fun r w' => r = .returned (.bool (decide (0 ≤ k) && decide (k < 16))) ∧ w' = w := by
  by_cases h0 : 0 ≤ k
  · by_cases h1 : k < 16
    · simp only [decide_eq_true h0, decide_eq_true h1]
      go_enter Try.func57, Try.ntmps57
      go_wp2
      go_ret
      exact ⟨rfl, rfl⟩
    · simp only [decide_eq_true h0, decide_eq_false h1]
      go_enter Try.func57, Try.ntmps57
      go_wp2
      go_ret
      exact ⟨rfl, rfl⟩
  · simp only [decide_eq_false h0]
    go_enter Try.func57, Try.ntmps57
    go_wp2
    go_ret
    exact ⟨rfl, rfl⟩
set_option maxHeartbeats 2000000 in
theorem map_ok (B : Nat) (l : Lo) (s : Vs) (p : Fin 6) (k : Int) (w : World) (h : Vb B w l s) (hp : s.has p = true) (hk : 0 ≤ k ∧ k < 16) (hn : s.pg p k = none) : Calls Try.prog 22 #[.pointer (some ⟨l.b, 0, none⟩), .int .i64 p.1, .int .i64 k] w fun r w' => r = .returned (.int .i64 0) ∧ Vb B w' l { s with pg := upF s.pg p (upI (s.pg p) k (some (-1))) } ∧ Apart (XB (l.r p)) w w' := by
  have cO := of_ok B l s p w h hp
  have cP := paged_any k w
  rw [decide_eq_true hk.1, decide_eq_true hk.2] at cP
  have hL := lookP (h.sp p hp).2 k
  rw [hn] at hL
  obtain ⟨W1, u1, u2, u3⟩ := stepP (h.sp p hp).2 k (-1)
  have HV := Hid3.mk (h.respace p hp _ u3 u2)
  have HA := Hid3.mk u3
  have U1 := Hid3.mk u1
  generalize l.r p = r at *
  simp only [Option.getD_none, Option.isSome_none, Bool.and_true] at *
  clear h u1 u2 u3 hn hk
  go_enter Try.func22, Try.ntmps22
  go_wp2_with fail
  refine cO.mono ?_
  rintro r W ⟨rfl, hW⟩
  rw [hW]
  clear cO hW
  go_wp2_with fail
  refine cP.mono ?_
  rintro r W ⟨rfl, hW⟩
  rw [hW]
  clear cP hW
  go_wp2_with (first | (refine wpList_look rfl 60 _ _ rfl _ _ _ rfl rfl hL ?_) | (refine wpList_mupd rfl 60 _ _ _ rfl _ _ _ rfl rfl rfl U1.out ?_))
  go_ret
  exact ⟨rfl, HV.out, HA.out⟩
set_option maxHeartbeats 2000000 in
theorem peek_ok (B : Nat) (l : Lo) (s : Vs) (p : Fin 6) (a f : Nat) (w : World) (h : Vb B w l s) (hp : s.has p = true) (ha : a < 512) (hn : s.pg p ((a / 32 : Nat) : Int) = some (f : Int)) (hf : (f : Int) < s.n) : Calls Try.prog 16 #[.pointer (some ⟨l.b, 0, none⟩), .int .i64 p.1, .int .i64 a] w fun r w' => r = .returned (.tuple #[.int .u8 (s.L.getD (f * 32 + a % 32) 0), .int .i64 0]) ∧ w' = w := by
  have cO := of_ok B l s p w h hp
  have cP := addressed_any a 1 w
  rw [decide_eq_true (by omega : (0 : Int) ≤ (a : Int)), decide_eq_true (by omega : (a : Int) < 512), decide_eq_true (by omega : (1 : Int) ≤ 512 - (a : Int))] at cP
  have hL := lookP (h.sp p hp).2 ((a / 32 : Nat) : Int)
  rw [hn] at hL
  have cB := byte_ok l.m f (a % 32) s.n s.L w h.m hf (by omega)
  have c0 := h.mem
  have e2 : Int.tdiv (a : Int) 32 = ((a / 32 : Nat) : Int) := by rw [Int.tdiv_eq_ediv_of_nonneg (by omega)]; omega
  have e3 : Int.tmod (a : Int) 32 = ((a % 32 : Nat) : Int) := by rw [Int.tmod_eq_emod_of_nonneg (by omega)]; omega
  have e1 : wrap64 ((a / 32 : Nat) : Int) = ((a / 32 : Nat) : Int) := by unfold wrap64; omega
  have e4 : wrap64 ((a % 32 : Nat) : Int) = ((a % 32 : Nat) : Int) := by unfold wrap64; omega
  have e5 : ((f : Int) == -1) = false := by simp
  have e6 : ¬ (f : Int) = -1 := by omega
  generalize l.r p = r at *
  generalize ((a / 32 : Nat) : Int) = d at *
  generalize ((a % 32 : Nat) : Int) = m at *
  generalize s.L.getD (f * 32 + a % 32) 0 = x at *
  simp only [Option.getD_some, Option.isSome_some, Bool.and_true] at *
  have hlt := h.c.lt
  clear h hn hf ha
  go_enter Try.func16, Try.ntmps16
  go_wp2_with fail
  refine cO.mono ?_
  rintro r W ⟨rfl, hW⟩
  rw [hW]
  clear cO hW
  go_wp2_with fail
  refine cP.mono ?_
  rintro r W ⟨rfl, hW⟩
  rw [hW]
  clear cP hW
  go_wp2_with (refine wpList_look rfl 60 _ _ rfl _ _ _ rfl rfl hL ?_)
  refine cB.mono ?_
  rintro r W ⟨rfl, hW⟩
  rw [hW]
  clear cB hW
  go_wp2
  go_ret2
  exact ⟨rfl, rfl⟩
end Go.Proofs.Ytfmcoibpbcheiaa
namespace Go.Proofs.Ytfmcoibpbcheiaa
open Go.RowKit Go.Maps
set_option linter.unusedVariables false
set_option maxRecDepth 100000
def XS (l : Lo) (k : Nat) : Prop := k = l.b ∨ k = l.m
theorem Apart.sb {l : Lo} {w w' : World} (h : Apart (XB l.b) w w') : Apart (XS l) w w' := ⟨h.os, h.tape, h.output, h.size, fun k hk hx => h.block k hk (fun e => hx (.inl e))⟩
theorem Only.sm {l : Lo} {w w' : World} (h : Only l.m w w') : Apart (XS l) w w' := ⟨h.os, h.tape, h.output, h.size, fun k hk hx => h.block k hk (fun e => hx (.inr e))⟩
def lvS (s : Vs) (k : Nat) : Vs := { s with rf := s.rf.set k (s.rf.getD k 0 - 1), L := if s.rf.getD k 0 = 1 then zrL s.n s.L k else s.L }
def jnS (s : Vs) (k : Nat) : Vs := { s with rf := s.rf.set k (s.rf.getD k 0 + 1) }
set_option maxHeartbeats 2000000 in
theorem leave_no (b : Nat) (w : World) : Calls Try.prog 36 #[.pointer (some ⟨b, 6, none⟩), .int .i64 (-1)] w fun r w' => r = .returned (.tuple #[]) ∧ w' = w := by
  go_enter Try.func36, Try.ntmps36
  go_wp2
  first
    | exact bodyPost_end (results_none rfl _ _ _) rfl ⟨rfl, rfl⟩
    | exact bodyPost_ret (results_none rfl _ _ _) rfl ⟨rfl, rfl⟩
set_option maxHeartbeats 2000000 in
theorem leave_ok (B : Nat) (l : Lo) (s : Vs) (k : Nat) (hk : k < 64) (hx : 1 ≤ s.rf.getD k 0 ∧ s.rf.getD k 0 ≤ 1000) (w : World) (h : Vb B w l s) : Calls Try.prog 36 #[.pointer (some ⟨l.b, 6, none⟩), .int .i64 k] w fun r w' => r = .returned (.tuple #[]) ∧ Vb B w' l (lvS s k) ∧ Apart (XS l) w w' := by
  unfold lvS
  have c0 := h.rf k hk
  have f0 := h.c.thaw (7 + k)
  have h3 : ¬ (k : Int) = -1 := by omega
  have h4 : (k : Int) < 64 := by omega
  have HV0 := h.setrf k hk (s.rf.getD k 0 - 1)
  have cm := HV0.mem
  have HV := Hid3.mk HV0
  have HA := Hid3.mk (Apart.at (X := XB l.b) w l.b (7 + k) (.int .i64 (s.rf.getD k 0 - 1)) rfl)
  have hl := h.c.lt
  clear HV0
  by_cases hx1 : s.rf.getD k 0 = 1
  · rw [if_pos hx1]
    rw [hx1] at c0 cm HV HA ⊢
    have e0 : (1 : Int) - 1 = 0 := rfl
    rw [e0] at cm HV HA ⊢
    clear h hx hx1 e0
    go_enter Try.func36, Try.ntmps36
    go_wp2
    go_region
    go_wp2_with fail
    refine (zero_any l.m s.n k s.L _ (HV.out.m.below (below_drew _))).mono ?_
    rintro r W ⟨rfl, hm, ho⟩
    have HM := Hid3.mk hm
    have HO := Hid3.mk ho
    clear hm ho
    go_wp2
    first
      | exact bodyPost_end (results_none rfl _ _ _) rfl ⟨rfl, (HV.out.below (below_drew _)).remem _ HO.out HM.out, HA.out.drew.sb.trans HO.out.sm⟩
      | exact bodyPost_ret (results_none rfl _ _ _) rfl ⟨rfl, (HV.out.below (below_drew _)).remem _ HO.out HM.out, HA.out.drew.sb.trans HO.out.sm⟩
  · rw [if_neg hx1]
    generalize s.rf.getD k 0 = x at *
    have h5 : IntKind.i64.wrap (x - 1) = x - 1 := by rw [IntKind.wrap_i64]; omega
    have h6 : ¬ x - 1 = 0 := by omega
    clear h hx hx1
    go_enter Try.func36, Try.ntmps36
    go_wp2
    go_region
    go_wp2
    first
      | exact bodyPost_end (results_none rfl _ _ _) rfl ⟨rfl, HV.out.below (below_drew _), HA.out.drew.sb⟩
      | exact bodyPost_ret (results_none rfl _ _ _) rfl ⟨rfl, HV.out.below (below_drew _), HA.out.drew.sb⟩
theorem info_int_size : (Try.prog.info? (Try.prog.elem 56)).map (·.size) = some 1 := by kernel_rfl
theorem slice64 (a : Addr) (n : Nat) (hn : n ≤ 64) (w : World) : (Instr.sliceAt 56 (.pointer (some a)) none (some (.int .i64 n)) none).run Try.prog w = .ok (.slice (some a) n 64) w := by
  have hu : Try.prog.underlying 56 = some (.array (Try.prog.arrayLen 56) (Try.prog.elem 56)) := by kernel_rfl
  have hl : Try.prog.arrayLen 56 = 64 := by kernel_rfl
  have hz := info_int_size
  have hs : (sizeOf (Try.prog.elem 56)).run Try.prog w = .ok 1 w := by
    cases hq : Try.prog.info? (Try.prog.elem 56) with
    | none => rw [hq] at hz; cases hz
    | some i =>
      rw [hq] at hz
      have hz' : i.size = 1 := by simpa using hz
      simp [sizeOf, typeInfo, hq, hz']
  rw [run_sliceAt_array_h w 56 a hu .i64 n (by omega) (by rw [hl]; omega), hs, hl]
  simp [slicedAt, Result.andThen_ok, Addr.add]
set_option maxHeartbeats 2000000 in
theorem counts_any (B : Nat) (l : Lo) (s : Vs) (N : Nat) (hN : s.n = N) (w : World) (h : Vb B w l s) : Calls Try.prog 66 #[.pointer (some ⟨l.b, 6, none⟩)] w fun r w' => r = .returned (.slice (some ⟨l.b, 7, none⟩) N 64) ∧ Below w.heap.size w w' := by
  have hm := h.mem
  have hhi := h.m.hi
  have cS : ∀ n, Calls Try.prog 84 #[.pointer (some ⟨l.m, 0, none⟩)] (w.drewN n) fun r w' => r = .returned (.int .i64 N) ∧ w' = w.drewN n := fun n => by
    have := size_ok l.m s.n s.L (w.drewN n) (h.m.below ⟨rfl, rfl, rfl, Nat.le_refl _, fun _ _ => rfl⟩)
    rw [hN] at this
    exact this
  have hsl := fun W => slice64 ⟨l.b, 7, none⟩ N (by omega) W
  clear h
  go_enter Try.func66, Try.ntmps66
  go_wp2
  go_quiet ((go_at_call 84; exact Calls.quiet_of_same (cS _)))
  go_wp2
  go_ret
  exact ⟨rfl, ⟨rfl, rfl, rfl, Nat.le_refl _, fun _ _ => rfl⟩⟩
/-- How many of the first are 0. -/
def zrs (f : Nat → Int) : Nat → Nat
  | 0 => 0
  | k + 1 => zrs f k + if f k = 0 then 1 else 0
theorem zrs_le (f : Nat → Int) : ∀ k, zrs f k ≤ k
  | 0 => Nat.le_refl 0
  | k + 1 => by
    have := zrs_le f k
    unfold zrs
    split <;> omega
theorem zrs_yes (f : Nat → Int) (k : Nat) (h : f k = 0) : zrs f (k + 1) = zrs f k + 1 := by rw [zrs, if_pos h]
theorem zrs_no (f : Nat → Int) (k : Nat) (h : f k ≠ 0) : zrs f (k + 1) = zrs f k := by rw [zrs, if_neg h, Nat.add_zero]
set_option maxHeartbeats 4000000 in
theorem left_any (B : Nat) (l : Lo) (s : Vs) (N : Nat) (hN : s.n = N) (w : World) (h : Vb B w l s) : Calls Try.prog 37 #[.pointer (some ⟨l.b, 6, none⟩)] w fun r w' => r = .returned (.int .i64 (zrs (fun k => s.rf.getD k 0) N)) ∧ Below w.heap.size w w' := by
  have cC := counts_any B l s N hN w h
  have hhi := h.m.hi
  rw [hN] at hhi
  have HC : Hid3 (∀ k, k < 64 → w.cell? ⟨l.b, 7 + k, none⟩ = some (.int .i64 ((fun k => s.rf.getD k 0) k))) := ⟨fun k hk => h.rf k hk⟩
  have hlt := h.c.lt
  generalize (fun k => s.rf.getD k 0) = f at *
  obtain ⟨R, hR⟩ : ∃ R, zrs f N = R := ⟨_, rfl⟩
  have HR := Hid3.mk hR
  rw [hR]
  clear h hN hR
  go_enter Try.func37, Try.ntmps37
  go_wp2_with fail
  refine cC.mono ?_
  rintro r W0 ⟨rfl, hW⟩
  clear cC
  go_wp2
  go_loopw [3, 9] (fun c i wr => ∃ k : Nat, k ≤ N ∧ i = .int .i64 k ∧ c = .int .i64 (zrs f k) ∧ wr = W0) (fun _ i _ => N - (intOf i).toNat)
  case atStart => exact ⟨0, Nat.zero_le _, rfl, rfl, rfl⟩
  case round =>
    obtain ⟨k, hk, rfl, rfl, rfl⟩ := hrel
    by_cases hkN : k < N
    · have hkz : (k : Int) < (N : Int) := by omega
      have c0 : wr.cell? ⟨l.b, 7 + k, none⟩ = some (.int .i64 (f k)) := (hW.cell (p := ⟨l.b, 7 + k, none⟩) hlt).trans (HC.out k (by omega))
      have hzl := zrs_le f k
      by_cases hz : f k = 0
      · have HY := Hid3.mk (zrs_yes f k hz)
        rw [hz] at c0
        clear hz
        go_wp2
        go_roundw
        case rel => exact ⟨k + 1, hkN, by go_num, by rw [HY.out]; go_num, by first | rfl | trivial⟩
        case measure => simp [intOf]; omega
      · have HY := Hid3.mk (zrs_no f k hz)
        generalize f k = y at *
        go_wp2
        go_roundw
        case rel => exact ⟨k + 1, hkN, by go_num, by rw [HY.out], by first | rfl | trivial⟩
        case measure => simp [intOf]; omega
    · have hkz : ¬ (k : Int) < (N : Int) := by omega
      have e : k = N := by omega
      subst e
      rw [HR.out]
      go_wp2
      go_ret
      exact ⟨rfl, hW⟩
set_option maxHeartbeats 4000000 in
theorem idx_ok (b N cap : Nat) (f : Nat → Int) (m : Nat) (hN : N ≤ 64) (hm : m < N) (h0 : f m = 0) (hlow : ∀ j, j < m → f j ≠ 0) (w : World) (hc : ∀ k, k < 64 → w.cell? ⟨b, 7 + k, none⟩ = some (.int .i64 (f k))) : Calls Try.prog 85 #[.slice (some ⟨b, 7, none⟩) N cap, .int .i64 0] w fun r w' => r = .returned (.int .i64 m) ∧ w' = w := by
  have HC := Hid3.mk hc
  have H0 := Hid3.mk h0
  have HL := Hid3.mk hlow
  clear hc h0 hlow
  go_enter Try.func85, Try.ntmps85
  go_wp2
  go_loopw [8] (fun i W => ∃ k : Nat, i = .int .i64 k ∧ k ≤ m ∧ W = w) (fun i _ => N - (intOf i).toNat)
  case atStart => exact ⟨0, rfl, Nat.zero_le _, rfl⟩
  case round =>
    obtain ⟨k, rfl, hk, rfl⟩ := hrel
    have hkz : (k : Int) < (N : Int) := by omega
    have c0 := HC.out k (by omega)
    by_cases e : k = m
    · subst e
      rw [H0.out] at c0
      go_wp2
      go_ret
      exact ⟨rfl, rfl⟩
    · have hy : ¬ f k = 0 := HL.out k (by omega)
      generalize f k = y at *
      have hy2 : ¬ (0 : Int) = y := fun x => hy x.symm
      go_wp2
      go_roundw
      case rel => exact ⟨k + 1, by go_num, by omega, by first | rfl | trivial⟩
      case measure => simp [intOf]; omega
/-- The least frame in which none lies. -/
structure Nx (s : Vs) (N m : Nat) : Prop where
  n : s.n = N
  lt : m < N
  z : s.rf.getD m 0 = 0
  low : ∀ j, j < m → s.rf.getD j 0 ≠ 0
set_option maxHeartbeats 2000000 in
theorem next_ok (B : Nat) (l : Lo) (s : Vs) (N m : Nat) (hx : Nx s N m) (w : World) (h : Vb B w l s) : Calls Try.prog 70 #[.pointer (some ⟨l.b, 6, none⟩)] w fun r w' => r = .returned (.int .i64 m) ∧ Below w.heap.size w w' := by
  have cC := counts_any B l s N hx.n w h
  have hhi := h.m.hi
  rw [hx.n] at hhi
  have cI := fun W (k : Below w.heap.size w W) => idx_ok l.b N 64 (fun k => s.rf.getD k 0) m (by omega) hx.lt hx.z hx.low W (h.below k).rf
  clear h hx hhi
  go_enter Try.func70, Try.ntmps70
  go_wp2_with fail
  refine cC.mono ?_
  rintro r W0 ⟨rfl, hW⟩
  clear cC
  have HB := Hid3.mk hW
  clear hW
  go_wp2_with fail
  refine (cI _ HB.out).mono ?_
  rintro r W1 ⟨rfl, rfl⟩
  clear cI
  go_wp2
  go_ret
  exact ⟨rfl, HB.out⟩
end Go.Proofs.Ytfmcoibpbcheiaa
namespace Go.Proofs.Ytfmcoibpbcheiaa
open Go.RowKit Go.Maps
set_option linter.unusedVariables false
set_option maxRecDepth 100000
def cpS (s : Vs) (k : Nat) (f : Int) : Vs := { s with L := cpL s.n s.L k f, cp := s.cp + 1 }
def alS (s : Vs) (f : Int) (k : Nat) : Vs := if f = -1 then jnS s k else jnS (lvS (cpS s k f) f.toNat) k
theorem alone_own (B : Nat) (l : Lo) (s : Vs) (f : Int) (hf : f = -1 ∨ (0 ≤ f ∧ f < 64)) (ho : ownB s f = true) (w : World) (h : Vb B w l s) : Calls Try.prog 42 #[.pointer (some ⟨l.b, 6, none⟩), .int .i64 f] w fun r w' => r = .returned (.int .i64 f) ∧ w' = w := by
  have cO := own_any B l s f hf w h
  rw [ho] at cO
  clear h ho hf
  go_enter Try.func42, Try.ntmps42
  go_wp2_with fail
  refine cO.mono ?_
  rintro r W ⟨rfl, rfl⟩
  go_wp2
  go_ret
  exact ⟨rfl, rfl⟩
set_option maxHeartbeats 2000000 in
theorem alone_no (B : Nat) (l : Lo) (s : Vs) (N m : Nat) (hx : Nx s N m) (w : World) (h : Vb B w l s) : Calls Try.prog 42 #[.pointer (some ⟨l.b, 6, none⟩), .int .i64 (-1)] w fun r w' => r = .returned (.int .i64 m) ∧ Vb B w' l (jnS s m) ∧ Apart (XS l) w w' := by
  have cO := own_any B l s (-1) (.inl rfl) w h
  have eo : ownB s (-1) = false := rfl
  rw [eo] at cO
  have cN := next_ok B l s N m hx w h
  have hhi := h.m.hi
  rw [hx.n] at hhi
  have hlt := hx.lt
  have hz := hx.z
  have cJ := fun W (k : Below w.heap.size w W) => join_ok B l s m (by omega) (by omega) W (h.below k)
  clear h hx hhi hz hlt eo
  go_enter Try.func42, Try.ntmps42
  go_wp2_with fail
  refine cO.mono ?_
  rintro r W ⟨rfl, rfl⟩
  clear cO
  go_wp2_with fail
  refine cN.mono ?_
  rintro r W0 ⟨rfl, hW⟩
  have HB := Hid3.mk hW
  clear hW cN
  go_wp2_with fail
  refine (leave_no l.b _).mono ?_
  rintro r W1 ⟨rfl, rfl⟩
  go_wp2_with fail
  refine (cJ _ HB.out).mono ?_
  rintro r W2 ⟨rfl, hV, hA⟩
  have HV := Hid3.mk hV
  have HA := Hid3.mk hA
  clear cJ hV hA
  go_wp2
  go_ret
  exact ⟨rfl, HV.out, (Apart.of_below HB.out).trans HA.out.sb⟩
set_option maxHeartbeats 4000000 in
theorem alone_cp (B : Nat) (l : Lo) (s : Vs) (N m f : Nat) (hx : Nx s N m) (hf : f < N) (hr : 2 ≤ s.rf.getD f 0 ∧ s.rf.getD f 0 ≤ 1000) (hc : 0 ≤ s.cp ∧ s.cp ≤ 100000) (w : World) (h : Vb B w l s) : Calls Try.prog 42 #[.pointer (some ⟨l.b, 6, none⟩), .int .i64 f] w fun r w' => r = .returned (.int .i64 m) ∧ Vb B w' l (alS s f m) ∧ Apart (XS l) w w' := by
  have hhi := h.m.hi
  rw [hx.n] at hhi
  have hf64 : f < 64 := by omega
  have cO := own_any B l s f (.inr ⟨by omega, by omega⟩) w h
  have eo : ownB s f = false := by
    unfold ownB
    have e1 : ((f : Int) != -1) = true := by simp
    have e2 : (s.rf.getD (f : Int).toNat 0 == 1) = false := by
      rw [Int.toNat_natCast]
      have : ¬ s.rf.getD f 0 = 1 := by omega
      simpa using this
    rw [e1, e2]
    rfl
  rw [eo] at cO
  have cN := next_ok B l s N m hx w h
  have hlt := hx.lt
  have hz := hx.z
  have hmf : m ≠ f := fun e => by rw [e] at hz; omega
  have e0 : alS s f m = jnS (lvS (cpS s m f) f) m := by
    unfold alS
    rw [if_neg (by omega : ¬ (f : Int) = -1), Int.toNat_natCast]
  rw [e0]
  have hgm : (cpS s m f).rf.getD m 0 = 0 := hz
  have hgf : (cpS s m f).rf.getD f 0 = s.rf.getD f 0 := rfl
  have hlen := h.len
  have hjm : (lvS (cpS s m f) f).rf.getD m 0 = 0 := by
    show (s.rf.set f (s.rf.getD f 0 - 1)).getD m 0 = 0
    rw [List.getD_eq_getElem?_getD, List.getElem?_set_ne (fun e => hmf e.symm), ← List.getD_eq_getElem?_getD]
    exact hz
  have cL := fun W (k : Vb B W l (cpS s m f)) => leave_ok B l (cpS s m f) f hf64 (by rw [hgf]; omega) W k
  have cJ := fun W (k : Vb B W l (lvS (cpS s m f) f)) => join_ok B l (lvS (cpS s m f) f) m (by omega) (by omega) W k
  have cC := fun W (k : Below w.heap.size w W) => copy_any l.m s.n m f s.L W (h.m.below k)
  have hm0 := fun W (k : Below w.heap.size w W) => (h.below k).mem
  have H := Hid3.mk h
  have hcp5 : IntKind.i64.wrap (s.cp + 1) = s.cp + 1 := by rw [IntKind.wrap_i64]; omega
  have h3 : ¬ (f : Int) = -1 := by omega
  clear h hx hhi hz hlt eo e0 hgm hgf hlen hjm hr hmf
  go_enter Try.func42, Try.ntmps42
  go_wp2_with fail
  refine cO.mono ?_
  rintro r W ⟨rfl, rfl⟩
  clear cO
  go_wp2_with fail
  refine cN.mono ?_
  rintro r W0 ⟨rfl, hW⟩
  have HB := Hid3.mk hW
  have c6 := hm0 _ hW
  clear hW cN hm0
  go_wp2_with fail
  refine (cC _ HB.out).mono ?_
  rintro r W1 ⟨rfl, hm1, ho1⟩
  have HV1 := Hid3.mk ((H.out.below HB.out).remem _ ho1 hm1)
  have HA1 := Hid3.mk ((Apart.of_below HB.out).trans ho1.sm)
  clear hm1 ho1 cC c6
  have ccp := HV1.out.cp
  have fcp := HV1.out.c.thaw 71
  have HV2 := Hid3.mk (HV1.out.setcp (s.cp + 1))
  have HA2 := Hid3.mk (HA1.out.trans (Apart.at (X := XB l.b) W1 l.b 71 (.int .i64 (s.cp + 1)) rfl).sb)
  go_wp2_with fail
  refine (cL _ HV2.out).mono ?_
  rintro r W3 ⟨rfl, hV3, hA3⟩
  have HV3 := Hid3.mk hV3
  have HA3 := Hid3.mk (HA2.out.trans hA3)
  clear hV3 hA3 cL
  go_wp2_with fail
  refine (cJ _ HV3.out).mono ?_
  rintro r W4 ⟨rfl, hV, hA⟩
  have HV := Hid3.mk hV
  have HA := Hid3.mk (HA3.out.trans hA.sb)
  clear cJ hV hA
  go_wp2
  go_ret
  exact ⟨rfl, HV.out, HA.out⟩
end Go.Proofs.Ytfmcoibpbcheiaa
