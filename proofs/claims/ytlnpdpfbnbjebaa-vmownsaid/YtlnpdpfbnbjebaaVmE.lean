/- The program's vm: the store's leave, counts, left, next. -/
import Derived.Test.YtlnpdpfbnbjebaaVmD
import Derived.BigQuiet
namespace Go.Proofs.Ytlnpdpfbnbjebaa
open Go.RowKit Go.Maps
set_option linter.unusedVariables false
set_option maxRecDepth 100000
def XS (l : Lo) (k : Nat) : Prop := k = l.b ∨ k = l.m
theorem Apart.sb {l : Lo} {w w' : World} (h : Apart (XB l.b) w w') : Apart (XS l) w w' := ⟨h.os, h.tape, h.output, h.size, fun k hk hx => h.block k hk (fun e => hx (.inl e))⟩
theorem Only.sm {l : Lo} {w w' : World} (h : Only l.m w w') : Apart (XS l) w w' := ⟨h.os, h.tape, h.output, h.size, fun k hk hx => h.block k hk (fun e => hx (.inr e))⟩
def lvS (s : Vs) (k : Nat) : Vs := { s with rf := s.rf.set k (s.rf.getD k 0 - 1), L := if s.rf.getD k 0 = 1 then zrL s.n s.L k else s.L }
def jnS (s : Vs) (k : Nat) : Vs := { s with rf := s.rf.set k (s.rf.getD k 0 + 1) }
set_option maxHeartbeats 2000000 in
theorem leave_no (b : Nat) (w : World) : Calls Try.prog 41 #[.pointer (some ⟨b, 6, none⟩), .int .i64 (-1)] w fun r w' => r = .returned (.tuple #[]) ∧ w' = w := by
  go_enter Try.func41, Try.ntmps41
  go_wp2
  first
    | exact bodyPost_end (results_none rfl _ _ _) rfl ⟨rfl, rfl⟩
    | exact bodyPost_ret (results_none rfl _ _ _) rfl ⟨rfl, rfl⟩
set_option maxHeartbeats 2000000 in
theorem leave_ok (B : Nat) (l : Lo) (s : Vs) (k : Nat) (hk : k < 64) (hx : 1 ≤ s.rf.getD k 0 ∧ s.rf.getD k 0 ≤ 1000) (w : World) (h : Vb B w l s) : Calls Try.prog 41 #[.pointer (some ⟨l.b, 6, none⟩), .int .i64 k] w fun r w' => r = .returned (.tuple #[]) ∧ Vb B w' l (lvS s k) ∧ Apart (XS l) w w' := by
  unfold lvS
  have c0 := h.rf k hk
  have f0 := h.c.thaw (7 + k)
  have h3 : ¬ (k : Int) = -1 := by omega
  have h4 : (k : Int) < 64 := by omega
  have HV0 := h.setrf k hk (s.rf.getD k 0 - 1)
  have cm := HV0.mem
  have HV := Hid3.mk HV0
  have HA := Hid3.mk (Apart.at (X := XB l.b) w l.b (7 + k) (.int .i64 (s.rf.getD k 0 - 1)) rfl)
  have hl := h.c.lt
  clear HV0
  by_cases hx1 : s.rf.getD k 0 = 1
  · rw [if_pos hx1]
    rw [hx1] at c0 cm HV HA ⊢
    have e0 : (1 : Int) - 1 = 0 := rfl
    rw [e0] at cm HV HA ⊢
    clear h hx hx1 e0
    go_enter Try.func41, Try.ntmps41
    go_wp2
    go_region
    go_wp2_with fail
    refine (zero_any l.m s.n k s.L _ (HV.out.m.below (below_drew _))).mono ?_
    rintro r W ⟨rfl, hm, ho⟩
    have HM := Hid3.mk hm
    have HO := Hid3.mk ho
    clear hm ho
    go_wp2
    first
      | exact bodyPost_end (results_none rfl _ _ _) rfl ⟨rfl, (HV.out.below (below_drew _)).remem _ HO.out HM.out, HA.out.drew.sb.trans HO.out.sm⟩
      | exact bodyPost_ret (results_none rfl _ _ _) rfl ⟨rfl, (HV.out.below (below_drew _)).remem _ HO.out HM.out, HA.out.drew.sb.trans HO.out.sm⟩
  · rw [if_neg hx1]
    generalize s.rf.getD k 0 = x at *
    have h5 : IntKind.i64.wrap (x - 1) = x - 1 := by rw [IntKind.wrap_i64]; omega
    have h6 : ¬ x - 1 = 0 := by omega
    clear h hx hx1
    go_enter Try.func41, Try.ntmps41
    go_wp2
    go_region
    go_wp2
    first
      | exact bodyPost_end (results_none rfl _ _ _) rfl ⟨rfl, HV.out.below (below_drew _), HA.out.drew.sb⟩
      | exact bodyPost_ret (results_none rfl _ _ _) rfl ⟨rfl, HV.out.below (below_drew _), HA.out.drew.sb⟩
theorem info_int_size : (Try.prog.info? (Try.prog.elem 62)).map (·.size) = some 1 := by kernel_rfl
theorem slice64 (a : Addr) (n : Nat) (hn : n ≤ 64) (w : World) : (Instr.sliceAt 62 (.pointer (some a)) none (some (.int .i64 n)) none).run Try.prog w = .ok (.slice (some a) n 64) w := by
  have hu : Try.prog.underlying 62 = some (.array (Try.prog.arrayLen 62) (Try.prog.elem 62)) := by kernel_rfl
  have hl : Try.prog.arrayLen 62 = 64 := by kernel_rfl
  have hz := info_int_size
  have hs : (sizeOf (Try.prog.elem 62)).run Try.prog w = .ok 1 w := by
    cases hq : Try.prog.info? (Try.prog.elem 62) with
    | none => rw [hq] at hz; cases hz
    | some i =>
      rw [hq] at hz
      have hz' : i.size = 1 := by simpa using hz
      simp [sizeOf, typeInfo, hq, hz']
  rw [run_sliceAt_array_h w 62 a hu .i64 n (by omega) (by rw [hl]; omega), hs, hl]
  simp [slicedAt, Result.andThen_ok, Addr.add]
set_option maxHeartbeats 2000000 in
theorem counts_any (B : Nat) (l : Lo) (s : Vs) (N : Nat) (hN : s.n = N) (w : World) (h : Vb B w l s) : Calls Try.prog 69 #[.pointer (some ⟨l.b, 6, none⟩)] w fun r w' => r = .returned (.slice (some ⟨l.b, 7, none⟩) N 64) ∧ Below w.heap.size w w' := by
  have hm := h.mem
  have hhi := h.m.hi
  have cS : ∀ n, Calls Try.prog 86 #[.pointer (some ⟨l.m, 0, none⟩)] (w.drewN n) fun r w' => r = .returned (.int .i64 N) ∧ w' = w.drewN n := fun n => by
    have := size_ok l.m s.n s.L (w.drewN n) (h.m.below ⟨rfl, rfl, rfl, Nat.le_refl _, fun _ _ => rfl⟩)
    rw [hN] at this
    exact this
  have hsl := fun W => slice64 ⟨l.b, 7, none⟩ N (by omega) W
  clear h
  go_enter Try.func69, Try.ntmps69
  go_wp2
  go_quiet ((go_at_call 86; exact Calls.quiet_of_same (cS _)))
  go_wp2
  go_ret
  exact ⟨rfl, ⟨rfl, rfl, rfl, Nat.le_refl _, fun _ _ => rfl⟩⟩
/-- How many of the first are 0. -/
def zrs (f : Nat → Int) : Nat → Nat
  | 0 => 0
  | k + 1 => zrs f k + if f k = 0 then 1 else 0
theorem zrs_le (f : Nat → Int) : ∀ k, zrs f k ≤ k
  | 0 => Nat.le_refl 0
  | k + 1 => by
    have := zrs_le f k
    unfold zrs
    split <;> omega
theorem zrs_yes (f : Nat → Int) (k : Nat) (h : f k = 0) : zrs f (k + 1) = zrs f k + 1 := by rw [zrs, if_pos h]
theorem zrs_no (f : Nat → Int) (k : Nat) (h : f k ≠ 0) : zrs f (k + 1) = zrs f k := by rw [zrs, if_neg h, Nat.add_zero]
set_option maxHeartbeats 4000000 in
theorem left_any (B : Nat) (l : Lo) (s : Vs) (N : Nat) (hN : s.n = N) (w : World) (h : Vb B w l s) : Calls Try.prog 45 #[.pointer (some ⟨l.b, 6, none⟩)] w fun r w' => r = .returned (.int .i64 (zrs (fun k => s.rf.getD k 0) N)) ∧ Below w.heap.size w w' := by
  have cC := counts_any B l s N hN w h
  have hhi := h.m.hi
  rw [hN] at hhi
  have HC : Hid3 (∀ k, k < 64 → w.cell? ⟨l.b, 7 + k, none⟩ = some (.int .i64 ((fun k => s.rf.getD k 0) k))) := ⟨fun k hk => h.rf k hk⟩
  have hlt := h.c.lt
  generalize (fun k => s.rf.getD k 0) = f at *
  obtain ⟨R, hR⟩ : ∃ R, zrs f N = R := ⟨_, rfl⟩
  have HR := Hid3.mk hR
  rw [hR]
  clear h hN hR
  go_enter Try.func45, Try.ntmps45
  go_wp2_with fail
  refine cC.mono ?_
  rintro r W0 ⟨rfl, hW⟩
  clear cC
  go_wp2
  go_loopw [3, 9] (fun c i wr => ∃ k : Nat, k ≤ N ∧ i = .int .i64 k ∧ c = .int .i64 (zrs f k) ∧ wr = W0) (fun _ i _ => N - (intOf i).toNat)
  case atStart => exact ⟨0, Nat.zero_le _, rfl, rfl, rfl⟩
  case round =>
    obtain ⟨k, hk, rfl, rfl, rfl⟩ := hrel
    by_cases hkN : k < N
    · have hkz : (k : Int) < (N : Int) := by omega
      have c0 : wr.cell? ⟨l.b, 7 + k, none⟩ = some (.int .i64 (f k)) := (hW.cell (p := ⟨l.b, 7 + k, none⟩) hlt).trans (HC.out k (by omega))
      have hzl := zrs_le f k
      by_cases hz : f k = 0
      · have HY := Hid3.mk (zrs_yes f k hz)
        rw [hz] at c0
        clear hz
        go_wp2
        go_roundw
        case rel => exact ⟨k + 1, hkN, by go_num, by rw [HY.out]; go_num, by first | rfl | trivial⟩
        case measure => simp [intOf]; omega
      · have HY := Hid3.mk (zrs_no f k hz)
        generalize f k = y at *
        go_wp2
        go_roundw
        case rel => exact ⟨k + 1, hkN, by go_num, by rw [HY.out], by first | rfl | trivial⟩
        case measure => simp [intOf]; omega
    · have hkz : ¬ (k : Int) < (N : Int) := by omega
      have e : k = N := by omega
      subst e
      rw [HR.out]
      go_wp2
      go_ret
      exact ⟨rfl, hW⟩
set_option maxHeartbeats 4000000 in
theorem idx_ok (b N cap : Nat) (f : Nat → Int) (m : Nat) (hN : N ≤ 64) (hm : m < N) (h0 : f m = 0) (hlow : ∀ j, j < m → f j ≠ 0) (w : World) (hc : ∀ k, k < 64 → w.cell? ⟨b, 7 + k, none⟩ = some (.int .i64 (f k))) : Calls Try.prog 87 #[.slice (some ⟨b, 7, none⟩) N cap, .int .i64 0] w fun r w' => r = .returned (.int .i64 m) ∧ w' = w := by
  have HC := Hid3.mk hc
  have H0 := Hid3.mk h0
  have HL := Hid3.mk hlow
  clear hc h0 hlow
  go_enter Try.func87, Try.ntmps87
  go_wp2
  go_loopw [8] (fun i W => ∃ k : Nat, i = .int .i64 k ∧ k ≤ m ∧ W = w) (fun i _ => N - (intOf i).toNat)
  case atStart => exact ⟨0, rfl, Nat.zero_le _, rfl⟩
  case round =>
    obtain ⟨k, rfl, hk, rfl⟩ := hrel
    have hkz : (k : Int) < (N : Int) := by omega
    have c0 := HC.out k (by omega)
    by_cases e : k = m
    · subst e
      rw [H0.out] at c0
      go_wp2
      go_ret
      exact ⟨rfl, rfl⟩
    · have hy : ¬ f k = 0 := HL.out k (by omega)
      generalize f k = y at *
      have hy2 : ¬ (0 : Int) = y := fun x => hy x.symm
      go_wp2
      go_roundw
      case rel => exact ⟨k + 1, by go_num, by omega, by first | rfl | trivial⟩
      case measure => simp [intOf]; omega
/-- The least frame in which none lies. -/
structure Nx (s : Vs) (N m : Nat) : Prop where
  n : s.n = N
  lt : m < N
  z : s.rf.getD m 0 = 0
  low : ∀ j, j < m → s.rf.getD j 0 ≠ 0
set_option maxHeartbeats 2000000 in
theorem next_ok (B : Nat) (l : Lo) (s : Vs) (N m : Nat) (hx : Nx s N m) (w : World) (h : Vb B w l s) : Calls Try.prog 73 #[.pointer (some ⟨l.b, 6, none⟩)] w fun r w' => r = .returned (.int .i64 m) ∧ Below w.heap.size w w' := by
  have cC := counts_any B l s N hx.n w h
  have hhi := h.m.hi
  rw [hx.n] at hhi
  have cI := fun W (k : Below w.heap.size w W) => idx_ok l.b N 64 (fun k => s.rf.getD k 0) m (by omega) hx.lt hx.z hx.low W (h.below k).rf
  clear h hx hhi
  go_enter Try.func73, Try.ntmps73
  go_wp2_with fail
  refine cC.mono ?_
  rintro r W0 ⟨rfl, hW⟩
  clear cC
  have HB := Hid3.mk hW
  clear hW
  go_wp2_with fail
  refine (cI _ HB.out).mono ?_
  rintro r W1 ⟨rfl, rfl⟩
  clear cI
  go_wp2
  go_ret
  exact ⟨rfl, HB.out⟩
end Go.Proofs.Ytlnpdpfbnbjebaa
