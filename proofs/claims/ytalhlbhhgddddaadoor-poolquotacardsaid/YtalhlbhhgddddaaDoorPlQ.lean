/- A set's numbers, one by one (all$1). -/
import Derived.Test.YtalhlbhhgddddaaDoorPlP
import Derived.Test.YtalhlbhhgddddaaDoorPlL
namespace Go.Proofs.YtalhlbhhgddddaaDoor
open Go.RowKit Go.Shelf Go.Maps
set_option linter.unusedVariables false
set_option maxRecDepth 100000
attribute [local go_sem] Oper.semAt_some
/-- What a round must keep: the table. -/
def KpT (W W' : World) : Prop := KeepsWalks W W' ∧ (TzTab W → TzTab W')
def u8A (x : Nat) : Array Value := #[.int .u8 x]
set_option maxHeartbeats 2000000 in
theorem all1_in (n : Nat) (hn : 1 ≤ n) (l bs s : Nat) (hs : s < 512) (J Jx : List Nat → World → Prop) (W : World)
    (hY : ∀ pre x W1, J pre W1 → pre.length < 9 → YieldAt Fence.wide (n - 1) Tryd.prog l (u8A x) W1 fun e W' =>
      (e = .returned (.bool true) ∧ J (pre ++ [x]) W' ∧ KpT W1 W') ∨ (e = .returned (.bool false) ∧ Jx (pre ++ [x]) W'))
    (hc : W.cell? ⟨bs, 0, none⟩ = some (.int .u64 s)) (hT : TzTab W) (h0 : J [] W) :
    CallsIn Fence.wide n Tryd.prog 69 #[.func (.yield l) #[] #[], .pointer (some ⟨bs, 0, none⟩)] W fun e W' => (∃ v, e = .returned v) ∧
      ((∃ ys, ys = bitsL s ∧ J ys W') ∨ (∃ pre, pre <+: bitsL s ∧ Jx pre W')) := by
  have HT := Hid3.mk hT
  have hl9 : (bitsL s).length ≤ 9 := Nat.le_trans (List.length_filter_le _ _) (by simp)
  clear hT
  refine callsIn_of_wp Tryd.func69 rfl trivial ?_ rfl
  simp only [Tryd.ntmps69, List.size_toArray, List.length_cons, List.length_nil, Nat.reduceAdd, Nat.reduceSub, Array.replicate_succ, Array.replicate_zero, List.push_toArray, List.append_toArray, List.nil_append, List.cons_append]
  gi_wp2
  gi_loopw [3] (fun st wr => ∃ (r : Nat) (pre : List Nat), st = .int .u64 r ∧ r < 512 ∧ Hid3 (bitsL s = pre ++ bitsL r) ∧ Hid3 (TzTab wr) ∧ J pre wr) (fun st _ => (intOf st).toNat)
  case atStart => exact ⟨s, [], rfl, hs, ⟨rfl⟩, HT, h0⟩
  case round =>
    obtain ⟨r, pre, rfl, hr, HB, HW, hJk⟩ := hrel
    by_cases hz : r = 0
    · subst hz
      have hpre : pre = bitsL s := by rw [HB.out, bitsL_zero, List.append_nil]
      gi_wp2
      go_end0
      exact ⟨⟨_, rfl⟩, .inl ⟨pre, hpre, hJk⟩⟩
    · obtain ⟨hst, ht9, hlt⟩ := bitsL_step r hr hz
      have hrz : (((r : Nat) : Int) != 0) = true := by simpa using hz
      have hlen : pre.length < 9 := by
        have := congrArg List.length HB.out
        rw [hst, List.length_append, List.length_cons] at this
        omega
      have HB2 : Hid3 (bitsL s = (pre ++ [tz9 r]) ++ bitsL (r &&& (r - 1))) := ⟨by rw [HB.out, hst, List.append_assoc]; rfl⟩
      have HP2 : Hid3 (pre ++ [tz9 r] <+: bitsL s) := ⟨⟨_, HB2.out.symm⟩⟩
      have cZ := (callsIn_wide (n := n - 1)).2 (tz_any r hr hz wr HW.out)
      have Y := hY pre (tz9 r) wr hJk hlen
      unfold u8A at Y
      have hw8 : IntKind.u8.wrap ((tz9 r : Nat) : Int) = ((tz9 r : Nat) : Int) := by rw [IntKind.wrap_u8]; omega
      have hsub : IntKind.u64.wrap ((r : Int) - 1) = ((r - 1 : Nat) : Int) := by rw [IntKind.wrap_u64]; omega
      have hand := bits_and_u64_nat r (r - 1) (by omega) (by omega)
      obtain ⟨fn, tmps, assign, body, hy, hR⟩ := Y
      clear hst HB hJk hY hc
      generalize tz9 r = tz at *
      generalize hnr : r &&& (r - 1) = nr at *
      gi_wp2_with (refine ⟨trivial, ?_⟩; gi_at_call 70; refine cZ.mono ?_; rintro e w' ⟨rfl, rfl⟩)
      refine hR.mono ?_
      rintro r W3 (⟨rfl, hJ4, hk4⟩ | ⟨rfl, hJx4⟩)
      · have HW4 := Hid3.mk (hk4.2 HW.out)
        gi_wp2
        go_roundw
        case rel => exact ⟨nr, pre ++ [tz], by go_num, by omega, HB2, HW4, hJ4⟩
        case measure => simp [intOf]; omega
      · gi_wp2
        refine bodyPost_ret (results_none rfl _ _ _) rfl ?_
        exact ⟨⟨_, rfl⟩, .inr ⟨_, HP2.out, hJx4⟩⟩
end Go.Proofs.YtalhlbhhgddddaaDoor
