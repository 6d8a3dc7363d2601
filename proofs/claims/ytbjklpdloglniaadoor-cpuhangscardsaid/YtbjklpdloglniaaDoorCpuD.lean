/- What becomes of the registers, kind by kind: the program. -/
import Derived.Test.YtbjklpdloglniaaDoorCpuC
import Derived.BigQuiet
import Derived.Deep.RegionHeld3
namespace Go.Proofs.YtbjklpdloglniaaDoor
open Go.RowKit
set_option linter.unusedVariables false
set_option maxRecDepth 100000

theorem still_drew {P : Program} {id : Nat} {Q : Exit → Act → World → Prop} {a : Act} {w : World} {l : List Oper} (n : Nat) (hm : P.follows .mixedOrders = true) (hB : Region.lexTailB .any l.toArray n = true)
    (h : wpStill P l.toArray w.drew (fun a' => wpList P l.toArray Q (l.drop n) a' w.drew) (l.take n) a) : (Code.region id l.toArray true).wp P Q a w := wp_region_still_tail n hm hB h
theorem ar_get (r : Nat → Int) (k : Nat) (hk : k < 8) (h : k < [Value.int .u16 (r 0), .int .u16 (r 1), .int .u16 (r 2), .int .u16 (r 3), .int .u16 (r 4), .int .u16 (r 5), .int .u16 (r 6), .int .u16 (r 7)].length) : [Value.int .u16 (r 0), .int .u16 (r 1), .int .u16 (r 2), .int .u16 (r 3), .int .u16 (r 4), .int .u16 (r 5), .int .u16 (r 6), .int .u16 (r 7)][k]'h = .int .u16 (r k) := by
  revert h
  revert k
  exact eight (fun _ => rfl) (fun _ => rfl) (fun _ => rfl) (fun _ => rfl) (fun _ => rfl) (fun _ => rfl) (fun _ => rfl) (fun _ => rfl)
theorem still_all {P : Program} {id : Nat} {Q : Exit → Act → World → Prop} {a : Act} {w : World} {l : List Oper} (hm : P.follows .mixedOrders = true) (hB : Region.lexB .any l.toArray = true)
    (h : wpStill P l.toArray w.drew (fun a' => Q .normal a' w.drew) l a) : (Code.region id l.toArray true).wp P Q a w := wp_region_still_lit hm hB h
theorem reckon_any (o a b : Int) (w : World) (ha : Wd a) (hb : Wd b) (ho : o = 4 ∨ o = 5 ∨ o = 6 ∨ o = 8 ∨ o = 9 ∨ o = 10 ∨ o = 11 ∨ o = 12) :
    Calls Tryd.prog 20 #[.int .u8 o, .int .u16 a, .int .u16 b] w fun e w' => e = .returned (.int .u16 (recV o a b)) ∧ w' = w := by
  have c1 := fun w => add_any a b w ha.1 ha.2 hb.1 hb.2
  have c2 := fun w => sub_any a b w
  have c3 := fun w => mul_any a b w ha.1 ha.2 hb.1 hb.2
  have c4 := fun w => shl_any a b w ha.1 ha.2
  have c5 := fun w => shr_any a b w ha.1 ha.2
  have hb1 := hb.1
  have hb2 := hb.2
  rcases ho with rfl | rfl | rfl | rfl | rfl | rfl | rfl | rfl
  all_goals
    unfold recV
    simp only [reduceIte, Int.reduceEq]
    go_enter Tryd.func20, Tryd.ntmps20
    go_wp2_with (first | (go_at_call 18; refine (c1 _).mono ?_; rintro e w' ⟨rfl, rfl⟩) | (go_at_call 28; refine (c2 _).mono ?_; rintro e w' ⟨rfl, rfl⟩) | (go_at_call 29; refine (c3 _).mono ?_; rintro e w' ⟨rfl, rfl⟩) | (go_at_call 30; refine (c4 _).mono ?_; rintro e w' ⟨rfl, rfl⟩) | (go_at_call 31; refine (c5 _).mono ?_; rintro e w' ⟨rfl, rfl⟩))
    go_ret
    exact ⟨rfl, rfl⟩
set_option maxHeartbeats 2000000 in
theorem does_con (pc : Int) (r : Nat → Int) (o a b m : Int) (w : World) (hp : Wd pc) (ha : 0 ≤ a) (ha2 : a < 8) :
    Calls Tryd.prog 12 #[rgV pc r, .iface 64 (insV o a b m)] w fun e w' => e = .returned (.tuple #[rgV (addV pc 4) (upd r a.toNat m), accV (0, 0, 0, 0, 0)]) ∧ Below w.heap.size w w' := by
  have t0 := as_constant_constant
  have cA := fun w => add_any pc 4 w hp.1 hp.2 (by decide) (by decide)
  have hs := rg_set (addV pc 4) r m a.toNat (by omega)
  have hc : #[Value.int .u16 (addV pc 4), .int .u16 (r 0), .int .u16 (r 1), .int .u16 (r 2), .int .u16 (r 3), .int .u16 (r 4), .int .u16 (r 5), .int .u16 (r 6), .int .u16 (r 7)][1 + a.toNat]? = some (.int .u16 (r a.toNat)) := rg_at (addV pc 4) r a.toNat (by omega)
  generalize upd r a.toNat m = r' at *
  unfold rgV insV
  go_enter Tryd.func12, Tryd.ntmps12
  go_wp2_with (go_at_call 18; refine (cA _).mono ?_; rintro e W2 ⟨rfl, rfl⟩)
  exact bodyPost_ret (v := .tuple #[rgV (addV pc 4) r', accV (0, 0, 0, 0, 0)]) (by simp [results, Tryd.results12, go_sem, accV, rgV]) rfl ⟨rfl, nx (nx (nx (nx (nx (Below.refl _ w) _) _) _) _) _⟩
set_option maxHeartbeats 2000000 in
theorem does_pass (pc : Int) (r : Nat → Int) (o a b m : Int) (w : World) (hp : Wd pc) :
    Calls Tryd.prog 12 #[rgV pc r, .iface 62 (.agg #[])] w fun e w' => e = .returned (.tuple #[rgV (addV pc 4) r, accV (0, 0, 0, 0, 0)]) ∧ Below w.heap.size w w' := by
  have t0 := as_pass_constant
  have t1 := as_pass_move
  have t2 := as_pass_quotient
  have t3 := as_pass_reckoning
  have t4 := as_pass_load
  have t5 := as_pass_store
  have t6 := as_pass_jump
  have t7 := as_pass_zeroJump
  have t8 := as_pass_lessJump
  have t9 := as_pass_call
  have t10 := as_pass_back
  have t11 := as_pass_system
  have cA := fun w => add_any pc 4 w hp.1 hp.2 (by decide) (by decide)
  unfold rgV
  go_enter Tryd.func12, Tryd.ntmps12
  go_wp2_with (go_at_call 18; refine (cA _).mono ?_; rintro e W2 ⟨rfl, rfl⟩)
  exact bodyPost_ret (v := .tuple #[rgV (addV pc 4) r, accV (0, 0, 0, 0, 0)]) (by simp [results, Tryd.results12, go_sem, accV, rgV]) rfl ⟨rfl, nx (nx (nx (nx (Below.refl _ w) _) _) _) _⟩
set_option maxHeartbeats 2000000 in
theorem does_jmp (pc : Int) (r : Nat → Int) (o a b m : Int) (w : World) (hp : Wd pc) :
    Calls Tryd.prog 12 #[rgV pc r, .iface 65 (insV o a b m)] w fun e w' => e = .returned (.tuple #[rgV m r, accV (0, 0, 0, 0, 0)]) ∧ Below w.heap.size w w' := by
  have t0 := as_jump_constant
  have t1 := as_jump_move
  have t2 := as_jump_quotient
  have t3 := as_jump_reckoning
  have t4 := as_jump_load
  have t5 := as_jump_store
  have t6 := as_jump_jump
  have cA := fun w => add_any pc 4 w hp.1 hp.2 (by decide) (by decide)
  unfold rgV insV
  go_enter Tryd.func12, Tryd.ntmps12
  go_wp2_with (go_at_call 18; refine (cA _).mono ?_; rintro e W2 ⟨rfl, rfl⟩)
  exact bodyPost_ret (v := .tuple #[rgV m r, accV (0, 0, 0, 0, 0)]) (by simp [results, Tryd.results12, go_sem, accV, rgV]) rfl ⟨rfl, nx (nx (nx (nx (nx (Below.refl _ w) _) _) _) _) _⟩
set_option maxHeartbeats 2000000 in
theorem does_back (pc : Int) (r : Nat → Int) (o a b m : Int) (w : World) (hp : Wd pc) :
    Calls Tryd.prog 12 #[rgV pc r, .iface 60 (.agg #[])] w fun e w' => e = .returned (.tuple #[rgV (r 7) r, accV (0, 0, 0, 0, 0)]) ∧ Below w.heap.size w w' := by
  have t0 := as_back_constant
  have t1 := as_back_move
  have t2 := as_back_quotient
  have t3 := as_back_reckoning
  have t4 := as_back_load
  have t5 := as_back_store
  have t6 := as_back_jump
  have t7 := as_back_zeroJump
  have t8 := as_back_lessJump
  have t9 := as_back_call
  have t10 := as_back_back
  have cA := fun w => add_any pc 4 w hp.1 hp.2 (by decide) (by decide)
  unfold rgV
  go_enter Tryd.func12, Tryd.ntmps12
  go_wp2_with (go_at_call 18; refine (cA _).mono ?_; rintro e W2 ⟨rfl, rfl⟩)
  exact bodyPost_ret (v := .tuple #[rgV (r 7) r, accV (0, 0, 0, 0, 0)]) (by simp [results, Tryd.results12, go_sem, accV, rgV]) rfl ⟨rfl, nx (nx (nx (nx (nx (Below.refl _ w) _) _) _) _) _⟩
set_option maxHeartbeats 2000000 in
theorem does_mov (pc : Int) (r : Nat → Int) (o a b m : Int) (w : World) (hp : Wd pc) (ha : 0 ≤ a) (ha2 : a < 8) (hb : 0 ≤ b) (hb2 : b < 8) :
    Calls Tryd.prog 12 #[rgV pc r, .iface 52 (insV o a b m)] w fun e w' => e = .returned (.tuple #[rgV (addV pc 4) (upd r a.toNat (r b.toNat)), accV (0, 0, 0, 0, 0)]) ∧ Below w.heap.size w w' := by
  have t0 := as_move_constant
  have t1 := as_move_move
  have cA := fun w => add_any pc 4 w hp.1 hp.2 (by decide) (by decide)
  have hob : #[Value.int .u16 (r 0), Value.int .u16 (r 1), Value.int .u16 (r 2), Value.int .u16 (r 3), Value.int .u16 (r 4), Value.int .u16 (r 5), Value.int .u16 (r 6), Value.int .u16 (r 7)][b.toNat]? = some (.int .u16 (r b.toNat)) := ar_at r b.toNat (by omega)
  have hs := rg_set (addV pc 4) r (r b.toNat) a.toNat (by omega)
  have hc : #[Value.int .u16 (addV pc 4), .int .u16 (r 0), .int .u16 (r 1), .int .u16 (r 2), .int .u16 (r 3), .int .u16 (r 4), .int .u16 (r 5), .int .u16 (r 6), .int .u16 (r 7)][1 + a.toNat]? = some (.int .u16 (r a.toNat)) := rg_at (addV pc 4) r a.toNat (by omega)
  generalize upd r a.toNat (r b.toNat) = r' at *
  unfold rgV insV
  go_enter Tryd.func12, Tryd.ntmps12
  go_wp2_with (go_at_call 18; refine (cA _).mono ?_; rintro e W2 ⟨rfl, rfl⟩)
  refine still_drew 8 (by kernel_rfl) (by kernel_rfl) ?_
  simp only [List.take_succ_cons, List.take_zero, List.drop_succ_cons, List.drop_zero]
  still_step
  still_step
  still_step
  still_step
  still_step
  still_step
  still_step
  still_step
  refine wpStill_nil ?_
  simp only [ar_get r b.toNat (by omega)]
  go_wp2_with fail
  exact bodyPost_ret (v := .tuple #[rgV (addV pc 4) r', accV (0, 0, 0, 0, 0)]) (by simp [results, Tryd.results12, go_sem, accV, rgV]) rfl ⟨rfl, Below.drew (nx (nx (nx (nx (nx (Below.refl _ w) _) _) _) _) _)⟩
set_option maxHeartbeats 2000000 in
theorem does_rec (pc : Int) (r : Nat → Int) (o a b m : Int) (w : World) (hp : Wd pc) (ha : 0 ≤ a) (ha2 : a < 8) (hb : 0 ≤ b) (hb2 : b < 8) (hr : ∀ k, Wd (r k)) (ho : o = 4 ∨ o = 5 ∨ o = 6 ∨ o = 8 ∨ o = 9 ∨ o = 10 ∨ o = 11 ∨ o = 12) :
    Calls Tryd.prog 12 #[rgV pc r, .iface 54 (insV o a b m)] w fun e w' => e = .returned (.tuple #[rgV (addV pc 4) (upd r a.toNat (recV o (r a.toNat) (r b.toNat))), accV (0, 0, 0, 0, 0)]) ∧ Below w.heap.size w w' := by
  have t0 := as_reckoning_constant
  have t1 := as_reckoning_move
  have t2 := as_reckoning_quotient
  have t3 := as_reckoning_reckoning
  have cA := fun w => add_any pc 4 w hp.1 hp.2 (by decide) (by decide)
  have cR := fun w => reckon_any o (r a.toNat) (r b.toNat) w (hr _) (hr _) ho
  clear ho
  have hoa : #[Value.int .u16 (r 0), Value.int .u16 (r 1), Value.int .u16 (r 2), Value.int .u16 (r 3), Value.int .u16 (r 4), Value.int .u16 (r 5), Value.int .u16 (r 6), Value.int .u16 (r 7)][a.toNat]? = some (.int .u16 (r a.toNat)) := ar_at r a.toNat (by omega)
  have hob : #[Value.int .u16 (r 0), Value.int .u16 (r 1), Value.int .u16 (r 2), Value.int .u16 (r 3), Value.int .u16 (r 4), Value.int .u16 (r 5), Value.int .u16 (r 6), Value.int .u16 (r 7)][b.toNat]? = some (.int .u16 (r b.toNat)) := ar_at r b.toNat (by omega)
  have hs := rg_set (addV pc 4) r (recV o (r a.toNat) (r b.toNat)) a.toNat (by omega)
  have hc : #[Value.int .u16 (addV pc 4), .int .u16 (r 0), .int .u16 (r 1), .int .u16 (r 2), .int .u16 (r 3), .int .u16 (r 4), .int .u16 (r 5), .int .u16 (r 6), .int .u16 (r 7)][1 + a.toNat]? = some (.int .u16 (r a.toNat)) := rg_at (addV pc 4) r a.toNat (by omega)
  generalize upd r a.toNat (recV o (r a.toNat) (r b.toNat)) = r' at *
  unfold rgV insV
  go_enter Tryd.func12, Tryd.ntmps12
  go_wp2_with (go_at_call 18; refine (cA _).mono ?_; rintro e W2 ⟨rfl, rfl⟩)
  refine still_drew 15 (by kernel_rfl) (by kernel_rfl) ?_
  simp only [List.take_succ_cons, List.take_zero, List.drop_succ_cons, List.drop_zero]
  still_step
  still_step
  still_step
  still_step
  still_step
  still_step
  still_step
  still_step
  still_step
  still_step
  still_step
  still_step
  simp only [ar_get r a.toNat (by omega), ar_get r b.toNat (by omega)]
  still_call (cR _)
  still_step
  still_step
  refine wpStill_nil ?_
  go_wp2_with fail
  exact bodyPost_ret (v := .tuple #[rgV (addV pc 4) r', accV (0, 0, 0, 0, 0)]) (by simp [results, Tryd.results12, go_sem, accV, rgV]) rfl ⟨rfl, Below.drew (nx (nx (nx (nx (nx (Below.refl _ w) _) _) _) _) _)⟩
set_option maxHeartbeats 2000000 in
theorem does_jz1 (pc : Int) (r : Nat → Int) (a b m : Int) (w : World) (hp : Wd pc) (ha : 0 ≤ a) (ha2 : a < 8) (hz : (r a.toNat == 0) = true) :
    Calls Tryd.prog 12 #[rgV pc r, .iface 57 (insV 18 a b m)] w fun e w' => e = .returned (.tuple #[rgV m r, accV (0, 0, 0, 0, 0)]) ∧ Below w.heap.size w w' := by
  have t0 := as_zeroJump_constant
  have t1 := as_zeroJump_move
  have t2 := as_zeroJump_quotient
  have t3 := as_zeroJump_reckoning
  have t4 := as_zeroJump_load
  have t5 := as_zeroJump_store
  have t6 := as_zeroJump_jump
  have t7 := as_zeroJump_zeroJump
  have cA := fun w => add_any pc 4 w hp.1 hp.2 (by decide) (by decide)
  have hoa : #[Value.int .u16 (r 0), Value.int .u16 (r 1), Value.int .u16 (r 2), Value.int .u16 (r 3), Value.int .u16 (r 4), Value.int .u16 (r 5), Value.int .u16 (r 6), Value.int .u16 (r 7)][a.toNat]? = some (.int .u16 (r a.toNat)) := ar_at r a.toNat (by omega)
  unfold rgV insV
  go_enter Tryd.func12, Tryd.ntmps12
  go_wp2_with (go_at_call 18; refine (cA _).mono ?_; rintro e W2 ⟨rfl, rfl⟩)
  refine still_all (by kernel_rfl) (by kernel_rfl) ?_
  still_step
  still_step
  still_step
  still_step
  simp only [ar_get r a.toNat (by omega)]
  still_step
  still_step
  still_step
  still_step
  still_step
  refine wpStill_nil ?_
  go_wp2_with fail
  exact bodyPost_ret (v := .tuple #[rgV m r, accV (0, 0, 0, 0, 0)]) (by simp [results, Tryd.results12, go_sem, accV, rgV]) rfl ⟨rfl, Below.drew (nx (nx (nx (nx (nx (Below.refl _ w) _) _) _) _) _)⟩
set_option maxHeartbeats 2000000 in
theorem does_jz0 (pc : Int) (r : Nat → Int) (a b m : Int) (w : World) (hp : Wd pc) (ha : 0 ≤ a) (ha2 : a < 8) (hz : (r a.toNat == 0) = false) :
    Calls Tryd.prog 12 #[rgV pc r, .iface 57 (insV 18 a b m)] w fun e w' => e = .returned (.tuple #[rgV (addV pc 4) r, accV (0, 0, 0, 0, 0)]) ∧ Below w.heap.size w w' := by
  have t0 := as_zeroJump_constant
  have t1 := as_zeroJump_move
  have t2 := as_zeroJump_quotient
  have t3 := as_zeroJump_reckoning
  have t4 := as_zeroJump_load
  have t5 := as_zeroJump_store
  have t6 := as_zeroJump_jump
  have t7 := as_zeroJump_zeroJump
  have cA := fun w => add_any pc 4 w hp.1 hp.2 (by decide) (by decide)
  have hoa : #[Value.int .u16 (r 0), Value.int .u16 (r 1), Value.int .u16 (r 2), Value.int .u16 (r 3), Value.int .u16 (r 4), Value.int .u16 (r 5), Value.int .u16 (r 6), Value.int .u16 (r 7)][a.toNat]? = some (.int .u16 (r a.toNat)) := ar_at r a.toNat (by omega)
  unfold rgV insV
  go_enter Tryd.func12, Tryd.ntmps12
  go_wp2_with (go_at_call 18; refine (cA _).mono ?_; rintro e W2 ⟨rfl, rfl⟩)
  refine still_all (by kernel_rfl) (by kernel_rfl) ?_
  still_step
  still_step
  still_step
  still_step
  simp only [ar_get r a.toNat (by omega)]
  still_step
  still_step
  still_step
  still_step
  still_step
  refine wpStill_nil ?_
  go_wp2_with fail
  exact bodyPost_ret (v := .tuple #[rgV (addV pc 4) r, accV (0, 0, 0, 0, 0)]) (by simp [results, Tryd.results12, go_sem, accV, rgV]) rfl ⟨rfl, Below.drew (nx (nx (nx (nx (nx (Below.refl _ w) _) _) _) _) _)⟩
set_option maxHeartbeats 2000000 in
theorem does_jn1 (pc : Int) (r : Nat → Int) (a b m : Int) (w : World) (hp : Wd pc) (ha : 0 ≤ a) (ha2 : a < 8) (hz : (r a.toNat == 0) = true) :
    Calls Tryd.prog 12 #[rgV pc r, .iface 57 (insV 19 a b m)] w fun e w' => e = .returned (.tuple #[rgV (addV pc 4) r, accV (0, 0, 0, 0, 0)]) ∧ Below w.heap.size w w' := by
  have t0 := as_zeroJump_constant
  have t1 := as_zeroJump_move
  have t2 := as_zeroJump_quotient
  have t3 := as_zeroJump_reckoning
  have t4 := as_zeroJump_load
  have t5 := as_zeroJump_store
  have t6 := as_zeroJump_jump
  have t7 := as_zeroJump_zeroJump
  have cA := fun w => add_any pc 4 w hp.1 hp.2 (by decide) (by decide)
  have hoa : #[Value.int .u16 (r 0), Value.int .u16 (r 1), Value.int .u16 (r 2), Value.int .u16 (r 3), Value.int .u16 (r 4), Value.int .u16 (r 5), Value.int .u16 (r 6), Value.int .u16 (r 7)][a.toNat]? = some (.int .u16 (r a.toNat)) := ar_at r a.toNat (by omega)
  unfold rgV insV
  go_enter Tryd.func12, Tryd.ntmps12
  go_wp2_with (go_at_call 18; refine (cA _).mono ?_; rintro e W2 ⟨rfl, rfl⟩)
  refine still_all (by kernel_rfl) (by kernel_rfl) ?_
  still_step
  still_step
  still_step
  still_step
  simp only [ar_get r a.toNat (by omega)]
  still_step
  still_step
  still_step
  still_step
  still_step
  refine wpStill_nil ?_
  go_wp2_with fail
  exact bodyPost_ret (v := .tuple #[rgV (addV pc 4) r, accV (0, 0, 0, 0, 0)]) (by simp [results, Tryd.results12, go_sem, accV, rgV]) rfl ⟨rfl, Below.drew (nx (nx (nx (nx (nx (Below.refl _ w) _) _) _) _) _)⟩
set_option maxHeartbeats 2000000 in
theorem does_jn0 (pc : Int) (r : Nat → Int) (a b m : Int) (w : World) (hp : Wd pc) (ha : 0 ≤ a) (ha2 : a < 8) (hz : (r a.toNat == 0) = false) :
    Calls Tryd.prog 12 #[rgV pc r, .iface 57 (insV 19 a b m)] w fun e w' => e = .returned (.tuple #[rgV m r, accV (0, 0, 0, 0, 0)]) ∧ Below w.heap.size w w' := by
  have t0 := as_zeroJump_constant
  have t1 := as_zeroJump_move
  have t2 := as_zeroJump_quotient
  have t3 := as_zeroJump_reckoning
  have t4 := as_zeroJump_load
  have t5 := as_zeroJump_store
  have t6 := as_zeroJump_jump
  have t7 := as_zeroJump_zeroJump
  have cA := fun w => add_any pc 4 w hp.1 hp.2 (by decide) (by decide)
  have hoa : #[Value.int .u16 (r 0), Value.int .u16 (r 1), Value.int .u16 (r 2), Value.int .u16 (r 3), Value.int .u16 (r 4), Value.int .u16 (r 5), Value.int .u16 (r 6), Value.int .u16 (r 7)][a.toNat]? = some (.int .u16 (r a.toNat)) := ar_at r a.toNat (by omega)
  unfold rgV insV
  go_enter Tryd.func12, Tryd.ntmps12
  go_wp2_with (go_at_call 18; refine (cA _).mono ?_; rintro e W2 ⟨rfl, rfl⟩)
  refine still_all (by kernel_rfl) (by kernel_rfl) ?_
  still_step
  still_step
  still_step
  still_step
  simp only [ar_get r a.toNat (by omega)]
  still_step
  still_step
  still_step
  still_step
  still_step
  refine wpStill_nil ?_
  go_wp2_with fail
  exact bodyPost_ret (v := .tuple #[rgV m r, accV (0, 0, 0, 0, 0)]) (by simp [results, Tryd.results12, go_sem, accV, rgV]) rfl ⟨rfl, Below.drew (nx (nx (nx (nx (nx (Below.refl _ w) _) _) _) _) _)⟩
set_option maxHeartbeats 2000000 in
theorem does_lj1 (pc : Int) (r : Nat → Int) (o a b m : Int) (w : World) (hp : Wd pc) (ha : 0 ≤ a) (ha2 : a < 8) (hb : 0 ≤ b) (hb2 : b < 8) (hz : decide (r a.toNat < r b.toNat) = true) :
    Calls Tryd.prog 12 #[rgV pc r, .iface 58 (insV o a b m)] w fun e w' => e = .returned (.tuple #[rgV m r, accV (0, 0, 0, 0, 0)]) ∧ Below w.heap.size w w' := by
  have t0 := as_lessJump_constant
  have t1 := as_lessJump_move
  have t2 := as_lessJump_quotient
  have t3 := as_lessJump_reckoning
  have t4 := as_lessJump_load
  have t5 := as_lessJump_store
  have t6 := as_lessJump_jump
  have t7 := as_lessJump_zeroJump
  have t8 := as_lessJump_lessJump
  have cA := fun w => add_any pc 4 w hp.1 hp.2 (by decide) (by decide)
  have hoa : #[Value.int .u16 (r 0), Value.int .u16 (r 1), Value.int .u16 (r 2), Value.int .u16 (r 3), Value.int .u16 (r 4), Value.int .u16 (r 5), Value.int .u16 (r 6), Value.int .u16 (r 7)][a.toNat]? = some (.int .u16 (r a.toNat)) := ar_at r a.toNat (by omega)
  have hob : #[Value.int .u16 (r 0), Value.int .u16 (r 1), Value.int .u16 (r 2), Value.int .u16 (r 3), Value.int .u16 (r 4), Value.int .u16 (r 5), Value.int .u16 (r 6), Value.int .u16 (r 7)][b.toNat]? = some (.int .u16 (r b.toNat)) := ar_at r b.toNat (by omega)
  unfold rgV insV
  go_enter Tryd.func12, Tryd.ntmps12
  go_wp2_with (go_at_call 18; refine (cA _).mono ?_; rintro e W2 ⟨rfl, rfl⟩)
  refine still_all (by kernel_rfl) (by kernel_rfl) ?_
  still_step
  still_step
  still_step
  still_step
  simp only [ar_get r a.toNat (by omega)]
  still_step
  still_step
  still_step
  still_step
  simp only [ar_get r b.toNat (by omega)]
  still_step
  refine wpStill_nil ?_
  go_wp2_with fail
  exact bodyPost_ret (v := .tuple #[rgV m r, accV (0, 0, 0, 0, 0)]) (by simp [results, Tryd.results12, go_sem, accV, rgV]) rfl ⟨rfl, Below.drew (nx (nx (nx (nx (nx (Below.refl _ w) _) _) _) _) _)⟩
set_option maxHeartbeats 2000000 in
theorem does_lj0 (pc : Int) (r : Nat → Int) (o a b m : Int) (w : World) (hp : Wd pc) (ha : 0 ≤ a) (ha2 : a < 8) (hb : 0 ≤ b) (hb2 : b < 8) (hz : decide (r a.toNat < r b.toNat) = false) :
    Calls Tryd.prog 12 #[rgV pc r, .iface 58 (insV o a b m)] w fun e w' => e = .returned (.tuple #[rgV (addV pc 4) r, accV (0, 0, 0, 0, 0)]) ∧ Below w.heap.size w w' := by
  have t0 := as_lessJump_constant
  have t1 := as_lessJump_move
  have t2 := as_lessJump_quotient
  have t3 := as_lessJump_reckoning
  have t4 := as_lessJump_load
  have t5 := as_lessJump_store
  have t6 := as_lessJump_jump
  have t7 := as_lessJump_zeroJump
  have t8 := as_lessJump_lessJump
  have cA := fun w => add_any pc 4 w hp.1 hp.2 (by decide) (by decide)
  have hoa : #[Value.int .u16 (r 0), Value.int .u16 (r 1), Value.int .u16 (r 2), Value.int .u16 (r 3), Value.int .u16 (r 4), Value.int .u16 (r 5), Value.int .u16 (r 6), Value.int .u16 (r 7)][a.toNat]? = some (.int .u16 (r a.toNat)) := ar_at r a.toNat (by omega)
  have hob : #[Value.int .u16 (r 0), Value.int .u16 (r 1), Value.int .u16 (r 2), Value.int .u16 (r 3), Value.int .u16 (r 4), Value.int .u16 (r 5), Value.int .u16 (r 6), Value.int .u16 (r 7)][b.toNat]? = some (.int .u16 (r b.toNat)) := ar_at r b.toNat (by omega)
  unfold rgV insV
  go_enter Tryd.func12, Tryd.ntmps12
  go_wp2_with (go_at_call 18; refine (cA _).mono ?_; rintro e W2 ⟨rfl, rfl⟩)
  refine still_all (by kernel_rfl) (by kernel_rfl) ?_
  still_step
  still_step
  still_step
  still_step
  simp only [ar_get r a.toNat (by omega)]
  still_step
  still_step
  still_step
  still_step
  simp only [ar_get r b.toNat (by omega)]
  still_step
  refine wpStill_nil ?_
  go_wp2_with fail
  exact bodyPost_ret (v := .tuple #[rgV (addV pc 4) r, accV (0, 0, 0, 0, 0)]) (by simp [results, Tryd.results12, go_sem, accV, rgV]) rfl ⟨rfl, Below.drew (nx (nx (nx (nx (nx (Below.refl _ w) _) _) _) _) _)⟩
set_option maxHeartbeats 2000000 in
theorem does_call (pc : Int) (r : Nat → Int) (o a b m : Int) (w : World) (hp : Wd pc) :
    Calls Tryd.prog 12 #[rgV pc r, .iface 66 (insV o a b m)] w fun e w' => e = .returned (.tuple #[rgV m (upd r 7 (addV pc 4)), accV (0, 0, 0, 0, 0)]) ∧ Below w.heap.size w w' := by
  have t0 := as_call_constant
  have t1 := as_call_move
  have t2 := as_call_quotient
  have t3 := as_call_reckoning
  have t4 := as_call_load
  have t5 := as_call_store
  have t6 := as_call_jump
  have t7 := as_call_zeroJump
  have t8 := as_call_lessJump
  have t9 := as_call_call
  have cA := fun w => add_any pc 4 w hp.1 hp.2 (by decide) (by decide)
  unfold rgV insV
  go_enter Tryd.func12, Tryd.ntmps12
  go_wp2_with (go_at_call 18; refine (cA _).mono ?_; rintro e W2 ⟨rfl, rfl⟩)
  go_region
  go_wp2_with fail
  exact bodyPost_ret (v := .tuple #[rgV m (upd r 7 (addV pc 4)), accV (0, 0, 0, 0, 0)]) (by simp [results, Tryd.results12, go_sem, accV, rgV, upd]) rfl ⟨rfl, Below.drew (nx (nx (nx (nx (nx (Below.refl _ w) _) _) _) _) _)⟩
set_option maxHeartbeats 2000000 in
theorem does_sys (pc : Int) (r : Nat → Int) (o a b m : Int) (w : World) (hp : Wd pc) :
    Calls Tryd.prog 12 #[rgV pc r, .iface 67 (insV o a b m)] w fun e w' => e = .returned (.tuple #[rgV (addV pc 4) r, accV (5, 0, m, 0, 0)]) ∧ Below w.heap.size w w' := by
  have t0 := as_system_constant
  have t1 := as_system_move
  have t2 := as_system_quotient
  have t3 := as_system_reckoning
  have t4 := as_system_load
  have t5 := as_system_store
  have t6 := as_system_jump
  have t7 := as_system_zeroJump
  have t8 := as_system_lessJump
  have t9 := as_system_call
  have t10 := as_system_back
  have t11 := as_system_system
  have cA := fun w => add_any pc 4 w hp.1 hp.2 (by decide) (by decide)
  unfold rgV insV
  go_enter Tryd.func12, Tryd.ntmps12
  go_wp2_with (go_at_call 18; refine (cA _).mono ?_; rintro e W2 ⟨rfl, rfl⟩)
  go_region
  go_wp2_with fail
  exact bodyPost_ret (v := .tuple #[rgV (addV pc 4) r, accV (5, 0, m, 0, 0)]) (by simp [results, Tryd.results12, go_sem, accV, rgV]) rfl ⟨rfl, Below.drew (nx (nx (nx (nx (nx (Below.refl _ w) _) _) _) _) _)⟩
end Go.Proofs.YtbjklpdloglniaaDoor
