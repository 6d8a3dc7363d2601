/- CpuStays: what an instruction does not write stays. -/
import Derived.Test.YtmndilhpmbpghaaDoorCpuQ
import Derived.Test.YtmndilhpmbpghaaDoorCpuX
import Derived.Test.YtmndilhpmbpghaaDoorCpuEq
namespace Go.Proofs.YtmndilhpmbpghaaDoor
open Go.RowKit
set_option linter.unusedVariables false
set_option maxRecDepth 100000
attribute [local irreducible] wpStill

set_option maxHeartbeats 8000000 in
theorem cstays_b (pc : Int) (r : Nat → Int) (o a b m : Int) (w : World) (hp : Wd pc) (hr : ∀ k, Wd (r k)) (hO : InsOk o a b m) (q : Int) (s : Nat → Int) (x0 x1 x2 x3 x4 : Int) (hE : execP pc r o a b m = ((q, s), (x0, x1, x2, x3, x4))) (n7 : (x0 != 7) = true) (n6 : (x0 != 6) = true) :
    Calls Tryd.prog 6 #[rgV pc r, insV o a b m] w fun e w' => e = .returned (.bool true) ∧ Below w.heap.size w w' := by
  have cL := fun w => exec_any pc r o a b m w hp hr hO
  have HS : Hid (∀ k, wrG o a b m k = false → s k = r k) := fun k hf => (congrArg (fun E => E.1.2 k) hE).symm.trans (exec_stays pc r o a b m k hO.1 hf)
  rw [hE] at cL
  have cW := fun w => Writes_any o a b m w hO
  have cV := clive_any
  have hLn : (lst (wrG o a b m) 8).length ≤ 8 := lst_len _ 8
  have HL : Hid (∀ k, k < 8 → hasL (lst (wrG o a b m) 8) k = wrG o a b m k) := fun k hk => by
    rw [has_lst _ k 8 (by decide), decide_eq_true hk, Bool.true_and]
  generalize lst (wrG o a b m) 8 = L at *
  generalize wrG o a b m = F at *
  clear hE hO
  unfold execV at *
  unfold rgV insV accV at *
  simp only at cL
  have k0 := (Cel.new w #[.int .u16 pc, .int .u16 (r 0), .int .u16 (r 1), .int .u16 (r 2), .int .u16 (r 3), .int .u16 (r 4), .int .u16 (r 5), .int .u16 (r 6), .int .u16 (r 7)] 26).alloc (.cells #[.int .u8 o, .int .u8 a, .int .u8 b, .int .u16 m] 29)
  have k1 := Cel.new (w.alloc (.cells #[.int .u16 pc, .int .u16 (r 0), .int .u16 (r 1), .int .u16 (r 2), .int .u16 (r 3), .int .u16 (r 4), .int .u16 (r 5), .int .u16 (r 6), .int .u16 (r 7)] 26)) #[.int .u8 o, .int .u8 a, .int .u8 b, .int .u16 m] 29
  rw [World.size_alloc] at k1
  have hb0 := nx (nx (Below.refl _ w) (.cells #[.int .u16 pc, .int .u16 (r 0), .int .u16 (r 1), .int .u16 (r 2), .int .u16 (r 3), .int .u16 (r 4), .int .u16 (r 5), .int .u16 (r 6), .int .u16 (r 7)] 26)) (.cells #[.int .u8 o, .int .u8 a, .int .u8 b, .int .u16 m] 29)
  have hs0 : ((w.alloc (.cells #[.int .u16 pc, .int .u16 (r 0), .int .u16 (r 1), .int .u16 (r 2), .int .u16 (r 3), .int .u16 (r 4), .int .u16 (r 5), .int .u16 (r 6), .int .u16 (r 7)] 26)).alloc (.cells #[.int .u8 o, .int .u8 a, .int .u8 b, .int .u16 m] 29)).heap.size = w.heap.size + 1 + 1 := by simp
  go_enter Tryd.func6, Tryd.ntmps6
  go_wp2_with fail
  generalize ((w.alloc (.cells #[.int .u16 pc, .int .u16 (r 0), .int .u16 (r 1), .int .u16 (r 2), .int .u16 (r 3), .int .u16 (r 4), .int .u16 (r 5), .int .u16 (r 6), .int .u16 (r 7)] 26)).alloc (.cells #[.int .u8 o, .int .u8 a, .int .u8 b, .int .u16 m] 29)) = W0 at *
  refine (cL _).mono ?_
  rintro e1 W1 ⟨rfl, hB1⟩
  have hs1 := hB1.size
  replace k0 := k0.below hB1 (by omega)
  replace k1 := k1.below hB1 (by omega)
  have hb1 := hb0.trans (hB1.mono (by omega))
  clear hb0 hB1 cL
  have l1 : w.heap.size < W1.heap.size := by omega
  have l2 : w.heap.size + 1 < W1.heap.size := by omega
  have i0 : W1.cell? ⟨w.heap.size + 1, 0, none⟩ = some (.int .u8 o) := k1.c 0
  have i1 : W1.cell? ⟨w.heap.size + 1, 1, none⟩ = some (.int .u8 a) := k1.c 1
  have i2 : W1.cell? ⟨w.heap.size + 1, 2, none⟩ = some (.int .u8 b) := k1.c 2
  have i3 : W1.cell? ⟨w.heap.size + 1, 3, none⟩ = some (.int .u16 m) := k1.c 3
  go_wp2_with fail
  clear i0 i1 i2 i3
  replace k0 := (k0.alloc (.cells #[.int .u16 q, .int .u16 (s 0), .int .u16 (s 1), .int .u16 (s 2), .int .u16 (s 3), .int .u16 (s 4), .int .u16 (s 5), .int .u16 (s 6), .int .u16 (s 7)] 26)).alloc (.cells #[.int .u8 x0, .int .u16 x1, .int .u16 x2, .int .u8 x3, .int .i64 x4] 33)
  have k5 := (Cel.new W1 #[.int .u16 q, .int .u16 (s 0), .int .u16 (s 1), .int .u16 (s 2), .int .u16 (s 3), .int .u16 (s 4), .int .u16 (s 5), .int .u16 (s 6), .int .u16 (s 7)] 26).alloc (.cells #[.int .u8 x0, .int .u16 x1, .int .u16 x2, .int .u8 x3, .int .i64 x4] 33)
  have k6 := Cel.new (W1.alloc (.cells #[.int .u16 q, .int .u16 (s 0), .int .u16 (s 1), .int .u16 (s 2), .int .u16 (s 3), .int .u16 (s 4), .int .u16 (s 5), .int .u16 (s 6), .int .u16 (s 7)] 26)) #[.int .u8 x0, .int .u16 x1, .int .u16 x2, .int .u8 x3, .int .i64 x4] 33
  rw [World.size_alloc] at k6
  have hb2 := nx (nx hb1 (.cells #[.int .u16 q, .int .u16 (s 0), .int .u16 (s 1), .int .u16 (s 2), .int .u16 (s 3), .int .u16 (s 4), .int .u16 (s 5), .int .u16 (s 6), .int .u16 (s 7)] 26)) (.cells #[.int .u8 x0, .int .u16 x1, .int .u16 x2, .int .u8 x3, .int .i64 x4] 33)
  have hs2 : ((W1.alloc (.cells #[.int .u16 q, .int .u16 (s 0), .int .u16 (s 1), .int .u16 (s 2), .int .u16 (s 3), .int .u16 (s 4), .int .u16 (s 5), .int .u16 (s 6), .int .u16 (s 7)] 26)).alloc (.cells #[.int .u8 x0, .int .u16 x1, .int .u16 x2, .int .u8 x3, .int .i64 x4] 33)).heap.size = W1.heap.size + 1 + 1 := by simp
  generalize ((W1.alloc (.cells #[.int .u16 q, .int .u16 (s 0), .int .u16 (s 1), .int .u16 (s 2), .int .u16 (s 3), .int .u16 (s 4), .int .u16 (s 5), .int .u16 (s 6), .int .u16 (s 7)] 26)).alloc (.cells #[.int .u8 x0, .int .u16 x1, .int .u16 x2, .int .u8 x3, .int .i64 x4] 33)) = W2 at *
  generalize W1.heap.size = B5 at *
  clear hb1 k1
  refine (cW _).mono ?_
  rintro e1 W3 ⟨⟨v, rfl, hv⟩, hB3⟩
  have HV : Hid (Bts W3 v L) := hv
  have hs3 := hB3.size
  replace k0 := k0.below hB3 (by omega)
  replace k5 := k5.below hB3 (by omega)
  replace k6 := k6.below hB3 (by omega)
  have hb3 := hb2.trans (hB3.mono (by omega))
  clear hb2 hB3 cW hv
  go_wp2_with fail
  go_loopw [8] (fun i wr => ∃ k : Nat, k ≤ 8 ∧ i = .int .i64 k ∧ Cel wr w.heap.size #[.int .u16 pc, .int .u16 (r 0), .int .u16 (r 1), .int .u16 (r 2), .int .u16 (r 3), .int .u16 (r 4), .int .u16 (r 5), .int .u16 (r 6), .int .u16 (r 7)] 26 ∧ Cel wr B5 #[.int .u16 q, .int .u16 (s 0), .int .u16 (s 1), .int .u16 (s 2), .int .u16 (s 3), .int .u16 (s 4), .int .u16 (s 5), .int .u16 (s 6), .int .u16 (s 7)] 26 ∧ Cel wr (B5 + 1) #[.int .u8 x0, .int .u16 x1, .int .u16 x2, .int .u8 x3, .int .i64 x4] 33 ∧ Hid (Bts wr v L) ∧ Below w.heap.size w wr ∧ B5 + 1 < wr.heap.size) (fun i _ => 8 - (intOf i).toNat)
  case atStart => exact ⟨0, by omega, rfl, k0, k5, k6, HV, hb3, by omega⟩
  case round =>
    obtain ⟨k, hk, rfl, n0, n5, n6, HB, hb4, hs4⟩ := hrel
    clear k0 k5 k6 HV hb3
    by_cases hlt : k < 8
    · have hlt' : (k : Int) < 8 := by omega
      have cH := has_any v L k wr.drew HB.out hLn hlt
      rw [HL.out k hlt] at cH
      have pk : wr.cell? ⟨w.heap.size, 1 + k, none⟩ = some (.int .u16 (r k)) := (n0.c _).trans (rg_at pc r k hlt)
      cases hf : F k with
      | true =>
        rw [hf] at cH
        clear hf pk
        go_wp2_with fail
        refine still_all (by kernel_rfl) (by kernel_rfl) ?_
        still_step
        still_step
        still_call (cH)
        clear cH
        still_step
        still_step
        still_step
        still_step
        still_step
        still_step
        still_step
        still_step
        still_step
        still_step
        still_step
        still_step
        refine wpStill_nil ?_
        go_wp2_with fail
        go_roundw
        case rel => exact ⟨k + 1, by omega, by go_num, n0.drew, n5.drew, n6.drew, HB, hb4.drew, hs4⟩
        case measure => simp [intOf]; omega
      | false =>
        rw [hf] at cH
        have ak : wr.cell? ⟨B5, 1 + k, none⟩ = some (.int .u16 (r k)) := (n5.c _).trans ((rg_at q s k hlt).trans (by rw [HS.out k hf]))
        have hne2 : (r k != r k) = false := by rw [bne_eq_false_iff_eq]
        clear hf
        go_wp2_with fail
        refine still_all (by kernel_rfl) (by kernel_rfl) ?_
        still_step
        still_step
        still_call (cH)
        clear cH
        still_step
        still_step
        still_step
        still_step
        still_step
        still_step
        still_step
        still_step
        still_step
        still_step
        still_step
        still_step
        refine wpStill_nil ?_
        go_wp2_with fail
        go_roundw
        case rel => exact ⟨k + 1, by omega, by go_num, n0.drew, n5.drew, n6.drew, HB, hb4.drew, hs4⟩
        case measure => simp [intOf]; omega
    · have hlt' : ¬ (k : Int) < 8 := by omega
      clear HL HS
      go_wp2_with fail
      refine (cV _).mono ?_
      rintro e1 W7 ⟨rfl, hB7⟩
      have hb7 := hb4.trans (hB7.mono (by have := hb4.size; omega))
      replace n0 := n0.below hB7 (by omega)
      replace n5 := n5.below hB7 (by omega)
      replace n6 := n6.below hB7 (by omega)
      have q0 : W7.cell? ⟨w.heap.size, 0, none⟩ = some (.int .u16 pc) := n0.c 0
      have q1 : W7.cell? ⟨w.heap.size, 1, none⟩ = some (.int .u16 (r 0)) := n0.c 1
      have q2 : W7.cell? ⟨w.heap.size, 2, none⟩ = some (.int .u16 (r 1)) := n0.c 2
      have q3 : W7.cell? ⟨w.heap.size, 3, none⟩ = some (.int .u16 (r 2)) := n0.c 3
      have q4 : W7.cell? ⟨w.heap.size, 4, none⟩ = some (.int .u16 (r 3)) := n0.c 4
      have q5 : W7.cell? ⟨w.heap.size, 5, none⟩ = some (.int .u16 (r 4)) := n0.c 5
      have q6 : W7.cell? ⟨w.heap.size, 6, none⟩ = some (.int .u16 (r 5)) := n0.c 6
      have q7 : W7.cell? ⟨w.heap.size, 7, none⟩ = some (.int .u16 (r 6)) := n0.c 7
      have q8 : W7.cell? ⟨w.heap.size, 8, none⟩ = some (.int .u16 (r 7)) := n0.c 8
      have p0 : W7.cell? ⟨B5, 0, none⟩ = some (.int .u16 q) := n5.c 0
      have p1 : W7.cell? ⟨B5, 1, none⟩ = some (.int .u16 (s 0)) := n5.c 1
      have p2 : W7.cell? ⟨B5, 2, none⟩ = some (.int .u16 (s 1)) := n5.c 2
      have p3 : W7.cell? ⟨B5, 3, none⟩ = some (.int .u16 (s 2)) := n5.c 3
      have p4 : W7.cell? ⟨B5, 4, none⟩ = some (.int .u16 (s 3)) := n5.c 4
      have p5 : W7.cell? ⟨B5, 5, none⟩ = some (.int .u16 (s 4)) := n5.c 5
      have p6 : W7.cell? ⟨B5, 6, none⟩ = some (.int .u16 (s 5)) := n5.c 6
      have p7 : W7.cell? ⟨B5, 7, none⟩ = some (.int .u16 (s 6)) := n5.c 7
      have p8 : W7.cell? ⟨B5, 8, none⟩ = some (.int .u16 (s 7)) := n5.c 8
      have u0 : W7.cell? ⟨B5 + 1, 0, none⟩ = some (.int .u8 x0) := n6.c 0
      have u1 : W7.cell? ⟨B5 + 1, 1, none⟩ = some (.int .u16 x1) := n6.c 1
      have u2 : W7.cell? ⟨B5 + 1, 2, none⟩ = some (.int .u16 x2) := n6.c 2
      have u3 : W7.cell? ⟨B5 + 1, 3, none⟩ = some (.int .u8 x3) := n6.c 3
      have u4 : W7.cell? ⟨B5 + 1, 4, none⟩ = some (.int .i64 x4) := n6.c 4
      clear n0 n5 n6 hB7 cV
      go_wp2
      go_ret
      exact ⟨rfl, hb7⟩
set_option maxHeartbeats 8000000 in
theorem cstays_7 (pc : Int) (r : Nat → Int) (o a b m : Int) (w : World) (hp : Wd pc) (hr : ∀ k, Wd (r k)) (hO : InsOk o a b m) (q : Int) (s : Nat → Int) (x0 x1 x2 x3 x4 : Int) (hE : execP pc r o a b m = ((pc, r), (x0, x1, x2, x3, x4))) (n7 : (x0 != 7) = false) :
    Calls Tryd.prog 6 #[rgV pc r, insV o a b m] w fun e w' => e = .returned (.bool true) ∧ Below w.heap.size w w' := by
  have cL := fun w => exec_any pc r o a b m w hp hr hO
  have HS : Hid (∀ k, wrG o a b m k = false → r k = r k) := fun k _ => rfl
  rw [hE] at cL
  have cW := fun w => Writes_any o a b m w hO
  have cV := clive_any
  have eR := fun w => eqRgs w pc r
  have eG := eqGuardR
  have hLn : (lst (wrG o a b m) 8).length ≤ 8 := lst_len _ 8
  have HL : Hid (∀ k, k < 8 → hasL (lst (wrG o a b m) 8) k = wrG o a b m k) := fun k hk => by
    rw [has_lst _ k 8 (by decide), decide_eq_true hk, Bool.true_and]
  generalize lst (wrG o a b m) 8 = L at *
  generalize wrG o a b m = F at *
  clear hE hO
  unfold execV at *
  unfold rgV insV accV at *
  simp only at cL
  have k0 := (Cel.new w #[.int .u16 pc, .int .u16 (r 0), .int .u16 (r 1), .int .u16 (r 2), .int .u16 (r 3), .int .u16 (r 4), .int .u16 (r 5), .int .u16 (r 6), .int .u16 (r 7)] 26).alloc (.cells #[.int .u8 o, .int .u8 a, .int .u8 b, .int .u16 m] 29)
  have k1 := Cel.new (w.alloc (.cells #[.int .u16 pc, .int .u16 (r 0), .int .u16 (r 1), .int .u16 (r 2), .int .u16 (r 3), .int .u16 (r 4), .int .u16 (r 5), .int .u16 (r 6), .int .u16 (r 7)] 26)) #[.int .u8 o, .int .u8 a, .int .u8 b, .int .u16 m] 29
  rw [World.size_alloc] at k1
  have hb0 := nx (nx (Below.refl _ w) (.cells #[.int .u16 pc, .int .u16 (r 0), .int .u16 (r 1), .int .u16 (r 2), .int .u16 (r 3), .int .u16 (r 4), .int .u16 (r 5), .int .u16 (r 6), .int .u16 (r 7)] 26)) (.cells #[.int .u8 o, .int .u8 a, .int .u8 b, .int .u16 m] 29)
  have hs0 : ((w.alloc (.cells #[.int .u16 pc, .int .u16 (r 0), .int .u16 (r 1), .int .u16 (r 2), .int .u16 (r 3), .int .u16 (r 4), .int .u16 (r 5), .int .u16 (r 6), .int .u16 (r 7)] 26)).alloc (.cells #[.int .u8 o, .int .u8 a, .int .u8 b, .int .u16 m] 29)).heap.size = w.heap.size + 1 + 1 := by simp
  go_enter Tryd.func6, Tryd.ntmps6
  go_wp2_with fail
  generalize ((w.alloc (.cells #[.int .u16 pc, .int .u16 (r 0), .int .u16 (r 1), .int .u16 (r 2), .int .u16 (r 3), .int .u16 (r 4), .int .u16 (r 5), .int .u16 (r 6), .int .u16 (r 7)] 26)).alloc (.cells #[.int .u8 o, .int .u8 a, .int .u8 b, .int .u16 m] 29)) = W0 at *
  refine (cL _).mono ?_
  rintro e1 W1 ⟨rfl, hB1⟩
  have hs1 := hB1.size
  replace k0 := k0.below hB1 (by omega)
  replace k1 := k1.below hB1 (by omega)
  have hb1 := hb0.trans (hB1.mono (by omega))
  clear hb0 hB1 cL
  have l1 : w.heap.size < W1.heap.size := by omega
  have l2 : w.heap.size + 1 < W1.heap.size := by omega
  have i0 : W1.cell? ⟨w.heap.size + 1, 0, none⟩ = some (.int .u8 o) := k1.c 0
  have i1 : W1.cell? ⟨w.heap.size + 1, 1, none⟩ = some (.int .u8 a) := k1.c 1
  have i2 : W1.cell? ⟨w.heap.size + 1, 2, none⟩ = some (.int .u8 b) := k1.c 2
  have i3 : W1.cell? ⟨w.heap.size + 1, 3, none⟩ = some (.int .u16 m) := k1.c 3
  go_wp2_with fail
  clear i0 i1 i2 i3
  replace k0 := (k0.alloc (.cells #[.int .u16 pc, .int .u16 (r 0), .int .u16 (r 1), .int .u16 (r 2), .int .u16 (r 3), .int .u16 (r 4), .int .u16 (r 5), .int .u16 (r 6), .int .u16 (r 7)] 26)).alloc (.cells #[.int .u8 x0, .int .u16 x1, .int .u16 x2, .int .u8 x3, .int .i64 x4] 33)
  have k5 := (Cel.new W1 #[.int .u16 pc, .int .u16 (r 0), .int .u16 (r 1), .int .u16 (r 2), .int .u16 (r 3), .int .u16 (r 4), .int .u16 (r 5), .int .u16 (r 6), .int .u16 (r 7)] 26).alloc (.cells #[.int .u8 x0, .int .u16 x1, .int .u16 x2, .int .u8 x3, .int .i64 x4] 33)
  have k6 := Cel.new (W1.alloc (.cells #[.int .u16 pc, .int .u16 (r 0), .int .u16 (r 1), .int .u16 (r 2), .int .u16 (r 3), .int .u16 (r 4), .int .u16 (r 5), .int .u16 (r 6), .int .u16 (r 7)] 26)) #[.int .u8 x0, .int .u16 x1, .int .u16 x2, .int .u8 x3, .int .i64 x4] 33
  rw [World.size_alloc] at k6
  have hb2 := nx (nx hb1 (.cells #[.int .u16 pc, .int .u16 (r 0), .int .u16 (r 1), .int .u16 (r 2), .int .u16 (r 3), .int .u16 (r 4), .int .u16 (r 5), .int .u16 (r 6), .int .u16 (r 7)] 26)) (.cells #[.int .u8 x0, .int .u16 x1, .int .u16 x2, .int .u8 x3, .int .i64 x4] 33)
  have hs2 : ((W1.alloc (.cells #[.int .u16 pc, .int .u16 (r 0), .int .u16 (r 1), .int .u16 (r 2), .int .u16 (r 3), .int .u16 (r 4), .int .u16 (r 5), .int .u16 (r 6), .int .u16 (r 7)] 26)).alloc (.cells #[.int .u8 x0, .int .u16 x1, .int .u16 x2, .int .u8 x3, .int .i64 x4] 33)).heap.size = W1.heap.size + 1 + 1 := by simp
  generalize ((W1.alloc (.cells #[.int .u16 pc, .int .u16 (r 0), .int .u16 (r 1), .int .u16 (r 2), .int .u16 (r 3), .int .u16 (r 4), .int .u16 (r 5), .int .u16 (r 6), .int .u16 (r 7)] 26)).alloc (.cells #[.int .u8 x0, .int .u16 x1, .int .u16 x2, .int .u8 x3, .int .i64 x4] 33)) = W2 at *
  generalize W1.heap.size = B5 at *
  clear hb1 k1
  refine (cW _).mono ?_
  rintro e1 W3 ⟨⟨v, rfl, hv⟩, hB3⟩
  have HV : Hid (Bts W3 v L) := hv
  have hs3 := hB3.size
  replace k0 := k0.below hB3 (by omega)
  replace k5 := k5.below hB3 (by omega)
  replace k6 := k6.below hB3 (by omega)
  have hb3 := hb2.trans (hB3.mono (by omega))
  clear hb2 hB3 cW hv
  go_wp2_with fail
  go_loopw [8] (fun i wr => ∃ k : Nat, k ≤ 8 ∧ i = .int .i64 k ∧ Cel wr w.heap.size #[.int .u16 pc, .int .u16 (r 0), .int .u16 (r 1), .int .u16 (r 2), .int .u16 (r 3), .int .u16 (r 4), .int .u16 (r 5), .int .u16 (r 6), .int .u16 (r 7)] 26 ∧ Cel wr B5 #[.int .u16 pc, .int .u16 (r 0), .int .u16 (r 1), .int .u16 (r 2), .int .u16 (r 3), .int .u16 (r 4), .int .u16 (r 5), .int .u16 (r 6), .int .u16 (r 7)] 26 ∧ Cel wr (B5 + 1) #[.int .u8 x0, .int .u16 x1, .int .u16 x2, .int .u8 x3, .int .i64 x4] 33 ∧ Hid (Bts wr v L) ∧ Below w.heap.size w wr ∧ B5 + 1 < wr.heap.size) (fun i _ => 8 - (intOf i).toNat)
  case atStart => exact ⟨0, by omega, rfl, k0, k5, k6, HV, hb3, by omega⟩
  case round =>
    obtain ⟨k, hk, rfl, n0, n5, n6, HB, hb4, hs4⟩ := hrel
    clear k0 k5 k6 HV hb3
    by_cases hlt : k < 8
    · have hlt' : (k : Int) < 8 := by omega
      have cH := has_any v L k wr.drew HB.out hLn hlt
      rw [HL.out k hlt] at cH
      have pk : wr.cell? ⟨w.heap.size, 1 + k, none⟩ = some (.int .u16 (r k)) := (n0.c _).trans (rg_at pc r k hlt)
      cases hf : F k with
      | true =>
        rw [hf] at cH
        clear hf pk
        go_wp2_with fail
        refine still_all (by kernel_rfl) (by kernel_rfl) ?_
        still_step
        still_step
        still_call (cH)
        clear cH
        still_step
        still_step
        still_step
        still_step
        still_step
        still_step
        still_step
        still_step
        still_step
        still_step
        still_step
        still_step
        refine wpStill_nil ?_
        go_wp2_with fail
        go_roundw
        case rel => exact ⟨k + 1, by omega, by go_num, n0.drew, n5.drew, n6.drew, HB, hb4.drew, hs4⟩
        case measure => simp [intOf]; omega
      | false =>
        rw [hf] at cH
        have ak : wr.cell? ⟨B5, 1 + k, none⟩ = some (.int .u16 (r k)) := (n5.c _).trans (rg_at pc r k hlt)
        have hne2 : (r k != r k) = false := by rw [bne_eq_false_iff_eq]
        clear hf
        go_wp2_with fail
        refine still_all (by kernel_rfl) (by kernel_rfl) ?_
        still_step
        still_step
        still_call (cH)
        clear cH
        still_step
        still_step
        still_step
        still_step
        still_step
        still_step
        still_step
        still_step
        still_step
        still_step
        still_step
        still_step
        refine wpStill_nil ?_
        go_wp2_with fail
        go_roundw
        case rel => exact ⟨k + 1, by omega, by go_num, n0.drew, n5.drew, n6.drew, HB, hb4.drew, hs4⟩
        case measure => simp [intOf]; omega
    · have hlt' : ¬ (k : Int) < 8 := by omega
      clear HL HS
      go_wp2_with fail
      refine (cV _).mono ?_
      rintro e1 W7 ⟨rfl, hB7⟩
      have hb7 := hb4.trans (hB7.mono (by have := hb4.size; omega))
      replace n0 := n0.below hB7 (by omega)
      replace n5 := n5.below hB7 (by omega)
      replace n6 := n6.below hB7 (by omega)
      have q0 : W7.cell? ⟨w.heap.size, 0, none⟩ = some (.int .u16 pc) := n0.c 0
      have q1 : W7.cell? ⟨w.heap.size, 1, none⟩ = some (.int .u16 (r 0)) := n0.c 1
      have q2 : W7.cell? ⟨w.heap.size, 2, none⟩ = some (.int .u16 (r 1)) := n0.c 2
      have q3 : W7.cell? ⟨w.heap.size, 3, none⟩ = some (.int .u16 (r 2)) := n0.c 3
      have q4 : W7.cell? ⟨w.heap.size, 4, none⟩ = some (.int .u16 (r 3)) := n0.c 4
      have q5 : W7.cell? ⟨w.heap.size, 5, none⟩ = some (.int .u16 (r 4)) := n0.c 5
      have q6 : W7.cell? ⟨w.heap.size, 6, none⟩ = some (.int .u16 (r 5)) := n0.c 6
      have q7 : W7.cell? ⟨w.heap.size, 7, none⟩ = some (.int .u16 (r 6)) := n0.c 7
      have q8 : W7.cell? ⟨w.heap.size, 8, none⟩ = some (.int .u16 (r 7)) := n0.c 8
      have p0 : W7.cell? ⟨B5, 0, none⟩ = some (.int .u16 pc) := n5.c 0
      have p1 : W7.cell? ⟨B5, 1, none⟩ = some (.int .u16 (r 0)) := n5.c 1
      have p2 : W7.cell? ⟨B5, 2, none⟩ = some (.int .u16 (r 1)) := n5.c 2
      have p3 : W7.cell? ⟨B5, 3, none⟩ = some (.int .u16 (r 2)) := n5.c 3
      have p4 : W7.cell? ⟨B5, 4, none⟩ = some (.int .u16 (r 3)) := n5.c 4
      have p5 : W7.cell? ⟨B5, 5, none⟩ = some (.int .u16 (r 4)) := n5.c 5
      have p6 : W7.cell? ⟨B5, 6, none⟩ = some (.int .u16 (r 5)) := n5.c 6
      have p7 : W7.cell? ⟨B5, 7, none⟩ = some (.int .u16 (r 6)) := n5.c 7
      have p8 : W7.cell? ⟨B5, 8, none⟩ = some (.int .u16 (r 7)) := n5.c 8
      have u0 : W7.cell? ⟨B5 + 1, 0, none⟩ = some (.int .u8 x0) := n6.c 0
      have u1 : W7.cell? ⟨B5 + 1, 1, none⟩ = some (.int .u16 x1) := n6.c 1
      have u2 : W7.cell? ⟨B5 + 1, 2, none⟩ = some (.int .u16 x2) := n6.c 2
      have u3 : W7.cell? ⟨B5 + 1, 3, none⟩ = some (.int .u8 x3) := n6.c 3
      have u4 : W7.cell? ⟨B5 + 1, 4, none⟩ = some (.int .i64 x4) := n6.c 4
      clear n0 n5 n6 hB7 cV
      go_wp2
      go_ret
      exact ⟨rfl, hb7⟩
set_option maxHeartbeats 8000000 in
theorem cstays_6 (pc : Int) (r : Nat → Int) (o a b m : Int) (w : World) (hp : Wd pc) (hr : ∀ k, Wd (r k)) (hO : InsOk o a b m) (q : Int) (s : Nat → Int) (x0 x1 x2 x3 x4 : Int) (hE : execP pc r o a b m = ((pc, r), (x0, x1, x2, x3, x4))) (n7 : (x0 != 7) = true) (n6 : (x0 != 6) = false) :
    Calls Tryd.prog 6 #[rgV pc r, insV o a b m] w fun e w' => e = .returned (.bool true) ∧ Below w.heap.size w w' := by
  have cL := fun w => exec_any pc r o a b m w hp hr hO
  have HS : Hid (∀ k, wrG o a b m k = false → r k = r k) := fun k _ => rfl
  rw [hE] at cL
  have cW := fun w => Writes_any o a b m w hO
  have cV := clive_any
  have eR := fun w => eqRgs w pc r
  have eG := eqGuardR
  have hLn : (lst (wrG o a b m) 8).length ≤ 8 := lst_len _ 8
  have HL : Hid (∀ k, k < 8 → hasL (lst (wrG o a b m) 8) k = wrG o a b m k) := fun k hk => by
    rw [has_lst _ k 8 (by decide), decide_eq_true hk, Bool.true_and]
  generalize lst (wrG o a b m) 8 = L at *
  generalize wrG o a b m = F at *
  clear hE hO
  unfold execV at *
  unfold rgV insV accV at *
  simp only at cL
  have k0 := (Cel.new w #[.int .u16 pc, .int .u16 (r 0), .int .u16 (r 1), .int .u16 (r 2), .int .u16 (r 3), .int .u16 (r 4), .int .u16 (r 5), .int .u16 (r 6), .int .u16 (r 7)] 26).alloc (.cells #[.int .u8 o, .int .u8 a, .int .u8 b, .int .u16 m] 29)
  have k1 := Cel.new (w.alloc (.cells #[.int .u16 pc, .int .u16 (r 0), .int .u16 (r 1), .int .u16 (r 2), .int .u16 (r 3), .int .u16 (r 4), .int .u16 (r 5), .int .u16 (r 6), .int .u16 (r 7)] 26)) #[.int .u8 o, .int .u8 a, .int .u8 b, .int .u16 m] 29
  rw [World.size_alloc] at k1
  have hb0 := nx (nx (Below.refl _ w) (.cells #[.int .u16 pc, .int .u16 (r 0), .int .u16 (r 1), .int .u16 (r 2), .int .u16 (r 3), .int .u16 (r 4), .int .u16 (r 5), .int .u16 (r 6), .int .u16 (r 7)] 26)) (.cells #[.int .u8 o, .int .u8 a, .int .u8 b, .int .u16 m] 29)
  have hs0 : ((w.alloc (.cells #[.int .u16 pc, .int .u16 (r 0), .int .u16 (r 1), .int .u16 (r 2), .int .u16 (r 3), .int .u16 (r 4), .int .u16 (r 5), .int .u16 (r 6), .int .u16 (r 7)] 26)).alloc (.cells #[.int .u8 o, .int .u8 a, .int .u8 b, .int .u16 m] 29)).heap.size = w.heap.size + 1 + 1 := by simp
  go_enter Tryd.func6, Tryd.ntmps6
  go_wp2_with fail
  generalize ((w.alloc (.cells #[.int .u16 pc, .int .u16 (r 0), .int .u16 (r 1), .int .u16 (r 2), .int .u16 (r 3), .int .u16 (r 4), .int .u16 (r 5), .int .u16 (r 6), .int .u16 (r 7)] 26)).alloc (.cells #[.int .u8 o, .int .u8 a, .int .u8 b, .int .u16 m] 29)) = W0 at *
  refine (cL _).mono ?_
  rintro e1 W1 ⟨rfl, hB1⟩
  have hs1 := hB1.size
  replace k0 := k0.below hB1 (by omega)
  replace k1 := k1.below hB1 (by omega)
  have hb1 := hb0.trans (hB1.mono (by omega))
  clear hb0 hB1 cL
  have l1 : w.heap.size < W1.heap.size := by omega
  have l2 : w.heap.size + 1 < W1.heap.size := by omega
  have i0 : W1.cell? ⟨w.heap.size + 1, 0, none⟩ = some (.int .u8 o) := k1.c 0
  have i1 : W1.cell? ⟨w.heap.size + 1, 1, none⟩ = some (.int .u8 a) := k1.c 1
  have i2 : W1.cell? ⟨w.heap.size + 1, 2, none⟩ = some (.int .u8 b) := k1.c 2
  have i3 : W1.cell? ⟨w.heap.size + 1, 3, none⟩ = some (.int .u16 m) := k1.c 3
  go_wp2_with fail
  clear i0 i1 i2 i3
  replace k0 := (k0.alloc (.cells #[.int .u16 pc, .int .u16 (r 0), .int .u16 (r 1), .int .u16 (r 2), .int .u16 (r 3), .int .u16 (r 4), .int .u16 (r 5), .int .u16 (r 6), .int .u16 (r 7)] 26)).alloc (.cells #[.int .u8 x0, .int .u16 x1, .int .u16 x2, .int .u8 x3, .int .i64 x4] 33)
  have k5 := (Cel.new W1 #[.int .u16 pc, .int .u16 (r 0), .int .u16 (r 1), .int .u16 (r 2), .int .u16 (r 3), .int .u16 (r 4), .int .u16 (r 5), .int .u16 (r 6), .int .u16 (r 7)] 26).alloc (.cells #[.int .u8 x0, .int .u16 x1, .int .u16 x2, .int .u8 x3, .int .i64 x4] 33)
  have k6 := Cel.new (W1.alloc (.cells #[.int .u16 pc, .int .u16 (r 0), .int .u16 (r 1), .int .u16 (r 2), .int .u16 (r 3), .int .u16 (r 4), .int .u16 (r 5), .int .u16 (r 6), .int .u16 (r 7)] 26)) #[.int .u8 x0, .int .u16 x1, .int .u16 x2, .int .u8 x3, .int .i64 x4] 33
  rw [World.size_alloc] at k6
  have hb2 := nx (nx hb1 (.cells #[.int .u16 pc, .int .u16 (r 0), .int .u16 (r 1), .int .u16 (r 2), .int .u16 (r 3), .int .u16 (r 4), .int .u16 (r 5), .int .u16 (r 6), .int .u16 (r 7)] 26)) (.cells #[.int .u8 x0, .int .u16 x1, .int .u16 x2, .int .u8 x3, .int .i64 x4] 33)
  have hs2 : ((W1.alloc (.cells #[.int .u16 pc, .int .u16 (r 0), .int .u16 (r 1), .int .u16 (r 2), .int .u16 (r 3), .int .u16 (r 4), .int .u16 (r 5), .int .u16 (r 6), .int .u16 (r 7)] 26)).alloc (.cells #[.int .u8 x0, .int .u16 x1, .int .u16 x2, .int .u8 x3, .int .i64 x4] 33)).heap.size = W1.heap.size + 1 + 1 := by simp
  generalize ((W1.alloc (.cells #[.int .u16 pc, .int .u16 (r 0), .int .u16 (r 1), .int .u16 (r 2), .int .u16 (r 3), .int .u16 (r 4), .int .u16 (r 5), .int .u16 (r 6), .int .u16 (r 7)] 26)).alloc (.cells #[.int .u8 x0, .int .u16 x1, .int .u16 x2, .int .u8 x3, .int .i64 x4] 33)) = W2 at *
  generalize W1.heap.size = B5 at *
  clear hb1 k1
  refine (cW _).mono ?_
  rintro e1 W3 ⟨⟨v, rfl, hv⟩, hB3⟩
  have HV : Hid (Bts W3 v L) := hv
  have hs3 := hB3.size
  replace k0 := k0.below hB3 (by omega)
  replace k5 := k5.below hB3 (by omega)
  replace k6 := k6.below hB3 (by omega)
  have hb3 := hb2.trans (hB3.mono (by omega))
  clear hb2 hB3 cW hv
  go_wp2_with fail
  go_loopw [8] (fun i wr => ∃ k : Nat, k ≤ 8 ∧ i = .int .i64 k ∧ Cel wr w.heap.size #[.int .u16 pc, .int .u16 (r 0), .int .u16 (r 1), .int .u16 (r 2), .int .u16 (r 3), .int .u16 (r 4), .int .u16 (r 5), .int .u16 (r 6), .int .u16 (r 7)] 26 ∧ Cel wr B5 #[.int .u16 pc, .int .u16 (r 0), .int .u16 (r 1), .int .u16 (r 2), .int .u16 (r 3), .int .u16 (r 4), .int .u16 (r 5), .int .u16 (r 6), .int .u16 (r 7)] 26 ∧ Cel wr (B5 + 1) #[.int .u8 x0, .int .u16 x1, .int .u16 x2, .int .u8 x3, .int .i64 x4] 33 ∧ Hid (Bts wr v L) ∧ Below w.heap.size w wr ∧ B5 + 1 < wr.heap.size) (fun i _ => 8 - (intOf i).toNat)
  case atStart => exact ⟨0, by omega, rfl, k0, k5, k6, HV, hb3, by omega⟩
  case round =>
    obtain ⟨k, hk, rfl, n0, n5, n6, HB, hb4, hs4⟩ := hrel
    clear k0 k5 k6 HV hb3
    by_cases hlt : k < 8
    · have hlt' : (k : Int) < 8 := by omega
      have cH := has_any v L k wr.drew HB.out hLn hlt
      rw [HL.out k hlt] at cH
      have pk : wr.cell? ⟨w.heap.size, 1 + k, none⟩ = some (.int .u16 (r k)) := (n0.c _).trans (rg_at pc r k hlt)
      cases hf : F k with
      | true =>
        rw [hf] at cH
        clear hf pk
        go_wp2_with fail
        refine still_all (by kernel_rfl) (by kernel_rfl) ?_
        still_step
        still_step
        still_call (cH)
        clear cH
        still_step
        still_step
        still_step
        still_step
        still_step
        still_step
        still_step
        still_step
        still_step
        still_step
        still_step
        still_step
        refine wpStill_nil ?_
        go_wp2_with fail
        go_roundw
        case rel => exact ⟨k + 1, by omega, by go_num, n0.drew, n5.drew, n6.drew, HB, hb4.drew, hs4⟩
        case measure => simp [intOf]; omega
      | false =>
        rw [hf] at cH
        have ak : wr.cell? ⟨B5, 1 + k, none⟩ = some (.int .u16 (r k)) := (n5.c _).trans (rg_at pc r k hlt)
        have hne2 : (r k != r k) = false := by rw [bne_eq_false_iff_eq]
        clear hf
        go_wp2_with fail
        refine still_all (by kernel_rfl) (by kernel_rfl) ?_
        still_step
        still_step
        still_call (cH)
        clear cH
        still_step
        still_step
        still_step
        still_step
        still_step
        still_step
        still_step
        still_step
        still_step
        still_step
        still_step
        still_step
        refine wpStill_nil ?_
        go_wp2_with fail
        go_roundw
        case rel => exact ⟨k + 1, by omega, by go_num, n0.drew, n5.drew, n6.drew, HB, hb4.drew, hs4⟩
        case measure => simp [intOf]; omega
    · have hlt' : ¬ (k : Int) < 8 := by omega
      clear HL HS
      go_wp2_with fail
      refine (cV _).mono ?_
      rintro e1 W7 ⟨rfl, hB7⟩
      have hb7 := hb4.trans (hB7.mono (by have := hb4.size; omega))
      replace n0 := n0.below hB7 (by omega)
      replace n5 := n5.below hB7 (by omega)
      replace n6 := n6.below hB7 (by omega)
      have q0 : W7.cell? ⟨w.heap.size, 0, none⟩ = some (.int .u16 pc) := n0.c 0
      have q1 : W7.cell? ⟨w.heap.size, 1, none⟩ = some (.int .u16 (r 0)) := n0.c 1
      have q2 : W7.cell? ⟨w.heap.size, 2, none⟩ = some (.int .u16 (r 1)) := n0.c 2
      have q3 : W7.cell? ⟨w.heap.size, 3, none⟩ = some (.int .u16 (r 2)) := n0.c 3
      have q4 : W7.cell? ⟨w.heap.size, 4, none⟩ = some (.int .u16 (r 3)) := n0.c 4
      have q5 : W7.cell? ⟨w.heap.size, 5, none⟩ = some (.int .u16 (r 4)) := n0.c 5
      have q6 : W7.cell? ⟨w.heap.size, 6, none⟩ = some (.int .u16 (r 5)) := n0.c 6
      have q7 : W7.cell? ⟨w.heap.size, 7, none⟩ = some (.int .u16 (r 6)) := n0.c 7
      have q8 : W7.cell? ⟨w.heap.size, 8, none⟩ = some (.int .u16 (r 7)) := n0.c 8
      have p0 : W7.cell? ⟨B5, 0, none⟩ = some (.int .u16 pc) := n5.c 0
      have p1 : W7.cell? ⟨B5, 1, none⟩ = some (.int .u16 (r 0)) := n5.c 1
      have p2 : W7.cell? ⟨B5, 2, none⟩ = some (.int .u16 (r 1)) := n5.c 2
      have p3 : W7.cell? ⟨B5, 3, none⟩ = some (.int .u16 (r 2)) := n5.c 3
      have p4 : W7.cell? ⟨B5, 4, none⟩ = some (.int .u16 (r 3)) := n5.c 4
      have p5 : W7.cell? ⟨B5, 5, none⟩ = some (.int .u16 (r 4)) := n5.c 5
      have p6 : W7.cell? ⟨B5, 6, none⟩ = some (.int .u16 (r 5)) := n5.c 6
      have p7 : W7.cell? ⟨B5, 7, none⟩ = some (.int .u16 (r 6)) := n5.c 7
      have p8 : W7.cell? ⟨B5, 8, none⟩ = some (.int .u16 (r 7)) := n5.c 8
      have u0 : W7.cell? ⟨B5 + 1, 0, none⟩ = some (.int .u8 x0) := n6.c 0
      have u1 : W7.cell? ⟨B5 + 1, 1, none⟩ = some (.int .u16 x1) := n6.c 1
      have u2 : W7.cell? ⟨B5 + 1, 2, none⟩ = some (.int .u16 x2) := n6.c 2
      have u3 : W7.cell? ⟨B5 + 1, 3, none⟩ = some (.int .u8 x3) := n6.c 3
      have u4 : W7.cell? ⟨B5 + 1, 4, none⟩ = some (.int .i64 x4) := n6.c 4
      clear n0 n5 n6 hB7 cV
      go_wp2
      go_ret
      exact ⟨rfl, hb7⟩
theorem cstays_law (pc : Int) (r : Nat → Int) (o a b m : Int) (w : World) (hp : Wd pc) (hr : ∀ k, Wd (r k)) (hO : InsOk o a b m) :
    Calls Tryd.prog 6 #[rgV pc r, insV o a b m] w fun e w' => e = .returned (.bool true) ∧ Below w.heap.size w w' := by
  have hsame := exec_same pc r o a b m
  obtain ⟨⟨⟨q, s⟩, x0, x1, x2, x3, x4⟩, hE⟩ : ∃ E, execP pc r o a b m = E := ⟨_, rfl⟩
  rw [hE] at hsame
  simp only [Prod.mk.injEq] at hsame
  by_cases h7 : x0 = 7
  · obtain ⟨rfl, rfl⟩ := hsame (.inl h7)
    exact cstays_7 q s o a b m w hp hr hO q s x0 x1 x2 x3 x4 hE (by rw [h7]; rfl)
  · have n7 : (x0 != 7) = true := by rw [bne_iff_ne]; exact h7
    by_cases h6 : x0 = 6
    · obtain ⟨rfl, rfl⟩ := hsame (.inr h6)
      exact cstays_6 q s o a b m w hp hr hO q s x0 x1 x2 x3 x4 hE n7 (by rw [h6]; rfl)
    · exact cstays_b pc r o a b m w hp hr hO q s x0 x1 x2 x3 x4 hE n7 (by rw [bne_iff_ne]; exact h6)
end Go.Proofs.YtmndilhpmbpghaaDoor
