/- CpuRight: instructions that are not right are never done; those that are come to something. -/
import Derived.Test.YtmndilhpmbpghabDoorCpuQ
import Derived.Test.YtmndilhpmbpghabDoorCpuU
import Derived.Test.YtmndilhpmbpghabDoorCpuEq
import Derived.Test.YtmndilhpmbpghabDoorIsaRefA
namespace Go.Proofs.YtmndilhpmbpghabDoor
open Go.RowKit
set_option linter.unusedVariables false
set_option maxRecDepth 100000

/-- What a right instruction asks for, but for Halt and a quotient by 0. -/
theorem does_kind (pc : Int) (r : Nat → Int) (o a b m : Int) : ∃ k : Int, (doesP pc r o a b m).2.1 = k ∧ 0 ≤ k ∧ k ≤ 5 ∧ (k = 5 ↔ o = 23) := by
  unfold doesP
  by_cases c2 : o = 2
  · rw [if_pos c2]; exact ⟨0, rfl, by omega, by omega, by omega⟩
  rw [if_neg c2]
  by_cases c3 : o = 3
  · rw [if_pos c3]; exact ⟨0, rfl, by omega, by omega, by omega⟩
  rw [if_neg c3]
  by_cases c7 : o = 7
  · rw [if_pos c7]; exact ⟨0, rfl, by omega, by omega, by omega⟩
  rw [if_neg c7]
  by_cases c13 : o = 13
  · rw [if_pos c13]; exact ⟨1, rfl, by omega, by omega, by omega⟩
  rw [if_neg c13]
  by_cases c14 : o = 14
  · rw [if_pos c14]; exact ⟨2, rfl, by omega, by omega, by omega⟩
  rw [if_neg c14]
  by_cases c15 : o = 15
  · rw [if_pos c15]; exact ⟨3, rfl, by omega, by omega, by omega⟩
  rw [if_neg c15]
  by_cases c16 : o = 16
  · rw [if_pos c16]; exact ⟨4, rfl, by omega, by omega, by omega⟩
  rw [if_neg c16]
  by_cases c17 : o = 17
  · rw [if_pos c17]; exact ⟨0, rfl, by omega, by omega, by omega⟩
  rw [if_neg c17]
  by_cases c18 : o = 18
  · rw [if_pos c18]; exact ⟨0, rfl, by omega, by omega, by omega⟩
  rw [if_neg c18]
  by_cases c19 : o = 19
  · rw [if_pos c19]; exact ⟨0, rfl, by omega, by omega, by omega⟩
  rw [if_neg c19]
  by_cases c20 : o = 20
  · rw [if_pos c20]; exact ⟨0, rfl, by omega, by omega, by omega⟩
  rw [if_neg c20]
  by_cases c21 : o = 21
  · rw [if_pos c21]; exact ⟨0, rfl, by omega, by omega, by omega⟩
  rw [if_neg c21]
  by_cases c22 : o = 22
  · rw [if_pos c22]; exact ⟨0, rfl, by omega, by omega, by omega⟩
  rw [if_neg c22]
  by_cases c23 : o = 23
  · rw [if_pos c23]; exact ⟨5, rfl, by omega, by omega, by omega⟩
  rw [if_neg c23]
  by_cases c0 : o = 0
  · rw [if_pos c0]; exact ⟨0, rfl, by omega, by omega, by omega⟩
  rw [if_neg c0]
  exact ⟨0, rfl, by omega, by omega, by omega⟩
theorem exec_kind (pc : Int) (r : Nat → Int) (o a b m : Int) (hR : insR o a b m = true) :
    (∃ x : Int × Int × Int, (execP pc r o a b m).2 = (7, x.1, x.2.1, x.2.2, 14) ∧ o = 7) ∨ ((execP pc r o a b m).2.1 = 5 ∧ o = 23) ∨ (0 ≤ (execP pc r o a b m).2.1 ∧ (execP pc r o a b m).2.1 < 7 ∧ (execP pc r o a b m).2.1 ≠ 5 ∧ o ≠ 23) := by
  unfold execP
  rw [if_neg (by rw [hR]; decide)]
  by_cases h1 : o = 1
  · rw [if_pos h1]
    exact .inr (.inr ⟨show (0 : Int) ≤ 6 by decide, show (6 : Int) < 7 by decide, show (6 : Int) ≠ 5 by decide, by omega⟩)
  rw [if_neg h1]
  by_cases h7 : o = 7 ∧ r b.toNat = 0
  · rw [if_pos h7]
    exact .inl ⟨(0, 0, 0), rfl, h7.1⟩
  rw [if_neg h7]
  obtain ⟨k, e, k0, k5, k23⟩ := does_kind pc r o a b m
  by_cases h5 : k = 5
  · exact .inr (.inl ⟨e.trans h5, k23.1 h5⟩)
  · exact .inr (.inr ⟨by omega, by omega, by omega, fun h => h5 (k23.2 h)⟩)
set_option maxHeartbeats 4000000 in
theorem cright_no (pc : Int) (r : Nat → Int) (o a b m : Int) (w : World) (hp : Wd pc) (hr : ∀ k, Wd (r k)) (hO : InsOk o a b m) (hR : insR o a b m = false) :
    Calls Tryd.prog 4 #[rgV pc r, insV o a b m] w fun e w' => e = .returned (.bool true) ∧ Below w.heap.size w w' := by
  have cL := fun w => exec_any pc r o a b m w hp hr hO
  have eE : execP pc r o a b m = ((pc, r), (7, 0, 0, 0, 3)) := by unfold execP; rw [if_pos hR]
  rw [eE] at cL
  have cR := fun w => rright_any o a b m w hO.1 hO.2.1
  rw [hR] at cR
  have cA := fun w => Reads_no o a b m w hO hR
  have cB := fun w => Writes_no o a b m w hO hR
  have cV := clive_any
  have eR := fun w => eqRgs w pc r
  have eG := eqGuardR
  have eA := fun w => eqAcc w (7, 0, 0, 0, 3)
  have eH := eqGuardA
  unfold execV at *
  unfold rgV insV accV at *
  simp only at cL eA
  have k0 := (Cel.new w #[.int .u16 pc, .int .u16 (r 0), .int .u16 (r 1), .int .u16 (r 2), .int .u16 (r 3), .int .u16 (r 4), .int .u16 (r 5), .int .u16 (r 6), .int .u16 (r 7)] 26).alloc (.cells #[.int .u8 o, .int .u8 a, .int .u8 b, .int .u16 m] 40)
  have k1 := Cel.new (w.alloc (.cells #[.int .u16 pc, .int .u16 (r 0), .int .u16 (r 1), .int .u16 (r 2), .int .u16 (r 3), .int .u16 (r 4), .int .u16 (r 5), .int .u16 (r 6), .int .u16 (r 7)] 26)) #[.int .u8 o, .int .u8 a, .int .u8 b, .int .u16 m] 40
  rw [World.size_alloc] at k1
  have hb0 := nx (nx (Below.refl _ w) (.cells #[.int .u16 pc, .int .u16 (r 0), .int .u16 (r 1), .int .u16 (r 2), .int .u16 (r 3), .int .u16 (r 4), .int .u16 (r 5), .int .u16 (r 6), .int .u16 (r 7)] 26)) (.cells #[.int .u8 o, .int .u8 a, .int .u8 b, .int .u16 m] 40)
  have hs0 : ((w.alloc (.cells #[.int .u16 pc, .int .u16 (r 0), .int .u16 (r 1), .int .u16 (r 2), .int .u16 (r 3), .int .u16 (r 4), .int .u16 (r 5), .int .u16 (r 6), .int .u16 (r 7)] 26)).alloc (.cells #[.int .u8 o, .int .u8 a, .int .u8 b, .int .u16 m] 40)).heap.size = w.heap.size + 1 + 1 := by simp
  go_enter Tryd.func4, Tryd.ntmps4
  go_wp2_with fail
  generalize ((w.alloc (.cells #[.int .u16 pc, .int .u16 (r 0), .int .u16 (r 1), .int .u16 (r 2), .int .u16 (r 3), .int .u16 (r 4), .int .u16 (r 5), .int .u16 (r 6), .int .u16 (r 7)] 26)).alloc (.cells #[.int .u8 o, .int .u8 a, .int .u8 b, .int .u16 m] 40)) = W0 at *
  refine (cL _).mono ?_
  rintro e1 W1 ⟨rfl, hB1⟩
  have hs1 := hB1.size
  replace k0 := k0.below hB1 (by omega)
  replace k1 := k1.below hB1 (by omega)
  have hb1 := hb0.trans (hB1.mono (by omega))
  clear hb0 hB1 cL
  have l1 : w.heap.size < W1.heap.size := by omega
  have l2 : w.heap.size + 1 < W1.heap.size := by omega
  have i0 : W1.cell? ⟨w.heap.size + 1, 0, none⟩ = some (.int .u8 o) := k1.c 0
  have i1 : W1.cell? ⟨w.heap.size + 1, 1, none⟩ = some (.int .u8 a) := k1.c 1
  have i2 : W1.cell? ⟨w.heap.size + 1, 2, none⟩ = some (.int .u8 b) := k1.c 2
  have i3 : W1.cell? ⟨w.heap.size + 1, 3, none⟩ = some (.int .u16 m) := k1.c 3
  go_wp2_with fail
  clear i0 i1 i2 i3
  replace k0 := (k0.alloc (.cells #[.int .u16 pc, .int .u16 (r 0), .int .u16 (r 1), .int .u16 (r 2), .int .u16 (r 3), .int .u16 (r 4), .int .u16 (r 5), .int .u16 (r 6), .int .u16 (r 7)] 26)).alloc (.cells #[.int .u8 7, .int .u16 0, .int .u16 0, .int .u8 0, .int .i64 3] 32)
  replace k1 := (k1.alloc (.cells #[.int .u16 pc, .int .u16 (r 0), .int .u16 (r 1), .int .u16 (r 2), .int .u16 (r 3), .int .u16 (r 4), .int .u16 (r 5), .int .u16 (r 6), .int .u16 (r 7)] 26)).alloc (.cells #[.int .u8 7, .int .u16 0, .int .u16 0, .int .u8 0, .int .i64 3] 32)
  have k5 := (Cel.new W1 #[.int .u16 pc, .int .u16 (r 0), .int .u16 (r 1), .int .u16 (r 2), .int .u16 (r 3), .int .u16 (r 4), .int .u16 (r 5), .int .u16 (r 6), .int .u16 (r 7)] 26).alloc (.cells #[.int .u8 7, .int .u16 0, .int .u16 0, .int .u8 0, .int .i64 3] 32)
  have k6 := Cel.new (W1.alloc (.cells #[.int .u16 pc, .int .u16 (r 0), .int .u16 (r 1), .int .u16 (r 2), .int .u16 (r 3), .int .u16 (r 4), .int .u16 (r 5), .int .u16 (r 6), .int .u16 (r 7)] 26)) #[.int .u8 7, .int .u16 0, .int .u16 0, .int .u8 0, .int .i64 3] 32
  rw [World.size_alloc] at k6
  have hb2 := nx (nx hb1 (.cells #[.int .u16 pc, .int .u16 (r 0), .int .u16 (r 1), .int .u16 (r 2), .int .u16 (r 3), .int .u16 (r 4), .int .u16 (r 5), .int .u16 (r 6), .int .u16 (r 7)] 26)) (.cells #[.int .u8 7, .int .u16 0, .int .u16 0, .int .u8 0, .int .i64 3] 32)
  have hs2 : ((W1.alloc (.cells #[.int .u16 pc, .int .u16 (r 0), .int .u16 (r 1), .int .u16 (r 2), .int .u16 (r 3), .int .u16 (r 4), .int .u16 (r 5), .int .u16 (r 6), .int .u16 (r 7)] 26)).alloc (.cells #[.int .u8 7, .int .u16 0, .int .u16 0, .int .u8 0, .int .i64 3] 32)).heap.size = W1.heap.size + 1 + 1 := by simp
  generalize ((W1.alloc (.cells #[.int .u16 pc, .int .u16 (r 0), .int .u16 (r 1), .int .u16 (r 2), .int .u16 (r 3), .int .u16 (r 4), .int .u16 (r 5), .int .u16 (r 6), .int .u16 (r 7)] 26)).alloc (.cells #[.int .u8 7, .int .u16 0, .int .u16 0, .int .u8 0, .int .i64 3] 32)) = W2 at *
  generalize W1.heap.size = B5 at *
  clear hb1
  refine (cR _).mono ?_
  rintro e1 W3 ⟨rfl, hB3⟩
  have hs3 := hB3.size
  replace k0 := k0.below hB3 (by omega)
  replace k1 := k1.below hB3 (by omega)
  replace k5 := k5.below hB3 (by omega)
  replace k6 := k6.below hB3 (by omega)
  have hb3 := hb2.trans (hB3.mono (by omega))
  clear hb2 hB3 cR
  go_wp2_with fail
  refine (cV _).mono ?_
  rintro e1 W4 ⟨rfl, hB4⟩
  have hs4 := hB4.size
  replace k0 := k0.below hB4 (by omega)
  replace k1 := k1.below hB4 (by omega)
  replace k5 := k5.below hB4 (by omega)
  replace k6 := k6.below hB4 (by omega)
  have hb4 := hb3.trans (hB4.mono (by omega))
  clear hb3 hB4 cV
  have q0 : W4.cell? ⟨w.heap.size, 0, none⟩ = some (.int .u16 pc) := k0.c 0
  have q1 : W4.cell? ⟨w.heap.size, 1, none⟩ = some (.int .u16 (r 0)) := k0.c 1
  have q2 : W4.cell? ⟨w.heap.size, 2, none⟩ = some (.int .u16 (r 1)) := k0.c 2
  have q3 : W4.cell? ⟨w.heap.size, 3, none⟩ = some (.int .u16 (r 2)) := k0.c 3
  have q4 : W4.cell? ⟨w.heap.size, 4, none⟩ = some (.int .u16 (r 3)) := k0.c 4
  have q5 : W4.cell? ⟨w.heap.size, 5, none⟩ = some (.int .u16 (r 4)) := k0.c 5
  have q6 : W4.cell? ⟨w.heap.size, 6, none⟩ = some (.int .u16 (r 5)) := k0.c 6
  have q7 : W4.cell? ⟨w.heap.size, 7, none⟩ = some (.int .u16 (r 6)) := k0.c 7
  have q8 : W4.cell? ⟨w.heap.size, 8, none⟩ = some (.int .u16 (r 7)) := k0.c 8
  have p0 : W4.cell? ⟨B5, 0, none⟩ = some (.int .u16 pc) := k5.c 0
  have p1 : W4.cell? ⟨B5, 1, none⟩ = some (.int .u16 (r 0)) := k5.c 1
  have p2 : W4.cell? ⟨B5, 2, none⟩ = some (.int .u16 (r 1)) := k5.c 2
  have p3 : W4.cell? ⟨B5, 3, none⟩ = some (.int .u16 (r 2)) := k5.c 3
  have p4 : W4.cell? ⟨B5, 4, none⟩ = some (.int .u16 (r 3)) := k5.c 4
  have p5 : W4.cell? ⟨B5, 5, none⟩ = some (.int .u16 (r 4)) := k5.c 5
  have p6 : W4.cell? ⟨B5, 6, none⟩ = some (.int .u16 (r 5)) := k5.c 6
  have p7 : W4.cell? ⟨B5, 7, none⟩ = some (.int .u16 (r 6)) := k5.c 7
  have p8 : W4.cell? ⟨B5, 8, none⟩ = some (.int .u16 (r 7)) := k5.c 8
  have u0 : W4.cell? ⟨B5 + 1, 0, none⟩ = some (.int .u8 7) := k6.c 0
  have u1 : W4.cell? ⟨B5 + 1, 1, none⟩ = some (.int .u16 0) := k6.c 1
  have u2 : W4.cell? ⟨B5 + 1, 2, none⟩ = some (.int .u16 0) := k6.c 2
  have u3 : W4.cell? ⟨B5 + 1, 3, none⟩ = some (.int .u8 0) := k6.c 3
  have u4 : W4.cell? ⟨B5 + 1, 4, none⟩ = some (.int .i64 3) := k6.c 4
  have i0 : W4.cell? ⟨w.heap.size + 1, 0, none⟩ = some (.int .u8 o) := k1.c 0
  have i1 : W4.cell? ⟨w.heap.size + 1, 1, none⟩ = some (.int .u8 a) := k1.c 1
  have i2 : W4.cell? ⟨w.heap.size + 1, 2, none⟩ = some (.int .u8 b) := k1.c 2
  have i3 : W4.cell? ⟨w.heap.size + 1, 3, none⟩ = some (.int .u16 m) := k1.c 3
  go_wp2_with fail
  clear i0 i1 i2 i3
  refine (cA _).mono ?_
  rintro e1 W5 ⟨rfl, hB5⟩
  have hs5 := hB5.size
  replace k1 := k1.below hB5 (by omega)
  have hb5 := hb4.trans (hB5.mono (by omega))
  have i0 : W5.cell? ⟨w.heap.size + 1, 0, none⟩ = some (.int .u8 o) := k1.c 0
  have i1 : W5.cell? ⟨w.heap.size + 1, 1, none⟩ = some (.int .u8 a) := k1.c 1
  have i2 : W5.cell? ⟨w.heap.size + 1, 2, none⟩ = some (.int .u8 b) := k1.c 2
  have i3 : W5.cell? ⟨w.heap.size + 1, 3, none⟩ = some (.int .u16 m) := k1.c 3
  go_wp2_with fail
  refine (cB _).mono ?_
  rintro e1 W6 ⟨rfl, hB6⟩
  have hb6 := hb5.trans (hB6.mono (by omega))
  go_wp2
  go_ret
  exact ⟨rfl, hb6⟩
set_option maxHeartbeats 4000000 in
theorem cright_other (pc : Int) (r : Nat → Int) (o a b m : Int) (w : World) (hp : Wd pc) (hr : ∀ k, Wd (r k)) (hO : InsOk o a b m) (hR : insR o a b m = true) (q : Int) (s : Nat → Int) (x0 x1 x2 x3 x4 : Int) (hE : execP pc r o a b m = ((q, s), (x0, x1, x2, x3, x4))) (hx : 0 ≤ x0 ∧ x0 ≤ 7) (n7 : (x0 != 7) = true) (n5 : (x0 == 5) = (o == 23)) :
    Calls Tryd.prog 4 #[rgV pc r, insV o a b m] w fun e w' => e = .returned (.bool true) ∧ Below w.heap.size w w' := by
  have cL := fun w => exec_any pc r o a b m w hp hr hO
  rw [hE] at cL
  have cR := fun w => rright_any o a b m w hO.1 hO.2.1
  rw [hR] at cR
  have cV := clive_any
  clear hE hR hO
  have hx1 := hx.1
  have hx2 := hx.2
  generalize hB : (o == 23) = B at *
  unfold execV at *
  unfold rgV insV accV at *
  simp only at cL
  have k0 := (Cel.new w #[.int .u16 pc, .int .u16 (r 0), .int .u16 (r 1), .int .u16 (r 2), .int .u16 (r 3), .int .u16 (r 4), .int .u16 (r 5), .int .u16 (r 6), .int .u16 (r 7)] 26).alloc (.cells #[.int .u8 o, .int .u8 a, .int .u8 b, .int .u16 m] 40)
  have k1 := Cel.new (w.alloc (.cells #[.int .u16 pc, .int .u16 (r 0), .int .u16 (r 1), .int .u16 (r 2), .int .u16 (r 3), .int .u16 (r 4), .int .u16 (r 5), .int .u16 (r 6), .int .u16 (r 7)] 26)) #[.int .u8 o, .int .u8 a, .int .u8 b, .int .u16 m] 40
  rw [World.size_alloc] at k1
  have hb0 := nx (nx (Below.refl _ w) (.cells #[.int .u16 pc, .int .u16 (r 0), .int .u16 (r 1), .int .u16 (r 2), .int .u16 (r 3), .int .u16 (r 4), .int .u16 (r 5), .int .u16 (r 6), .int .u16 (r 7)] 26)) (.cells #[.int .u8 o, .int .u8 a, .int .u8 b, .int .u16 m] 40)
  have hs0 : ((w.alloc (.cells #[.int .u16 pc, .int .u16 (r 0), .int .u16 (r 1), .int .u16 (r 2), .int .u16 (r 3), .int .u16 (r 4), .int .u16 (r 5), .int .u16 (r 6), .int .u16 (r 7)] 26)).alloc (.cells #[.int .u8 o, .int .u8 a, .int .u8 b, .int .u16 m] 40)).heap.size = w.heap.size + 1 + 1 := by simp
  go_enter Tryd.func4, Tryd.ntmps4
  go_wp2_with fail
  generalize ((w.alloc (.cells #[.int .u16 pc, .int .u16 (r 0), .int .u16 (r 1), .int .u16 (r 2), .int .u16 (r 3), .int .u16 (r 4), .int .u16 (r 5), .int .u16 (r 6), .int .u16 (r 7)] 26)).alloc (.cells #[.int .u8 o, .int .u8 a, .int .u8 b, .int .u16 m] 40)) = W0 at *
  refine (cL _).mono ?_
  rintro e1 W1 ⟨rfl, hB1⟩
  have hs1 := hB1.size
  replace k0 := k0.below hB1 (by omega)
  replace k1 := k1.below hB1 (by omega)
  have hb1 := hb0.trans (hB1.mono (by omega))
  clear hb0 hB1 cL
  have l1 : w.heap.size < W1.heap.size := by omega
  have l2 : w.heap.size + 1 < W1.heap.size := by omega
  have i0 : W1.cell? ⟨w.heap.size + 1, 0, none⟩ = some (.int .u8 o) := k1.c 0
  have i1 : W1.cell? ⟨w.heap.size + 1, 1, none⟩ = some (.int .u8 a) := k1.c 1
  have i2 : W1.cell? ⟨w.heap.size + 1, 2, none⟩ = some (.int .u8 b) := k1.c 2
  have i3 : W1.cell? ⟨w.heap.size + 1, 3, none⟩ = some (.int .u16 m) := k1.c 3
  go_wp2_with fail
  clear i0 i1 i2 i3
  replace k0 := (k0.alloc (.cells #[.int .u16 q, .int .u16 (s 0), .int .u16 (s 1), .int .u16 (s 2), .int .u16 (s 3), .int .u16 (s 4), .int .u16 (s 5), .int .u16 (s 6), .int .u16 (s 7)] 26)).alloc (.cells #[.int .u8 x0, .int .u16 x1, .int .u16 x2, .int .u8 x3, .int .i64 x4] 32)
  replace k1 := (k1.alloc (.cells #[.int .u16 q, .int .u16 (s 0), .int .u16 (s 1), .int .u16 (s 2), .int .u16 (s 3), .int .u16 (s 4), .int .u16 (s 5), .int .u16 (s 6), .int .u16 (s 7)] 26)).alloc (.cells #[.int .u8 x0, .int .u16 x1, .int .u16 x2, .int .u8 x3, .int .i64 x4] 32)
  have k5 := (Cel.new W1 #[.int .u16 q, .int .u16 (s 0), .int .u16 (s 1), .int .u16 (s 2), .int .u16 (s 3), .int .u16 (s 4), .int .u16 (s 5), .int .u16 (s 6), .int .u16 (s 7)] 26).alloc (.cells #[.int .u8 x0, .int .u16 x1, .int .u16 x2, .int .u8 x3, .int .i64 x4] 32)
  have k6 := Cel.new (W1.alloc (.cells #[.int .u16 q, .int .u16 (s 0), .int .u16 (s 1), .int .u16 (s 2), .int .u16 (s 3), .int .u16 (s 4), .int .u16 (s 5), .int .u16 (s 6), .int .u16 (s 7)] 26)) #[.int .u8 x0, .int .u16 x1, .int .u16 x2, .int .u8 x3, .int .i64 x4] 32
  rw [World.size_alloc] at k6
  have hb2 := nx (nx hb1 (.cells #[.int .u16 q, .int .u16 (s 0), .int .u16 (s 1), .int .u16 (s 2), .int .u16 (s 3), .int .u16 (s 4), .int .u16 (s 5), .int .u16 (s 6), .int .u16 (s 7)] 26)) (.cells #[.int .u8 x0, .int .u16 x1, .int .u16 x2, .int .u8 x3, .int .i64 x4] 32)
  have hs2 : ((W1.alloc (.cells #[.int .u16 q, .int .u16 (s 0), .int .u16 (s 1), .int .u16 (s 2), .int .u16 (s 3), .int .u16 (s 4), .int .u16 (s 5), .int .u16 (s 6), .int .u16 (s 7)] 26)).alloc (.cells #[.int .u8 x0, .int .u16 x1, .int .u16 x2, .int .u8 x3, .int .i64 x4] 32)).heap.size = W1.heap.size + 1 + 1 := by simp
  generalize ((W1.alloc (.cells #[.int .u16 q, .int .u16 (s 0), .int .u16 (s 1), .int .u16 (s 2), .int .u16 (s 3), .int .u16 (s 4), .int .u16 (s 5), .int .u16 (s 6), .int .u16 (s 7)] 26)).alloc (.cells #[.int .u8 x0, .int .u16 x1, .int .u16 x2, .int .u8 x3, .int .i64 x4] 32)) = W2 at *
  generalize W1.heap.size = B5 at *
  clear hb1
  refine (cR _).mono ?_
  rintro e1 W3 ⟨rfl, hB3⟩
  have hs3 := hB3.size
  replace k0 := k0.below hB3 (by omega)
  replace k1 := k1.below hB3 (by omega)
  replace k5 := k5.below hB3 (by omega)
  replace k6 := k6.below hB3 (by omega)
  have hb3 := hb2.trans (hB3.mono (by omega))
  clear hb2 hB3 cR
  go_wp2_with fail
  refine (cV _).mono ?_
  rintro e1 W4 ⟨rfl, hB4⟩
  have hs4 := hB4.size
  replace k0 := k0.below hB4 (by omega)
  replace k1 := k1.below hB4 (by omega)
  replace k5 := k5.below hB4 (by omega)
  replace k6 := k6.below hB4 (by omega)
  have hb4 := hb3.trans (hB4.mono (by omega))
  clear hb3 hB4 cV
  have u0 : W4.cell? ⟨B5 + 1, 0, none⟩ = some (.int .u8 x0) := k6.c 0
  have u1 : W4.cell? ⟨B5 + 1, 1, none⟩ = some (.int .u16 x1) := k6.c 1
  have u2 : W4.cell? ⟨B5 + 1, 2, none⟩ = some (.int .u16 x2) := k6.c 2
  have u3 : W4.cell? ⟨B5 + 1, 3, none⟩ = some (.int .u8 x3) := k6.c 3
  have u4 : W4.cell? ⟨B5 + 1, 4, none⟩ = some (.int .i64 x4) := k6.c 4
  have i0 : W4.cell? ⟨w.heap.size + 1, 0, none⟩ = some (.int .u8 o) := k1.c 0
  have i1 : W4.cell? ⟨w.heap.size + 1, 1, none⟩ = some (.int .u8 a) := k1.c 1
  have i2 : W4.cell? ⟨w.heap.size + 1, 2, none⟩ = some (.int .u8 b) := k1.c 2
  have i3 : W4.cell? ⟨w.heap.size + 1, 3, none⟩ = some (.int .u16 m) := k1.c 3
  go_wp2
  go_ret
  exact ⟨rfl, hb4⟩
set_option maxHeartbeats 4000000 in
theorem cright_seven (pc : Int) (r : Nat → Int) (o a b m : Int) (w : World) (hp : Wd pc) (hr : ∀ k, Wd (r k)) (hO : InsOk o a b m) (hR : insR o a b m = true) (q : Int) (s : Nat → Int) (x0 x1 x2 x3 x4 : Int) (hE : execP pc r o a b m = ((q, s), (x0, x1, x2, x3, x4))) (hx : x0 = 7) (ho : (o == 7) = true) (h4 : (x4 == 14) = true) (h23 : (o == 23) = false) :
    Calls Tryd.prog 4 #[rgV pc r, insV o a b m] w fun e w' => e = .returned (.bool true) ∧ Below w.heap.size w w' := by
  have cL := fun w => exec_any pc r o a b m w hp hr hO
  rw [hE] at cL
  have cR := fun w => rright_any o a b m w hO.1 hO.2.1
  rw [hR] at cR
  have cV := clive_any
  clear hE hR hO
  have n7 : (x0 != 7) = false := by rw [hx]; rfl
  have n5 : (x0 == 5) = false := by rw [hx]; rfl
  have hx2 : x0 ≤ 7 := by omega
  have hx1 : 0 ≤ x0 := by omega
  clear hx
  unfold execV at *
  unfold rgV insV accV at *
  simp only at cL
  have k0 := (Cel.new w #[.int .u16 pc, .int .u16 (r 0), .int .u16 (r 1), .int .u16 (r 2), .int .u16 (r 3), .int .u16 (r 4), .int .u16 (r 5), .int .u16 (r 6), .int .u16 (r 7)] 26).alloc (.cells #[.int .u8 o, .int .u8 a, .int .u8 b, .int .u16 m] 40)
  have k1 := Cel.new (w.alloc (.cells #[.int .u16 pc, .int .u16 (r 0), .int .u16 (r 1), .int .u16 (r 2), .int .u16 (r 3), .int .u16 (r 4), .int .u16 (r 5), .int .u16 (r 6), .int .u16 (r 7)] 26)) #[.int .u8 o, .int .u8 a, .int .u8 b, .int .u16 m] 40
  rw [World.size_alloc] at k1
  have hb0 := nx (nx (Below.refl _ w) (.cells #[.int .u16 pc, .int .u16 (r 0), .int .u16 (r 1), .int .u16 (r 2), .int .u16 (r 3), .int .u16 (r 4), .int .u16 (r 5), .int .u16 (r 6), .int .u16 (r 7)] 26)) (.cells #[.int .u8 o, .int .u8 a, .int .u8 b, .int .u16 m] 40)
  have hs0 : ((w.alloc (.cells #[.int .u16 pc, .int .u16 (r 0), .int .u16 (r 1), .int .u16 (r 2), .int .u16 (r 3), .int .u16 (r 4), .int .u16 (r 5), .int .u16 (r 6), .int .u16 (r 7)] 26)).alloc (.cells #[.int .u8 o, .int .u8 a, .int .u8 b, .int .u16 m] 40)).heap.size = w.heap.size + 1 + 1 := by simp
  go_enter Tryd.func4, Tryd.ntmps4
  go_wp2_with fail
  generalize ((w.alloc (.cells #[.int .u16 pc, .int .u16 (r 0), .int .u16 (r 1), .int .u16 (r 2), .int .u16 (r 3), .int .u16 (r 4), .int .u16 (r 5), .int .u16 (r 6), .int .u16 (r 7)] 26)).alloc (.cells #[.int .u8 o, .int .u8 a, .int .u8 b, .int .u16 m] 40)) = W0 at *
  refine (cL _).mono ?_
  rintro e1 W1 ⟨rfl, hB1⟩
  have hs1 := hB1.size
  replace k0 := k0.below hB1 (by omega)
  replace k1 := k1.below hB1 (by omega)
  have hb1 := hb0.trans (hB1.mono (by omega))
  clear hb0 hB1 cL
  have l1 : w.heap.size < W1.heap.size := by omega
  have l2 : w.heap.size + 1 < W1.heap.size := by omega
  have i0 : W1.cell? ⟨w.heap.size + 1, 0, none⟩ = some (.int .u8 o) := k1.c 0
  have i1 : W1.cell? ⟨w.heap.size + 1, 1, none⟩ = some (.int .u8 a) := k1.c 1
  have i2 : W1.cell? ⟨w.heap.size + 1, 2, none⟩ = some (.int .u8 b) := k1.c 2
  have i3 : W1.cell? ⟨w.heap.size + 1, 3, none⟩ = some (.int .u16 m) := k1.c 3
  go_wp2_with fail
  clear i0 i1 i2 i3
  replace k0 := (k0.alloc (.cells #[.int .u16 q, .int .u16 (s 0), .int .u16 (s 1), .int .u16 (s 2), .int .u16 (s 3), .int .u16 (s 4), .int .u16 (s 5), .int .u16 (s 6), .int .u16 (s 7)] 26)).alloc (.cells #[.int .u8 x0, .int .u16 x1, .int .u16 x2, .int .u8 x3, .int .i64 x4] 32)
  replace k1 := (k1.alloc (.cells #[.int .u16 q, .int .u16 (s 0), .int .u16 (s 1), .int .u16 (s 2), .int .u16 (s 3), .int .u16 (s 4), .int .u16 (s 5), .int .u16 (s 6), .int .u16 (s 7)] 26)).alloc (.cells #[.int .u8 x0, .int .u16 x1, .int .u16 x2, .int .u8 x3, .int .i64 x4] 32)
  have k5 := (Cel.new W1 #[.int .u16 q, .int .u16 (s 0), .int .u16 (s 1), .int .u16 (s 2), .int .u16 (s 3), .int .u16 (s 4), .int .u16 (s 5), .int .u16 (s 6), .int .u16 (s 7)] 26).alloc (.cells #[.int .u8 x0, .int .u16 x1, .int .u16 x2, .int .u8 x3, .int .i64 x4] 32)
  have k6 := Cel.new (W1.alloc (.cells #[.int .u16 q, .int .u16 (s 0), .int .u16 (s 1), .int .u16 (s 2), .int .u16 (s 3), .int .u16 (s 4), .int .u16 (s 5), .int .u16 (s 6), .int .u16 (s 7)] 26)) #[.int .u8 x0, .int .u16 x1, .int .u16 x2, .int .u8 x3, .int .i64 x4] 32
  rw [World.size_alloc] at k6
  have hb2 := nx (nx hb1 (.cells #[.int .u16 q, .int .u16 (s 0), .int .u16 (s 1), .int .u16 (s 2), .int .u16 (s 3), .int .u16 (s 4), .int .u16 (s 5), .int .u16 (s 6), .int .u16 (s 7)] 26)) (.cells #[.int .u8 x0, .int .u16 x1, .int .u16 x2, .int .u8 x3, .int .i64 x4] 32)
  have hs2 : ((W1.alloc (.cells #[.int .u16 q, .int .u16 (s 0), .int .u16 (s 1), .int .u16 (s 2), .int .u16 (s 3), .int .u16 (s 4), .int .u16 (s 5), .int .u16 (s 6), .int .u16 (s 7)] 26)).alloc (.cells #[.int .u8 x0, .int .u16 x1, .int .u16 x2, .int .u8 x3, .int .i64 x4] 32)).heap.size = W1.heap.size + 1 + 1 := by simp
  generalize ((W1.alloc (.cells #[.int .u16 q, .int .u16 (s 0), .int .u16 (s 1), .int .u16 (s 2), .int .u16 (s 3), .int .u16 (s 4), .int .u16 (s 5), .int .u16 (s 6), .int .u16 (s 7)] 26)).alloc (.cells #[.int .u8 x0, .int .u16 x1, .int .u16 x2, .int .u8 x3, .int .i64 x4] 32)) = W2 at *
  generalize W1.heap.size = B5 at *
  clear hb1
  refine (cR _).mono ?_
  rintro e1 W3 ⟨rfl, hB3⟩
  have hs3 := hB3.size
  replace k0 := k0.below hB3 (by omega)
  replace k1 := k1.below hB3 (by omega)
  replace k5 := k5.below hB3 (by omega)
  replace k6 := k6.below hB3 (by omega)
  have hb3 := hb2.trans (hB3.mono (by omega))
  clear hb2 hB3 cR
  go_wp2_with fail
  refine (cV _).mono ?_
  rintro e1 W4 ⟨rfl, hB4⟩
  have hs4 := hB4.size
  replace k0 := k0.below hB4 (by omega)
  replace k1 := k1.below hB4 (by omega)
  replace k5 := k5.below hB4 (by omega)
  replace k6 := k6.below hB4 (by omega)
  have hb4 := hb3.trans (hB4.mono (by omega))
  clear hb3 hB4 cV
  have u0 : W4.cell? ⟨B5 + 1, 0, none⟩ = some (.int .u8 x0) := k6.c 0
  have u1 : W4.cell? ⟨B5 + 1, 1, none⟩ = some (.int .u16 x1) := k6.c 1
  have u2 : W4.cell? ⟨B5 + 1, 2, none⟩ = some (.int .u16 x2) := k6.c 2
  have u3 : W4.cell? ⟨B5 + 1, 3, none⟩ = some (.int .u8 x3) := k6.c 3
  have u4 : W4.cell? ⟨B5 + 1, 4, none⟩ = some (.int .i64 x4) := k6.c 4
  have i0 : W4.cell? ⟨w.heap.size + 1, 0, none⟩ = some (.int .u8 o) := k1.c 0
  have i1 : W4.cell? ⟨w.heap.size + 1, 1, none⟩ = some (.int .u8 a) := k1.c 1
  have i2 : W4.cell? ⟨w.heap.size + 1, 2, none⟩ = some (.int .u8 b) := k1.c 2
  have i3 : W4.cell? ⟨w.heap.size + 1, 3, none⟩ = some (.int .u16 m) := k1.c 3
  go_wp2
  go_ret
  exact ⟨rfl, hb4⟩
theorem cright_law (pc : Int) (r : Nat → Int) (o a b m : Int) (w : World) (hp : Wd pc) (hr : ∀ k, Wd (r k)) (hO : InsOk o a b m) :
    Calls Tryd.prog 4 #[rgV pc r, insV o a b m] w fun e w' => e = .returned (.bool true) ∧ Below w.heap.size w w' := by
  cases hR : insR o a b m with
  | false => exact cright_no pc r o a b m w hp hr hO hR
  | true =>
    have hk := exec_kind pc r o a b m hR
    obtain ⟨⟨⟨q, s⟩, x0, x1, x2, x3, x4⟩, hE⟩ : ∃ E, execP pc r o a b m = E := ⟨_, rfl⟩
    rw [hE] at hk
    rcases hk with ⟨x, hx, ho⟩ | ⟨hx, ho⟩ | ⟨h1, h2, h3, h4⟩
    · obtain ⟨y1, y2, y3⟩ := x
      simp only [Prod.mk.injEq] at hx
      exact cright_seven pc r o a b m w hp hr hO hR q s x0 x1 x2 x3 x4 hE hx.1 (by rw [ho]; rfl) (by rw [hx.2.2.2.2]; rfl) (by rw [ho]; rfl)
    · simp only at hx
      exact cright_other pc r o a b m w hp hr hO hR q s x0 x1 x2 x3 x4 hE (by omega) (by rw [hx]; rfl) (by rw [hx, ho]; rfl)
    · simp only at h1 h2 h3
      exact cright_other pc r o a b m w hp hr hO hR q s x0 x1 x2 x3 x4 hE (by omega) (by rw [bne_iff_ne]; omega) (by rw [beq_eq_false_iff_ne.2 h3, beq_eq_false_iff_ne.2 h4])
end Go.Proofs.YtmndilhpmbpghabDoor
