/- CpuExecs: what an instruction does, and what it asks for. -/
import Derived.Test.YtmndilhpmbpghaaDoorCpuQ
import Derived.Test.YtmndilhpmbpghaaDoorCpuN
import Derived.Test.YtmndilhpmbpghaaDoorCpuEq
namespace Go.Proofs.YtmndilhpmbpghaaDoor
open Go.RowKit
set_option linter.unusedVariables false
set_option maxRecDepth 100000

set_option maxHeartbeats 4000000 in
theorem cexecs_law (pc : Int) (r : Nat → Int) (o a b m : Int) (w : World) (hp : Wd pc) (hr : ∀ k, Wd (r k)) (hO : InsOk o a b m) :
    Calls Tryd.prog 3 #[rgV pc r, insV o a b m] w fun e w' => e = .returned (.bool true) ∧ Below w.heap.size w w' := by
  have cL := fun w => exec_any pc r o a b m w hp hr hO
  have cM := fun w => rexec_any pc r o a b m w hp hr hO
  have cV := clive_any
  generalize execP pc r o a b m = E at *
  obtain ⟨⟨q, s⟩, x⟩ := E
  have eR := fun w => eqRgs w q s
  have eG := eqGuardR
  have eA := fun w => eqAcc w x
  have eH := eqGuardA
  unfold execV at *
  unfold rgV insV accV at *
  simp only at cL cM
  have k0 := (Cel.new w #[.int .u16 pc, .int .u16 (r 0), .int .u16 (r 1), .int .u16 (r 2), .int .u16 (r 3), .int .u16 (r 4), .int .u16 (r 5), .int .u16 (r 6), .int .u16 (r 7)] 26).alloc (.cells #[.int .u8 o, .int .u8 a, .int .u8 b, .int .u16 m] 29)
  have k1 := Cel.new (w.alloc (.cells #[.int .u16 pc, .int .u16 (r 0), .int .u16 (r 1), .int .u16 (r 2), .int .u16 (r 3), .int .u16 (r 4), .int .u16 (r 5), .int .u16 (r 6), .int .u16 (r 7)] 26)) #[.int .u8 o, .int .u8 a, .int .u8 b, .int .u16 m] 29
  rw [World.size_alloc] at k1
  have hb0 := nx (nx (Below.refl _ w) (.cells #[.int .u16 pc, .int .u16 (r 0), .int .u16 (r 1), .int .u16 (r 2), .int .u16 (r 3), .int .u16 (r 4), .int .u16 (r 5), .int .u16 (r 6), .int .u16 (r 7)] 26)) (.cells #[.int .u8 o, .int .u8 a, .int .u8 b, .int .u16 m] 29)
  have hs0 : ((w.alloc (.cells #[.int .u16 pc, .int .u16 (r 0), .int .u16 (r 1), .int .u16 (r 2), .int .u16 (r 3), .int .u16 (r 4), .int .u16 (r 5), .int .u16 (r 6), .int .u16 (r 7)] 26)).alloc (.cells #[.int .u8 o, .int .u8 a, .int .u8 b, .int .u16 m] 29)).heap.size = w.heap.size + 1 + 1 := by simp
  go_enter Tryd.func3, Tryd.ntmps3
  go_wp2_with fail
  generalize ((w.alloc (.cells #[.int .u16 pc, .int .u16 (r 0), .int .u16 (r 1), .int .u16 (r 2), .int .u16 (r 3), .int .u16 (r 4), .int .u16 (r 5), .int .u16 (r 6), .int .u16 (r 7)] 26)).alloc (.cells #[.int .u8 o, .int .u8 a, .int .u8 b, .int .u16 m] 29)) = W0 at *
  refine (cL _).mono ?_
  rintro e1 W1 ⟨rfl, hB1⟩
  have hs1 := hB1.size
  replace k0 := k0.below hB1 (by omega)
  replace k1 := k1.below hB1 (by omega)
  have hb1 := hb0.trans (hB1.mono (by omega))
  clear hb0 hB1 cL
  have l1 : w.heap.size < W1.heap.size := by omega
  have l2 : w.heap.size + 1 < W1.heap.size := by omega
  have p0 : W1.cell? ⟨w.heap.size, 0, none⟩ = some (.int .u16 pc) := k0.c 0
  have p1 : W1.cell? ⟨w.heap.size, 1, none⟩ = some (.int .u16 (r 0)) := k0.c 1
  have p2 : W1.cell? ⟨w.heap.size, 2, none⟩ = some (.int .u16 (r 1)) := k0.c 2
  have p3 : W1.cell? ⟨w.heap.size, 3, none⟩ = some (.int .u16 (r 2)) := k0.c 3
  have p4 : W1.cell? ⟨w.heap.size, 4, none⟩ = some (.int .u16 (r 3)) := k0.c 4
  have p5 : W1.cell? ⟨w.heap.size, 5, none⟩ = some (.int .u16 (r 4)) := k0.c 5
  have p6 : W1.cell? ⟨w.heap.size, 6, none⟩ = some (.int .u16 (r 5)) := k0.c 6
  have p7 : W1.cell? ⟨w.heap.size, 7, none⟩ = some (.int .u16 (r 6)) := k0.c 7
  have p8 : W1.cell? ⟨w.heap.size, 8, none⟩ = some (.int .u16 (r 7)) := k0.c 8
  have i0 : W1.cell? ⟨w.heap.size + 1, 0, none⟩ = some (.int .u8 o) := k1.c 0
  have i1 : W1.cell? ⟨w.heap.size + 1, 1, none⟩ = some (.int .u8 a) := k1.c 1
  have i2 : W1.cell? ⟨w.heap.size + 1, 2, none⟩ = some (.int .u8 b) := k1.c 2
  have i3 : W1.cell? ⟨w.heap.size + 1, 3, none⟩ = some (.int .u16 m) := k1.c 3
  go_wp2_with fail
  clear p0 p1 p2 p3 p4 p5 p6 p7 p8 i0 i1 i2 i3
  replace k0 := (k0.alloc (.cells #[.int .u16 q, .int .u16 (s 0), .int .u16 (s 1), .int .u16 (s 2), .int .u16 (s 3), .int .u16 (s 4), .int .u16 (s 5), .int .u16 (s 6), .int .u16 (s 7)] 26)).alloc (.cells #[.int .u8 x.1, .int .u16 x.2.1, .int .u16 x.2.2.1, .int .u8 x.2.2.2.1, .int .i64 x.2.2.2.2] 33)
  replace k1 := (k1.alloc (.cells #[.int .u16 q, .int .u16 (s 0), .int .u16 (s 1), .int .u16 (s 2), .int .u16 (s 3), .int .u16 (s 4), .int .u16 (s 5), .int .u16 (s 6), .int .u16 (s 7)] 26)).alloc (.cells #[.int .u8 x.1, .int .u16 x.2.1, .int .u16 x.2.2.1, .int .u8 x.2.2.2.1, .int .i64 x.2.2.2.2] 33)
  have k5 := (Cel.new W1 #[.int .u16 q, .int .u16 (s 0), .int .u16 (s 1), .int .u16 (s 2), .int .u16 (s 3), .int .u16 (s 4), .int .u16 (s 5), .int .u16 (s 6), .int .u16 (s 7)] 26).alloc (.cells #[.int .u8 x.1, .int .u16 x.2.1, .int .u16 x.2.2.1, .int .u8 x.2.2.2.1, .int .i64 x.2.2.2.2] 33)
  have k6 := Cel.new (W1.alloc (.cells #[.int .u16 q, .int .u16 (s 0), .int .u16 (s 1), .int .u16 (s 2), .int .u16 (s 3), .int .u16 (s 4), .int .u16 (s 5), .int .u16 (s 6), .int .u16 (s 7)] 26)) #[.int .u8 x.1, .int .u16 x.2.1, .int .u16 x.2.2.1, .int .u8 x.2.2.2.1, .int .i64 x.2.2.2.2] 33
  rw [World.size_alloc] at k6
  have hb2 := nx (nx hb1 (.cells #[.int .u16 q, .int .u16 (s 0), .int .u16 (s 1), .int .u16 (s 2), .int .u16 (s 3), .int .u16 (s 4), .int .u16 (s 5), .int .u16 (s 6), .int .u16 (s 7)] 26)) (.cells #[.int .u8 x.1, .int .u16 x.2.1, .int .u16 x.2.2.1, .int .u8 x.2.2.2.1, .int .i64 x.2.2.2.2] 33)
  have hs2 : ((W1.alloc (.cells #[.int .u16 q, .int .u16 (s 0), .int .u16 (s 1), .int .u16 (s 2), .int .u16 (s 3), .int .u16 (s 4), .int .u16 (s 5), .int .u16 (s 6), .int .u16 (s 7)] 26)).alloc (.cells #[.int .u8 x.1, .int .u16 x.2.1, .int .u16 x.2.2.1, .int .u8 x.2.2.2.1, .int .i64 x.2.2.2.2] 33)).heap.size = W1.heap.size + 1 + 1 := by simp
  generalize ((W1.alloc (.cells #[.int .u16 q, .int .u16 (s 0), .int .u16 (s 1), .int .u16 (s 2), .int .u16 (s 3), .int .u16 (s 4), .int .u16 (s 5), .int .u16 (s 6), .int .u16 (s 7)] 26)).alloc (.cells #[.int .u8 x.1, .int .u16 x.2.1, .int .u16 x.2.2.1, .int .u8 x.2.2.2.1, .int .i64 x.2.2.2.2] 33)) = W2 at *
  generalize W1.heap.size = B5 at *
  clear hb1
  refine (cM _).mono ?_
  rintro e1 W3 ⟨rfl, hB3⟩
  have hs3 := hB3.size
  replace k5 := k5.below hB3 (by omega)
  replace k6 := k6.below hB3 (by omega)
  have hb3 := hb2.trans (hB3.mono (by omega))
  clear hb2 hB3 cM k0 k1
  go_wp2_with fail
  replace k5 := (k5.alloc (.cells #[.int .u16 q, .int .u16 (s 0), .int .u16 (s 1), .int .u16 (s 2), .int .u16 (s 3), .int .u16 (s 4), .int .u16 (s 5), .int .u16 (s 6), .int .u16 (s 7)] 26)).alloc (.cells #[.int .u8 x.1, .int .u16 x.2.1, .int .u16 x.2.2.1, .int .u8 x.2.2.2.1, .int .i64 x.2.2.2.2] 33)
  replace k6 := (k6.alloc (.cells #[.int .u16 q, .int .u16 (s 0), .int .u16 (s 1), .int .u16 (s 2), .int .u16 (s 3), .int .u16 (s 4), .int .u16 (s 5), .int .u16 (s 6), .int .u16 (s 7)] 26)).alloc (.cells #[.int .u8 x.1, .int .u16 x.2.1, .int .u16 x.2.2.1, .int .u8 x.2.2.2.1, .int .i64 x.2.2.2.2] 33)
  have k7 := (Cel.new W3 #[.int .u16 q, .int .u16 (s 0), .int .u16 (s 1), .int .u16 (s 2), .int .u16 (s 3), .int .u16 (s 4), .int .u16 (s 5), .int .u16 (s 6), .int .u16 (s 7)] 26).alloc (.cells #[.int .u8 x.1, .int .u16 x.2.1, .int .u16 x.2.2.1, .int .u8 x.2.2.2.1, .int .i64 x.2.2.2.2] 33)
  have k8 := Cel.new (W3.alloc (.cells #[.int .u16 q, .int .u16 (s 0), .int .u16 (s 1), .int .u16 (s 2), .int .u16 (s 3), .int .u16 (s 4), .int .u16 (s 5), .int .u16 (s 6), .int .u16 (s 7)] 26)) #[.int .u8 x.1, .int .u16 x.2.1, .int .u16 x.2.2.1, .int .u8 x.2.2.2.1, .int .i64 x.2.2.2.2] 33
  rw [World.size_alloc] at k8
  have hb4 := nx (nx hb3 (.cells #[.int .u16 q, .int .u16 (s 0), .int .u16 (s 1), .int .u16 (s 2), .int .u16 (s 3), .int .u16 (s 4), .int .u16 (s 5), .int .u16 (s 6), .int .u16 (s 7)] 26)) (.cells #[.int .u8 x.1, .int .u16 x.2.1, .int .u16 x.2.2.1, .int .u8 x.2.2.2.1, .int .i64 x.2.2.2.2] 33)
  have hs4 : ((W3.alloc (.cells #[.int .u16 q, .int .u16 (s 0), .int .u16 (s 1), .int .u16 (s 2), .int .u16 (s 3), .int .u16 (s 4), .int .u16 (s 5), .int .u16 (s 6), .int .u16 (s 7)] 26)).alloc (.cells #[.int .u8 x.1, .int .u16 x.2.1, .int .u16 x.2.2.1, .int .u8 x.2.2.2.1, .int .i64 x.2.2.2.2] 33)).heap.size = W3.heap.size + 1 + 1 := by simp
  generalize ((W3.alloc (.cells #[.int .u16 q, .int .u16 (s 0), .int .u16 (s 1), .int .u16 (s 2), .int .u16 (s 3), .int .u16 (s 4), .int .u16 (s 5), .int .u16 (s 6), .int .u16 (s 7)] 26)).alloc (.cells #[.int .u8 x.1, .int .u16 x.2.1, .int .u16 x.2.2.1, .int .u8 x.2.2.2.1, .int .i64 x.2.2.2.2] 33)) = W4 at *
  generalize W3.heap.size = B7 at *
  clear hb3
  refine (cV _).mono ?_
  rintro e1 W5 ⟨rfl, hB5⟩
  have hs5 := hB5.size
  replace k5 := k5.below hB5 (by omega)
  replace k6 := k6.below hB5 (by omega)
  replace k7 := k7.below hB5 (by omega)
  replace k8 := k8.below hB5 (by omega)
  have hb5 := hb4.trans (hB5.mono (by omega))
  clear hb4 hB5 cV
  have p0 : W5.cell? ⟨B5, 0, none⟩ = some (.int .u16 q) := k5.c 0
  have p1 : W5.cell? ⟨B5, 1, none⟩ = some (.int .u16 (s 0)) := k5.c 1
  have p2 : W5.cell? ⟨B5, 2, none⟩ = some (.int .u16 (s 1)) := k5.c 2
  have p3 : W5.cell? ⟨B5, 3, none⟩ = some (.int .u16 (s 2)) := k5.c 3
  have p4 : W5.cell? ⟨B5, 4, none⟩ = some (.int .u16 (s 3)) := k5.c 4
  have p5 : W5.cell? ⟨B5, 5, none⟩ = some (.int .u16 (s 4)) := k5.c 5
  have p6 : W5.cell? ⟨B5, 6, none⟩ = some (.int .u16 (s 5)) := k5.c 6
  have p7 : W5.cell? ⟨B5, 7, none⟩ = some (.int .u16 (s 6)) := k5.c 7
  have p8 : W5.cell? ⟨B5, 8, none⟩ = some (.int .u16 (s 7)) := k5.c 8
  have i0 : W5.cell? ⟨B5 + 1, 0, none⟩ = some (.int .u8 x.1) := k6.c 0
  have i1 : W5.cell? ⟨B5 + 1, 1, none⟩ = some (.int .u16 x.2.1) := k6.c 1
  have i2 : W5.cell? ⟨B5 + 1, 2, none⟩ = some (.int .u16 x.2.2.1) := k6.c 2
  have i3 : W5.cell? ⟨B5 + 1, 3, none⟩ = some (.int .u8 x.2.2.2.1) := k6.c 3
  have i4 : W5.cell? ⟨B5 + 1, 4, none⟩ = some (.int .i64 x.2.2.2.2) := k6.c 4
  have q0 : W5.cell? ⟨B7, 0, none⟩ = some (.int .u16 q) := k7.c 0
  have q1 : W5.cell? ⟨B7, 1, none⟩ = some (.int .u16 (s 0)) := k7.c 1
  have q2 : W5.cell? ⟨B7, 2, none⟩ = some (.int .u16 (s 1)) := k7.c 2
  have q3 : W5.cell? ⟨B7, 3, none⟩ = some (.int .u16 (s 2)) := k7.c 3
  have q4 : W5.cell? ⟨B7, 4, none⟩ = some (.int .u16 (s 3)) := k7.c 4
  have q5 : W5.cell? ⟨B7, 5, none⟩ = some (.int .u16 (s 4)) := k7.c 5
  have q6 : W5.cell? ⟨B7, 6, none⟩ = some (.int .u16 (s 5)) := k7.c 6
  have q7 : W5.cell? ⟨B7, 7, none⟩ = some (.int .u16 (s 6)) := k7.c 7
  have q8 : W5.cell? ⟨B7, 8, none⟩ = some (.int .u16 (s 7)) := k7.c 8
  have u0 : W5.cell? ⟨B7 + 1, 0, none⟩ = some (.int .u8 x.1) := k8.c 0
  have u1 : W5.cell? ⟨B7 + 1, 1, none⟩ = some (.int .u16 x.2.1) := k8.c 1
  have u2 : W5.cell? ⟨B7 + 1, 2, none⟩ = some (.int .u16 x.2.2.1) := k8.c 2
  have u3 : W5.cell? ⟨B7 + 1, 3, none⟩ = some (.int .u8 x.2.2.2.1) := k8.c 3
  have u4 : W5.cell? ⟨B7 + 1, 4, none⟩ = some (.int .i64 x.2.2.2.2) := k8.c 4
  clear k5 k6 k7 k8
  go_wp2
  go_ret
  exact ⟨rfl, hb5⟩
end Go.Proofs.YtmndilhpmbpghaaDoor
