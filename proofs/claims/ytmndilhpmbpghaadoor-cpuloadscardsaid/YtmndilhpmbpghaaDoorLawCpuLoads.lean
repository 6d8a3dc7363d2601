/- CpuLoads: a register that was loaded, the address of the next instruction, or the errors. -/
import Derived.Test.YtmndilhpmbpghaaDoorCpuQ
import Derived.Test.YtmndilhpmbpghaaDoorCpuR
import Derived.Test.YtmndilhpmbpghaaDoorCpuEq
namespace Go.Proofs.YtmndilhpmbpghaaDoor
open Go.RowKit
set_option linter.unusedVariables false
set_option maxRecDepth 100000

theorem load_form (pc : Int) (r : Nat → Int) (g v : Int) : ∃ q s e, loadV pc r g v = .tuple #[rgV q s, .int .i64 e] := by
  unfold loadV
  split
  · exact ⟨_, _, _, rfl⟩
  · exact ⟨_, _, _, rfl⟩
theorem fetch_form (pc : Int) : ∃ x e, fetchV pc = .tuple #[.int .u16 x, .int .i64 e] := by
  unfold fetchV
  split
  · exact ⟨_, _, rfl⟩
  · exact ⟨_, _, rfl⟩
set_option maxHeartbeats 4000000 in
theorem cloads_law (pc : Int) (r : Nat → Int) (g v : Int) (w : World) (hp : Wd pc) (hr : ∀ k, Wd (r k)) (hg : 0 ≤ g) :
    Calls Tryd.prog 4 #[rgV pc r, .int .u8 g, .int .u16 v] w fun e w' => e = .returned (.bool true) ∧ Below w.heap.size w w' := by
  have cL := fun w => load_any pc r g v w hg
  have cM := fun w => rload_any pc r g v w hg
  have cF := fun w => fetch_any pc r w hp
  have cG := fun w => rfetch_any pc r w hp
  have cV := clive_any
  obtain ⟨q, s, e, he⟩ := load_form pc r g v
  obtain ⟨x, f, hf⟩ := fetch_form pc
  rw [he] at cL cM
  rw [hf] at cF cG
  clear he hf
  have eR := fun w => eqRgs w q s
  have eG := eqGuardR
  unfold rgV at *
  have k0 := Cel.new w #[.int .u16 pc, .int .u16 (r 0), .int .u16 (r 1), .int .u16 (r 2), .int .u16 (r 3), .int .u16 (r 4), .int .u16 (r 5), .int .u16 (r 6), .int .u16 (r 7)] 26
  have hb0 := nx (Below.refl _ w) (.cells #[.int .u16 pc, .int .u16 (r 0), .int .u16 (r 1), .int .u16 (r 2), .int .u16 (r 3), .int .u16 (r 4), .int .u16 (r 5), .int .u16 (r 6), .int .u16 (r 7)] 26)
  have hs0 : (w.alloc (.cells #[.int .u16 pc, .int .u16 (r 0), .int .u16 (r 1), .int .u16 (r 2), .int .u16 (r 3), .int .u16 (r 4), .int .u16 (r 5), .int .u16 (r 6), .int .u16 (r 7)] 26)).heap.size = w.heap.size + 1 := by simp
  go_enter Tryd.func4, Tryd.ntmps4
  go_wp2_with fail
  generalize (w.alloc (.cells #[.int .u16 pc, .int .u16 (r 0), .int .u16 (r 1), .int .u16 (r 2), .int .u16 (r 3), .int .u16 (r 4), .int .u16 (r 5), .int .u16 (r 6), .int .u16 (r 7)] 26)) = W0 at *
  refine (cL _).mono ?_
  rintro e1 W1 ⟨rfl, hB1⟩
  have hs1 := hB1.size
  replace k0 := k0.below hB1 (by omega)
  have hb1 := hb0.trans (hB1.mono (by omega))
  clear hb0 hB1 cL
  have l1 : w.heap.size < W1.heap.size := by omega
  have p0 : W1.cell? ⟨w.heap.size, 0, none⟩ = some (.int .u16 pc) := k0.c 0
  have p1 : W1.cell? ⟨w.heap.size, 1, none⟩ = some (.int .u16 (r 0)) := k0.c 1
  have p2 : W1.cell? ⟨w.heap.size, 2, none⟩ = some (.int .u16 (r 1)) := k0.c 2
  have p3 : W1.cell? ⟨w.heap.size, 3, none⟩ = some (.int .u16 (r 2)) := k0.c 3
  have p4 : W1.cell? ⟨w.heap.size, 4, none⟩ = some (.int .u16 (r 3)) := k0.c 4
  have p5 : W1.cell? ⟨w.heap.size, 5, none⟩ = some (.int .u16 (r 4)) := k0.c 5
  have p6 : W1.cell? ⟨w.heap.size, 6, none⟩ = some (.int .u16 (r 5)) := k0.c 6
  have p7 : W1.cell? ⟨w.heap.size, 7, none⟩ = some (.int .u16 (r 6)) := k0.c 7
  have p8 : W1.cell? ⟨w.heap.size, 8, none⟩ = some (.int .u16 (r 7)) := k0.c 8
  go_wp2_with fail
  clear p0 p1 p2 p3 p4 p5 p6 p7 p8
  replace k0 := k0.alloc (.cells #[.int .u16 q, .int .u16 (s 0), .int .u16 (s 1), .int .u16 (s 2), .int .u16 (s 3), .int .u16 (s 4), .int .u16 (s 5), .int .u16 (s 6), .int .u16 (s 7)] 26)
  have k7 := Cel.new W1 #[.int .u16 q, .int .u16 (s 0), .int .u16 (s 1), .int .u16 (s 2), .int .u16 (s 3), .int .u16 (s 4), .int .u16 (s 5), .int .u16 (s 6), .int .u16 (s 7)] 26
  have hb2 := nx hb1 (.cells #[.int .u16 q, .int .u16 (s 0), .int .u16 (s 1), .int .u16 (s 2), .int .u16 (s 3), .int .u16 (s 4), .int .u16 (s 5), .int .u16 (s 6), .int .u16 (s 7)] 26)
  have hs2 : (W1.alloc (.cells #[.int .u16 q, .int .u16 (s 0), .int .u16 (s 1), .int .u16 (s 2), .int .u16 (s 3), .int .u16 (s 4), .int .u16 (s 5), .int .u16 (s 6), .int .u16 (s 7)] 26)).heap.size = W1.heap.size + 1 := by simp
  generalize (W1.alloc (.cells #[.int .u16 q, .int .u16 (s 0), .int .u16 (s 1), .int .u16 (s 2), .int .u16 (s 3), .int .u16 (s 4), .int .u16 (s 5), .int .u16 (s 6), .int .u16 (s 7)] 26)) = W2 at *
  generalize W1.heap.size = B7 at *
  clear hb1
  refine (cM _).mono ?_
  rintro e1 W3 ⟨rfl, hB3⟩
  have hs3 := hB3.size
  replace k0 := k0.below hB3 (by omega)
  replace k7 := k7.below hB3 (by omega)
  have hb3 := hb2.trans (hB3.mono (by omega))
  clear hb2 hB3 cM
  have l3 : w.heap.size < W3.heap.size := by omega
  have p0 : W3.cell? ⟨w.heap.size, 0, none⟩ = some (.int .u16 pc) := k0.c 0
  have p1 : W3.cell? ⟨w.heap.size, 1, none⟩ = some (.int .u16 (r 0)) := k0.c 1
  have p2 : W3.cell? ⟨w.heap.size, 2, none⟩ = some (.int .u16 (r 1)) := k0.c 2
  have p3 : W3.cell? ⟨w.heap.size, 3, none⟩ = some (.int .u16 (r 2)) := k0.c 3
  have p4 : W3.cell? ⟨w.heap.size, 4, none⟩ = some (.int .u16 (r 3)) := k0.c 4
  have p5 : W3.cell? ⟨w.heap.size, 5, none⟩ = some (.int .u16 (r 4)) := k0.c 5
  have p6 : W3.cell? ⟨w.heap.size, 6, none⟩ = some (.int .u16 (r 5)) := k0.c 6
  have p7 : W3.cell? ⟨w.heap.size, 7, none⟩ = some (.int .u16 (r 6)) := k0.c 7
  have p8 : W3.cell? ⟨w.heap.size, 8, none⟩ = some (.int .u16 (r 7)) := k0.c 8
  go_wp2_with fail
  clear p0 p1 p2 p3 p4 p5 p6 p7 p8
  replace k0 := k0.alloc (.cells #[.int .u16 q, .int .u16 (s 0), .int .u16 (s 1), .int .u16 (s 2), .int .u16 (s 3), .int .u16 (s 4), .int .u16 (s 5), .int .u16 (s 6), .int .u16 (s 7)] 26)
  replace k7 := k7.alloc (.cells #[.int .u16 q, .int .u16 (s 0), .int .u16 (s 1), .int .u16 (s 2), .int .u16 (s 3), .int .u16 (s 4), .int .u16 (s 5), .int .u16 (s 6), .int .u16 (s 7)] 26)
  have k9 := Cel.new W3 #[.int .u16 q, .int .u16 (s 0), .int .u16 (s 1), .int .u16 (s 2), .int .u16 (s 3), .int .u16 (s 4), .int .u16 (s 5), .int .u16 (s 6), .int .u16 (s 7)] 26
  have hb4 := nx hb3 (.cells #[.int .u16 q, .int .u16 (s 0), .int .u16 (s 1), .int .u16 (s 2), .int .u16 (s 3), .int .u16 (s 4), .int .u16 (s 5), .int .u16 (s 6), .int .u16 (s 7)] 26)
  have hs4 : (W3.alloc (.cells #[.int .u16 q, .int .u16 (s 0), .int .u16 (s 1), .int .u16 (s 2), .int .u16 (s 3), .int .u16 (s 4), .int .u16 (s 5), .int .u16 (s 6), .int .u16 (s 7)] 26)).heap.size = W3.heap.size + 1 := by simp
  generalize (W3.alloc (.cells #[.int .u16 q, .int .u16 (s 0), .int .u16 (s 1), .int .u16 (s 2), .int .u16 (s 3), .int .u16 (s 4), .int .u16 (s 5), .int .u16 (s 6), .int .u16 (s 7)] 26)) = W4 at *
  generalize W3.heap.size = B9 at *
  clear hb3
  refine (cF _).mono ?_
  rintro e1 W5 ⟨rfl, hB5⟩
  have hs5 := hB5.size
  replace k0 := k0.below hB5 (by omega)
  replace k7 := k7.below hB5 (by omega)
  replace k9 := k9.below hB5 (by omega)
  have hb5 := hb4.trans (hB5.mono (by omega))
  clear hb4 hB5 cF
  have p0 : W5.cell? ⟨w.heap.size, 0, none⟩ = some (.int .u16 pc) := k0.c 0
  have p1 : W5.cell? ⟨w.heap.size, 1, none⟩ = some (.int .u16 (r 0)) := k0.c 1
  have p2 : W5.cell? ⟨w.heap.size, 2, none⟩ = some (.int .u16 (r 1)) := k0.c 2
  have p3 : W5.cell? ⟨w.heap.size, 3, none⟩ = some (.int .u16 (r 2)) := k0.c 3
  have p4 : W5.cell? ⟨w.heap.size, 4, none⟩ = some (.int .u16 (r 3)) := k0.c 4
  have p5 : W5.cell? ⟨w.heap.size, 5, none⟩ = some (.int .u16 (r 4)) := k0.c 5
  have p6 : W5.cell? ⟨w.heap.size, 6, none⟩ = some (.int .u16 (r 5)) := k0.c 6
  have p7 : W5.cell? ⟨w.heap.size, 7, none⟩ = some (.int .u16 (r 6)) := k0.c 7
  have p8 : W5.cell? ⟨w.heap.size, 8, none⟩ = some (.int .u16 (r 7)) := k0.c 8
  go_wp2_with fail
  clear p0 p1 p2 p3 p4 p5 p6 p7 p8
  refine (cG _).mono ?_
  rintro e1 W6 ⟨rfl, hB6⟩
  have hs6 := hB6.size
  replace k7 := k7.below hB6 (by omega)
  replace k9 := k9.below hB6 (by omega)
  have hb6 := hb5.trans (hB6.mono (by omega))
  clear hb5 hB6 cG k0
  go_wp2_with fail
  refine (cV _).mono ?_
  rintro e1 W7 ⟨rfl, hB7⟩
  have hs7 := hB7.size
  replace k7 := k7.below hB7 (by omega)
  replace k9 := k9.below hB7 (by omega)
  have hb7 := hb6.trans (hB7.mono (by omega))
  clear hb6 hB7 cV
  have p0 : W7.cell? ⟨B7, 0, none⟩ = some (.int .u16 q) := k7.c 0
  have p1 : W7.cell? ⟨B7, 1, none⟩ = some (.int .u16 (s 0)) := k7.c 1
  have p2 : W7.cell? ⟨B7, 2, none⟩ = some (.int .u16 (s 1)) := k7.c 2
  have p3 : W7.cell? ⟨B7, 3, none⟩ = some (.int .u16 (s 2)) := k7.c 3
  have p4 : W7.cell? ⟨B7, 4, none⟩ = some (.int .u16 (s 3)) := k7.c 4
  have p5 : W7.cell? ⟨B7, 5, none⟩ = some (.int .u16 (s 4)) := k7.c 5
  have p6 : W7.cell? ⟨B7, 6, none⟩ = some (.int .u16 (s 5)) := k7.c 6
  have p7 : W7.cell? ⟨B7, 7, none⟩ = some (.int .u16 (s 6)) := k7.c 7
  have p8 : W7.cell? ⟨B7, 8, none⟩ = some (.int .u16 (s 7)) := k7.c 8
  have q0 : W7.cell? ⟨B9, 0, none⟩ = some (.int .u16 q) := k9.c 0
  have q1 : W7.cell? ⟨B9, 1, none⟩ = some (.int .u16 (s 0)) := k9.c 1
  have q2 : W7.cell? ⟨B9, 2, none⟩ = some (.int .u16 (s 1)) := k9.c 2
  have q3 : W7.cell? ⟨B9, 3, none⟩ = some (.int .u16 (s 2)) := k9.c 3
  have q4 : W7.cell? ⟨B9, 4, none⟩ = some (.int .u16 (s 3)) := k9.c 4
  have q5 : W7.cell? ⟨B9, 5, none⟩ = some (.int .u16 (s 4)) := k9.c 5
  have q6 : W7.cell? ⟨B9, 6, none⟩ = some (.int .u16 (s 5)) := k9.c 6
  have q7 : W7.cell? ⟨B9, 7, none⟩ = some (.int .u16 (s 6)) := k9.c 7
  have q8 : W7.cell? ⟨B9, 8, none⟩ = some (.int .u16 (s 7)) := k9.c 8
  clear k7 k9
  go_wp2
  go_ret
  exact ⟨rfl, hb7⟩
end Go.Proofs.YtmndilhpmbpghaaDoor
