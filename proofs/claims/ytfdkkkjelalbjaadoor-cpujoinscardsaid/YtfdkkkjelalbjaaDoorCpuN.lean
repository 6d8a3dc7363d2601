/- What an instruction does, all operations: the document. -/
import Derived.Test.YtfdkkkjelalbjaaDoorCpuMa
import Derived.Test.YtfdkkkjelalbjaaDoorCpuMb
import Derived.Test.YtfdkkkjelalbjaaDoorCpuMc
import Derived.Test.YtfdkkkjelalbjaaDoorCpuMd
namespace Go.Proofs.YtfdkkkjelalbjaaDoor
open Go.RowKit
set_option linter.unusedVariables false
set_option maxRecDepth 100000

set_option maxHeartbeats 4000000 in
theorem rexec_no (pc : Int) (r : Nat → Int) (o a b m : Int) (w : World) (hO : InsOk o a b m) (hR : insR o a b m = false) :
    Calls Tryd.prog 13 #[rgV pc r, insV o a b m] w fun e w' => e = .returned (execV (execP pc r o a b m)) ∧ Below w.heap.size w w' := by
  have cR := fun w => rright_any o a b m w hO.1 hO.2.1
  rw [hR] at cR
  obtain ⟨W1, hW1, k0, k2, k3, hB1, hs1⟩ := w0_cells pc r o a b m w
  unfold execP
  rw [if_pos hR]
  unfold execV
  unfold rgV insV
  go_enter Tryd.func13, Tryd.ntmps13
  go_wp2_with fail
  rw [← hW1]
  clear hW1
  refine (cR _).mono ?_
  rintro e W2 ⟨rfl, hB2⟩
  have j0 := k0.below hB2 (by omega)
  have j2 := k2.below hB2 (by omega)
  have j3 := k3.below hB2 (by omega)
  have hb3 := hB1.trans (hB2.mono (by omega))
  clear k0 k2 k3 hB2 hB1 cR
  have p0 : W2.cell? ⟨w.heap.size, 0, none⟩ = some (.int .u16 pc) := j0.c 0
  have p1 : W2.cell? ⟨w.heap.size, 1, none⟩ = some (.int .u16 (r 0)) := j0.c 1
  have p2 : W2.cell? ⟨w.heap.size, 2, none⟩ = some (.int .u16 (r 1)) := j0.c 2
  have p3 : W2.cell? ⟨w.heap.size, 3, none⟩ = some (.int .u16 (r 2)) := j0.c 3
  have p4 : W2.cell? ⟨w.heap.size, 4, none⟩ = some (.int .u16 (r 3)) := j0.c 4
  have p5 : W2.cell? ⟨w.heap.size, 5, none⟩ = some (.int .u16 (r 4)) := j0.c 5
  have p6 : W2.cell? ⟨w.heap.size, 6, none⟩ = some (.int .u16 (r 5)) := j0.c 6
  have p7 : W2.cell? ⟨w.heap.size, 7, none⟩ = some (.int .u16 (r 6)) := j0.c 7
  have p8 : W2.cell? ⟨w.heap.size, 8, none⟩ = some (.int .u16 (r 7)) := j0.c 8
  have q0 : W2.cell? ⟨w.heap.size + 1 + 1, 0, none⟩ = some (.int .u16 0) := j2.c 0
  have q1 : W2.cell? ⟨w.heap.size + 1 + 1, 1, none⟩ = some (.int .u16 0) := j2.c 1
  have q2 : W2.cell? ⟨w.heap.size + 1 + 1, 2, none⟩ = some (.int .u16 0) := j2.c 2
  have q3 : W2.cell? ⟨w.heap.size + 1 + 1, 3, none⟩ = some (.int .u16 0) := j2.c 3
  have q4 : W2.cell? ⟨w.heap.size + 1 + 1, 4, none⟩ = some (.int .u16 0) := j2.c 4
  have q5 : W2.cell? ⟨w.heap.size + 1 + 1, 5, none⟩ = some (.int .u16 0) := j2.c 5
  have q6 : W2.cell? ⟨w.heap.size + 1 + 1, 6, none⟩ = some (.int .u16 0) := j2.c 6
  have q7 : W2.cell? ⟨w.heap.size + 1 + 1, 7, none⟩ = some (.int .u16 0) := j2.c 7
  have q8 : W2.cell? ⟨w.heap.size + 1 + 1, 8, none⟩ = some (.int .u16 0) := j2.c 8
  have u0 : W2.cell? ⟨w.heap.size + 1 + 1 + 1, 0, none⟩ = some (.int .u8 0) := j3.c 0
  have u1 : W2.cell? ⟨w.heap.size + 1 + 1 + 1, 1, none⟩ = some (.int .u16 0) := j3.c 1
  have u2 : W2.cell? ⟨w.heap.size + 1 + 1 + 1, 2, none⟩ = some (.int .u16 0) := j3.c 2
  have u3 : W2.cell? ⟨w.heap.size + 1 + 1 + 1, 3, none⟩ = some (.int .u8 0) := j3.c 3
  have u4 : W2.cell? ⟨w.heap.size + 1 + 1 + 1, 4, none⟩ = some (.int .i64 0) := j3.c 4
  have f2 := j2.f
  have f3 := j3.f
  clear j0 j2 j3
  go_wp2_with fail
  exact bodyPost_ret (v := .tuple #[rgV pc r, accV (7, 0, 0, 0, 3)]) (by simp [results, Tryd.results13, go_sem, accV, rgV, q0, q1, q2, q3, q4, q5, q6, q7, q8, u0, u1, u2, u3, u4]) rfl ⟨rfl, bsx (bsx (bsx (bsx (bsx (bsx (bsx (bsx (bsx (bsx (bsx (bsx (bsx (bsx (hb3) (by omega) _ _) (by omega) _ _) (by omega) _ _) (by omega) _ _) (by omega) _ _) (by omega) _ _) (by omega) _ _) (by omega) _ _) (by omega) _ _) (by omega) _ _) (by omega) _ _) (by omega) _ _) (by omega) _ _) (by omega) _ _⟩
theorem rexec_any (pc : Int) (r : Nat → Int) (o a b m : Int) (w : World) (hp : Wd pc) (hr : ∀ k, Wd (r k)) (hO : InsOk o a b m) :
    Calls Tryd.prog 13 #[rgV pc r, insV o a b m] w fun e w' => e = .returned (execV (execP pc r o a b m)) ∧ Below w.heap.size w w' := by
  cases hR : insR o a b m with
  | false => exact rexec_no pc r o a b m w hO hR
  | true =>
    obtain ⟨⟨h23, ha, hb⟩, _⟩ := (insR_iff o a b m).1 hR
    have h0 := hO.1
    have hc : o = 0 ∨ o = 1 ∨ o = 2 ∨ o = 3 ∨ o = 4 ∨ o = 5 ∨ o = 6 ∨ o = 7 ∨ o = 8 ∨ o = 9 ∨ o = 10 ∨ o = 11 ∨ o = 12 ∨ o = 13 ∨ o = 14 ∨ o = 15 ∨ o = 16 ∨ o = 17 ∨ o = 18 ∨ o = 19 ∨ o = 20 ∨ o = 21 ∨ o = 22 ∨ o = 23 := by omega
    rcases hc with rfl | rfl | rfl | rfl | rfl | rfl | rfl | rfl | rfl | rfl | rfl | rfl | rfl | rfl | rfl | rfl | rfl | rfl | rfl | rfl | rfl | rfl | rfl | rfl
    · exact rexec_0 pc r a b m w hp hr hO hR ha hb
    · exact rexec_1 pc r a b m w hp hr hO hR ha hb
    · exact rexec_2 pc r a b m w hp hr hO hR ha hb
    · exact rexec_3 pc r a b m w hp hr hO hR ha hb
    · exact rexec_4 pc r a b m w hp hr hO hR ha hb
    · exact rexec_5 pc r a b m w hp hr hO hR ha hb
    · exact rexec_6 pc r a b m w hp hr hO hR ha hb
    · by_cases hz : r b.toNat = 0
      · exact rexec_7z pc r a b m w hp hr hO hR ha hb hz
      · exact rexec_7n pc r a b m w hp hr hO hR ha hb hz
    · exact rexec_8 pc r a b m w hp hr hO hR ha hb
    · exact rexec_9 pc r a b m w hp hr hO hR ha hb
    · exact rexec_10 pc r a b m w hp hr hO hR ha hb
    · exact rexec_11 pc r a b m w hp hr hO hR ha hb
    · exact rexec_12 pc r a b m w hp hr hO hR ha hb
    · exact rexec_13 pc r a b m w hp hr hO hR ha hb
    · exact rexec_14 pc r a b m w hp hr hO hR ha hb
    · exact rexec_15 pc r a b m w hp hr hO hR ha hb
    · exact rexec_16 pc r a b m w hp hr hO hR ha hb
    · exact rexec_17 pc r a b m w hp hr hO hR ha hb
    · exact rexec_18 pc r a b m w hp hr hO hR ha hb
    · exact rexec_19 pc r a b m w hp hr hO hR ha hb
    · exact rexec_20 pc r a b m w hp hr hO hR ha hb
    · exact rexec_21 pc r a b m w hp hr hO hR ha hb
    · exact rexec_22 pc r a b m w hp hr hO hR ha hb
    · exact rexec_23 pc r a b m w hp hr hO hR ha hb
end Go.Proofs.YtfdkkkjelalbjaaDoor
