/- Registers as text: the program. -/
import Derived.Test.YtbjklpdloglniaaDoorCpuJ
import Derived.Test.YtbjklpdloglniaaDoorHexW
import Derived.Test.YtbjklpdloglniaaDoorShelf
namespace Go.Proofs.YtbjklpdloglniaaDoor
open Go.RowKit
set_option linter.unusedVariables false
set_option maxRecDepth 100000

def pcT (pc : Int) : ByteArray := ⟨#[112, 99, 61]⟩ ++ hexV pc
def regT (j : Nat) (v : Int) : ByteArray := ⟨#[114]⟩ ++ ⟨#[48 + UInt8.ofNat j]⟩ ++ ⟨#[61]⟩ ++ hexV v
/-- The text of a register, where so many are laid. -/
def rT (r : Nat → Int) (k j : Nat) : ByteArray := if j < k then regT j (r j) else ⟨#[]⟩
theorem itoa_dig (k : Nat) (hk : k < 8) : ∀ w : World, Calls Tryd.prog 34 #[.int .i64 (k : Int)] w fun e w' => e = .returned (.string ⟨#[48 + UInt8.ofNat k]⟩) ∧ w' = w := by
  intro w
  have h := Tryd.strconv_Itoa_small k (by omega) w
  have e : (Lib.decDigits k).toArray = #[48 + UInt8.ofNat k] := by
    revert k
    exact eight (fun _ => by simp [Lib.decDigits]) (fun _ => by simp [Lib.decDigits]) (fun _ => by simp [Lib.decDigits]) (fun _ => by simp [Lib.decDigits]) (fun _ => by simp [Lib.decDigits]) (fun _ => by simp [Lib.decDigits]) (fun _ => by simp [Lib.decDigits]) (fun _ => by simp [Lib.decDigits])
  rw [e] at h
  exact h
theorem index_at (r : Nat → Int) (k : Nat) (hk : k < 8) : ∀ w : World, (Instr.index 24 (.agg #[.int .u16 (r 0), .int .u16 (r 1), .int .u16 (r 2), .int .u16 (r 3), .int .u16 (r 4), .int .u16 (r 5), .int .u16 (r 6), .int .u16 (r 7)]) (.int .i64 (k : Int))).run Tryd.prog w = .ok (.int .u16 (r k)) w := by
  revert k
  exact eight (fun w => by kernel_rfl) (fun w => by kernel_rfl) (fun w => by kernel_rfl) (fun w => by kernel_rfl) (fun w => by kernel_rfl) (fun w => by kernel_rfl) (fun w => by kernel_rfl) (fun w => by kernel_rfl)
theorem tx_set (pc : Int) (r : Nat → Int) (k : Nat) (hk : k < 8) : (#[.string (pcT pc), .string (rT r k 0), .string (rT r k 1), .string (rT r k 2), .string (rT r k 3), .string (rT r k 4), .string (rT r k 5), .string (rT r k 6), .string (rT r k 7)] : Array Value).setIfInBounds (1 + k) (.string (regT k (r k))) = #[.string (pcT pc), .string (rT r (k + 1) 0), .string (rT r (k + 1) 1), .string (rT r (k + 1) 2), .string (rT r (k + 1) 3), .string (rT r (k + 1) 4), .string (rT r (k + 1) 5), .string (rT r (k + 1) 6), .string (rT r (k + 1) 7)] := by
  revert k
  exact eight rfl rfl rfl rfl rfl rfl rfl rfl
theorem tx_at (pc : Int) (r : Nat → Int) (n k : Nat) (hk : k < 8) : (#[.string (pcT pc), .string (rT r n 0), .string (rT r n 1), .string (rT r n 2), .string (rT r n 3), .string (rT r n 4), .string (rT r n 5), .string (rT r n 6), .string (rT r n 7)] : Array Value)[1 + k]? = some (.string (rT r n k)) := by
  revert k
  exact eight rfl rfl rfl rfl rfl rfl rfl rfl
set_option maxHeartbeats 4000000 in
theorem show_any (pc : Int) (r : Nat → Int) (w : World) (hp : Wd pc) (hr : ∀ k, Wd (r k)) :
    Calls Tryd.prog 24 #[rgV pc r] w fun e w' => e = .returned (.agg #[.string (pcT pc), .string (rT r 8 0), .string (rT r 8 1), .string (rT r 8 2), .string (rT r 8 3), .string (rT r 8 4), .string (rT r 8 5), .string (rT r 8 6), .string (rT r 8 7)]) ∧ Below w.heap.size w w' := by
  have cP := fun w => hex_any pc w hp.1 hp.2
  have cA : Cel ((w.alloc (.cells #[.int .u16 pc, .int .u16 (r 0), .int .u16 (r 1), .int .u16 (r 2), .int .u16 (r 3), .int .u16 (r 4), .int .u16 (r 5), .int .u16 (r 6), .int .u16 (r 7)] 26)).alloc (.cells #[.string ⟨#[]⟩, .string ⟨#[]⟩, .string ⟨#[]⟩, .string ⟨#[]⟩, .string ⟨#[]⟩, .string ⟨#[]⟩, .string ⟨#[]⟩, .string ⟨#[]⟩, .string ⟨#[]⟩] 81)) (w.heap.size) #[.int .u16 pc, .int .u16 (r 0), .int .u16 (r 1), .int .u16 (r 2), .int .u16 (r 3), .int .u16 (r 4), .int .u16 (r 5), .int .u16 (r 6), .int .u16 (r 7)] 26 := (Cel.new w _ _).alloc _
  have cB : Cel ((w.alloc (.cells #[.int .u16 pc, .int .u16 (r 0), .int .u16 (r 1), .int .u16 (r 2), .int .u16 (r 3), .int .u16 (r 4), .int .u16 (r 5), .int .u16 (r 6), .int .u16 (r 7)] 26)).alloc (.cells #[.string ⟨#[]⟩, .string ⟨#[]⟩, .string ⟨#[]⟩, .string ⟨#[]⟩, .string ⟨#[]⟩, .string ⟨#[]⟩, .string ⟨#[]⟩, .string ⟨#[]⟩, .string ⟨#[]⟩] 81)) (w.heap.size + 1) #[.string ⟨#[]⟩, .string ⟨#[]⟩, .string ⟨#[]⟩, .string ⟨#[]⟩, .string ⟨#[]⟩, .string ⟨#[]⟩, .string ⟨#[]⟩, .string ⟨#[]⟩, .string ⟨#[]⟩] 81 := by
    have h := Cel.new (w.alloc (.cells #[.int .u16 pc, .int .u16 (r 0), .int .u16 (r 1), .int .u16 (r 2), .int .u16 (r 3), .int .u16 (r 4), .int .u16 (r 5), .int .u16 (r 6), .int .u16 (r 7)] 26)) #[.string ⟨#[]⟩, .string ⟨#[]⟩, .string ⟨#[]⟩, .string ⟨#[]⟩, .string ⟨#[]⟩, .string ⟨#[]⟩, .string ⟨#[]⟩, .string ⟨#[]⟩, .string ⟨#[]⟩] 81
    rw [World.size_alloc] at h
    exact h
  have hB0 := nx (nx (Below.refl _ w) (.cells #[.int .u16 pc, .int .u16 (r 0), .int .u16 (r 1), .int .u16 (r 2), .int .u16 (r 3), .int .u16 (r 4), .int .u16 (r 5), .int .u16 (r 6), .int .u16 (r 7)] 26)) (.cells #[.string ⟨#[]⟩, .string ⟨#[]⟩, .string ⟨#[]⟩, .string ⟨#[]⟩, .string ⟨#[]⟩, .string ⟨#[]⟩, .string ⟨#[]⟩, .string ⟨#[]⟩, .string ⟨#[]⟩] 81)
  have hs0 : ((w.alloc (.cells #[.int .u16 pc, .int .u16 (r 0), .int .u16 (r 1), .int .u16 (r 2), .int .u16 (r 3), .int .u16 (r 4), .int .u16 (r 5), .int .u16 (r 6), .int .u16 (r 7)] 26)).alloc (.cells #[.string ⟨#[]⟩, .string ⟨#[]⟩, .string ⟨#[]⟩, .string ⟨#[]⟩, .string ⟨#[]⟩, .string ⟨#[]⟩, .string ⟨#[]⟩, .string ⟨#[]⟩, .string ⟨#[]⟩] 81)).heap.size = w.heap.size + 1 + 1 := by simp
  unfold rgV
  go_enter Tryd.func24, Tryd.ntmps24
  go_wp2_with fail
  generalize ((w.alloc (.cells #[.int .u16 pc, .int .u16 (r 0), .int .u16 (r 1), .int .u16 (r 2), .int .u16 (r 3), .int .u16 (r 4), .int .u16 (r 5), .int .u16 (r 6), .int .u16 (r 7)] 26)).alloc (.cells #[.string ⟨#[]⟩, .string ⟨#[]⟩, .string ⟨#[]⟩, .string ⟨#[]⟩, .string ⟨#[]⟩, .string ⟨#[]⟩, .string ⟨#[]⟩, .string ⟨#[]⟩, .string ⟨#[]⟩] 81)) = W0 at *
  refine (cP _).mono ?_
  rintro e W1 ⟨rfl, hB1⟩
  have hs1 := hB1.size
  have j0 := cA.below hB1 (by omega)
  have j1 := cB.below hB1 (by omega)
  have hb1 := hB0.trans (hB1.mono (by omega))
  clear cA cB hB0 hB1 cP
  have l0 : w.heap.size < W1.heap.size := by omega
  have p0 : W1.cell? ⟨w.heap.size, 0, none⟩ = some (.int .u16 pc) := j0.c 0
  have p1 : W1.cell? ⟨w.heap.size, 1, none⟩ = some (.int .u16 (r 0)) := j0.c 1
  have p2 : W1.cell? ⟨w.heap.size, 2, none⟩ = some (.int .u16 (r 1)) := j0.c 2
  have p3 : W1.cell? ⟨w.heap.size, 3, none⟩ = some (.int .u16 (r 2)) := j0.c 3
  have p4 : W1.cell? ⟨w.heap.size, 4, none⟩ = some (.int .u16 (r 3)) := j0.c 4
  have p5 : W1.cell? ⟨w.heap.size, 5, none⟩ = some (.int .u16 (r 4)) := j0.c 5
  have p6 : W1.cell? ⟨w.heap.size, 6, none⟩ = some (.int .u16 (r 5)) := j0.c 6
  have p7 : W1.cell? ⟨w.heap.size, 7, none⟩ = some (.int .u16 (r 6)) := j0.c 7
  have p8 : W1.cell? ⟨w.heap.size, 8, none⟩ = some (.int .u16 (r 7)) := j0.c 8
  have i1 := j1.alloc (.cells #[.string (⟨#[112, 99, 61]⟩ ++ hexV pc), .string ⟨#[]⟩, .string ⟨#[]⟩, .string ⟨#[]⟩, .string ⟨#[]⟩, .string ⟨#[]⟩, .string ⟨#[]⟩, .string ⟨#[]⟩, .string ⟨#[]⟩] 81)
  have i2 := Cel.new W1 #[.string (⟨#[112, 99, 61]⟩ ++ hexV pc), .string ⟨#[]⟩, .string ⟨#[]⟩, .string ⟨#[]⟩, .string ⟨#[]⟩, .string ⟨#[]⟩, .string ⟨#[]⟩, .string ⟨#[]⟩, .string ⟨#[]⟩] 81
  have hb2 := nx hb1 (.cells #[.string (⟨#[112, 99, 61]⟩ ++ hexV pc), .string ⟨#[]⟩, .string ⟨#[]⟩, .string ⟨#[]⟩, .string ⟨#[]⟩, .string ⟨#[]⟩, .string ⟨#[]⟩, .string ⟨#[]⟩, .string ⟨#[]⟩] 81)
  have hs2 : (W1.alloc (.cells #[.string (⟨#[112, 99, 61]⟩ ++ hexV pc), .string ⟨#[]⟩, .string ⟨#[]⟩, .string ⟨#[]⟩, .string ⟨#[]⟩, .string ⟨#[]⟩, .string ⟨#[]⟩, .string ⟨#[]⟩, .string ⟨#[]⟩] 81)).heap.size = W1.heap.size + 1 := by simp
  go_wp2_with fail
  generalize (W1.alloc (.cells #[.string (⟨#[112, 99, 61]⟩ ++ hexV pc), .string ⟨#[]⟩, .string ⟨#[]⟩, .string ⟨#[]⟩, .string ⟨#[]⟩, .string ⟨#[]⟩, .string ⟨#[]⟩, .string ⟨#[]⟩, .string ⟨#[]⟩] 81)) = W2 at *
  have hB3 : w.heap.size + 1 < W1.heap.size := by omega
  generalize W1.heap.size = B3 at *
  clear p0 p1 p2 p3 p4 p5 p6 p7 p8 j0 j1 hb1 l0
  go_loopw [13] (fun i wr => ∃ k : Nat, k ≤ 8 ∧ i = .int .i64 k ∧ Cel wr (w.heap.size + 1) #[.string ⟨#[]⟩, .string ⟨#[]⟩, .string ⟨#[]⟩, .string ⟨#[]⟩, .string ⟨#[]⟩, .string ⟨#[]⟩, .string ⟨#[]⟩, .string ⟨#[]⟩, .string ⟨#[]⟩] 81 ∧ Cel wr B3 #[.string (pcT pc), .string (rT r k 0), .string (rT r k 1), .string (rT r k 2), .string (rT r k 3), .string (rT r k 4), .string (rT r k 5), .string (rT r k 6), .string (rT r k 7)] 81 ∧ Below w.heap.size w wr ∧ B3 < wr.heap.size) (fun i _ => 8 - (intOf i).toNat)
  case atStart => exact ⟨0, by omega, rfl, i1, i2, hb2, by omega⟩
  case round =>
    obtain ⟨k, hk, rfl, k1, k2, hb0, hs3⟩ := hrel
    clear i1 i2 hb2 hs2
    by_cases hlt : k < 8
    · have hlt' : (k : Int) < 8 := by omega
      have cI := fun w => itoa_dig k hlt w
      have cH := fun w => hex_any (r k) w (hr k).1 (hr k).2
      have hix := index_at r k hlt
      go_wp2_with fail
      refine (cI _).mono ?_
      rintro e W4 ⟨rfl, h4⟩
      rw [h4]
      clear h4
      go_wp2_with fail
      refine (cH _).mono ?_
      rintro e W4 ⟨rfl, hB4⟩
      have n1 := k1.below hB4 (by omega)
      have n2 := k2.below hB4 (by omega)
      have hs4 := hB4.size
      have hb4 := hb0.trans (hB4.mono (by omega))
      have hT : (1 + (k : Int)).toNat = 1 + k := by omega
      have hT2 : 1 + (k : Int) < 9 := by omega
      have va : ∃ s, W4.cell? ⟨B3, 1 + k, none⟩ = some (.string s) := ⟨_, (n2.c _).trans (tx_at pc r k k hlt)⟩
      obtain ⟨sa, va⟩ := va
      have f3 := n2.f
      have m2 : Cel (W4.setCell ⟨B3, 1 + k, none⟩ (.string (regT k (r k)))) B3 #[.string (pcT pc), .string (rT r (k + 1) 0), .string (rT r (k + 1) 1), .string (rT r (k + 1) 2), .string (rT r (k + 1) 3), .string (rT r (k + 1) 4), .string (rT r (k + 1) 5), .string (rT r (k + 1) 6), .string (rT r (k + 1) 7)] 81 := by
        have h := n2.set (1 + k) (.string (regT k (r k)))
        rw [tx_set pc r k hlt] at h
        exact h
      have m1 := n1.other (c := B3) (by omega) (1 + k) (.string (regT k (r k)))
      have hb5 := bsx hb4 (show w.heap.size ≤ B3 by omega) (1 + k) (.string (regT k (r k)))
      have hs5 : B3 < (W4.setCell ⟨B3, 1 + k, none⟩ (.string (regT k (r k)))).heap.size := by simp [World.setCell]; omega
      unfold regT at *
      clear cI cH n1 n2 k1 k2 hb0 hB4 hix
      go_wp2_with fail
      go_roundw
      case rel => exact ⟨k + 1, by omega, by go_num, m1, m2, hb5, hs5⟩
      case measure => simp [intOf]; omega
    · obtain rfl : k = 8 := by omega
      have q0 : wr.cell? ⟨w.heap.size + 1, 0, none⟩ = some (.string ⟨#[]⟩) := k1.c 0
      have q1 : wr.cell? ⟨w.heap.size + 1, 1, none⟩ = some (.string ⟨#[]⟩) := k1.c 1
      have q2 : wr.cell? ⟨w.heap.size + 1, 2, none⟩ = some (.string ⟨#[]⟩) := k1.c 2
      have q3 : wr.cell? ⟨w.heap.size + 1, 3, none⟩ = some (.string ⟨#[]⟩) := k1.c 3
      have q4 : wr.cell? ⟨w.heap.size + 1, 4, none⟩ = some (.string ⟨#[]⟩) := k1.c 4
      have q5 : wr.cell? ⟨w.heap.size + 1, 5, none⟩ = some (.string ⟨#[]⟩) := k1.c 5
      have q6 : wr.cell? ⟨w.heap.size + 1, 6, none⟩ = some (.string ⟨#[]⟩) := k1.c 6
      have q7 : wr.cell? ⟨w.heap.size + 1, 7, none⟩ = some (.string ⟨#[]⟩) := k1.c 7
      have q8 : wr.cell? ⟨w.heap.size + 1, 8, none⟩ = some (.string ⟨#[]⟩) := k1.c 8
      have v0 : wr.cell? ⟨B3, 0, none⟩ = some (.string (pcT pc)) := k2.c 0
      have v1 : wr.cell? ⟨B3, 1, none⟩ = some (.string (rT r 8 0)) := k2.c 1
      have v2 : wr.cell? ⟨B3, 2, none⟩ = some (.string (rT r 8 1)) := k2.c 2
      have v3 : wr.cell? ⟨B3, 3, none⟩ = some (.string (rT r 8 2)) := k2.c 3
      have v4 : wr.cell? ⟨B3, 4, none⟩ = some (.string (rT r 8 3)) := k2.c 4
      have v5 : wr.cell? ⟨B3, 5, none⟩ = some (.string (rT r 8 4)) := k2.c 5
      have v6 : wr.cell? ⟨B3, 6, none⟩ = some (.string (rT r 8 5)) := k2.c 6
      have v7 : wr.cell? ⟨B3, 7, none⟩ = some (.string (rT r 8 6)) := k2.c 7
      have v8 : wr.cell? ⟨B3, 8, none⟩ = some (.string (rT r 8 7)) := k2.c 8
      have f1 := k1.f
      have ne : ¬ B3 = w.heap.size + 1 := by omega
      go_wp2_with fail
      exact bodyPost_ret (v := .agg #[.string (pcT pc), .string (rT r 8 0), .string (rT r 8 1), .string (rT r 8 2), .string (rT r 8 3), .string (rT r 8 4), .string (rT r 8 5), .string (rT r 8 6), .string (rT r 8 7)]) (by simp [results, Tryd.results24, go_sem, q0, q1, q2, q3, q4, q5, q6, q7, q8]) rfl ⟨rfl, bsx (bsx (bsx (bsx (bsx (bsx (bsx (bsx (bsx (hb0) (by omega) _ _) (by omega) _ _) (by omega) _ _) (by omega) _ _) (by omega) _ _) (by omega) _ _) (by omega) _ _) (by omega) _ _) (by omega) _ _⟩
end Go.Proofs.YtbjklpdloglniaaDoor
