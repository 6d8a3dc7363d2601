/- A word's four digits in hex: the program's, and the document's own. -/
import Derived.Test.YtbjklpdloglniaaDoorWords
namespace Go.Proofs.YtbjklpdloglniaaDoor
open Go.RowKit
set_option linter.unusedVariables false

def hexT : ByteArray := ⟨#[48, 49, 50, 51, 52, 53, 54, 55, 56, 57, 97, 98, 99, 100, 101, 102]⟩
/-- A digit's letter. -/
def hexB (d : Int) : UInt8 := hexT.data.getD d.toNat 0
def hexV (a : Int) : ByteArray := ⟨#[hexB (a / 4096), hexB (a / 256 % 16), hexB (a / 16 % 16), hexB (a % 16)]⟩
theorem hexB_get (d : Int) (h : d.toNat < hexT.size) : hexT[d.toNat]'h = hexB d := by
  unfold hexB
  simp only [Array.getD]
  rw [dif_pos (show d.toNat < hexT.data.size from h)]
  rfl
theorem hexB_cut (d : Int) (h : 0 ≤ d) (h2 : d < 16) : hexT.extract d.toNat (d + 1).toNat = ⟨#[hexB d]⟩ := by
  have key : ∀ k : Nat, k < 16 → hexT.extract k (k + 1) = ⟨#[hexB (k : Int)]⟩ := by
    refine all16 ?_ ?_ ?_ ?_ ?_ ?_ ?_ ?_ ?_ ?_ ?_ ?_ ?_ ?_ ?_ ?_ <;> rfl
  have := key d.toNat (by omega)
  rw [show ((d.toNat : Nat) : Int) = d by omega] at this
  rw [← this, show (d + 1).toNat = d.toNat + 1 by omega]
theorem conv4 (w : World) (b0 b1 b2 b3 : UInt8) :
    (convert 30 9 (.slice (some ⟨w.heap.size, 0, none⟩) 4 4)).run Tryd.prog (w.alloc (.cells #[.int .u8 (b0.toNat : Int), .int .u8 (b1.toNat : Int), .int .u8 (b2.toNat : Int), .int .u8 (b3.toNat : Int)] 113))
      = .ok (.string ⟨#[b0, b1, b2, b3]⟩) (w.alloc (.cells #[.int .u8 (b0.toNat : Int), .int .u8 (b1.toNat : Int), .int .u8 (b2.toNat : Int), .int .u8 (b3.toNat : Int)] 113)) := by
  refine run_convert_bytes_back _ 30 9 5 ⟨w.heap.size, 0, none⟩ 4 [b0, b1, b2, b3] Tryd.underlying30 Tryd.underlying5 Tryd.underlying9 ?_
  intro j hj
  match j, hj with
  | 0, _ => simp [Addr.add, go_sem]
  | 1, _ => simp [Addr.add, go_sem]
  | 2, _ => simp [Addr.add, go_sem]
  | 3, _ => simp [Addr.add, go_sem]

theorem rot4 (a : Int) (ha : 0 ≤ a) (ha2 : a ≤ 65535) : rotV a 4 % 16 = a / 4096 ∧ rotV a 8 % 16 = a / 256 % 16 ∧ rotV a 12 % 16 = a / 16 % 16 ∧ rotV a 16 % 16 = a % 16 := by
  refine ⟨?_, ?_, ?_, ?_⟩ <;> (unfold rotV; simp; omega)

theorem hex_any (a : Int) (w : World) (ha : 0 ≤ a) (ha2 : a ≤ 65535) :
    Calls Tryd.prog 33 #[.int .u16 a] w fun e w' => e = .returned (.string (hexV a)) ∧ Below w.heap.size w w' := by
  have b1 := rot_bd a ha ha2 4
  have b2 := rot_bd a ha ha2 8
  have b3 := rot_bd a ha ha2 12
  have b4 := rot_bd a ha ha2 16
  have r := rot4 a ha ha2
  have a1 := and15w _ b1.1 b1.2
  have a2 := and15w _ b2.1 b2.2
  have a3 := and15w _ b3.1 b3.2
  have a4 := and15w _ b4.1 b4.2
  rw [r.1] at a1
  rw [r.2.1] at a2
  rw [r.2.2.1] at a3
  rw [r.2.2.2] at a4
  clear b1 b2 b3 b4 r
  have hc := conv4 w
  go_enter Tryd.func33, Tryd.ntmps33
  go_wp2
  refine wp_loop_rounds 5 ?_
  rw [rounds_succ]
  go_wp2_with (go_at_call 41; refine (rot_any _ _ _ ha ha2).mono ?_; rintro e w' ⟨rfl, rfl⟩)
  rw [rounds_succ]
  go_wp2_with (go_at_call 41; refine (rot_any _ _ _ ha ha2).mono ?_; rintro e w' ⟨rfl, rfl⟩)
  rw [rounds_succ]
  go_wp2_with (go_at_call 41; refine (rot_any _ _ _ ha ha2).mono ?_; rintro e w' ⟨rfl, rfl⟩)
  rw [rounds_succ]
  go_wp2_with (go_at_call 41; refine (rot_any _ _ _ ha ha2).mono ?_; rintro e w' ⟨rfl, rfl⟩)
  rw [rounds_succ]
  go_wp2
  go_ret
  refine ⟨?_, (Below.refl _ _).alloc (Nat.le_refl _) _⟩
  unfold hexV
  rw [← hexB_get _ (by show _ < 16; omega), ← hexB_get _ (by show _ < 16; omega), ← hexB_get _ (by show _ < 16; omega), ← hexB_get _ (by show _ < 16; omega)]
  rfl
end Go.Proofs.YtbjklpdloglniaaDoor
