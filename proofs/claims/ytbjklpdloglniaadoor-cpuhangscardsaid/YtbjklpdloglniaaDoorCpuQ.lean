/- Registers as text, and what must be whatever is asked. -/
import Derived.Test.YtbjklpdloglniaaDoorCpuP
namespace Go.Proofs.YtbjklpdloglniaaDoor
open Go.RowKit
set_option linter.unusedVariables false
set_option maxRecDepth 100000

def txL (pc : Int) (r : Nat → Int) : List ByteArray := [pcT pc, rT r 8 0, rT r 8 1, rT r 8 2, rT r 8 3, rT r 8 4, rT r 8 5, rT r 8 6, rT r 8 7]
/-- Registers as text. -/
def prT (pc : Int) (r : Nat → Int) : ByteArray := ⟨(Lib.join ((txL pc r).map (·.data.toList)) [32]).toArray⟩
theorem pr_len (pc : Int) (r : Nat → Int) : (Lib.join ((txL pc r).map (·.data.toList)) [32]).length ≤ 1000 := by
  simp [txL, Lib.join, pcT, rT, regT, hexV]
set_option maxHeartbeats 4000000 in
theorem print_any (pc : Int) (r : Nat → Int) (w : World) (hp : Wd pc) (hr : ∀ k, Wd (r k)) :
    Calls Tryd.prog 15 #[rgV pc r] w fun e w' => e = .returned (.string (prT pc r)) ∧ Below w.heap.size w w' := by
  have cS := fun w => show_any pc r w hp hr
  unfold rgV at *
  go_enter Tryd.func15, Tryd.ntmps15
  go_wp2_with fail
  refine (cS _).mono ?_
  rintro e W1 ⟨rfl, hB1⟩
  have hb1 : Below w.heap.size w W1 := (nx (Below.refl _ w) _).trans (hB1.mono (by simp))
  have hC := Cel.new W1 #[.string (pcT pc), .string (rT r 8 0), .string (rT r 8 1), .string (rT r 8 2), .string (rT r 8 3), .string (rT r 8 4), .string (rT r 8 5), .string (rT r 8 6), .string (rT r 8 7)] 81
  have cJ := Tryd.strings_Join W1.heap.size 0 9 (txL pc r) ⟨#[32]⟩ (W1.alloc (.cells #[.string (pcT pc), .string (rT r 8 0), .string (rT r 8 1), .string (rT r 8 2), .string (rT r 8 3), .string (rT r 8 4), .string (rT r 8 5), .string (rT r 8 6), .string (rT r 8 7)] 81)) (fun j x hx => by
    rw [Nat.zero_add, hC.c]
    have hj : j < 9 := (List.getElem?_eq_some_iff.1 hx).1
    revert hx
    match j, hj with
    | 0, _ => intro hx; injection hx with hx; subst hx; rfl
    | 1, _ => intro hx; injection hx with hx; subst hx; rfl
    | 2, _ => intro hx; injection hx with hx; subst hx; rfl
    | 3, _ => intro hx; injection hx with hx; subst hx; rfl
    | 4, _ => intro hx; injection hx with hx; subst hx; rfl
    | 5, _ => intro hx; injection hx with hx; subst hx; rfl
    | 6, _ => intro hx; injection hx with hx; subst hx; rfl
    | 7, _ => intro hx; injection hx with hx; subst hx; rfl
    | 8, _ => intro hx; injection hx with hx; subst hx; rfl
    | k + 9, h => exact absurd h (by omega)) (by simp) (show 9 ≤ 140737488355328 by decide) (Nat.le_refl 9) (Nat.le_trans (pr_len pc r) (by decide))
  clear cS hC hB1
  go_wp2_with fail
  refine cJ.mono ?_
  rintro e W2 ⟨rfl, hB2⟩
  go_wp2_with fail
  go_ret
  exact ⟨rfl, (nx hb1 _).trans (hB2.mono (by have := hb1.size; simp; omega))⟩
def lvB : List UInt8 := [2, 16, 0, 3, 4, 17, 0, 0, 1, 0, 0, 0]
def z0 : Nat → Int := fun _ => 0
theorem lv_n0 : nextP lvB 0 = .ok (2, 1, 0, 3) := by rfl
theorem lv_n4 : nextP lvB 4 = .ok (4, 1, 1, 0) := by rfl
theorem lv_n8 : nextP lvB 8 = .ok (1, 0, 0, 0) := by rfl
theorem lv_e0 (r : Nat → Int) : execP 0 r 2 1 0 3 = ((4, upd r 1 3), (0, 0, 0, 0, 0)) := by rfl
theorem lv_e4 (r : Nat → Int) : execP 4 r 4 1 1 0 = ((8, upd r 1 (addV (r 1) (r 1))), (0, 0, 0, 0, 0)) := by rfl
theorem lv_e8 (r : Nat → Int) : execP 8 r 1 0 0 0 = ((8, r), (6, 0, 0, 0, 0)) := by rfl
theorem lv_run : ∃ r', runF lvB 9 0 z0 0 = ((8, r'), (6, 0, 0, 0, 0), 3) ∧ r' 1 = 6 := by
  refine ⟨upd (upd z0 1 3) 1 (addV 3 3), ?_, rfl⟩
  simp only [runF, lv_n0, lv_e0, lv_n4, lv_e4, lv_n8, lv_e8, reduceIte, Int.reduceEq]
  rfl
theorem lv_txt : (prT 4 z0).extract 0 10 = ⟨#[112, 99, 61, 48, 48, 48, 52, 32, 114, 48]⟩ ∧ 10 ≤ (prT 4 z0).size := by
  refine ⟨by rfl, by decide⟩
theorem lv_bts (w : World) : Bts (w.alloc (.cells #[.int .u8 2, .int .u8 16, .int .u8 0, .int .u8 3, .int .u8 4, .int .u8 17, .int .u8 0, .int .u8 0, .int .u8 1, .int .u8 0, .int .u8 0, .int .u8 0] 5)) (.slice (some ⟨w.heap.size, 0, none⟩) 12 12) lvB := by
  refine ⟨some ⟨w.heap.size, 0, none⟩, 12, rfl, by decide, by decide, fun j x hx => ⟨w.heap.size, 0, rfl, ?_⟩⟩
  rw [Lib.cell_of_heap (World.alloc_heap_new w _)]
  have hj : j < 12 := (List.getElem?_eq_some_iff.1 hx).1
  revert hx
  match j, hj with
  | 0, _ => intro hx; injection hx with hx; subst hx; rfl
  | 1, _ => intro hx; injection hx with hx; subst hx; rfl
  | 2, _ => intro hx; injection hx with hx; subst hx; rfl
  | 3, _ => intro hx; injection hx with hx; subst hx; rfl
  | 4, _ => intro hx; injection hx with hx; subst hx; rfl
  | 5, _ => intro hx; injection hx with hx; subst hx; rfl
  | 6, _ => intro hx; injection hx with hx; subst hx; rfl
  | 7, _ => intro hx; injection hx with hx; subst hx; rfl
  | 8, _ => intro hx; injection hx with hx; subst hx; rfl
  | 9, _ => intro hx; injection hx with hx; subst hx; rfl
  | 10, _ => intro hx; injection hx with hx; subst hx; rfl
  | 11, _ => intro hx; injection hx with hx; subst hx; rfl
  | k + 12, h => exact absurd h (by omega)
set_option maxHeartbeats 4000000 in
theorem clive_any (w : World) : Calls Tryd.prog 7 #[] w fun e w' => e = .returned (.bool true) ∧ Below w.heap.size w w' := by
  have cR := run_any 0 z0 (.slice (some ⟨w.heap.size, 0, none⟩) 12 12) lvB 9 _ ⟨by decide, by decide⟩ (fun k => ⟨by show (0 : Int) ≤ 0; decide, by show (0 : Int) ≤ 65535; decide⟩) (lv_bts w)
  rw [show (min (9 : Int) 1000).toNat = 9 from rfl] at cR
  have cP := fun w => print_any 4 z0 w ⟨by decide, by decide⟩ (fun k => ⟨by show (0 : Int) ≤ 0; decide, by show (0 : Int) ≤ 65535; decide⟩)
  obtain ⟨r', hr, h1⟩ := lv_run
  rw [hr] at cR
  obtain ⟨t1, t2⟩ := lv_txt
  generalize prT 4 z0 = T at *
  clear hr
  unfold rgV runV z0 accV at cR
  unfold rgV z0 at cP
  simp only at cR cP
  unfold rgV at cR
  have t3 : (10 : Int) ≤ (T.size : Int) := by omega
  go_enter Tryd.func7, Tryd.ntmps7
  go_wp2_with fail
  refine cR.mono ?_
  rintro e W1 ⟨rfl, hB1⟩
  have hb1 : Below w.heap.size w W1 := (nx (Below.refl _ w) _).trans (hB1.mono (by simp))
  clear cR hB1
  go_wp2_with fail
  refine (cP _).mono ?_
  rintro e W2 ⟨rfl, hB2⟩
  go_wp2_with fail
  go_ret
  exact ⟨rfl, (nx (nx hb1 _) _).trans (hB2.mono (by have := hb1.size; simp; omega))⟩
end Go.Proofs.YtbjklpdloglniaaDoor
