/- What an instruction does, operation by operation: the program. -/
import Derived.Test.YtbjklpdloglniaaDoorCpuF
namespace Go.Proofs.YtbjklpdloglniaaDoor
open Go.RowKit
set_option linter.unusedVariables false
set_option maxRecDepth 100000

/-- What Exec answers. -/
def execV (x : (Int × (Nat → Int)) × Acc) : Value := .tuple #[rgV x.1.1 x.1.2, accV x.2]
theorem kind_of (o a b m : Int) (kv : Value) (hO : InsOk o a b m) (hk : kindV o a b m = kv) (w : World) :
    Calls Tryd.prog 10 #[insV o a b m] w fun e w' => e = .returned kv ∧ Below w.heap.size w w' := hk ▸ kind_any o a b m w hO
theorem exec_0 (pc : Int) (r : Nat → Int) (a b m : Int) (w : World) (hp : Wd pc) (hr : ∀ k, Wd (r k)) (hO : InsOk 0 a b m) (hR : insR 0 a b m = true) (ha2 : a < 8) (hb2 : b < 8) :
    Calls Tryd.prog 5 #[rgV pc r, insV 0 a b m] w fun e w' => e = .returned (execV (execP pc r 0 a b m)) ∧ Below w.heap.size w w' := by
  have ha := hO.2.2.1
  have hb := hO.2.2.2.2.1
  have hm : Wd m := ⟨hO.2.2.2.2.2.2.1, hO.2.2.2.2.2.2.2⟩
  have hk : kindV 0 a b m = .iface 62 (.agg #[]) := by unfold kindV; rw [hR]; rfl
  have cK := kind_of 0 a b m _ hO hk
  unfold execP
  rw [hR]
  simp only [reduceCtorEq, reduceIte, Int.reduceEq, false_and, doesP, execV]
  exact exec_go pc r 0 a b m _ _ _ _ w cK (fun w => stops_not pc r _ _ w (as_pass_halt _) (as_pass_quotient _)) (fun w => does_pass pc r 0 a b m w hp)
theorem exec_1 (pc : Int) (r : Nat → Int) (a b m : Int) (w : World) (hp : Wd pc) (hr : ∀ k, Wd (r k)) (hO : InsOk 1 a b m) (hR : insR 1 a b m = true) (ha2 : a < 8) (hb2 : b < 8) :
    Calls Tryd.prog 5 #[rgV pc r, insV 1 a b m] w fun e w' => e = .returned (execV (execP pc r 1 a b m)) ∧ Below w.heap.size w w' := by
  have ha := hO.2.2.1
  have hb := hO.2.2.2.2.1
  have hm : Wd m := ⟨hO.2.2.2.2.2.2.1, hO.2.2.2.2.2.2.2⟩
  have hk : kindV 1 a b m = .iface 63 (.agg #[]) := by unfold kindV; rw [hR]; rfl
  have cK := kind_of 1 a b m _ hO hk
  unfold execP
  rw [hR]
  simp only [reduceCtorEq, reduceIte, execV]
  exact exec_stop pc r 1 a b m _ _ w cK (fun w => stops_halt pc r w)
theorem exec_2 (pc : Int) (r : Nat → Int) (a b m : Int) (w : World) (hp : Wd pc) (hr : ∀ k, Wd (r k)) (hO : InsOk 2 a b m) (hR : insR 2 a b m = true) (ha2 : a < 8) (hb2 : b < 8) :
    Calls Tryd.prog 5 #[rgV pc r, insV 2 a b m] w fun e w' => e = .returned (execV (execP pc r 2 a b m)) ∧ Below w.heap.size w w' := by
  have ha := hO.2.2.1
  have hb := hO.2.2.2.2.1
  have hm : Wd m := ⟨hO.2.2.2.2.2.2.1, hO.2.2.2.2.2.2.2⟩
  have hk : kindV 2 a b m = .iface 64 (insV 2 a b m) := by unfold kindV; rw [hR]; rfl
  have cK := kind_of 2 a b m _ hO hk
  unfold execP
  rw [hR]
  simp only [reduceCtorEq, reduceIte, Int.reduceEq, false_and, doesP, execV]
  exact exec_go pc r 2 a b m _ _ _ _ w cK (fun w => stops_not pc r _ _ w (as_constant_halt _) (as_constant_quotient _)) (fun w => does_con pc r 2 a b m w hp ha ha2)
theorem exec_3 (pc : Int) (r : Nat → Int) (a b m : Int) (w : World) (hp : Wd pc) (hr : ∀ k, Wd (r k)) (hO : InsOk 3 a b m) (hR : insR 3 a b m = true) (ha2 : a < 8) (hb2 : b < 8) :
    Calls Tryd.prog 5 #[rgV pc r, insV 3 a b m] w fun e w' => e = .returned (execV (execP pc r 3 a b m)) ∧ Below w.heap.size w w' := by
  have ha := hO.2.2.1
  have hb := hO.2.2.2.2.1
  have hm : Wd m := ⟨hO.2.2.2.2.2.2.1, hO.2.2.2.2.2.2.2⟩
  have hk : kindV 3 a b m = .iface 52 (insV 3 a b m) := by unfold kindV; rw [hR]; rfl
  have cK := kind_of 3 a b m _ hO hk
  unfold execP
  rw [hR]
  simp only [reduceCtorEq, reduceIte, Int.reduceEq, false_and, doesP, execV]
  exact exec_go pc r 3 a b m _ _ _ _ w cK (fun w => stops_not pc r _ _ w (as_move_halt _) (as_move_quotient _)) (fun w => does_mov pc r 3 a b m w hp ha ha2 hb hb2)
theorem exec_4 (pc : Int) (r : Nat → Int) (a b m : Int) (w : World) (hp : Wd pc) (hr : ∀ k, Wd (r k)) (hO : InsOk 4 a b m) (hR : insR 4 a b m = true) (ha2 : a < 8) (hb2 : b < 8) :
    Calls Tryd.prog 5 #[rgV pc r, insV 4 a b m] w fun e w' => e = .returned (execV (execP pc r 4 a b m)) ∧ Below w.heap.size w w' := by
  have ha := hO.2.2.1
  have hb := hO.2.2.2.2.1
  have hm : Wd m := ⟨hO.2.2.2.2.2.2.1, hO.2.2.2.2.2.2.2⟩
  have hk : kindV 4 a b m = .iface 54 (insV 4 a b m) := by unfold kindV; rw [hR]; rfl
  have cK := kind_of 4 a b m _ hO hk
  unfold execP
  rw [hR]
  simp only [reduceCtorEq, reduceIte, Int.reduceEq, false_and, doesP, execV]
  exact exec_go pc r 4 a b m _ _ _ _ w cK (fun w => stops_not pc r _ _ w (as_reckoning_halt _) (as_reckoning_quotient _)) (fun w => does_rec pc r 4 a b m w hp ha ha2 hb hb2 hr (by decide))
theorem exec_5 (pc : Int) (r : Nat → Int) (a b m : Int) (w : World) (hp : Wd pc) (hr : ∀ k, Wd (r k)) (hO : InsOk 5 a b m) (hR : insR 5 a b m = true) (ha2 : a < 8) (hb2 : b < 8) :
    Calls Tryd.prog 5 #[rgV pc r, insV 5 a b m] w fun e w' => e = .returned (execV (execP pc r 5 a b m)) ∧ Below w.heap.size w w' := by
  have ha := hO.2.2.1
  have hb := hO.2.2.2.2.1
  have hm : Wd m := ⟨hO.2.2.2.2.2.2.1, hO.2.2.2.2.2.2.2⟩
  have hk : kindV 5 a b m = .iface 54 (insV 5 a b m) := by unfold kindV; rw [hR]; rfl
  have cK := kind_of 5 a b m _ hO hk
  unfold execP
  rw [hR]
  simp only [reduceCtorEq, reduceIte, Int.reduceEq, false_and, doesP, execV]
  exact exec_go pc r 5 a b m _ _ _ _ w cK (fun w => stops_not pc r _ _ w (as_reckoning_halt _) (as_reckoning_quotient _)) (fun w => does_rec pc r 5 a b m w hp ha ha2 hb hb2 hr (by decide))
theorem exec_6 (pc : Int) (r : Nat → Int) (a b m : Int) (w : World) (hp : Wd pc) (hr : ∀ k, Wd (r k)) (hO : InsOk 6 a b m) (hR : insR 6 a b m = true) (ha2 : a < 8) (hb2 : b < 8) :
    Calls Tryd.prog 5 #[rgV pc r, insV 6 a b m] w fun e w' => e = .returned (execV (execP pc r 6 a b m)) ∧ Below w.heap.size w w' := by
  have ha := hO.2.2.1
  have hb := hO.2.2.2.2.1
  have hm : Wd m := ⟨hO.2.2.2.2.2.2.1, hO.2.2.2.2.2.2.2⟩
  have hk : kindV 6 a b m = .iface 54 (insV 6 a b m) := by unfold kindV; rw [hR]; rfl
  have cK := kind_of 6 a b m _ hO hk
  unfold execP
  rw [hR]
  simp only [reduceCtorEq, reduceIte, Int.reduceEq, false_and, doesP, execV]
  exact exec_go pc r 6 a b m _ _ _ _ w cK (fun w => stops_not pc r _ _ w (as_reckoning_halt _) (as_reckoning_quotient _)) (fun w => does_rec pc r 6 a b m w hp ha ha2 hb hb2 hr (by decide))
theorem exec_7 (pc : Int) (r : Nat → Int) (a b m : Int) (w : World) (hp : Wd pc) (hr : ∀ k, Wd (r k)) (hO : InsOk 7 a b m) (hR : insR 7 a b m = true) (ha2 : a < 8) (hb2 : b < 8) :
    Calls Tryd.prog 5 #[rgV pc r, insV 7 a b m] w fun e w' => e = .returned (execV (execP pc r 7 a b m)) ∧ Below w.heap.size w w' := by
  have ha := hO.2.2.1
  have hb := hO.2.2.2.2.1
  have hm : Wd m := ⟨hO.2.2.2.2.2.2.1, hO.2.2.2.2.2.2.2⟩
  have hk : kindV 7 a b m = .iface 53 (insV 7 a b m) := by unfold kindV; rw [hR]; rfl
  have cK := kind_of 7 a b m _ hO hk
  unfold execP
  rw [hR]
  by_cases hz : r b.toNat = 0
  · simp only [hz, reduceCtorEq, reduceIte, Int.reduceEq, and_self, execV]
    refine exec_stop pc r 7 a b m _ _ w cK (fun w => ?_)
    have h := stops_div pc r 7 a b m w hb hb2
    rw [if_pos hz] at h
    exact h
  · simp only [hz, reduceCtorEq, reduceIte, Int.reduceEq, and_false, doesP, execV]
    refine exec_go pc r 7 a b m _ _ _ _ w cK (fun w => ?_) (fun w => does_div pc r 7 a b m w hp ha ha2 hb hb2 hr hz)
    have h := stops_div pc r 7 a b m w hb hb2
    rw [if_neg hz] at h
    exact h
theorem exec_8 (pc : Int) (r : Nat → Int) (a b m : Int) (w : World) (hp : Wd pc) (hr : ∀ k, Wd (r k)) (hO : InsOk 8 a b m) (hR : insR 8 a b m = true) (ha2 : a < 8) (hb2 : b < 8) :
    Calls Tryd.prog 5 #[rgV pc r, insV 8 a b m] w fun e w' => e = .returned (execV (execP pc r 8 a b m)) ∧ Below w.heap.size w w' := by
  have ha := hO.2.2.1
  have hb := hO.2.2.2.2.1
  have hm : Wd m := ⟨hO.2.2.2.2.2.2.1, hO.2.2.2.2.2.2.2⟩
  have hk : kindV 8 a b m = .iface 54 (insV 8 a b m) := by unfold kindV; rw [hR]; rfl
  have cK := kind_of 8 a b m _ hO hk
  unfold execP
  rw [hR]
  simp only [reduceCtorEq, reduceIte, Int.reduceEq, false_and, doesP, execV]
  exact exec_go pc r 8 a b m _ _ _ _ w cK (fun w => stops_not pc r _ _ w (as_reckoning_halt _) (as_reckoning_quotient _)) (fun w => does_rec pc r 8 a b m w hp ha ha2 hb hb2 hr (by decide))
theorem exec_9 (pc : Int) (r : Nat → Int) (a b m : Int) (w : World) (hp : Wd pc) (hr : ∀ k, Wd (r k)) (hO : InsOk 9 a b m) (hR : insR 9 a b m = true) (ha2 : a < 8) (hb2 : b < 8) :
    Calls Tryd.prog 5 #[rgV pc r, insV 9 a b m] w fun e w' => e = .returned (execV (execP pc r 9 a b m)) ∧ Below w.heap.size w w' := by
  have ha := hO.2.2.1
  have hb := hO.2.2.2.2.1
  have hm : Wd m := ⟨hO.2.2.2.2.2.2.1, hO.2.2.2.2.2.2.2⟩
  have hk : kindV 9 a b m = .iface 54 (insV 9 a b m) := by unfold kindV; rw [hR]; rfl
  have cK := kind_of 9 a b m _ hO hk
  unfold execP
  rw [hR]
  simp only [reduceCtorEq, reduceIte, Int.reduceEq, false_and, doesP, execV]
  exact exec_go pc r 9 a b m _ _ _ _ w cK (fun w => stops_not pc r _ _ w (as_reckoning_halt _) (as_reckoning_quotient _)) (fun w => does_rec pc r 9 a b m w hp ha ha2 hb hb2 hr (by decide))
theorem exec_10 (pc : Int) (r : Nat → Int) (a b m : Int) (w : World) (hp : Wd pc) (hr : ∀ k, Wd (r k)) (hO : InsOk 10 a b m) (hR : insR 10 a b m = true) (ha2 : a < 8) (hb2 : b < 8) :
    Calls Tryd.prog 5 #[rgV pc r, insV 10 a b m] w fun e w' => e = .returned (execV (execP pc r 10 a b m)) ∧ Below w.heap.size w w' := by
  have ha := hO.2.2.1
  have hb := hO.2.2.2.2.1
  have hm : Wd m := ⟨hO.2.2.2.2.2.2.1, hO.2.2.2.2.2.2.2⟩
  have hk : kindV 10 a b m = .iface 54 (insV 10 a b m) := by unfold kindV; rw [hR]; rfl
  have cK := kind_of 10 a b m _ hO hk
  unfold execP
  rw [hR]
  simp only [reduceCtorEq, reduceIte, Int.reduceEq, false_and, doesP, execV]
  exact exec_go pc r 10 a b m _ _ _ _ w cK (fun w => stops_not pc r _ _ w (as_reckoning_halt _) (as_reckoning_quotient _)) (fun w => does_rec pc r 10 a b m w hp ha ha2 hb hb2 hr (by decide))
theorem exec_11 (pc : Int) (r : Nat → Int) (a b m : Int) (w : World) (hp : Wd pc) (hr : ∀ k, Wd (r k)) (hO : InsOk 11 a b m) (hR : insR 11 a b m = true) (ha2 : a < 8) (hb2 : b < 8) :
    Calls Tryd.prog 5 #[rgV pc r, insV 11 a b m] w fun e w' => e = .returned (execV (execP pc r 11 a b m)) ∧ Below w.heap.size w w' := by
  have ha := hO.2.2.1
  have hb := hO.2.2.2.2.1
  have hm : Wd m := ⟨hO.2.2.2.2.2.2.1, hO.2.2.2.2.2.2.2⟩
  have hk : kindV 11 a b m = .iface 54 (insV 11 a b m) := by unfold kindV; rw [hR]; rfl
  have cK := kind_of 11 a b m _ hO hk
  unfold execP
  rw [hR]
  simp only [reduceCtorEq, reduceIte, Int.reduceEq, false_and, doesP, execV]
  exact exec_go pc r 11 a b m _ _ _ _ w cK (fun w => stops_not pc r _ _ w (as_reckoning_halt _) (as_reckoning_quotient _)) (fun w => does_rec pc r 11 a b m w hp ha ha2 hb hb2 hr (by decide))
theorem exec_12 (pc : Int) (r : Nat → Int) (a b m : Int) (w : World) (hp : Wd pc) (hr : ∀ k, Wd (r k)) (hO : InsOk 12 a b m) (hR : insR 12 a b m = true) (ha2 : a < 8) (hb2 : b < 8) :
    Calls Tryd.prog 5 #[rgV pc r, insV 12 a b m] w fun e w' => e = .returned (execV (execP pc r 12 a b m)) ∧ Below w.heap.size w w' := by
  have ha := hO.2.2.1
  have hb := hO.2.2.2.2.1
  have hm : Wd m := ⟨hO.2.2.2.2.2.2.1, hO.2.2.2.2.2.2.2⟩
  have hk : kindV 12 a b m = .iface 54 (insV 12 a b m) := by unfold kindV; rw [hR]; rfl
  have cK := kind_of 12 a b m _ hO hk
  unfold execP
  rw [hR]
  simp only [reduceCtorEq, reduceIte, Int.reduceEq, false_and, doesP, execV]
  exact exec_go pc r 12 a b m _ _ _ _ w cK (fun w => stops_not pc r _ _ w (as_reckoning_halt _) (as_reckoning_quotient _)) (fun w => does_rec pc r 12 a b m w hp ha ha2 hb hb2 hr (by decide))
theorem exec_13 (pc : Int) (r : Nat → Int) (a b m : Int) (w : World) (hp : Wd pc) (hr : ∀ k, Wd (r k)) (hO : InsOk 13 a b m) (hR : insR 13 a b m = true) (ha2 : a < 8) (hb2 : b < 8) :
    Calls Tryd.prog 5 #[rgV pc r, insV 13 a b m] w fun e w' => e = .returned (execV (execP pc r 13 a b m)) ∧ Below w.heap.size w w' := by
  have ha := hO.2.2.1
  have hb := hO.2.2.2.2.1
  have hm : Wd m := ⟨hO.2.2.2.2.2.2.1, hO.2.2.2.2.2.2.2⟩
  have hk : kindV 13 a b m = .iface 55 (insV 13 a b m) := by unfold kindV; rw [hR]; rfl
  have cK := kind_of 13 a b m _ hO hk
  unfold execP
  rw [hR]
  simp only [reduceCtorEq, reduceIte, Int.reduceEq, false_and, doesP, execV]
  exact exec_go pc r 13 a b m _ _ _ _ w cK (fun w => stops_not pc r _ _ w (as_load_halt _) (as_load_quotient _)) (fun w => does_ldw pc r a b m w hp hb hb2 hr hm)
theorem exec_14 (pc : Int) (r : Nat → Int) (a b m : Int) (w : World) (hp : Wd pc) (hr : ∀ k, Wd (r k)) (hO : InsOk 14 a b m) (hR : insR 14 a b m = true) (ha2 : a < 8) (hb2 : b < 8) :
    Calls Tryd.prog 5 #[rgV pc r, insV 14 a b m] w fun e w' => e = .returned (execV (execP pc r 14 a b m)) ∧ Below w.heap.size w w' := by
  have ha := hO.2.2.1
  have hb := hO.2.2.2.2.1
  have hm : Wd m := ⟨hO.2.2.2.2.2.2.1, hO.2.2.2.2.2.2.2⟩
  have hk : kindV 14 a b m = .iface 56 (insV 14 a b m) := by unfold kindV; rw [hR]; rfl
  have cK := kind_of 14 a b m _ hO hk
  unfold execP
  rw [hR]
  simp only [reduceCtorEq, reduceIte, Int.reduceEq, false_and, doesP, execV]
  exact exec_go pc r 14 a b m _ _ _ _ w cK (fun w => stops_not pc r _ _ w (as_store_halt _) (as_store_quotient _)) (fun w => does_stw pc r a b m w hp ha ha2 hb hb2 hr hm)
theorem exec_15 (pc : Int) (r : Nat → Int) (a b m : Int) (w : World) (hp : Wd pc) (hr : ∀ k, Wd (r k)) (hO : InsOk 15 a b m) (hR : insR 15 a b m = true) (ha2 : a < 8) (hb2 : b < 8) :
    Calls Tryd.prog 5 #[rgV pc r, insV 15 a b m] w fun e w' => e = .returned (execV (execP pc r 15 a b m)) ∧ Below w.heap.size w w' := by
  have ha := hO.2.2.1
  have hb := hO.2.2.2.2.1
  have hm : Wd m := ⟨hO.2.2.2.2.2.2.1, hO.2.2.2.2.2.2.2⟩
  have hk : kindV 15 a b m = .iface 55 (insV 15 a b m) := by unfold kindV; rw [hR]; rfl
  have cK := kind_of 15 a b m _ hO hk
  unfold execP
  rw [hR]
  simp only [reduceCtorEq, reduceIte, Int.reduceEq, false_and, doesP, execV]
  exact exec_go pc r 15 a b m _ _ _ _ w cK (fun w => stops_not pc r _ _ w (as_load_halt _) (as_load_quotient _)) (fun w => does_ldb pc r a b m w hp hb hb2 hr hm)
theorem exec_16 (pc : Int) (r : Nat → Int) (a b m : Int) (w : World) (hp : Wd pc) (hr : ∀ k, Wd (r k)) (hO : InsOk 16 a b m) (hR : insR 16 a b m = true) (ha2 : a < 8) (hb2 : b < 8) :
    Calls Tryd.prog 5 #[rgV pc r, insV 16 a b m] w fun e w' => e = .returned (execV (execP pc r 16 a b m)) ∧ Below w.heap.size w w' := by
  have ha := hO.2.2.1
  have hb := hO.2.2.2.2.1
  have hm : Wd m := ⟨hO.2.2.2.2.2.2.1, hO.2.2.2.2.2.2.2⟩
  have hk : kindV 16 a b m = .iface 56 (insV 16 a b m) := by unfold kindV; rw [hR]; rfl
  have cK := kind_of 16 a b m _ hO hk
  unfold execP
  rw [hR]
  simp only [reduceCtorEq, reduceIte, Int.reduceEq, false_and, doesP, execV]
  exact exec_go pc r 16 a b m _ _ _ _ w cK (fun w => stops_not pc r _ _ w (as_store_halt _) (as_store_quotient _)) (fun w => does_stb pc r a b m w hp ha ha2 hb hb2 hr hm)
theorem exec_17 (pc : Int) (r : Nat → Int) (a b m : Int) (w : World) (hp : Wd pc) (hr : ∀ k, Wd (r k)) (hO : InsOk 17 a b m) (hR : insR 17 a b m = true) (ha2 : a < 8) (hb2 : b < 8) :
    Calls Tryd.prog 5 #[rgV pc r, insV 17 a b m] w fun e w' => e = .returned (execV (execP pc r 17 a b m)) ∧ Below w.heap.size w w' := by
  have ha := hO.2.2.1
  have hb := hO.2.2.2.2.1
  have hm : Wd m := ⟨hO.2.2.2.2.2.2.1, hO.2.2.2.2.2.2.2⟩
  have hk : kindV 17 a b m = .iface 65 (insV 17 a b m) := by unfold kindV; rw [hR]; rfl
  have cK := kind_of 17 a b m _ hO hk
  unfold execP
  rw [hR]
  simp only [reduceCtorEq, reduceIte, Int.reduceEq, false_and, doesP, execV]
  exact exec_go pc r 17 a b m _ _ _ _ w cK (fun w => stops_not pc r _ _ w (as_jump_halt _) (as_jump_quotient _)) (fun w => does_jmp pc r 17 a b m w hp)
theorem exec_18 (pc : Int) (r : Nat → Int) (a b m : Int) (w : World) (hp : Wd pc) (hr : ∀ k, Wd (r k)) (hO : InsOk 18 a b m) (hR : insR 18 a b m = true) (ha2 : a < 8) (hb2 : b < 8) :
    Calls Tryd.prog 5 #[rgV pc r, insV 18 a b m] w fun e w' => e = .returned (execV (execP pc r 18 a b m)) ∧ Below w.heap.size w w' := by
  have ha := hO.2.2.1
  have hb := hO.2.2.2.2.1
  have hm : Wd m := ⟨hO.2.2.2.2.2.2.1, hO.2.2.2.2.2.2.2⟩
  have hk : kindV 18 a b m = .iface 57 (insV 18 a b m) := by unfold kindV; rw [hR]; rfl
  have cK := kind_of 18 a b m _ hO hk
  unfold execP
  rw [hR]
  by_cases hz : r a.toNat = 0
  · simp only [hz, reduceCtorEq, reduceIte, Int.reduceEq, false_and, doesP, execV]
    exact exec_go pc r 18 a b m _ _ _ _ w cK (fun w => stops_not pc r _ _ w (as_zeroJump_halt _) (as_zeroJump_quotient _)) (fun w => does_jz1 pc r a b m w hp ha ha2 (by rw [hz]; rfl))
  · simp only [hz, reduceCtorEq, reduceIte, Int.reduceEq, false_and, doesP, execV]
    exact exec_go pc r 18 a b m _ _ _ _ w cK (fun w => stops_not pc r _ _ w (as_zeroJump_halt _) (as_zeroJump_quotient _)) (fun w => does_jz0 pc r a b m w hp ha ha2 (by rw [beq_eq_false_iff_ne]; exact hz))
theorem exec_19 (pc : Int) (r : Nat → Int) (a b m : Int) (w : World) (hp : Wd pc) (hr : ∀ k, Wd (r k)) (hO : InsOk 19 a b m) (hR : insR 19 a b m = true) (ha2 : a < 8) (hb2 : b < 8) :
    Calls Tryd.prog 5 #[rgV pc r, insV 19 a b m] w fun e w' => e = .returned (execV (execP pc r 19 a b m)) ∧ Below w.heap.size w w' := by
  have ha := hO.2.2.1
  have hb := hO.2.2.2.2.1
  have hm : Wd m := ⟨hO.2.2.2.2.2.2.1, hO.2.2.2.2.2.2.2⟩
  have hk : kindV 19 a b m = .iface 57 (insV 19 a b m) := by unfold kindV; rw [hR]; rfl
  have cK := kind_of 19 a b m _ hO hk
  unfold execP
  rw [hR]
  by_cases hz : r a.toNat = 0
  · simp only [hz, reduceCtorEq, reduceIte, Int.reduceEq, false_and, doesP, execV]
    exact exec_go pc r 19 a b m _ _ _ _ w cK (fun w => stops_not pc r _ _ w (as_zeroJump_halt _) (as_zeroJump_quotient _)) (fun w => does_jn1 pc r a b m w hp ha ha2 (by rw [hz]; rfl))
  · simp only [hz, reduceCtorEq, reduceIte, Int.reduceEq, false_and, doesP, execV]
    exact exec_go pc r 19 a b m _ _ _ _ w cK (fun w => stops_not pc r _ _ w (as_zeroJump_halt _) (as_zeroJump_quotient _)) (fun w => does_jn0 pc r a b m w hp ha ha2 (by rw [beq_eq_false_iff_ne]; exact hz))
theorem exec_20 (pc : Int) (r : Nat → Int) (a b m : Int) (w : World) (hp : Wd pc) (hr : ∀ k, Wd (r k)) (hO : InsOk 20 a b m) (hR : insR 20 a b m = true) (ha2 : a < 8) (hb2 : b < 8) :
    Calls Tryd.prog 5 #[rgV pc r, insV 20 a b m] w fun e w' => e = .returned (execV (execP pc r 20 a b m)) ∧ Below w.heap.size w w' := by
  have ha := hO.2.2.1
  have hb := hO.2.2.2.2.1
  have hm : Wd m := ⟨hO.2.2.2.2.2.2.1, hO.2.2.2.2.2.2.2⟩
  have hk : kindV 20 a b m = .iface 58 (insV 20 a b m) := by unfold kindV; rw [hR]; rfl
  have cK := kind_of 20 a b m _ hO hk
  unfold execP
  rw [hR]
  by_cases hz : r a.toNat < r b.toNat
  · simp only [hz, reduceCtorEq, reduceIte, Int.reduceEq, false_and, doesP, execV]
    exact exec_go pc r 20 a b m _ _ _ _ w cK (fun w => stops_not pc r _ _ w (as_lessJump_halt _) (as_lessJump_quotient _)) (fun w => does_lj1 pc r 20 a b m w hp ha ha2 hb hb2 (decide_eq_true hz))
  · simp only [hz, reduceCtorEq, reduceIte, Int.reduceEq, false_and, doesP, execV]
    exact exec_go pc r 20 a b m _ _ _ _ w cK (fun w => stops_not pc r _ _ w (as_lessJump_halt _) (as_lessJump_quotient _)) (fun w => does_lj0 pc r 20 a b m w hp ha ha2 hb hb2 (decide_eq_false hz))
theorem exec_21 (pc : Int) (r : Nat → Int) (a b m : Int) (w : World) (hp : Wd pc) (hr : ∀ k, Wd (r k)) (hO : InsOk 21 a b m) (hR : insR 21 a b m = true) (ha2 : a < 8) (hb2 : b < 8) :
    Calls Tryd.prog 5 #[rgV pc r, insV 21 a b m] w fun e w' => e = .returned (execV (execP pc r 21 a b m)) ∧ Below w.heap.size w w' := by
  have ha := hO.2.2.1
  have hb := hO.2.2.2.2.1
  have hm : Wd m := ⟨hO.2.2.2.2.2.2.1, hO.2.2.2.2.2.2.2⟩
  have hk : kindV 21 a b m = .iface 66 (insV 21 a b m) := by unfold kindV; rw [hR]; rfl
  have cK := kind_of 21 a b m _ hO hk
  unfold execP
  rw [hR]
  simp only [reduceCtorEq, reduceIte, Int.reduceEq, false_and, doesP, execV]
  exact exec_go pc r 21 a b m _ _ _ _ w cK (fun w => stops_not pc r _ _ w (as_call_halt _) (as_call_quotient _)) (fun w => does_call pc r 21 a b m w hp)
theorem exec_22 (pc : Int) (r : Nat → Int) (a b m : Int) (w : World) (hp : Wd pc) (hr : ∀ k, Wd (r k)) (hO : InsOk 22 a b m) (hR : insR 22 a b m = true) (ha2 : a < 8) (hb2 : b < 8) :
    Calls Tryd.prog 5 #[rgV pc r, insV 22 a b m] w fun e w' => e = .returned (execV (execP pc r 22 a b m)) ∧ Below w.heap.size w w' := by
  have ha := hO.2.2.1
  have hb := hO.2.2.2.2.1
  have hm : Wd m := ⟨hO.2.2.2.2.2.2.1, hO.2.2.2.2.2.2.2⟩
  have hk : kindV 22 a b m = .iface 60 (.agg #[]) := by unfold kindV; rw [hR]; rfl
  have cK := kind_of 22 a b m _ hO hk
  unfold execP
  rw [hR]
  simp only [reduceCtorEq, reduceIte, Int.reduceEq, false_and, doesP, execV]
  exact exec_go pc r 22 a b m _ _ _ _ w cK (fun w => stops_not pc r _ _ w (as_back_halt _) (as_back_quotient _)) (fun w => does_back pc r 22 a b m w hp)
theorem exec_23 (pc : Int) (r : Nat → Int) (a b m : Int) (w : World) (hp : Wd pc) (hr : ∀ k, Wd (r k)) (hO : InsOk 23 a b m) (hR : insR 23 a b m = true) (ha2 : a < 8) (hb2 : b < 8) :
    Calls Tryd.prog 5 #[rgV pc r, insV 23 a b m] w fun e w' => e = .returned (execV (execP pc r 23 a b m)) ∧ Below w.heap.size w w' := by
  have ha := hO.2.2.1
  have hb := hO.2.2.2.2.1
  have hm : Wd m := ⟨hO.2.2.2.2.2.2.1, hO.2.2.2.2.2.2.2⟩
  have hk : kindV 23 a b m = .iface 67 (insV 23 a b m) := by unfold kindV; rw [hR]; rfl
  have cK := kind_of 23 a b m _ hO hk
  unfold execP
  rw [hR]
  simp only [reduceCtorEq, reduceIte, Int.reduceEq, false_and, doesP, execV]
  exact exec_go pc r 23 a b m _ _ _ _ w cK (fun w => stops_not pc r _ _ w (as_system_halt _) (as_system_quotient _)) (fun w => does_sys pc r 23 a b m w hp)
theorem exec_any (pc : Int) (r : Nat → Int) (o a b m : Int) (w : World) (hp : Wd pc) (hr : ∀ k, Wd (r k)) (hO : InsOk o a b m) :
    Calls Tryd.prog 5 #[rgV pc r, insV o a b m] w fun e w' => e = .returned (execV (execP pc r o a b m)) ∧ Below w.heap.size w w' := by
  cases hR : insR o a b m with
  | false =>
    unfold execP
    rw [if_pos hR]
    exact exec_stop pc r o a b m _ _ w (kind_of o a b m _ hO (by unfold kindV; rw [if_pos hR])) (fun w => stops_nil pc r w)
  | true =>
    obtain ⟨⟨h23, ha, hb⟩, _⟩ := (insR_iff o a b m).1 hR
    have h0 := hO.1
    have hc : o = 0 ∨ o = 1 ∨ o = 2 ∨ o = 3 ∨ o = 4 ∨ o = 5 ∨ o = 6 ∨ o = 7 ∨ o = 8 ∨ o = 9 ∨ o = 10 ∨ o = 11 ∨ o = 12 ∨ o = 13 ∨ o = 14 ∨ o = 15 ∨ o = 16 ∨ o = 17 ∨ o = 18 ∨ o = 19 ∨ o = 20 ∨ o = 21 ∨ o = 22 ∨ o = 23 := by omega
    rcases hc with rfl | rfl | rfl | rfl | rfl | rfl | rfl | rfl | rfl | rfl | rfl | rfl | rfl | rfl | rfl | rfl | rfl | rfl | rfl | rfl | rfl | rfl | rfl | rfl
    · exact exec_0 pc r a b m w hp hr hO hR ha hb
    · exact exec_1 pc r a b m w hp hr hO hR ha hb
    · exact exec_2 pc r a b m w hp hr hO hR ha hb
    · exact exec_3 pc r a b m w hp hr hO hR ha hb
    · exact exec_4 pc r a b m w hp hr hO hR ha hb
    · exact exec_5 pc r a b m w hp hr hO hR ha hb
    · exact exec_6 pc r a b m w hp hr hO hR ha hb
    · exact exec_7 pc r a b m w hp hr hO hR ha hb
    · exact exec_8 pc r a b m w hp hr hO hR ha hb
    · exact exec_9 pc r a b m w hp hr hO hR ha hb
    · exact exec_10 pc r a b m w hp hr hO hR ha hb
    · exact exec_11 pc r a b m w hp hr hO hR ha hb
    · exact exec_12 pc r a b m w hp hr hO hR ha hb
    · exact exec_13 pc r a b m w hp hr hO hR ha hb
    · exact exec_14 pc r a b m w hp hr hO hR ha hb
    · exact exec_15 pc r a b m w hp hr hO hR ha hb
    · exact exec_16 pc r a b m w hp hr hO hR ha hb
    · exact exec_17 pc r a b m w hp hr hO hR ha hb
    · exact exec_18 pc r a b m w hp hr hO hR ha hb
    · exact exec_19 pc r a b m w hp hr hO hR ha hb
    · exact exec_20 pc r a b m w hp hr hO hR ha hb
    · exact exec_21 pc r a b m w hp hr hO hR ha hb
    · exact exec_22 pc r a b m w hp hr hO hR ha hb
    · exact exec_23 pc r a b m w hp hr hO hR ha hb
end Go.Proofs.YtbjklpdloglniaaDoor
