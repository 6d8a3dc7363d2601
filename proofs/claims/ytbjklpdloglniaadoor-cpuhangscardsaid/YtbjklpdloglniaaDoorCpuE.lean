/- What is loaded, stored and divided: the program. -/
import Derived.Test.YtbjklpdloglniaaDoorCpuD
namespace Go.Proofs.YtbjklpdloglniaaDoor
open Go.RowKit
set_option linter.unusedVariables false
set_option maxRecDepth 100000

def accC (x : Acc) : Array Value := #[.int .u8 x.1, .int .u16 x.2.1, .int .u16 x.2.2.1, .int .u8 x.2.2.2.1, .int .i64 x.2.2.2.2]
theorem bel_drewN {B : Nat} {a w : World} {n : Nat} (h : Below B a w) : Below B a (w.drewN n) := ⟨h.os, h.tape, h.output, h.size, h.block⟩
theorem set_drewN (w : World) (n : Nat) (a : Addr) (v : Value) : (w.drewN n).setCell a v = (w.setCell a v).drewN n := by
  unfold World.setCell World.drewN
  rfl
theorem and255w (n : Int) (h : 0 ≤ n) (h2 : n ≤ 65535) : bits .and .u16 n 255 = n % 256 := by
  have h15 : (BitVec.ofInt 16 255).toNat = 2 ^ 8 - 1 := by decide
  have key : (BitVec.ofInt 16 n &&& BitVec.ofInt 16 255).toNat = (n % ((2 ^ 16 : Nat) : Int)).toNat % 2 ^ 8 := by
    rw [BitVec.toNat_and, BitVec.toNat_ofInt, h15, Nat.and_two_pow_sub_one_eq_mod]
  show IntKind.u16.wrap ((BitVec.ofInt 16 n &&& BitVec.ofInt 16 255).toNat : Nat) = n % 256
  rw [key, u16w]
  omega
set_option maxHeartbeats 2000000 in
theorem loads_w (r : Nat → Int) (a b m : Int) (w : World) (hb : 0 ≤ b) (hb2 : b < 8) (hr : Wd (r b.toNat)) (hm : Wd m) :
    Calls Tryd.prog 21 #[arV r, insV 13 a b m] w fun e w' => e = .returned (accV (1, addV (r b.toNat) m, 0, a, 0)) ∧ w' = ((((w.alloc (.cells (arC r) 24)).alloc (.cells #[.int .u8 13, .int .u8 a, .int .u8 b, .int .u16 m] 55)).alloc (.cells (accC (1, addV (r b.toNat) m, 0, a, 0)) 35)).alloc (.cells (accC (1, addV (r b.toNat) m, 0, a, 0)) 35)).drew := by
  have cA := fun w => add_any (r b.toNat) m w hr.1 hr.2 hm.1 hm.2
  have hob : #[Value.int .u16 (r 0), Value.int .u16 (r 1), Value.int .u16 (r 2), Value.int .u16 (r 3), Value.int .u16 (r 4), Value.int .u16 (r 5), Value.int .u16 (r 6), Value.int .u16 (r 7)][b.toNat]? = some (.int .u16 (r b.toNat)) := ar_at r b.toNat (by omega)
  unfold arV insV
  go_enter Tryd.func21, Tryd.ntmps21
  go_wp2
  go_region_held3 (fun w' => w'.cell? ⟨w.heap.size, b.toNat, none⟩ = some (.int .u16 (r b.toNat)) ∧ w'.cell? ⟨w.heap.size + 1, 2, none⟩ = some (.int .u8 b) ∧ w'.cell? ⟨w.heap.size + 1, 3, none⟩ = some (.int .u16 m)) (simp [go_sem, hob]) ((go_at_call 18; refine (cA _).mono ?_; rintro e w' ⟨rfl, rfl⟩))
  go_wp2_with fail
  exact bodyPost_ret (v := accV (1, addV (r b.toNat) m, 0, a, 0)) (by simp [results, Tryd.results21, go_sem, accV]) rfl ⟨rfl, rfl⟩
set_option maxHeartbeats 2000000 in
theorem loads_b (r : Nat → Int) (a b m : Int) (w : World) (hb : 0 ≤ b) (hb2 : b < 8) (hr : Wd (r b.toNat)) (hm : Wd m) :
    Calls Tryd.prog 21 #[arV r, insV 15 a b m] w fun e w' => e = .returned (accV (3, addV (r b.toNat) m, 0, a, 0)) ∧ w' = ((((w.alloc (.cells (arC r) 24)).alloc (.cells #[.int .u8 15, .int .u8 a, .int .u8 b, .int .u16 m] 55)).alloc (.cells (accC (3, addV (r b.toNat) m, 0, a, 0)) 35)).alloc (.cells (accC (3, addV (r b.toNat) m, 0, a, 0)) 35)).drew := by
  have cA := fun w => add_any (r b.toNat) m w hr.1 hr.2 hm.1 hm.2
  have hob : #[Value.int .u16 (r 0), Value.int .u16 (r 1), Value.int .u16 (r 2), Value.int .u16 (r 3), Value.int .u16 (r 4), Value.int .u16 (r 5), Value.int .u16 (r 6), Value.int .u16 (r 7)][b.toNat]? = some (.int .u16 (r b.toNat)) := ar_at r b.toNat (by omega)
  unfold arV insV
  go_enter Tryd.func21, Tryd.ntmps21
  go_wp2
  go_region_held3 (fun w' => w'.cell? ⟨w.heap.size, b.toNat, none⟩ = some (.int .u16 (r b.toNat)) ∧ w'.cell? ⟨w.heap.size + 1, 2, none⟩ = some (.int .u8 b) ∧ w'.cell? ⟨w.heap.size + 1, 3, none⟩ = some (.int .u16 m)) (simp [go_sem, hob]) ((go_at_call 18; refine (cA _).mono ?_; rintro e w' ⟨rfl, rfl⟩))
  go_wp2_with fail
  exact bodyPost_ret (v := accV (3, addV (r b.toNat) m, 0, a, 0)) (by simp [results, Tryd.results21, go_sem, accV]) rfl ⟨rfl, rfl⟩
set_option maxHeartbeats 2000000 in
theorem stores_w (r : Nat → Int) (a b m : Int) (w : World) (ha : 0 ≤ a) (ha2 : a < 8) (hb : 0 ≤ b) (hb2 : b < 8) (hr : Wd (r b.toNat)) (hm : Wd m) :
    Calls Tryd.prog 22 #[arV r, insV 14 a b m] w fun e w' => e = .returned (accV (2, addV (r b.toNat) m, r a.toNat, 0, 0)) ∧ w' = ((((w.alloc (.cells (arC r) 24)).alloc (.cells #[.int .u8 14, .int .u8 a, .int .u8 b, .int .u16 m] 56)).alloc (.cells (accC (2, addV (r b.toNat) m, r a.toNat, 0, 0)) 35)).alloc (.cells (accC (2, addV (r b.toNat) m, r a.toNat, 0, 0)) 35)).drew := by
  have cA := fun w => add_any (r b.toNat) m w hr.1 hr.2 hm.1 hm.2
  have hga := ar_get r a.toNat (by omega)
  have hob : #[Value.int .u16 (r 0), Value.int .u16 (r 1), Value.int .u16 (r 2), Value.int .u16 (r 3), Value.int .u16 (r 4), Value.int .u16 (r 5), Value.int .u16 (r 6), Value.int .u16 (r 7)][b.toNat]? = some (.int .u16 (r b.toNat)) := ar_at r b.toNat (by omega)
  unfold arV insV
  go_enter Tryd.func22, Tryd.ntmps22
  go_wp2
  go_region_held3 (fun w' => w'.cell? ⟨w.heap.size, b.toNat, none⟩ = some (.int .u16 (r b.toNat)) ∧ w'.cell? ⟨w.heap.size + 1, 2, none⟩ = some (.int .u8 b) ∧ w'.cell? ⟨w.heap.size + 1, 3, none⟩ = some (.int .u16 m)) (simp [go_sem, hob]) ((go_at_call 18; refine (cA _).mono ?_; rintro e w' ⟨rfl, rfl⟩))
  go_wp2_with fail
  exact bodyPost_ret (v := accV (2, addV (r b.toNat) m, r a.toNat, 0, 0)) (by simp [results, Tryd.results22, go_sem, accV]) rfl ⟨rfl, rfl⟩
set_option maxHeartbeats 2000000 in
theorem stores_b (r : Nat → Int) (a b m : Int) (w : World) (ha : 0 ≤ a) (ha2 : a < 8) (hra : Wd (r a.toNat)) (hb : 0 ≤ b) (hb2 : b < 8) (hr : Wd (r b.toNat)) (hm : Wd m) :
    Calls Tryd.prog 22 #[arV r, insV 16 a b m] w fun e w' => e = .returned (accV (4, addV (r b.toNat) m, r a.toNat % 256, 0, 0)) ∧ w' = ((((w.alloc (.cells (arC r) 24)).alloc (.cells #[.int .u8 16, .int .u8 a, .int .u8 b, .int .u16 m] 56)).alloc (.cells (accC (4, addV (r b.toNat) m, r a.toNat % 256, 0, 0)) 35)).alloc (.cells (accC (4, addV (r b.toNat) m, r a.toNat % 256, 0, 0)) 35)).drew := by
  have cA := fun w => add_any (r b.toNat) m w hr.1 hr.2 hm.1 hm.2
  have hga := ar_get r a.toNat (by omega)
  have hand := and255w (r a.toNat) hra.1 hra.2
  have hob : #[Value.int .u16 (r 0), Value.int .u16 (r 1), Value.int .u16 (r 2), Value.int .u16 (r 3), Value.int .u16 (r 4), Value.int .u16 (r 5), Value.int .u16 (r 6), Value.int .u16 (r 7)][b.toNat]? = some (.int .u16 (r b.toNat)) := ar_at r b.toNat (by omega)
  unfold arV insV
  go_enter Tryd.func22, Tryd.ntmps22
  go_wp2
  go_region_held3 (fun w' => w'.cell? ⟨w.heap.size, b.toNat, none⟩ = some (.int .u16 (r b.toNat)) ∧ w'.cell? ⟨w.heap.size + 1, 2, none⟩ = some (.int .u8 b) ∧ w'.cell? ⟨w.heap.size + 1, 3, none⟩ = some (.int .u16 m)) (simp [go_sem, hob]) ((go_at_call 18; refine (cA _).mono ?_; rintro e w' ⟨rfl, rfl⟩))
  go_wp2_with fail
  exact bodyPost_ret (v := accV (4, addV (r b.toNat) m, r a.toNat % 256, 0, 0)) (by simp [results, Tryd.results22, go_sem, accV]) rfl ⟨rfl, rfl⟩
set_option maxHeartbeats 4000000 in
theorem does_ldw (pc : Int) (r : Nat → Int) (a b m : Int) (w : World) (hp : Wd pc) (hb : 0 ≤ b) (hb2 : b < 8) (hr : ∀ k, Wd (r k)) (hm : Wd m) :
    Calls Tryd.prog 12 #[rgV pc r, .iface 55 (insV 13 a b m)] w fun e w' => e = .returned (.tuple #[rgV (addV pc 4) r, accV (1, addV (r b.toNat) m, 0, a, 0)]) ∧ Below w.heap.size w w' := by
  have t0 := as_load_constant
  have t1 := as_load_move
  have t2 := as_load_quotient
  have t3 := as_load_reckoning
  have t4 := as_load_load
  have cA := fun w => add_any pc 4 w hp.1 hp.2 (by decide) (by decide)
  have cL := fun w => loads_w r a b m w hb hb2 (hr _) hm
  unfold arV arC insV accC accV at cL
  simp only at cL
  unfold rgV insV
  go_enter Tryd.func12, Tryd.ntmps12
  go_wp2_with (go_at_call 18; refine (cA _).mono ?_; rintro e W2 ⟨rfl, rfl⟩)
  go_region_held3 (fun w' => w'.cell? ⟨w.heap.size, 0, none⟩ = some (.int .u16 (addV pc 4)) ∧ w'.cell? ⟨w.heap.size, 1, none⟩ = some (.int .u16 (r 0)) ∧ w'.cell? ⟨w.heap.size, 2, none⟩ = some (.int .u16 (r 1)) ∧ w'.cell? ⟨w.heap.size, 3, none⟩ = some (.int .u16 (r 2)) ∧ w'.cell? ⟨w.heap.size, 4, none⟩ = some (.int .u16 (r 3)) ∧ w'.cell? ⟨w.heap.size, 5, none⟩ = some (.int .u16 (r 4)) ∧ w'.cell? ⟨w.heap.size, 6, none⟩ = some (.int .u16 (r 5)) ∧ w'.cell? ⟨w.heap.size, 7, none⟩ = some (.int .u16 (r 6)) ∧ w'.cell? ⟨w.heap.size, 8, none⟩ = some (.int .u16 (r 7)) ∧ w'.cell? ⟨w.heap.size + 1 + 1 + 1, 0, none⟩ = some (.int .u16 (r 0)) ∧ w'.cell? ⟨w.heap.size + 1 + 1 + 1, 1, none⟩ = some (.int .u16 (r 1)) ∧ w'.cell? ⟨w.heap.size + 1 + 1 + 1, 2, none⟩ = some (.int .u16 (r 2)) ∧ w'.cell? ⟨w.heap.size + 1 + 1 + 1, 3, none⟩ = some (.int .u16 (r 3)) ∧ w'.cell? ⟨w.heap.size + 1 + 1 + 1, 4, none⟩ = some (.int .u16 (r 4)) ∧ w'.cell? ⟨w.heap.size + 1 + 1 + 1, 5, none⟩ = some (.int .u16 (r 5)) ∧ w'.cell? ⟨w.heap.size + 1 + 1 + 1, 6, none⟩ = some (.int .u16 (r 6)) ∧ w'.cell? ⟨w.heap.size + 1 + 1 + 1, 7, none⟩ = some (.int .u16 (r 7)) ∧ w'.cell? ⟨w.heap.size + 1 + 1 + 1 + 1, 0, none⟩ = some (.int .u8 13) ∧ w'.cell? ⟨w.heap.size + 1 + 1 + 1 + 1, 1, none⟩ = some (.int .u8 a) ∧ w'.cell? ⟨w.heap.size + 1 + 1 + 1 + 1, 2, none⟩ = some (.int .u8 b) ∧ w'.cell? ⟨w.heap.size + 1 + 1 + 1 + 1, 3, none⟩ = some (.int .u16 m)) (simp [go_sem]) ((go_at_call 21; refine (cL _).mono ?_; rintro e w' ⟨rfl, rfl⟩))
  go_wp2_with fail
  exact bodyPost_ret (v := .tuple #[rgV (addV pc 4) r, accV (1, addV (r b.toNat) m, 0, a, 0)]) (by simp [results, Tryd.results12, go_sem, accV, rgV]) rfl ⟨rfl, Below.drew (Below.drew (nx (nx (nx (nx (nx (nx (nx (nx (nx (Below.refl _ w) _) _) _) _) _) _) _) _) _))⟩
set_option maxHeartbeats 4000000 in
theorem does_ldb (pc : Int) (r : Nat → Int) (a b m : Int) (w : World) (hp : Wd pc) (hb : 0 ≤ b) (hb2 : b < 8) (hr : ∀ k, Wd (r k)) (hm : Wd m) :
    Calls Tryd.prog 12 #[rgV pc r, .iface 55 (insV 15 a b m)] w fun e w' => e = .returned (.tuple #[rgV (addV pc 4) r, accV (3, addV (r b.toNat) m, 0, a, 0)]) ∧ Below w.heap.size w w' := by
  have t0 := as_load_constant
  have t1 := as_load_move
  have t2 := as_load_quotient
  have t3 := as_load_reckoning
  have t4 := as_load_load
  have cA := fun w => add_any pc 4 w hp.1 hp.2 (by decide) (by decide)
  have cL := fun w => loads_b r a b m w hb hb2 (hr _) hm
  unfold arV arC insV accC accV at cL
  simp only at cL
  unfold rgV insV
  go_enter Tryd.func12, Tryd.ntmps12
  go_wp2_with (go_at_call 18; refine (cA _).mono ?_; rintro e W2 ⟨rfl, rfl⟩)
  go_region_held3 (fun w' => w'.cell? ⟨w.heap.size, 0, none⟩ = some (.int .u16 (addV pc 4)) ∧ w'.cell? ⟨w.heap.size, 1, none⟩ = some (.int .u16 (r 0)) ∧ w'.cell? ⟨w.heap.size, 2, none⟩ = some (.int .u16 (r 1)) ∧ w'.cell? ⟨w.heap.size, 3, none⟩ = some (.int .u16 (r 2)) ∧ w'.cell? ⟨w.heap.size, 4, none⟩ = some (.int .u16 (r 3)) ∧ w'.cell? ⟨w.heap.size, 5, none⟩ = some (.int .u16 (r 4)) ∧ w'.cell? ⟨w.heap.size, 6, none⟩ = some (.int .u16 (r 5)) ∧ w'.cell? ⟨w.heap.size, 7, none⟩ = some (.int .u16 (r 6)) ∧ w'.cell? ⟨w.heap.size, 8, none⟩ = some (.int .u16 (r 7)) ∧ w'.cell? ⟨w.heap.size + 1 + 1 + 1, 0, none⟩ = some (.int .u16 (r 0)) ∧ w'.cell? ⟨w.heap.size + 1 + 1 + 1, 1, none⟩ = some (.int .u16 (r 1)) ∧ w'.cell? ⟨w.heap.size + 1 + 1 + 1, 2, none⟩ = some (.int .u16 (r 2)) ∧ w'.cell? ⟨w.heap.size + 1 + 1 + 1, 3, none⟩ = some (.int .u16 (r 3)) ∧ w'.cell? ⟨w.heap.size + 1 + 1 + 1, 4, none⟩ = some (.int .u16 (r 4)) ∧ w'.cell? ⟨w.heap.size + 1 + 1 + 1, 5, none⟩ = some (.int .u16 (r 5)) ∧ w'.cell? ⟨w.heap.size + 1 + 1 + 1, 6, none⟩ = some (.int .u16 (r 6)) ∧ w'.cell? ⟨w.heap.size + 1 + 1 + 1, 7, none⟩ = some (.int .u16 (r 7)) ∧ w'.cell? ⟨w.heap.size + 1 + 1 + 1 + 1, 0, none⟩ = some (.int .u8 15) ∧ w'.cell? ⟨w.heap.size + 1 + 1 + 1 + 1, 1, none⟩ = some (.int .u8 a) ∧ w'.cell? ⟨w.heap.size + 1 + 1 + 1 + 1, 2, none⟩ = some (.int .u8 b) ∧ w'.cell? ⟨w.heap.size + 1 + 1 + 1 + 1, 3, none⟩ = some (.int .u16 m)) (simp [go_sem]) ((go_at_call 21; refine (cL _).mono ?_; rintro e w' ⟨rfl, rfl⟩))
  go_wp2_with fail
  exact bodyPost_ret (v := .tuple #[rgV (addV pc 4) r, accV (3, addV (r b.toNat) m, 0, a, 0)]) (by simp [results, Tryd.results12, go_sem, accV, rgV]) rfl ⟨rfl, Below.drew (Below.drew (nx (nx (nx (nx (nx (nx (nx (nx (nx (Below.refl _ w) _) _) _) _) _) _) _) _) _))⟩
set_option maxHeartbeats 4000000 in
theorem does_stw (pc : Int) (r : Nat → Int) (a b m : Int) (w : World) (hp : Wd pc) (ha : 0 ≤ a) (ha2 : a < 8) (hb : 0 ≤ b) (hb2 : b < 8) (hr : ∀ k, Wd (r k)) (hm : Wd m) :
    Calls Tryd.prog 12 #[rgV pc r, .iface 56 (insV 14 a b m)] w fun e w' => e = .returned (.tuple #[rgV (addV pc 4) r, accV (2, addV (r b.toNat) m, r a.toNat, 0, 0)]) ∧ Below w.heap.size w w' := by
  have t0 := as_store_constant
  have t1 := as_store_move
  have t2 := as_store_quotient
  have t3 := as_store_reckoning
  have t4 := as_store_load
  have t5 := as_store_store
  have cA := fun w => add_any pc 4 w hp.1 hp.2 (by decide) (by decide)
  have cL := fun w => stores_w r a b m w ha ha2 hb hb2 (hr _) hm
  unfold arV arC insV accC accV at cL
  simp only at cL
  unfold rgV insV
  go_enter Tryd.func12, Tryd.ntmps12
  go_wp2_with (go_at_call 18; refine (cA _).mono ?_; rintro e W2 ⟨rfl, rfl⟩)
  go_region_held3 (fun w' => w'.cell? ⟨w.heap.size, 0, none⟩ = some (.int .u16 (addV pc 4)) ∧ w'.cell? ⟨w.heap.size, 1, none⟩ = some (.int .u16 (r 0)) ∧ w'.cell? ⟨w.heap.size, 2, none⟩ = some (.int .u16 (r 1)) ∧ w'.cell? ⟨w.heap.size, 3, none⟩ = some (.int .u16 (r 2)) ∧ w'.cell? ⟨w.heap.size, 4, none⟩ = some (.int .u16 (r 3)) ∧ w'.cell? ⟨w.heap.size, 5, none⟩ = some (.int .u16 (r 4)) ∧ w'.cell? ⟨w.heap.size, 6, none⟩ = some (.int .u16 (r 5)) ∧ w'.cell? ⟨w.heap.size, 7, none⟩ = some (.int .u16 (r 6)) ∧ w'.cell? ⟨w.heap.size, 8, none⟩ = some (.int .u16 (r 7)) ∧ w'.cell? ⟨w.heap.size + 1 + 1 + 1, 0, none⟩ = some (.int .u16 (r 0)) ∧ w'.cell? ⟨w.heap.size + 1 + 1 + 1, 1, none⟩ = some (.int .u16 (r 1)) ∧ w'.cell? ⟨w.heap.size + 1 + 1 + 1, 2, none⟩ = some (.int .u16 (r 2)) ∧ w'.cell? ⟨w.heap.size + 1 + 1 + 1, 3, none⟩ = some (.int .u16 (r 3)) ∧ w'.cell? ⟨w.heap.size + 1 + 1 + 1, 4, none⟩ = some (.int .u16 (r 4)) ∧ w'.cell? ⟨w.heap.size + 1 + 1 + 1, 5, none⟩ = some (.int .u16 (r 5)) ∧ w'.cell? ⟨w.heap.size + 1 + 1 + 1, 6, none⟩ = some (.int .u16 (r 6)) ∧ w'.cell? ⟨w.heap.size + 1 + 1 + 1, 7, none⟩ = some (.int .u16 (r 7)) ∧ w'.cell? ⟨w.heap.size + 1 + 1 + 1 + 1, 0, none⟩ = some (.int .u8 14) ∧ w'.cell? ⟨w.heap.size + 1 + 1 + 1 + 1, 1, none⟩ = some (.int .u8 a) ∧ w'.cell? ⟨w.heap.size + 1 + 1 + 1 + 1, 2, none⟩ = some (.int .u8 b) ∧ w'.cell? ⟨w.heap.size + 1 + 1 + 1 + 1, 3, none⟩ = some (.int .u16 m)) (simp [go_sem]) ((go_at_call 22; refine (cL _).mono ?_; rintro e w' ⟨rfl, rfl⟩))
  go_wp2_with fail
  exact bodyPost_ret (v := .tuple #[rgV (addV pc 4) r, accV (2, addV (r b.toNat) m, r a.toNat, 0, 0)]) (by simp [results, Tryd.results12, go_sem, accV, rgV]) rfl ⟨rfl, Below.drew (Below.drew (nx (nx (nx (nx (nx (nx (nx (nx (nx (Below.refl _ w) _) _) _) _) _) _) _) _) _))⟩
set_option maxHeartbeats 4000000 in
theorem does_stb (pc : Int) (r : Nat → Int) (a b m : Int) (w : World) (hp : Wd pc) (ha : 0 ≤ a) (ha2 : a < 8) (hb : 0 ≤ b) (hb2 : b < 8) (hr : ∀ k, Wd (r k)) (hm : Wd m) :
    Calls Tryd.prog 12 #[rgV pc r, .iface 56 (insV 16 a b m)] w fun e w' => e = .returned (.tuple #[rgV (addV pc 4) r, accV (4, addV (r b.toNat) m, r a.toNat % 256, 0, 0)]) ∧ Below w.heap.size w w' := by
  have t0 := as_store_constant
  have t1 := as_store_move
  have t2 := as_store_quotient
  have t3 := as_store_reckoning
  have t4 := as_store_load
  have t5 := as_store_store
  have cA := fun w => add_any pc 4 w hp.1 hp.2 (by decide) (by decide)
  have cL := fun w => stores_b r a b m w ha ha2 (hr _) hb hb2 (hr _) hm
  unfold arV arC insV accC accV at cL
  simp only at cL
  unfold rgV insV
  go_enter Tryd.func12, Tryd.ntmps12
  go_wp2_with (go_at_call 18; refine (cA _).mono ?_; rintro e W2 ⟨rfl, rfl⟩)
  go_region_held3 (fun w' => w'.cell? ⟨w.heap.size, 0, none⟩ = some (.int .u16 (addV pc 4)) ∧ w'.cell? ⟨w.heap.size, 1, none⟩ = some (.int .u16 (r 0)) ∧ w'.cell? ⟨w.heap.size, 2, none⟩ = some (.int .u16 (r 1)) ∧ w'.cell? ⟨w.heap.size, 3, none⟩ = some (.int .u16 (r 2)) ∧ w'.cell? ⟨w.heap.size, 4, none⟩ = some (.int .u16 (r 3)) ∧ w'.cell? ⟨w.heap.size, 5, none⟩ = some (.int .u16 (r 4)) ∧ w'.cell? ⟨w.heap.size, 6, none⟩ = some (.int .u16 (r 5)) ∧ w'.cell? ⟨w.heap.size, 7, none⟩ = some (.int .u16 (r 6)) ∧ w'.cell? ⟨w.heap.size, 8, none⟩ = some (.int .u16 (r 7)) ∧ w'.cell? ⟨w.heap.size + 1 + 1 + 1, 0, none⟩ = some (.int .u16 (r 0)) ∧ w'.cell? ⟨w.heap.size + 1 + 1 + 1, 1, none⟩ = some (.int .u16 (r 1)) ∧ w'.cell? ⟨w.heap.size + 1 + 1 + 1, 2, none⟩ = some (.int .u16 (r 2)) ∧ w'.cell? ⟨w.heap.size + 1 + 1 + 1, 3, none⟩ = some (.int .u16 (r 3)) ∧ w'.cell? ⟨w.heap.size + 1 + 1 + 1, 4, none⟩ = some (.int .u16 (r 4)) ∧ w'.cell? ⟨w.heap.size + 1 + 1 + 1, 5, none⟩ = some (.int .u16 (r 5)) ∧ w'.cell? ⟨w.heap.size + 1 + 1 + 1, 6, none⟩ = some (.int .u16 (r 6)) ∧ w'.cell? ⟨w.heap.size + 1 + 1 + 1, 7, none⟩ = some (.int .u16 (r 7)) ∧ w'.cell? ⟨w.heap.size + 1 + 1 + 1 + 1, 0, none⟩ = some (.int .u8 16) ∧ w'.cell? ⟨w.heap.size + 1 + 1 + 1 + 1, 1, none⟩ = some (.int .u8 a) ∧ w'.cell? ⟨w.heap.size + 1 + 1 + 1 + 1, 2, none⟩ = some (.int .u8 b) ∧ w'.cell? ⟨w.heap.size + 1 + 1 + 1 + 1, 3, none⟩ = some (.int .u16 m)) (simp [go_sem]) ((go_at_call 22; refine (cL _).mono ?_; rintro e w' ⟨rfl, rfl⟩))
  go_wp2_with fail
  exact bodyPost_ret (v := .tuple #[rgV (addV pc 4) r, accV (4, addV (r b.toNat) m, r a.toNat % 256, 0, 0)]) (by simp [results, Tryd.results12, go_sem, accV, rgV]) rfl ⟨rfl, Below.drew (Below.drew (nx (nx (nx (nx (nx (nx (nx (nx (nx (Below.refl _ w) _) _) _) _) _) _) _) _) _))⟩
set_option maxHeartbeats 4000000 in
theorem does_div (pc : Int) (r : Nat → Int) (o a b m : Int) (w : World) (hp : Wd pc) (ha : 0 ≤ a) (ha2 : a < 8) (hb : 0 ≤ b) (hb2 : b < 8) (hr : ∀ k, Wd (r k)) (hz : r b.toNat ≠ 0) :
    Calls Tryd.prog 12 #[rgV pc r, .iface 53 (insV o a b m)] w fun e w' => e = .returned (.tuple #[rgV (addV pc 4) (upd r a.toNat (r a.toNat / r b.toNat)), accV (0, 0, 0, 0, 0)]) ∧ Below w.heap.size w w' := by
  have t0 := as_quotient_constant
  have t1 := as_quotient_move
  have t2 := as_quotient_quotient
  have cA := fun w => add_any pc 4 w hp.1 hp.2 (by decide) (by decide)
  have cD := fun w => div_any (r a.toNat) (r b.toNat) w (hr _).1 (hr _).2 (by have := (hr b.toNat).1; omega) (hr _).2
  have hoa : #[Value.int .u16 (r 0), Value.int .u16 (r 1), Value.int .u16 (r 2), Value.int .u16 (r 3), Value.int .u16 (r 4), Value.int .u16 (r 5), Value.int .u16 (r 6), Value.int .u16 (r 7)][a.toNat]? = some (.int .u16 (r a.toNat)) := ar_at r a.toNat (by omega)
  have hob : #[Value.int .u16 (r 0), Value.int .u16 (r 1), Value.int .u16 (r 2), Value.int .u16 (r 3), Value.int .u16 (r 4), Value.int .u16 (r 5), Value.int .u16 (r 6), Value.int .u16 (r 7)][b.toNat]? = some (.int .u16 (r b.toNat)) := ar_at r b.toNat (by omega)
  have hs := rg_set (addV pc 4) r (r a.toNat / r b.toNat) a.toNat (by omega)
  have hc : #[Value.int .u16 (addV pc 4), .int .u16 (r 0), .int .u16 (r 1), .int .u16 (r 2), .int .u16 (r 3), .int .u16 (r 4), .int .u16 (r 5), .int .u16 (r 6), .int .u16 (r 7)][1 + a.toNat]? = some (.int .u16 (r a.toNat)) := rg_at (addV pc 4) r a.toNat (by omega)
  generalize upd r a.toNat (r a.toNat / r b.toNat) = r' at *
  generalize r a.toNat / r b.toNat = d at *
  generalize r a.toNat % r b.toNat = d2 at *
  unfold rgV insV
  go_enter Tryd.func12, Tryd.ntmps12
  go_wp2_with (go_at_call 18; refine (cA _).mono ?_; rintro e W2 ⟨rfl, rfl⟩)
  go_region_held3 (fun w' => w'.cell? ⟨w.heap.size + 1 + 1 + 1, a.toNat, none⟩ = some (.int .u16 (r a.toNat)) ∧ w'.cell? ⟨w.heap.size + 1 + 1 + 1, b.toNat, none⟩ = some (.int .u16 (r b.toNat)) ∧ w'.cell? ⟨w.heap.size + 1 + 1 + 1 + 1, 1, none⟩ = some (.int .u8 a) ∧ w'.cell? ⟨w.heap.size + 1 + 1 + 1 + 1, 2, none⟩ = some (.int .u8 b)) (simp [go_sem, hoa, hob]) ((go_at_call 19; refine (cD _).mono ?_; rintro e w' ⟨rfl, n, rfl⟩))
  have sd := set_drewN
  go_wp2
  exact bodyPost_ret (v := .tuple #[rgV (addV pc 4) r', accV (0, 0, 0, 0, 0)]) (by simp [results, Tryd.results12, go_sem, accV, rgV]) rfl ⟨rfl, bel_drewN (nx (nx (nx (nx (nx (Below.refl _ w) _) _) _) _) _)⟩
end Go.Proofs.YtbjklpdloglniaaDoor
