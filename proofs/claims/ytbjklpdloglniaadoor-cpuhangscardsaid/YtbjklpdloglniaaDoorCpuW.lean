/- Which registers an instruction writes: the program. -/
import Derived.Test.YtbjklpdloglniaaDoorCpuU
namespace Go.Proofs.YtbjklpdloglniaaDoor
open Go.RowKit
set_option linter.unusedVariables false
set_option maxRecDepth 100000

theorem as_store_call (v : Value) (w : World) : (Instr.typeAssert (.iface 56 v) 44 66 true).run Tryd.prog w = .ok (.tuple #[.agg #[.int .u8 0, .int .u8 0, .int .u8 0, .int .u16 0], .bool false]) w := by kernel_rfl
theorem as_jump_call (v : Value) (w : World) : (Instr.typeAssert (.iface 65 v) 44 66 true).run Tryd.prog w = .ok (.tuple #[.agg #[.int .u8 0, .int .u8 0, .int .u8 0, .int .u16 0], .bool false]) w := by kernel_rfl
theorem as_zeroJump_call (v : Value) (w : World) : (Instr.typeAssert (.iface 57 v) 44 66 true).run Tryd.prog w = .ok (.tuple #[.agg #[.int .u8 0, .int .u8 0, .int .u8 0, .int .u16 0], .bool false]) w := by kernel_rfl
theorem as_lessJump_call (v : Value) (w : World) : (Instr.typeAssert (.iface 58 v) 44 66 true).run Tryd.prog w = .ok (.tuple #[.agg #[.int .u8 0, .int .u8 0, .int .u8 0, .int .u16 0], .bool false]) w := by kernel_rfl
def mkV (f : Nat → Bool) : Value := .agg #[.bool (f 0), .bool (f 1), .bool (f 2), .bool (f 3), .bool (f 4), .bool (f 5), .bool (f 6), .bool (f 7)]
/-- The registers that are marked, rising. -/
def lst (f : Nat → Bool) : Nat → List UInt8
  | 0 => []
  | n + 1 => lst f n ++ (if f n then [UInt8.ofNat n] else [])
theorem lst_len (f : Nat → Bool) : ∀ n, (lst f n).length ≤ n
  | 0 => Nat.le_refl 0
  | n + 1 => by
    have := lst_len f n
    rw [lst, List.length_append]
    split <;> simp <;> omega
theorem index_mk (f : Nat → Bool) (k : Nat) (hk : k < 8) : ∀ w : World, (Instr.index 42 (mkV f) (.int .i64 (k : Int))).run Tryd.prog w = .ok (.bool (f k)) w := by
  revert k
  exact eight (fun w => by kernel_rfl) (fun w => by kernel_rfl) (fun w => by kernel_rfl) (fun w => by kernel_rfl) (fun w => by kernel_rfl) (fun w => by kernel_rfl) (fun w => by kernel_rfl) (fun w => by kernel_rfl)
theorem cell_one (w : World) (x : Value) (t : TypeId) : ∀ j v, [x][j]? = some v → (w.alloc (.cells #[x] t)).cell? ((⟨w.heap.size, 0, none⟩ : Addr).add j) = some v := by
  intro j v h
  match j, h with
  | 0, h =>
    injection h with h
    subst h
    simp [Addr.add, go_sem]
set_option maxHeartbeats 4000000 in
theorem list_any (f : Nat → Bool) (w : World) : Calls Tryd.prog 8 #[mkV f] w fun e w' => (∃ v, e = .returned v ∧ Bts w' v (lst f 8)) ∧ Below w.heap.size w w' := by
  obtain ⟨i0, hi, hz0, hz1, hz2⟩ := info_parts infoB
  have hix := index_mk f
  unfold mkV at *
  go_enter Tryd.func8, Tryd.ntmps8
  go_wp2
  go_loopw [3, 7] (fun v i wr => ∃ k : Nat, k ≤ 8 ∧ i = .int .i64 k ∧ wr.ownsRow (w.heap.size + 1) 5 1 v (lst f k).length ((lst f k).map bytV) ∧ Below w.heap.size w wr ∧ w.heap.size + 1 ≤ wr.heap.size) (fun _ i _ => 8 - (intOf i).toNat)
  case atStart => exact ⟨0, by omega, rfl, World.ownsRow_nil _ _ _ _, nx (Below.refl _ w) _, by simp⟩
  case round =>
    obtain ⟨k, hk, rfl, hown, hB, hs⟩ := hrel
    obtain ⟨a0, cap0, rfl⟩ : ∃ a cap, u3 = .slice a (lst f k).length cap := by
      rcases hown.2 with ⟨hv, h0⟩ | ⟨g, cap, cur, hv, _⟩
      · exact ⟨none, 0, by rw [h0]; exact hv⟩
      · exact ⟨_, _, hv⟩
    by_cases hlt : k < 8
    · have hlt' : (k : Int) < 8 := by omega
      have hx := hix k hlt
      have hL := lst_len f k
      clear hix
      cases hf : f k with
      | false =>
        rw [hf] at hx
        have HL : Hid (lst f (k + 1) = lst f k) := by show _ = _; rw [lst, hf]; simp
        clear hf
        have HO : Hid (wr.ownsRow (w.heap.size + 1) 5 1 (.slice a0 (lst f k).length cap0) (lst f k).length ((lst f k).map bytV)) := hown
        clear hown
        go_wp2
        go_roundw
        case rel => exact ⟨k + 1, by omega, by go_num, by rw [HL.out]; exact HO.out, hB, hs⟩
        case measure => simp [intOf]; omega
      | true =>
        rw [hf] at hx
        have HL : Hid (lst f (k + 1) = lst f k ++ [UInt8.ofNat k]) := by show _ = _; rw [lst, hf]; simp
        have hw : IntKind.u8.wrap (k : Int) = (k : Int) := by rw [u8w]; omega
        have HV : Hid (bytV (UInt8.ofNat k) = .int .u8 (k : Int)) := by
          show Value.int .u8 ((UInt8.ofNat k).toNat : Int) = _
          rw [ofNat_toNat8 k (by omega)]
        clear hf
        generalize lst f k = L at *
        generalize hn : L.length = n at *
        have HN : Hid (L.length = n) := hn
        clear hn
        go_wp2_with (at_builtin; refine wpList_append_own _ rfl _ _ 30 rfl (w.heap.size + 1) 5 i0 (.int .u8 0) 1 1 Tryd.underlying30 hi hz0 hz1 hz2 rfl (by decide) _ _ _ rfl (hown.alloc _) ⟨wr.heap.size, 0, none⟩ 1 1 [.int .u8 (k : Int)] rfl rfl (cell_one wr (.int .u8 (k : Int)) 5) (by simp [Value.oneCell']) (by unfold maxLen; omega) (by omega) (by simp; omega) ?_; intro v' w1 hown' hgrow _)
        have hb3 : Below w.heap.size w w1 := (nx hB _).grown hgrow (by simp; omega) (fun j hj => by have := (hown.lt j hj).1; omega)
        have hs3 : w.heap.size + 1 ≤ w1.heap.size := by have := hb3.size; have := hgrow.size; simp at *; omega
        go_roundw
        case rel =>
          refine ⟨k + 1, by omega, by go_num, ?_, hb3, hs3⟩
          rw [HL.out, List.length_append, List.map_append, HN.out, List.map_cons, List.map_nil, HV.out]
          exact hown'
        case measure => simp [intOf]; omega
    · obtain rfl : k = 8 := by omega
      have HO : Hid (wr.ownsRow (w.heap.size + 1) 5 1 (.slice a0 (lst f 8).length cap0) (lst f 8).length ((lst f 8).map bytV)) := hown
      clear hown hix
      go_wp2
      go_ret
      exact ⟨⟨_, rfl, Bts.of_own HO.out⟩, hB⟩
/-- What an operation writes: a register, or none. -/
def wrF (o a : Int) : Nat → Bool := fun j => if (2 ≤ o ∧ o ≤ 13) ∨ o = 15 then decide (j = a.toNat) else if o = 21 then decide (j = 7) else false
theorem mk_set (k : Nat) (hk : k < 8) : [Value.bool false, .bool false, .bool false, .bool false, .bool false, .bool false, .bool false, .bool false].set k (.bool true) = [Value.bool (decide (0 = k)), .bool (decide (1 = k)), .bool (decide (2 = k)), .bool (decide (3 = k)), .bool (decide (4 = k)), .bool (decide (5 = k)), .bool (decide (6 = k)), .bool (decide (7 = k))] := by
  revert k
  exact eight rfl rfl rfl rfl rfl rfl rfl rfl
theorem mk_at (k : Nat) (hk : k < 8) : #[Value.bool false, .bool false, .bool false, .bool false, .bool false, .bool false, .bool false, .bool false][k]? = some (.bool false) := by
  revert k
  exact eight rfl rfl rfl rfl rfl rfl rfl rfl
set_option maxHeartbeats 2000000 in
theorem writes_constant (o a b m : Int) (w : World) (ha : 0 ≤ a) (ha2 : a < 8) : Calls Tryd.prog 13 #[.iface 64 (insV o a b m)] w fun e w' => e = .returned (mkV (fun j => decide (j = a.toNat))) ∧ Below w.heap.size w w' := by
  have t0 := as_constant_constant
  have hs := mk_set a.toNat (by omega)
  have hc := mk_at a.toNat (by omega)
  unfold insV mkV
  go_enter Tryd.func13, Tryd.ntmps13
  go_wp2
  exact bodyPost_ret (v := .agg #[.bool (decide (0 = a.toNat)), .bool (decide (1 = a.toNat)), .bool (decide (2 = a.toNat)), .bool (decide (3 = a.toNat)), .bool (decide (4 = a.toNat)), .bool (decide (5 = a.toNat)), .bool (decide (6 = a.toNat)), .bool (decide (7 = a.toNat))]) (by simp [results, Tryd.results13, go_sem]) rfl ⟨rfl, nx (nx (nx (Below.refl _ w) _) _) _⟩
set_option maxHeartbeats 2000000 in
theorem writes_move (o a b m : Int) (w : World) (ha : 0 ≤ a) (ha2 : a < 8) : Calls Tryd.prog 13 #[.iface 52 (insV o a b m)] w fun e w' => e = .returned (mkV (fun j => decide (j = a.toNat))) ∧ Below w.heap.size w w' := by
  have t0 := as_move_constant
  have t1 := as_move_move
  have hs := mk_set a.toNat (by omega)
  have hc := mk_at a.toNat (by omega)
  unfold insV mkV
  go_enter Tryd.func13, Tryd.ntmps13
  go_wp2
  exact bodyPost_ret (v := .agg #[.bool (decide (0 = a.toNat)), .bool (decide (1 = a.toNat)), .bool (decide (2 = a.toNat)), .bool (decide (3 = a.toNat)), .bool (decide (4 = a.toNat)), .bool (decide (5 = a.toNat)), .bool (decide (6 = a.toNat)), .bool (decide (7 = a.toNat))]) (by simp [results, Tryd.results13, go_sem]) rfl ⟨rfl, nx (nx (nx (Below.refl _ w) _) _) _⟩
set_option maxHeartbeats 2000000 in
theorem writes_quotient (o a b m : Int) (w : World) (ha : 0 ≤ a) (ha2 : a < 8) : Calls Tryd.prog 13 #[.iface 53 (insV o a b m)] w fun e w' => e = .returned (mkV (fun j => decide (j = a.toNat))) ∧ Below w.heap.size w w' := by
  have t0 := as_quotient_constant
  have t1 := as_quotient_move
  have t2 := as_quotient_quotient
  have hs := mk_set a.toNat (by omega)
  have hc := mk_at a.toNat (by omega)
  unfold insV mkV
  go_enter Tryd.func13, Tryd.ntmps13
  go_wp2
  exact bodyPost_ret (v := .agg #[.bool (decide (0 = a.toNat)), .bool (decide (1 = a.toNat)), .bool (decide (2 = a.toNat)), .bool (decide (3 = a.toNat)), .bool (decide (4 = a.toNat)), .bool (decide (5 = a.toNat)), .bool (decide (6 = a.toNat)), .bool (decide (7 = a.toNat))]) (by simp [results, Tryd.results13, go_sem]) rfl ⟨rfl, nx (nx (nx (Below.refl _ w) _) _) _⟩
set_option maxHeartbeats 2000000 in
theorem writes_reckoning (o a b m : Int) (w : World) (ha : 0 ≤ a) (ha2 : a < 8) : Calls Tryd.prog 13 #[.iface 54 (insV o a b m)] w fun e w' => e = .returned (mkV (fun j => decide (j = a.toNat))) ∧ Below w.heap.size w w' := by
  have t0 := as_reckoning_constant
  have t1 := as_reckoning_move
  have t2 := as_reckoning_quotient
  have t3 := as_reckoning_reckoning
  have hs := mk_set a.toNat (by omega)
  have hc := mk_at a.toNat (by omega)
  unfold insV mkV
  go_enter Tryd.func13, Tryd.ntmps13
  go_wp2
  exact bodyPost_ret (v := .agg #[.bool (decide (0 = a.toNat)), .bool (decide (1 = a.toNat)), .bool (decide (2 = a.toNat)), .bool (decide (3 = a.toNat)), .bool (decide (4 = a.toNat)), .bool (decide (5 = a.toNat)), .bool (decide (6 = a.toNat)), .bool (decide (7 = a.toNat))]) (by simp [results, Tryd.results13, go_sem]) rfl ⟨rfl, nx (nx (nx (Below.refl _ w) _) _) _⟩
set_option maxHeartbeats 2000000 in
theorem writes_load (o a b m : Int) (w : World) (ha : 0 ≤ a) (ha2 : a < 8) : Calls Tryd.prog 13 #[.iface 55 (insV o a b m)] w fun e w' => e = .returned (mkV (fun j => decide (j = a.toNat))) ∧ Below w.heap.size w w' := by
  have t0 := as_load_constant
  have t1 := as_load_move
  have t2 := as_load_quotient
  have t3 := as_load_reckoning
  have t4 := as_load_load
  have hs := mk_set a.toNat (by omega)
  have hc := mk_at a.toNat (by omega)
  unfold insV mkV
  go_enter Tryd.func13, Tryd.ntmps13
  go_wp2
  exact bodyPost_ret (v := .agg #[.bool (decide (0 = a.toNat)), .bool (decide (1 = a.toNat)), .bool (decide (2 = a.toNat)), .bool (decide (3 = a.toNat)), .bool (decide (4 = a.toNat)), .bool (decide (5 = a.toNat)), .bool (decide (6 = a.toNat)), .bool (decide (7 = a.toNat))]) (by simp [results, Tryd.results13, go_sem]) rfl ⟨rfl, nx (nx (nx (Below.refl _ w) _) _) _⟩
set_option maxHeartbeats 2000000 in
theorem writes_call (o a b m : Int) (w : World) : Calls Tryd.prog 13 #[.iface 66 (insV o a b m)] w fun e w' => e = .returned (mkV (fun j => decide (j = 7))) ∧ Below w.heap.size w w' := by
  have t0 := as_call_constant
  have t1 := as_call_move
  have t2 := as_call_quotient
  have t3 := as_call_reckoning
  have t4 := as_call_load
  have t5 := as_call_call
  unfold insV mkV
  go_enter Tryd.func13, Tryd.ntmps13
  go_wp2
  exact bodyPost_ret (v := mkV (fun j => decide (j = 7))) (by simp [results, Tryd.results13, go_sem, mkV]) rfl ⟨rfl, nx (nx (nx (Below.refl _ w) _) _) _⟩
set_option maxHeartbeats 2000000 in
theorem writes_pass (v : Value) (w : World) : Calls Tryd.prog 13 #[.iface 62 v] w fun e w' => e = .returned (.agg #[.bool false, .bool false, .bool false, .bool false, .bool false, .bool false, .bool false, .bool false]) ∧ Below w.heap.size w w' := by
  have t0 := as_pass_constant
  have t1 := as_pass_move
  have t2 := as_pass_quotient
  have t3 := as_pass_reckoning
  have t4 := as_pass_load
  have t5 := as_pass_call
  go_enter Tryd.func13, Tryd.ntmps13
  go_wp2
  exact bodyPost_ret (v := .agg #[.bool false, .bool false, .bool false, .bool false, .bool false, .bool false, .bool false, .bool false]) (by simp [results, Tryd.results13, go_sem]) rfl ⟨rfl, nx (nx (Below.refl _ w) _) _⟩
set_option maxHeartbeats 2000000 in
theorem writes_halt (v : Value) (w : World) : Calls Tryd.prog 13 #[.iface 63 v] w fun e w' => e = .returned (.agg #[.bool false, .bool false, .bool false, .bool false, .bool false, .bool false, .bool false, .bool false]) ∧ Below w.heap.size w w' := by
  have t0 := as_halt_constant
  have t1 := as_halt_move
  have t2 := as_halt_quotient
  have t3 := as_halt_reckoning
  have t4 := as_halt_load
  have t5 := as_halt_call
  go_enter Tryd.func13, Tryd.ntmps13
  go_wp2
  exact bodyPost_ret (v := .agg #[.bool false, .bool false, .bool false, .bool false, .bool false, .bool false, .bool false, .bool false]) (by simp [results, Tryd.results13, go_sem]) rfl ⟨rfl, nx (nx (Below.refl _ w) _) _⟩
set_option maxHeartbeats 2000000 in
theorem writes_store (v : Value) (w : World) : Calls Tryd.prog 13 #[.iface 56 v] w fun e w' => e = .returned (.agg #[.bool false, .bool false, .bool false, .bool false, .bool false, .bool false, .bool false, .bool false]) ∧ Below w.heap.size w w' := by
  have t0 := as_store_constant
  have t1 := as_store_move
  have t2 := as_store_quotient
  have t3 := as_store_reckoning
  have t4 := as_store_load
  have t5 := as_store_call
  go_enter Tryd.func13, Tryd.ntmps13
  go_wp2
  exact bodyPost_ret (v := .agg #[.bool false, .bool false, .bool false, .bool false, .bool false, .bool false, .bool false, .bool false]) (by simp [results, Tryd.results13, go_sem]) rfl ⟨rfl, nx (nx (Below.refl _ w) _) _⟩
set_option maxHeartbeats 2000000 in
theorem writes_jump (v : Value) (w : World) : Calls Tryd.prog 13 #[.iface 65 v] w fun e w' => e = .returned (.agg #[.bool false, .bool false, .bool false, .bool false, .bool false, .bool false, .bool false, .bool false]) ∧ Below w.heap.size w w' := by
  have t0 := as_jump_constant
  have t1 := as_jump_move
  have t2 := as_jump_quotient
  have t3 := as_jump_reckoning
  have t4 := as_jump_load
  have t5 := as_jump_call
  go_enter Tryd.func13, Tryd.ntmps13
  go_wp2
  exact bodyPost_ret (v := .agg #[.bool false, .bool false, .bool false, .bool false, .bool false, .bool false, .bool false, .bool false]) (by simp [results, Tryd.results13, go_sem]) rfl ⟨rfl, nx (nx (Below.refl _ w) _) _⟩
set_option maxHeartbeats 2000000 in
theorem writes_zeroJump (v : Value) (w : World) : Calls Tryd.prog 13 #[.iface 57 v] w fun e w' => e = .returned (.agg #[.bool false, .bool false, .bool false, .bool false, .bool false, .bool false, .bool false, .bool false]) ∧ Below w.heap.size w w' := by
  have t0 := as_zeroJump_constant
  have t1 := as_zeroJump_move
  have t2 := as_zeroJump_quotient
  have t3 := as_zeroJump_reckoning
  have t4 := as_zeroJump_load
  have t5 := as_zeroJump_call
  go_enter Tryd.func13, Tryd.ntmps13
  go_wp2
  exact bodyPost_ret (v := .agg #[.bool false, .bool false, .bool false, .bool false, .bool false, .bool false, .bool false, .bool false]) (by simp [results, Tryd.results13, go_sem]) rfl ⟨rfl, nx (nx (Below.refl _ w) _) _⟩
set_option maxHeartbeats 2000000 in
theorem writes_lessJump (v : Value) (w : World) : Calls Tryd.prog 13 #[.iface 58 v] w fun e w' => e = .returned (.agg #[.bool false, .bool false, .bool false, .bool false, .bool false, .bool false, .bool false, .bool false]) ∧ Below w.heap.size w w' := by
  have t0 := as_lessJump_constant
  have t1 := as_lessJump_move
  have t2 := as_lessJump_quotient
  have t3 := as_lessJump_reckoning
  have t4 := as_lessJump_load
  have t5 := as_lessJump_call
  go_enter Tryd.func13, Tryd.ntmps13
  go_wp2
  exact bodyPost_ret (v := .agg #[.bool false, .bool false, .bool false, .bool false, .bool false, .bool false, .bool false, .bool false]) (by simp [results, Tryd.results13, go_sem]) rfl ⟨rfl, nx (nx (Below.refl _ w) _) _⟩
set_option maxHeartbeats 2000000 in
theorem writes_back (v : Value) (w : World) : Calls Tryd.prog 13 #[.iface 60 v] w fun e w' => e = .returned (.agg #[.bool false, .bool false, .bool false, .bool false, .bool false, .bool false, .bool false, .bool false]) ∧ Below w.heap.size w w' := by
  have t0 := as_back_constant
  have t1 := as_back_move
  have t2 := as_back_quotient
  have t3 := as_back_reckoning
  have t4 := as_back_load
  have t5 := as_back_call
  go_enter Tryd.func13, Tryd.ntmps13
  go_wp2
  exact bodyPost_ret (v := .agg #[.bool false, .bool false, .bool false, .bool false, .bool false, .bool false, .bool false, .bool false]) (by simp [results, Tryd.results13, go_sem]) rfl ⟨rfl, nx (nx (Below.refl _ w) _) _⟩
set_option maxHeartbeats 2000000 in
theorem writes_system (v : Value) (w : World) : Calls Tryd.prog 13 #[.iface 67 v] w fun e w' => e = .returned (.agg #[.bool false, .bool false, .bool false, .bool false, .bool false, .bool false, .bool false, .bool false]) ∧ Below w.heap.size w w' := by
  have t0 := as_system_constant
  have t1 := as_system_move
  have t2 := as_system_quotient
  have t3 := as_system_reckoning
  have t4 := as_system_load
  have t5 := as_system_call
  go_enter Tryd.func13, Tryd.ntmps13
  go_wp2
  exact bodyPost_ret (v := .agg #[.bool false, .bool false, .bool false, .bool false, .bool false, .bool false, .bool false, .bool false]) (by simp [results, Tryd.results13, go_sem]) rfl ⟨rfl, nx (nx (Below.refl _ w) _) _⟩
end Go.Proofs.YtbjklpdloglniaaDoor
