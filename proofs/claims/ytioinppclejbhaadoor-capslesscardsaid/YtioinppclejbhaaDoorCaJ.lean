/- The program's table: Drop, Fork, Revoke. -/
import Derived.Test.YtioinppclejbhaaDoorCaI
namespace Go.Proofs.YtioinppclejbhaaDoor
open Go.RowKit Go.Shelf Go.Maps
set_option linter.unusedVariables false
set_option maxRecDepth 100000
theorem none_ex (w : World) : Calls Tryd.prog 40 #[] w fun r w' => r = .returned (.agg #[.string ⟨#[]⟩, .int .u8 0]) ∧ w' = w.alloc (.cells #[.string ⟨#[]⟩, .int .u8 0] 31) := by
  go_enter Tryd.func40, Tryd.ntmps40
  go_wp2
  exact bodyPost_ret (v := .agg #[.string ⟨#[]⟩, .int .u8 0]) (by simp [results, Tryd.results40, go_sem]) rfl ⟨rfl, rfl⟩
def dropS (s : Sl) (k : Fin 12) : Sl := if (s k).isSome then upd s k none else s
set_option maxHeartbeats 2000000 in
theorem drop_ok (B b : Nat) (s : Sl) (k : Fin 12) (w : World) (h : Tb 71 B w b s) : Calls Tryd.prog 52 #[.pointer (some ⟨b, 0, none⟩), .int .i64 k.1] w fun r w' => r = .returned (.int .i64 (getE (s k))) ∧ TStp 71 B w w' b (dropS s k) := by
  have cG := get_ok B b s k w h
  have HK : Hid (∀ W, Below w.heap.size w W → TStp 71 B w W b s) := fun W hB => TStp.same h hB
  have HS : Hid (∀ W, Below w.heap.size w W → TStp 71 B w ((W.setCell ⟨b, k.1 * 2, none⟩ (.string ⟨#[]⟩)).setCell ⟨b, k.1 * 2 + 1, none⟩ (.int .u8 0) |>.alloc (.cells #[.string ⟨#[]⟩, .int .u8 0] 31)).drew b (upd s k none)) := fun W hB => (((TStp.slot (h.below hB) k none).pre hB).post (below_new _ _)).drew
  have HA : Hid (∀ W, Below w.heap.size w W → (W.cell? ⟨b, k.1 * 2, none⟩ = some (.string (slotC (s k)).1) ∧ W.cell? ⟨b, k.1 * 2 + 1, none⟩ = some (.int .u8 (slotC (s k)).2.toNat)) ∧ (W.frozen? ⟨b, k.1 * 2, none⟩ = false ∧ W.frozen? ⟨b, k.1 * 2 + 1, none⟩ = false)) := fun W hB => (h.below hB).at k
  have hlt := h.c.lt
  unfold getE cpV at *
  unfold dropS
  clear h
  generalize (slotC (s k)).1 = n at *
  generalize ((slotC (s k)).2.toNat : Int) = r at *
  generalize (s k).isSome = z at *
  obtain ⟨k, hk⟩ := k
  simp only at *
  have h2 : (k : Int) < 12 := by omega
  generalize hup : upd s ⟨k, hk⟩ none = s' at *
  clear hup
  cases z with
  | false =>
    go_enter Tryd.func52, Tryd.ntmps52
    go_wp2_with fail
    refine cG.mono ?_
    rintro e W ⟨rfl, hB⟩
    have HQ : Hid (TStp 71 B w (W.alloc (.cells #[.string n, .int .u8 r] 31)) b s) := HK.out _ (hB.alloc hB.size _)
    clear HK HS HA hB cG
    go_wp2
    go_ret
    exact ⟨rfl, HQ.out⟩
  | true =>
    go_enter Tryd.func52, Tryd.ntmps52
    go_wp2_with fail
    refine cG.mono ?_
    rintro e W ⟨rfl, hB⟩
    have hB1 := hB.alloc hB.size (.cells #[.string n, .int .u8 r] 31)
    clear hB cG
    go_wp2_with fail
    generalize (W.alloc (.cells #[.string n, .int .u8 r] 31)) = W1 at *
    have HQ : Hid (TStp 71 B w (((W1.setCell ⟨b, k * 2, none⟩ (.string ⟨#[]⟩)).setCell ⟨b, k * 2 + 1, none⟩ (.int .u8 0)).alloc (.cells #[.string ⟨#[]⟩, .int .u8 0] 31)).drew b s') := HS.out _ hB1
    obtain ⟨⟨c0, c1⟩, f0, f1⟩ := HA.out _ hB1
    have hl1 : b < W1.heap.size := Nat.lt_of_lt_of_le hlt hB1.size
    have cN := fun w => none_ex w
    clear HK HS HA hB1
    go_region_with (go_at_call 40; refine (cN _).mono ?_; rintro e w' ⟨rfl, rfl⟩)
    go_wp2
    go_ret
    exact ⟨rfl, HQ.out⟩
theorem drop_off (p : Value) (i e : Int) (n : ByteArray) (r : Int) (he : (e == 0) = false) (w : World) (hG : Calls Tryd.prog 21 #[p, .int .i64 i] w fun o w' => o = .returned (.tuple #[.agg #[.string n, .int .u8 r], .int .i64 e]) ∧ Below w.heap.size w w') : Calls Tryd.prog 52 #[p, .int .i64 i] w fun o w' => o = .returned (.int .i64 e) ∧ Below w.heap.size w w' := by
  go_enter Tryd.func52, Tryd.ntmps52
  go_wp2_with fail
  refine hG.mono ?_
  rintro o W ⟨rfl, hB⟩
  have HX : Hid (Below w.heap.size w (W.alloc (.cells #[.string n, .int .u8 r] 31))) := hB.alloc hB.size _
  clear hG hB
  go_wp2
  go_ret
  exact ⟨rfl, HX.out⟩
set_option maxHeartbeats 2000000 in
theorem fork_any (B b : Nat) (s : Sl) (w : World) (h : Tb 71 B w b s) (B' : Nat) (hB : B' ≤ w.heap.size) : Calls Tryd.prog 19 #[.pointer (some ⟨b, 0, none⟩)] w fun r w' => r = .returned (.pointer (some ⟨w.heap.size, 0, none⟩)) ∧ Tb 71 B' w' w.heap.size s ∧ Below w.heap.size w w' := by
  have H : Hid (Tb 71 B' (w.alloc (.cells (csCs (slF s)).toArray 71)) w.heap.size s ∧ Below w.heap.size w (w.alloc (.cells (csCs (slF s)).toArray 71))) := ⟨⟨hB, Cl.new w _ _⟩, below_new w _⟩
  have hH : w.heap[b]? = some (.cells (csCs (slF s)).toArray 71 (0, 0)) := h.c
  have hi : (Tryd.prog.info? 59).map (·.size) = some (csCs (slF s)).toArray.size := by kernel_rfl
  unfold csCs at *
  generalize slF s = f at *
  clear h hB
  go_enter Tryd.func19, Tryd.ntmps19
  go_wp2_with (refine wpList_load_row rfl 59 _ rfl b rfl 71 _ (0, 0) _ hH Tryd.underlying59 rfl hi ?_)
  go_ret
  exact ⟨rfl, H.out⟩
end Go.Proofs.YtioinppclejbhaaDoor
