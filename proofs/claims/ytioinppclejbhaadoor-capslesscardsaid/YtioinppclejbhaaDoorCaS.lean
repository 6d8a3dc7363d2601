/- The document's table: Drop, Derive, Restrict, Fork, Room. -/
import Derived.Test.YtioinppclejbhaaDoorCaR
import Derived.Test.YtioinppclejbhaaDoorCaJ
namespace Go.Proofs.YtioinppclejbhaaDoor
open Go.RowKit Go.Maps
set_option linter.unusedVariables false
set_option maxRecDepth 100000
set_option maxHeartbeats 2000000 in
theorem rderive_off (p : Value) (i j e : Int) (x : ByteArray) (n : ByteArray) (r : Int) (he : (e == 0) = false) (w : World) (hG : Calls Tryd.prog 29 #[p, .int .i64 i] w fun o w' => o = .returned (.tuple #[.agg #[.string n, .int .u8 r], .int .i64 e]) ∧ Below w.heap.size w w') : Calls Tryd.prog 54 #[p, .int .i64 i, .int .i64 j, .string x] w fun o w' => o = .returned (.int .i64 e) ∧ Below w.heap.size w w' := by
  go_enter Tryd.func54, Tryd.ntmps54
  go_wp2_with fail
  refine hG.mono ?_
  rintro o W ⟨rfl, hB⟩
  have HX : Hid (Below w.heap.size w (W.alloc (.cells #[.string n, .int .u8 r] 31))) := hB.alloc hB.size _
  clear hG hB
  go_wp2
  go_ret
  exact ⟨rfl, HX.out⟩
set_option maxHeartbeats 2000000 in
theorem rderive_stop (p : Value) (i j e : Int) (x : ByteArray) (n m : ByteArray) (r q : Int) (he : (e == 0) = false) (w : World) (hG : Calls Tryd.prog 29 #[p, .int .i64 i] w fun o w' => o = .returned (.tuple #[.agg #[.string n, .int .u8 r], .int .i64 0]) ∧ Below w.heap.size w w')
    (hM : ∀ W, Below w.heap.size w W → Calls Tryd.prog 67 #[.agg #[.string n, .int .u8 r], .string x] W fun o w' => o = .returned (.tuple #[.agg #[.string m, .int .u8 q], .int .i64 e]) ∧ Below W.heap.size W w')
    : Calls Tryd.prog 54 #[p, .int .i64 i, .int .i64 j, .string x] w fun o w' => o = .returned (.int .i64 e) ∧ Below w.heap.size w w' := by
  go_enter Tryd.func54, Tryd.ntmps54
  go_wp2_with fail
  refine hG.mono ?_
  rintro o W ⟨rfl, hB⟩
  have HX := hB.alloc hB.size (.cells #[.string n, .int .u8 r] 31)
  have hT := Two.new W 31 (.string n) (.int .u8 r)
  have cM := hM _ HX
  clear hG hB
  go_wp2_with fail
  generalize (W.alloc (.cells #[.string n, .int .u8 r] 31)) = W0 at *
  refine cM.mono ?_
  rintro o W1 ⟨rfl, hB1⟩
  have HX1 := HX.trans (hB1.mono HX.size)
  have HX3 : Hid (Below w.heap.size w (W1.alloc (.cells #[.string m, .int .u8 q] 31))) := HX1.alloc HX1.size _
  have hT3 := Two.new W1 31 (.string m) (.int .u8 q)
  clear cM hM HX hT hB1 HX1
  go_wp2
  go_ret
  exact ⟨rfl, HX3.out⟩
set_option maxHeartbeats 2000000 in
theorem rderive_go (p : Value) (i j : Int) (x : ByteArray) (n m : ByteArray) (r q : Int) (w : World) (hG : Calls Tryd.prog 29 #[p, .int .i64 i] w fun o w' => o = .returned (.tuple #[.agg #[.string n, .int .u8 r], .int .i64 0]) ∧ Below w.heap.size w w')
    (hM : ∀ W, Below w.heap.size w W → Calls Tryd.prog 67 #[.agg #[.string n, .int .u8 r], .string x] W fun o w' => o = .returned (.tuple #[.agg #[.string m, .int .u8 q], .int .i64 0]) ∧ Below W.heap.size W w')
    (P : Int → World → Prop) (hP : ∀ W, Below w.heap.size w W → Calls Tryd.prog 51 #[p, .int .i64 j, .agg #[.string m, .int .u8 q]] W fun o w' => ∃ e, o = .returned (.int .i64 e) ∧ P e w')
    : Calls Tryd.prog 54 #[p, .int .i64 i, .int .i64 j, .string x] w fun o w' => ∃ e, o = .returned (.int .i64 e) ∧ P e w' := by
  go_enter Tryd.func54, Tryd.ntmps54
  go_wp2_with fail
  refine hG.mono ?_
  rintro o W ⟨rfl, hB⟩
  have HX := hB.alloc hB.size (.cells #[.string n, .int .u8 r] 31)
  have hT := Two.new W 31 (.string n) (.int .u8 r)
  have cM := hM _ HX
  clear hG hB
  go_wp2_with fail
  generalize (W.alloc (.cells #[.string n, .int .u8 r] 31)) = W0 at *
  refine cM.mono ?_
  rintro o W1 ⟨rfl, hB1⟩
  have HX1 := HX.trans (hB1.mono HX.size)
  have HX3 : Hid (Below w.heap.size w (W1.alloc (.cells #[.string m, .int .u8 q] 31))) := HX1.alloc HX1.size _
  have hT3 := Two.new W1 31 (.string m) (.int .u8 q)
  clear cM hM HX hT hB1 HX1
  have cP := hP _ HX3.out
  clear hP
  go_wp2_with fail
  refine cP.mono ?_
  rintro o W4 ⟨e', rfl, hQ⟩
  clear cP hT3 HX3
  have HQ : Hid (P e' W4) := hQ
  clear hQ
  go_wp2
  go_ret
  exact ⟨e', rfl, HQ.out⟩
set_option maxHeartbeats 2000000 in
theorem rrestrict_off (p : Value) (i j e : Int) (x : Int) (n : ByteArray) (r : Int) (he : (e == 0) = false) (w : World) (hG : Calls Tryd.prog 29 #[p, .int .i64 i] w fun o w' => o = .returned (.tuple #[.agg #[.string n, .int .u8 r], .int .i64 e]) ∧ Below w.heap.size w w') : Calls Tryd.prog 55 #[p, .int .i64 i, .int .i64 j, .int .u8 x] w fun o w' => o = .returned (.int .i64 e) ∧ Below w.heap.size w w' := by
  go_enter Tryd.func55, Tryd.ntmps55
  go_wp2_with fail
  refine hG.mono ?_
  rintro o W ⟨rfl, hB⟩
  have HX : Hid (Below w.heap.size w (W.alloc (.cells #[.string n, .int .u8 r] 31))) := hB.alloc hB.size _
  clear hG hB
  go_wp2
  go_ret
  exact ⟨rfl, HX.out⟩
set_option maxHeartbeats 2000000 in
theorem rrestrict_stop (p : Value) (i j e : Int) (x : Int) (n m : ByteArray) (r q : Int) (he : (e == 0) = false) (w : World) (hG : Calls Tryd.prog 29 #[p, .int .i64 i] w fun o w' => o = .returned (.tuple #[.agg #[.string n, .int .u8 r], .int .i64 0]) ∧ Below w.heap.size w w')
    (hM : ∀ W, Below w.heap.size w W → Calls Tryd.prog 68 #[.agg #[.string n, .int .u8 r], .int .u8 x] W fun o w' => o = .returned (.tuple #[.agg #[.string m, .int .u8 q], .int .i64 e]) ∧ Below W.heap.size W w')
    : Calls Tryd.prog 55 #[p, .int .i64 i, .int .i64 j, .int .u8 x] w fun o w' => o = .returned (.int .i64 e) ∧ Below w.heap.size w w' := by
  go_enter Tryd.func55, Tryd.ntmps55
  go_wp2_with fail
  refine hG.mono ?_
  rintro o W ⟨rfl, hB⟩
  have HX := hB.alloc hB.size (.cells #[.string n, .int .u8 r] 31)
  have hT := Two.new W 31 (.string n) (.int .u8 r)
  have cM := hM _ HX
  clear hG hB
  go_wp2_with fail
  generalize (W.alloc (.cells #[.string n, .int .u8 r] 31)) = W0 at *
  refine cM.mono ?_
  rintro o W1 ⟨rfl, hB1⟩
  have HX1 := HX.trans (hB1.mono HX.size)
  have HX3 : Hid (Below w.heap.size w (W1.alloc (.cells #[.string m, .int .u8 q] 31))) := HX1.alloc HX1.size _
  have hT3 := Two.new W1 31 (.string m) (.int .u8 q)
  clear cM hM HX hT hB1 HX1
  go_wp2
  go_ret
  exact ⟨rfl, HX3.out⟩
set_option maxHeartbeats 2000000 in
theorem rrestrict_go (p : Value) (i j : Int) (x : Int) (n m : ByteArray) (r q : Int) (w : World) (hG : Calls Tryd.prog 29 #[p, .int .i64 i] w fun o w' => o = .returned (.tuple #[.agg #[.string n, .int .u8 r], .int .i64 0]) ∧ Below w.heap.size w w')
    (hM : ∀ W, Below w.heap.size w W → Calls Tryd.prog 68 #[.agg #[.string n, .int .u8 r], .int .u8 x] W fun o w' => o = .returned (.tuple #[.agg #[.string m, .int .u8 q], .int .i64 0]) ∧ Below W.heap.size W w')
    (P : Int → World → Prop) (hP : ∀ W, Below w.heap.size w W → Calls Tryd.prog 51 #[p, .int .i64 j, .agg #[.string m, .int .u8 q]] W fun o w' => ∃ e, o = .returned (.int .i64 e) ∧ P e w')
    : Calls Tryd.prog 55 #[p, .int .i64 i, .int .i64 j, .int .u8 x] w fun o w' => ∃ e, o = .returned (.int .i64 e) ∧ P e w' := by
  go_enter Tryd.func55, Tryd.ntmps55
  go_wp2_with fail
  refine hG.mono ?_
  rintro o W ⟨rfl, hB⟩
  have HX := hB.alloc hB.size (.cells #[.string n, .int .u8 r] 31)
  have hT := Two.new W 31 (.string n) (.int .u8 r)
  have cM := hM _ HX
  clear hG hB
  go_wp2_with fail
  generalize (W.alloc (.cells #[.string n, .int .u8 r] 31)) = W0 at *
  refine cM.mono ?_
  rintro o W1 ⟨rfl, hB1⟩
  have HX1 := HX.trans (hB1.mono HX.size)
  have HX3 : Hid (Below w.heap.size w (W1.alloc (.cells #[.string m, .int .u8 q] 31))) := HX1.alloc HX1.size _
  have hT3 := Two.new W1 31 (.string m) (.int .u8 q)
  clear cM hM HX hT hB1 HX1
  have cP := hP _ HX3.out
  clear hP
  go_wp2_with fail
  refine cP.mono ?_
  rintro o W4 ⟨e', rfl, hQ⟩
  clear cP hT3 HX3
  have HQ : Hid (P e' W4) := hQ
  clear hQ
  go_wp2
  go_ret
  exact ⟨e', rfl, HQ.out⟩
theorem rdrop_off (p : Value) (i e : Int) (n : ByteArray) (r : Int) (he : (e == 0) = false) (w : World) (hG : Calls Tryd.prog 29 #[p, .int .i64 i] w fun o w' => o = .returned (.tuple #[.agg #[.string n, .int .u8 r], .int .i64 e]) ∧ Below w.heap.size w w') : Calls Tryd.prog 53 #[p, .int .i64 i] w fun o w' => o = .returned (.int .i64 e) ∧ Below w.heap.size w w' := by
  go_enter Tryd.func53, Tryd.ntmps53
  go_wp2_with fail
  refine hG.mono ?_
  rintro o W ⟨rfl, hB⟩
  have HX : Hid (Below w.heap.size w (W.alloc (.cells #[.string n, .int .u8 r] 31))) := hB.alloc hB.size _
  clear hG hB
  go_wp2
  go_ret
  exact ⟨rfl, HX.out⟩
set_option maxHeartbeats 2000000 in
theorem rdrop_ok (B b : Nat) (s : Sl) (k : Fin 12) (w : World) (h : Tb 61 B w b s) : Calls Tryd.prog 53 #[.pointer (some ⟨b, 0, none⟩), .int .i64 k.1] w fun r w' => r = .returned (.int .i64 (getE (s k))) ∧ TStp 61 B w w' b (dropS s k) := by
  have cG := rget_ok B b s k w h
  have HK : Hid (∀ W, Below w.heap.size w W → TStp 61 B w W b s) := fun W hB => TStp.same h hB
  have HS : Hid (∀ W, Below w.heap.size w W → TStp 61 B w ((W.setCell ⟨b, k.1 * 2, none⟩ (.string ⟨#[]⟩)).setCell ⟨b, k.1 * 2 + 1, none⟩ (.int .u8 0)) b (upd s k none)) := fun W hB => (TStp.slot (h.below hB) k none).pre hB
  have HA : Hid (∀ W, Below w.heap.size w W → (W.cell? ⟨b, k.1 * 2, none⟩ = some (.string (slotC (s k)).1) ∧ W.cell? ⟨b, k.1 * 2 + 1, none⟩ = some (.int .u8 (slotC (s k)).2.toNat)) ∧ (W.frozen? ⟨b, k.1 * 2, none⟩ = false ∧ W.frozen? ⟨b, k.1 * 2 + 1, none⟩ = false)) := fun W hB => (h.below hB).at k
  unfold getE cpV at *
  unfold dropS
  clear h
  generalize (slotC (s k)).1 = n at *
  generalize ((slotC (s k)).2.toNat : Int) = r at *
  generalize (s k).isSome = z at *
  obtain ⟨k, hk⟩ := k
  simp only at *
  have h2 : (k : Int) < 12 := by omega
  generalize hup : upd s ⟨k, hk⟩ none = s' at *
  clear hup
  cases z with
  | false =>
    go_enter Tryd.func53, Tryd.ntmps53
    go_wp2_with fail
    refine cG.mono ?_
    rintro e W ⟨rfl, hB⟩
    have HQ : Hid (TStp 61 B w (W.alloc (.cells #[.string n, .int .u8 r] 31)) b s) := HK.out _ (hB.alloc hB.size _)
    clear HK HS HA hB cG
    go_wp2
    go_ret
    exact ⟨rfl, HQ.out⟩
  | true =>
    go_enter Tryd.func53, Tryd.ntmps53
    go_wp2_with fail
    refine cG.mono ?_
    rintro e W ⟨rfl, hB⟩
    have hB1 := hB.alloc hB.size (.cells #[.string n, .int .u8 r] 31)
    have HQ := HS.out _ hB1
    have HQ' : Hid (TStp 61 B w (((W.alloc (.cells #[.string n, .int .u8 r] 31)).setCell ⟨b, k * 2, none⟩ (.string ⟨#[]⟩)).setCell ⟨b, k * 2 + 1, none⟩ (.int .u8 0)) b s') := HQ
    obtain ⟨⟨c0, c1⟩, f0, f1⟩ := HA.out _ hB1
    clear hB cG HQ HK HS HA hB1
    go_wp2_with fail
    generalize (W.alloc (.cells #[.string n, .int .u8 r] 31)) = W1 at *
    go_wp2
    go_ret
    exact ⟨rfl, HQ'.out⟩
end Go.Proofs.YtioinppclejbhaaDoor
