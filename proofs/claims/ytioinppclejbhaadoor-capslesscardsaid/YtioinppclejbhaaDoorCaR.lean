/- The document's table: slot, Get, Put, Drop, New, Fork. -/
import Derived.Test.YtioinppclejbhaaDoorCaC
namespace Go.Proofs.YtioinppclejbhaaDoor
open Go.RowKit Go.Maps
set_option linter.unusedVariables false
set_option maxRecDepth 100000
theorem slot_name (o : Option Rc) : ((slotC o).1.toList == ([] : List UInt8)) = !o.isSome := by
  cases o with
  | none => simp [slotC, zC, Lib.toList_data]
  | some c =>
    have h1 : ((slotC (some c)).1.toList == ([] : List UInt8)) = false := by
      rw [beq_eq_false_iff_ne, Lib.toList_data]
      exact rc_ne c
    rw [h1]
    rfl
theorem rslot_ok (b : Nat) (k : Fin 12) (w : World) : Calls Tryd.prog 57 #[.pointer (some ⟨b, 0, none⟩), .int .i64 k.1] w fun r w' => r = .returned (.int .i64 0) ∧ w' = w := by
  obtain ⟨k, hk⟩ := k
  have h2 : ¬ (k : Int) < 0 := by omega
  have h3 : ¬ (12 : Int) ≤ (k : Int) := by omega
  go_enter Tryd.func57, Tryd.ntmps57
  go_wp2
  go_ret
  exact ⟨rfl, rfl⟩
theorem rslot_bad (b : Nat) (k : Int) (w : World) (hb : k < 0 ∨ 12 ≤ k) : Calls Tryd.prog 57 #[.pointer (some ⟨b, 0, none⟩), .int .i64 k] w fun r w' => r = .returned (.int .i64 2) ∧ w' = w := by
  by_cases h2 : k < 0
  · clear hb
    go_enter Tryd.func57, Tryd.ntmps57
    go_wp2
    go_ret
    exact ⟨rfl, rfl⟩
  · have h3 : (12 : Int) ≤ k := by omega
    clear hb
    go_enter Tryd.func57, Tryd.ntmps57
    go_wp2
    go_ret
    exact ⟨rfl, rfl⟩
set_option maxHeartbeats 2000000 in
theorem rget_ok (B b : Nat) (s : Sl) (k : Fin 12) (w : World) (h : Tb 61 B w b s) : Calls Tryd.prog 29 #[.pointer (some ⟨b, 0, none⟩), .int .i64 k.1] w fun r w' => r = .returned (.tuple #[cpV (slotC (s k)), .int .i64 (getE (s k))]) ∧ Below w.heap.size w w' := by
  have hX := below_new w (.cells #[.string ⟨#[]⟩, .int .u8 0] 31)
  have hT := Two.new w 31 (.string ⟨#[]⟩) (.int .u8 0)
  have h0 := h.below hX
  have hE := slot_name (s k)
  have hz : Hid ((s k).isSome = false → (slotC (s k)).1 = ⟨#[]⟩ ∧ ((slotC (s k)).2.toNat : Int) = 0) := by
    cases s k with
    | none => exact fun _ => ⟨rfl, rfl⟩
    | some c => exact fun h => by cases h
  unfold getE cpV
  obtain ⟨⟨c0, c1⟩, f0, f1⟩ := h0.at k
  clear h0 h
  generalize (slotC (s k)).1 = n at *
  generalize ((slotC (s k)).2.toNat : Int) = r at *
  generalize (s k).isSome = z at *
  obtain ⟨k, hk⟩ := k
  simp only at c0 c1 f0 f1 ⊢
  have h2 : (k : Int) < 12 := by omega
  have cT := fun w => rslot_ok b ⟨k, hk⟩ w
  cases z with
  | false =>
    obtain ⟨hn, hr⟩ := hz.out rfl
    clear hz
    subst hn
    subst hr
    go_enter Tryd.func29, Tryd.ntmps29
    go_wp2_with fail
    generalize (w.alloc (.cells #[.string ⟨#[]⟩, .int .u8 0] 31)) = W0 at *
    refine (cT W0).mono ?_
    rintro r W ⟨rfl, rfl⟩
    clear cT
    have HX : Hid (Below w.heap.size w W) := hX
    have y0 := hT.f 0
    have y1 := hT.f 1
    have y2 := hT.c0
    have y3 := hT.c1
    have z0 := (hT.set0 (.string ⟨#[]⟩)).c1
    have z1 := (hT.set0 (.string ⟨#[]⟩)).f 1
    clear hX
    go_wp2
    have hT3 := (hT.set0 (.string ⟨#[]⟩)).set1 (.int .u8 0)
    exact bodyPost_ret (v := .tuple #[.agg #[.string ⟨#[]⟩, .int .u8 0], .int .i64 5]) (by simp [results, Tryd.results29, go_sem, hT3.c0, hT3.c1]) rfl ⟨rfl, Below.set2 HX.out (Nat.le_refl _) _ _⟩
  | true =>
    clear hz
    go_enter Tryd.func29, Tryd.ntmps29
    go_wp2_with fail
    generalize (w.alloc (.cells #[.string ⟨#[]⟩, .int .u8 0] 31)) = W0 at *
    refine (cT W0).mono ?_
    rintro r W ⟨rfl, rfl⟩
    clear cT
    have HX : Hid (Below w.heap.size w W) := hX
    have y0 := hT.f 0
    have y1 := hT.f 1
    have y2 := hT.c0
    have y3 := hT.c1
    have z0 := (hT.set0 (.string n)).c1
    have z1 := (hT.set0 (.string n)).f 1
    clear hX
    go_wp2
    have hT3 := (hT.set0 (.string n)).set1 (.int .u8 r)
    exact bodyPost_ret (v := .tuple #[.agg #[.string n, .int .u8 r], .int .i64 0]) (by simp [results, Tryd.results29, go_sem, hT3.c0, hT3.c1]) rfl ⟨rfl, Below.set2 HX.out (Nat.le_refl _) _ _⟩
set_option maxHeartbeats 2000000 in
theorem rget_off (p : Value) (k e : Int) (he : (e == 0) = false) (w : World) (hC : ∀ w, Calls Tryd.prog 57 #[p, .int .i64 k] w fun r w' => r = .returned (.int .i64 e) ∧ w' = w) : Calls Tryd.prog 29 #[p, .int .i64 k] w fun r w' => r = .returned (.tuple #[.agg #[.string ⟨#[]⟩, .int .u8 0], .int .i64 e]) ∧ Below w.heap.size w w' := by
  have hX := below_new w (.cells #[.string ⟨#[]⟩, .int .u8 0] 31)
  have hT := Two.new w 31 (.string ⟨#[]⟩) (.int .u8 0)
  go_enter Tryd.func29, Tryd.ntmps29
  go_wp2_with fail
  generalize (w.alloc (.cells #[.string ⟨#[]⟩, .int .u8 0] 31)) = W0 at *
  refine (hC W0).mono ?_
  rintro r W ⟨rfl, rfl⟩
  have HX : Hid (Below w.heap.size w W) := hX
  clear hX hC
  have y0 := hT.f 0
  have y1 := hT.f 1
  have y2 := hT.c0
  have y3 := hT.c1
  have z0 := (hT.set0 (.string ⟨#[]⟩)).c1
  have z1 := (hT.set0 (.string ⟨#[]⟩)).f 1
  go_wp2
  have hT3 := (hT.set0 (.string ⟨#[]⟩)).set1 (.int .u8 0)
  exact bodyPost_ret (v := .tuple #[.agg #[.string ⟨#[]⟩, .int .u8 0], .int .i64 e]) (by simp [results, Tryd.results29, go_sem, hT3.c0, hT3.c1]) rfl ⟨rfl, Below.set2 HX.out (Nat.le_refl _) _ _⟩
theorem rnew_any (w : World) (B : Nat) (hB : B ≤ w.heap.size) : Calls Tryd.prog 27 #[] w fun r w' => r = .returned (.pointer (some ⟨w.heap.size, 0, none⟩)) ∧ Tb 61 B w' w.heap.size (fun _ => none) ∧ Below w.heap.size w w' := by
  have H : Hid (Tb 61 B (w.alloc (.cells (csCs (slF fun _ => none)).toArray 61)) w.heap.size (fun _ => none) ∧ Below w.heap.size w (w.alloc (.cells (csCs (slF fun _ => none)).toArray 61))) := ⟨⟨hB, Cl.new w _ _⟩, below_new w _⟩
  go_enter Tryd.func27, Tryd.ntmps27
  go_wp2
  go_ret
  exact ⟨rfl, H.out⟩
theorem rput_off (p : Value) (k e : Int) (c : Cp) (he : (e == 0) = false) (w : World) (hC : ∀ w, Calls Tryd.prog 57 #[p, .int .i64 k] w fun r w' => r = .returned (.int .i64 e) ∧ w' = w) : Calls Tryd.prog 51 #[p, .int .i64 k, cpV c] w fun r w' => r = .returned (.int .i64 e) ∧ Below w.heap.size w w' := by
  unfold cpV
  have hX : Hid (Below w.heap.size w (w.alloc (.cells #[.string c.1, .int .u8 c.2.toNat] 31))) := below_new w _
  go_enter Tryd.func51, Tryd.ntmps51
  go_wp2_with fail
  refine (hC _).mono ?_
  rintro r W ⟨rfl, rfl⟩
  clear hC
  go_wp2
  go_ret
  exact ⟨rfl, hX.out⟩
set_option maxHeartbeats 2000000 in
theorem rput_wrong (b : Nat) (k : Fin 12) (c : Cp) (w : World) (cR : ∀ W, Below w.heap.size w W → Calls Tryd.prog 59 #[.agg #[.string c.1, .int .u8 c.2.toNat]] W fun e W' => e = .returned (.bool false) ∧ Below W.heap.size W W') : Calls Tryd.prog 51 #[.pointer (some ⟨b, 0, none⟩), .int .i64 k.1, cpV c] w fun r w' => r = .returned (.int .i64 3) ∧ Below w.heap.size w w' := by
  unfold cpV
  have hX := below_new w (.cells #[.string c.1, .int .u8 c.2.toNat] 31)
  have hT := Two.new w 31 (.string c.1) (.int .u8 c.2.toNat)
  have cT := fun w => rslot_ok b k w
  obtain ⟨n, r⟩ := c
  simp only at *
  generalize (r.toNat : Int) = r at *
  go_enter Tryd.func51, Tryd.ntmps51
  go_wp2_with fail
  generalize (w.alloc (.cells #[.string n, .int .u8 r] 31)) = W0 at *
  refine (cT W0).mono ?_
  rintro e W ⟨rfl, rfl⟩
  clear cT
  have y2 := hT.c0
  have y3 := hT.c1
  go_wp2_with fail
  refine (cR W hX).mono ?_
  rintro e W1 ⟨rfl, hB⟩
  have HX : Hid (Below w.heap.size w W1) := hX.trans (hB.mono hX.size)
  clear cR y2 y3 hX hT hB
  go_wp2
  go_ret
  exact ⟨rfl, HX.out⟩
set_option maxHeartbeats 4000000 in
theorem rput_right (B b : Nat) (s : Sl) (k : Fin 12) (c : Rc) (w : World) (h : Tb 61 B w b s) (cR : ∀ W, Below w.heap.size w W → Calls Tryd.prog 59 #[.agg #[.string c.1.1, .int .u8 c.1.2.toNat]] W fun e W' => e = .returned (.bool true) ∧ Below W.heap.size W W') : Calls Tryd.prog 51 #[.pointer (some ⟨b, 0, none⟩), .int .i64 k.1, cpV c.1] w fun r w' => r = .returned (.int .i64 (putE s k)) ∧ TStp 61 B w w' b (putS s k c) := by
  have hX := below_new w (.cells #[.string c.1.1, .int .u8 c.1.2.toNat] 31)
  have hT := Two.new w 31 (.string c.1.1) (.int .u8 c.1.2.toNat)
  have hs : w.heap.size < (w.alloc (.cells #[.string c.1.1, .int .u8 c.1.2.toNat] 31)).heap.size := by simp
  have hne : b ≠ w.heap.size := Nat.ne_of_lt h.c.lt
  have h0 := h.below hX
  have cT := fun w => rslot_ok b k w
  have hE := slot_name (s k)
  have HS : Hid (∀ W, Below w.heap.size w W → Tb 61 B W b s → TStp 61 B w ((W.setCell ⟨b, k.1 * 2, none⟩ (.string c.1.1)).setCell ⟨b, k.1 * 2 + 1, none⟩ (.int .u8 c.1.2.toNat)).drew b (upd s k (some c))) := fun W hB hW => ((TStp.slot hW k (some c)).pre hB).drew
  have HK : Hid (∀ W, Below w.heap.size w W → TStp 61 B w W b s) := fun W hB => TStp.same h hB
  have HA : Hid (∀ W, Tb 61 B W b s → (W.cell? ⟨b, k.1 * 2, none⟩ = some (.string (slotC (s k)).1) ∧ W.cell? ⟨b, k.1 * 2 + 1, none⟩ = some (.int .u8 (slotC (s k)).2.toNat)) ∧ (W.frozen? ⟨b, k.1 * 2, none⟩ = false ∧ W.frozen? ⟨b, k.1 * 2 + 1, none⟩ = false)) := fun W hW => hW.at k
  clear h
  unfold putE putS cpV
  generalize (slotC (s k)).1 = n at *
  generalize ((slotC (s k)).2.toNat : Int) = r at *
  generalize (s k).isSome = z at *
  generalize c.1.1 = cn at *
  generalize (c.1.2.toNat : Int) = cr at *
  obtain ⟨k, hk⟩ := k
  simp only at *
  have h2 : (k : Int) < 12 := by omega
  generalize hup : upd s ⟨k, hk⟩ (some c) = s' at *
  clear hup
  go_enter Tryd.func51, Tryd.ntmps51
  go_wp2_with fail
  generalize (w.alloc (.cells #[.string cn, .int .u8 cr] 31)) = W0 at *
  refine (cT W0).mono ?_
  rintro e W ⟨rfl, rfl⟩
  clear cT
  have y2 := hT.c0
  have y3 := hT.c1
  go_wp2_with fail
  refine (cR W hX).mono ?_
  rintro e W1 ⟨rfl, hB⟩
  have hX1 := hX.trans (hB.mono hX.size)
  have h1 := h0.below hB
  have hT1 := hT.below hB hs
  clear cR y2 y3 hX hT hB h0 hs
  obtain ⟨⟨c0, c1⟩, f0, f1⟩ := HA.out W1 h1
  cases z with
  | true =>
    have HQ : Hid (TStp 61 B w W1 b s) := HK.out W1 hX1
    clear hX1 h1 hT1 HS HK HA hne
    go_wp2
    go_ret
    exact ⟨rfl, HQ.out⟩
  | false =>
    have HQ' : Hid (TStp 61 B w ((W1.setCell ⟨b, k * 2, none⟩ (.string cn)).setCell ⟨b, k * 2 + 1, none⟩ (.int .u8 cr)).drew b s') := HS.out W1 hX1 h1
    have hlt := h1.c.lt
    have y2 := hT1.c0
    have y3 := hT1.c1
    clear HS HK HA hX1 h1 hT1
    go_wp2
    go_region
    go_wp2
    go_ret
    exact ⟨rfl, HQ'.out⟩
end Go.Proofs.YtioinppclejbhaaDoor
