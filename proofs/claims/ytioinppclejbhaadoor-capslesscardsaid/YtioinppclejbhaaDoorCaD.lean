/- The program's table: add, Derive, Restrict. -/
import Derived.Test.YtioinppclejbhaaDoorCaC
namespace Go.Proofs.YtioinppclejbhaaDoor
open Go.RowKit Go.Maps Go.Sort
set_option linter.unusedVariables false
set_option maxRecDepth 100000
theorem drv1_any (bx : Nat) (c : Cp) (l : ByteArray) (w : World) (hn : c.1.size ≤ 1000) (hl : l.size ≤ 1000) (hb : w.cell? ⟨bx, 0, none⟩ = some (.string l)) (hbx : bx < w.heap.size) : Calls Tryd.prog 44 #[cpV c, .pointer (some ⟨bx, 0, none⟩)] w fun r w' => r = .returned (capsV (deriveO c.1.data.toList c.2 l.data.toList)) ∧ Below w.heap.size w w' := by
  have hX : Below w.heap.size w ((w.alloc (.cells #[.string c.1, .int .u8 c.2.toNat] 31)).alloc (.cells #[.string ⟨#[]⟩, .int .u8 0] 31)) := (below_new w _).alloc (by simp) _
  have hT := Two.new (w.alloc (.cells #[.string c.1, .int .u8 c.2.toNat] 31)) 31 (.string ⟨#[]⟩) (.int .u8 0)
  have hU := (Two.new w 31 (.string c.1) (.int .u8 c.2.toNat)).alloc (.cells #[.string ⟨#[]⟩, .int .u8 0] 31)
  have hb' := (hX.cell (p := ⟨bx, 0, none⟩) hbx).trans hb
  have hs : w.heap.size + 1 < ((w.alloc (.cells #[.string c.1, .int .u8 c.2.toNat] 31)).alloc (.cells #[.string ⟨#[]⟩, .int .u8 0] 31)).heap.size := by simp
  have cD := fun w => derive_any c.1 l c.2 w hn hl
  simp only [World.size_alloc] at hT
  unfold cpV
  unfold capV at cD
  generalize deriveO c.1.data.toList c.2 l.data.toList = o at *
  unfold capsV capV at *
  obtain ⟨o1, o2, o3⟩ := o
  obtain ⟨n, r⟩ := c
  simp only at *
  generalize (r.toNat : Int) = r at *
  generalize (o2.toNat : Int) = o2 at *
  generalize (⟨o1.toArray⟩ : ByteArray) = o1 at *
  clear hb hn hl hbx
  go_enter Tryd.func44, Tryd.ntmps44
  go_wp2_with fail
  generalize ((w.alloc (.cells #[.string n, .int .u8 r] 31)).alloc (.cells #[.string ⟨#[]⟩, .int .u8 0] 31)) = W0 at *
  have a0 := hU.c0
  have a1 := hU.c1
  go_wp2_with fail
  refine (cD W0).mono ?_
  rintro e W1 ⟨rfl, hB⟩
  have hT1 := hT.below hB hs
  have HX : Hid (Below w.heap.size w W1) := hX.trans (hB.mono hX.size)
  clear a0 a1 hU hT hB hX cD hb' hs
  have y0 := hT1.f 0
  have y1 := hT1.f 1
  have y2 := hT1.c0
  have y3 := hT1.c1
  have z0 := (hT1.set0 (.string o1)).c1
  have z1 := (hT1.set0 (.string o1)).f 1
  go_wp2
  have hT3 := (hT1.set0 (.string o1)).set1 (.int .u8 o2)
  exact bodyPost_ret (v := .tuple #[.agg #[.string o1, .int .u8 o2], .int .i64 o3]) (by simp [results, Tryd.results44, go_sem, hT3.c0, hT3.c1]) rfl ⟨rfl, Below.set2 HX.out (by omega) _ _⟩
theorem rst1_any (bx : Nat) (c : Cp) (x : BitVec 8) (w : World) (hn : c.1.size ≤ 1000) (hb : w.cell? ⟨bx, 0, none⟩ = some (.int .u8 x.toNat)) (hbx : bx < w.heap.size) : Calls Tryd.prog 42 #[cpV c, .pointer (some ⟨bx, 0, none⟩)] w fun r w' => r = .returned (capsV (restrictO c.1.data.toList c.2 x)) ∧ Below w.heap.size w w' := by
  have hX : Below w.heap.size w ((w.alloc (.cells #[.string c.1, .int .u8 c.2.toNat] 31)).alloc (.cells #[.string ⟨#[]⟩, .int .u8 0] 31)) := (below_new w _).alloc (by simp) _
  have hT := Two.new (w.alloc (.cells #[.string c.1, .int .u8 c.2.toNat] 31)) 31 (.string ⟨#[]⟩) (.int .u8 0)
  have hU := (Two.new w 31 (.string c.1) (.int .u8 c.2.toNat)).alloc (.cells #[.string ⟨#[]⟩, .int .u8 0] 31)
  have hb' := (hX.cell (p := ⟨bx, 0, none⟩) hbx).trans hb
  have hs : w.heap.size + 1 < ((w.alloc (.cells #[.string c.1, .int .u8 c.2.toNat] 31)).alloc (.cells #[.string ⟨#[]⟩, .int .u8 0] 31)).heap.size := by simp
  have cD := fun w => restrict_any c.1 c.2 x w hn
  simp only [World.size_alloc] at hT
  unfold cpV
  unfold capV at cD
  generalize restrictO c.1.data.toList c.2 x = o at *
  unfold capsV capV at *
  obtain ⟨o1, o2, o3⟩ := o
  obtain ⟨n, r⟩ := c
  simp only at *
  generalize (r.toNat : Int) = r at *
  generalize (o2.toNat : Int) = o2 at *
  generalize (⟨o1.toArray⟩ : ByteArray) = o1 at *
  clear hb hn hbx
  go_enter Tryd.func42, Tryd.ntmps42
  go_wp2_with fail
  generalize ((w.alloc (.cells #[.string n, .int .u8 r] 31)).alloc (.cells #[.string ⟨#[]⟩, .int .u8 0] 31)) = W0 at *
  have a0 := hU.c0
  have a1 := hU.c1
  go_wp2_with fail
  refine (cD W0).mono ?_
  rintro e W1 ⟨rfl, hB⟩
  have hT1 := hT.below hB hs
  have HX : Hid (Below w.heap.size w W1) := hX.trans (hB.mono hX.size)
  clear a0 a1 hU hT hB hX cD hb' hs
  have y0 := hT1.f 0
  have y1 := hT1.f 1
  have y2 := hT1.c0
  have y3 := hT1.c1
  have z0 := (hT1.set0 (.string o1)).c1
  have z1 := (hT1.set0 (.string o1)).f 1
  go_wp2
  have hT3 := (hT1.set0 (.string o1)).set1 (.int .u8 o2)
  exact bodyPost_ret (v := .tuple #[.agg #[.string o1, .int .u8 o2], .int .i64 o3]) (by simp [results, Tryd.results42, go_sem, hT3.c0, hT3.c1]) rfl ⟨rfl, Below.set2 HX.out (by omega) _ _⟩
set_option maxHeartbeats 2000000 in
theorem add_off (p f : Value) (i j e : Int) (n : ByteArray) (r : Int) (he : (e == 0) = false) (w : World) (hG : Calls Tryd.prog 21 #[p, .int .i64 i] w fun o w' => o = .returned (.tuple #[.agg #[.string n, .int .u8 r], .int .i64 e]) ∧ Below w.heap.size w w') : Calls Tryd.prog 41 #[p, .int .i64 i, .int .i64 j, f] w fun o w' => o = .returned (.int .i64 e) ∧ Below w.heap.size w w' := by
  go_enter Tryd.func41, Tryd.ntmps41
  go_wp2_with fail
  refine hG.mono ?_
  rintro o W ⟨rfl, hB⟩
  have HX : Hid (Below w.heap.size w (W.alloc (.cells #[.string n, .int .u8 r] 31))) := hB.alloc hB.size _
  clear hG hB
  go_wp2
  go_ret
  exact ⟨rfl, HX.out⟩
set_option maxHeartbeats 2000000 in
theorem add_stop (F bx : Nat) (hF : ∀ args w, (callFunc F args).run Tryd.prog w = .ok (.enter F args) w) (p : Value) (i j e : Int) (n m : ByteArray) (r q : Int) (he : (e == 0) = false) (w : World) (hG : Calls Tryd.prog 21 #[p, .int .i64 i] w fun o w' => o = .returned (.tuple #[.agg #[.string n, .int .u8 r], .int .i64 0]) ∧ Below w.heap.size w w')
    (hM : ∀ W, Below w.heap.size w W → Calls Tryd.prog F #[.agg #[.string n, .int .u8 r], .pointer (some ⟨bx, 0, none⟩)] W fun o w' => o = .returned (.tuple #[.agg #[.string m, .int .u8 q], .int .i64 e]) ∧ Below W.heap.size W w')
    : Calls Tryd.prog 41 #[p, .int .i64 i, .int .i64 j, .func (.func F) #[] #[.pointer (some ⟨bx, 0, none⟩)]] w fun o w' => o = .returned (.int .i64 e) ∧ Below w.heap.size w w' := by
  go_enter Tryd.func41, Tryd.ntmps41
  go_wp2_with fail
  refine hG.mono ?_
  rintro o W ⟨rfl, hB⟩
  have HX := hB.alloc hB.size (.cells #[.string n, .int .u8 r] 31)
  have hT := Two.new W 31 (.string n) (.int .u8 r)
  have hs : W.heap.size < (W.alloc (.cells #[.string n, .int .u8 r] 31)).heap.size := by simp
  have hw := hB.size
  have cM := hM _ HX
  clear hG hB
  go_wp2_with fail
  generalize (W.alloc (.cells #[.string n, .int .u8 r] 31)) = W0 at *
  refine cM.mono ?_
  rintro o W1 ⟨rfl, hB1⟩
  have HX1 := HX.trans (hB1.mono HX.size)
  have hT1 := hT.below hB1 hs
  clear cM hM hF HX hT hB1 hs
  have y0 := hT1.f 0
  have y1 := hT1.f 1
  have y2 := hT1.c0
  have y3 := hT1.c1
  have z0 := (hT1.set0 (.string m)).c1
  have z1 := (hT1.set0 (.string m)).f 1
  have hT3 := (hT1.set0 (.string m)).set1 (.int .u8 q)
  have HX3 : Hid (Below w.heap.size w ((W1.setCell ⟨W.heap.size, 0, none⟩ (.string m)).setCell ⟨W.heap.size, 1, none⟩ (.int .u8 q))) := Below.set2 HX1 hw _ _
  clear hT1 HX1
  go_wp2
  go_ret
  exact ⟨rfl, HX3.out⟩
set_option maxHeartbeats 2000000 in
theorem add_go (F bx : Nat) (hF : ∀ args w, (callFunc F args).run Tryd.prog w = .ok (.enter F args) w) (p : Value) (i j e : Int) (n m : ByteArray) (r q : Int) (w : World) (hG : Calls Tryd.prog 21 #[p, .int .i64 i] w fun o w' => o = .returned (.tuple #[.agg #[.string n, .int .u8 r], .int .i64 0]) ∧ Below w.heap.size w w')
    (hM : ∀ W, Below w.heap.size w W → Calls Tryd.prog F #[.agg #[.string n, .int .u8 r], .pointer (some ⟨bx, 0, none⟩)] W fun o w' => o = .returned (.tuple #[.agg #[.string m, .int .u8 q], .int .i64 0]) ∧ Below W.heap.size W w')
    (P : Int → World → Prop) (hP : ∀ W, Below w.heap.size w W → Calls Tryd.prog 28 #[p, .int .i64 j, .agg #[.string m, .int .u8 q]] W fun o w' => ∃ e, o = .returned (.int .i64 e) ∧ P e w')
    : Calls Tryd.prog 41 #[p, .int .i64 i, .int .i64 j, .func (.func F) #[] #[.pointer (some ⟨bx, 0, none⟩)]] w fun o w' => ∃ e, o = .returned (.int .i64 e) ∧ P e w' := by
  go_enter Tryd.func41, Tryd.ntmps41
  go_wp2_with fail
  refine hG.mono ?_
  rintro o W ⟨rfl, hB⟩
  have HX := hB.alloc hB.size (.cells #[.string n, .int .u8 r] 31)
  have hT := Two.new W 31 (.string n) (.int .u8 r)
  have hs : W.heap.size < (W.alloc (.cells #[.string n, .int .u8 r] 31)).heap.size := by simp
  have hw := hB.size
  have cM := hM _ HX
  clear hG hB
  go_wp2_with fail
  generalize (W.alloc (.cells #[.string n, .int .u8 r] 31)) = W0 at *
  refine cM.mono ?_
  rintro o W1 ⟨rfl, hB1⟩
  have HX1 := HX.trans (hB1.mono HX.size)
  have hT1 := hT.below hB1 hs
  clear cM hM hF HX hT hB1 hs
  have y0 := hT1.f 0
  have y1 := hT1.f 1
  have y2 := hT1.c0
  have y3 := hT1.c1
  have z0 := (hT1.set0 (.string m)).c1
  have z1 := (hT1.set0 (.string m)).f 1
  have hT3 := (hT1.set0 (.string m)).set1 (.int .u8 q)
  have HX3 : Hid (Below w.heap.size w ((W1.setCell ⟨W.heap.size, 0, none⟩ (.string m)).setCell ⟨W.heap.size, 1, none⟩ (.int .u8 q))) := Below.set2 HX1 hw _ _
  clear hT1 HX1
  have a0 := hT3.c0
  have a1 := hT3.c1
  go_wp2_with fail
  refine (hP _ HX3.out).mono ?_
  rintro o W4 ⟨e', rfl, hQ⟩
  clear hP y0 y1 y2 y3 z0 z1 a0 a1 hT3 HX3
  have HQ : Hid (P e' W4) := hQ
  clear hQ
  go_wp2
  go_ret
  exact ⟨e', rfl, HQ.out⟩
/-- A call of a function with a body comes to it. -/
theorem enters_fn {f : FuncId} {g : Func} {c : Code} (hg : Tryd.prog.funcs[f]? = some g) (hn : (g.name == "runtime.NumGoroutine") = false) (hc : g.body = some c) : ∀ args w, (callFunc f args).run Tryd.prog w = .ok (.enter f args) w := by
  intro args w
  have := ne_of_beq_false hn
  simp [callFunc, hg, this, hc]
theorem hFderive : ∀ args w, (callFunc 44 args).run Tryd.prog w = .ok (.enter 44 args) w := enters_fn Tryd.func44 (by kernel_rfl) rfl
theorem tderive_of (p : Value) (i j : Int) (l : ByteArray) (w : World) (P : Int → World → Prop) (h : Calls Tryd.prog 41 #[p, .int .i64 i, .int .i64 j, .func (.func 44) #[] #[.pointer (some ⟨w.heap.size, 0, none⟩)]] (w.alloc (.cells #[.string l] 9)) fun o w' => ∃ e, o = .returned (.int .i64 e) ∧ P e w') : Calls Tryd.prog 18 #[p, .int .i64 i, .int .i64 j, .string l] w fun o w' => ∃ e, o = .returned (.int .i64 e) ∧ P e w' := by
  go_enter Tryd.func18, Tryd.ntmps18
  go_wp2_with fail
  refine h.mono ?_
  rintro o W ⟨e, rfl, hQ⟩
  have HQ : Hid (P e W) := hQ
  clear hQ h
  go_wp2
  go_ret
  exact ⟨e, rfl, HQ.out⟩
theorem hFrestrict : ∀ args w, (callFunc 42 args).run Tryd.prog w = .ok (.enter 42 args) w := enters_fn Tryd.func42 (by kernel_rfl) rfl
theorem trestrict_of (p : Value) (i j : Int) (x : Int) (w : World) (P : Int → World → Prop) (h : Calls Tryd.prog 41 #[p, .int .i64 i, .int .i64 j, .func (.func 42) #[] #[.pointer (some ⟨w.heap.size, 0, none⟩)]] (w.alloc (.cells #[.int .u8 x] 5)) fun o w' => ∃ e, o = .returned (.int .i64 e) ∧ P e w') : Calls Tryd.prog 17 #[p, .int .i64 i, .int .i64 j, .int .u8 x] w fun o w' => ∃ e, o = .returned (.int .i64 e) ∧ P e w' := by
  go_enter Tryd.func17, Tryd.ntmps17
  go_wp2_with fail
  refine h.mono ?_
  rintro o W ⟨e, rfl, hQ⟩
  have HQ : Hid (P e W) := hQ
  clear hQ h
  go_wp2
  go_ret
  exact ⟨e, rfl, HQ.out⟩
end Go.Proofs.YtioinppclejbhaaDoor
