/- CpuHangs: the walk. -/
import Derived.Test.YtbjklpdloglniaaDoorCpuHg
import Derived.Test.YtbjklpdloglniaaDoorCpuEq
namespace Go.Proofs.YtbjklpdloglniaaDoor
open Go.RowKit
set_option linter.unusedVariables false
set_option maxRecDepth 100000
structure Hid4 (p : Prop) : Prop where
  out : p
theorem lst_mem (F : Nat → Bool) {x : UInt8} (h : x ∈ lst F 8) : x.toNat < 8 ∧ F x.toNat = true := by
  have h1 : hasL (lst F 8) x.toNat = true := List.any_eq_true.2 ⟨x, h, by simp⟩
  rw [has_lst F _ 8 (by decide)] at h1
  simpa using h1
theorem rdG_lt (o a b m : Int) (j : Nat) (h : rdG o a b m j = true) : j < 8 := by
  unfold rdG at h
  by_cases hR : insR o a b m = true
  · rw [if_pos hR] at h
    obtain ⟨⟨_, ha, hb⟩, _⟩ := (insR_iff o a b m).1 hR
    unfold rdF at h
    repeat' split at h
    all_goals simp at h
    all_goals omega
  · rw [if_neg hR] at h
    cases h
theorem hu_next {L : List UInt8} {k : Nat} {u r t : Nat → Int} (hk : k < L.length) (H : ∀ j, u j = if hasL (L.take k) j = true then r j else t j) : ∀ j, upd u L[k].toNat (r L[k].toNat) j = if hasL (L.take (k + 1)) j = true then r j else t j := by
  intro j
  rw [List.take_succ_eq_append_getElem hk, has_append]
  unfold upd
  by_cases h : j = L[k].toNat
  · subst h
    simp [hasL]
  · rw [if_neg h, H j]
    have e : hasL [L[k]] j = false := by
      simp [hasL]
      exact fun e => h e.symm
    rw [e, Bool.or_false]
theorem rgC_no (pc : Int) (u : Nat → Int) (i : Nat) (z : Int) : (rgC pc u)[i]? ≠ some (.int .u8 z) := by
  intro h
  have hi : i < 9 := (Array.getElem?_eq_some_iff.1 h).1
  rcases (show i = 0 ∨ i = 1 ∨ i = 2 ∨ i = 3 ∨ i = 4 ∨ i = 5 ∨ i = 6 ∨ i = 7 ∨ i = 8 by omega) with rfl | rfl | rfl | rfl | rfl | rfl | rfl | rfl | rfl <;> simp [rgC] at h
theorem rg_setB (pc : Int) (u : Nat → Int) (y : Int) (k : Nat) (hk : k < 8) : (rgC pc u).setIfInBounds (1 + k) (.int .u16 y) = rgC pc (upd u k y) := by
  revert k
  exact eight rfl rfl rfl rfl rfl rfl rfl rfl
/-- Both registers, the instruction, and what is read. -/
structure Hs (w W : World) (pc : Int) (r u : Nat → Int) (o a b m : Int) (v : Value) (L : List UInt8) : Prop where
  s : Cel W w.heap.size (rgC pc r) 26
  t : Cel W (w.heap.size + 1) (rgC pc u) 26
  i : Cel W (w.heap.size + 1 + 1) #[.int .u8 o, .int .u8 a, .int .u8 b, .int .u16 m] 29
  l : Bts W v L
  bl : Below w.heap.size w W
  sz : w.heap.size + 1 + 1 < W.heap.size
theorem Hs.set {w W : World} {pc : Int} {r u : Nat → Int} {o a b m : Int} {v : Value} {L : List UInt8} (h : Hs w W pc r u o a b m v L) (x : Nat) (hx : x < 8) (y : Int) : Hs w (W.setCell ⟨w.heap.size + 1, 1 + x, none⟩ (.int .u16 y)) pc r (upd u x y) o a b m v L := by
  refine ⟨h.s.other (by omega) _ _, ?_, h.i.other (by omega) _ _, ?_, h.bl.setCell (p := ⟨w.heap.size + 1, 1 + x, none⟩) (by show w.heap.size ≤ w.heap.size + 1; omega) _, by have := h.sz; simpa using this⟩
  · have := h.t.set (1 + x) (.int .u16 y)
    rw [rg_setB pc u y x hx] at this
    exact this
  · obtain ⟨ad, cap, hv, h1, h2, hc⟩ := h.l
    refine ⟨ad, cap, hv, h1, h2, fun j z hz => ?_⟩
    obtain ⟨g, off, e, hcell⟩ := hc j z hz
    refine ⟨g, off, e, ?_⟩
    have hne : g ≠ w.heap.size + 1 := fun e => by
      rw [e, h.t.c] at hcell
      exact rgC_no pc u _ _ hcell
    rw [World.cell?_of_block (w := W) (Below.heap_setCell W ⟨w.heap.size + 1, 1 + x, none⟩ (.int .u16 y) g hne)]
    exact hcell
theorem Hs.low {w W W' : World} {pc : Int} {r u : Nat → Int} {o a b m : Int} {v : Value} {L : List UInt8} (h : Hs w W pc r u o a b m v L) (k : Below W.heap.size W W') : Hs w W' pc r u o a b m v L :=
  ⟨h.s.below k (by have := h.sz; omega), h.t.below k (by have := h.sz; omega), h.i.below k h.sz, h.l.below k (Nat.le_refl _), h.bl.trans (k.mono h.bl.size), Nat.lt_of_lt_of_le h.sz k.size⟩
theorem Hs.drew {w W : World} {pc : Int} {r u : Nat → Int} {o a b m : Int} {v : Value} {L : List UInt8} (h : Hs w W pc r u o a b m v L) : Hs w W.drew pc r u o a b m v L := ⟨h.s, h.t, h.i, h.l, h.bl.drew, h.sz⟩
/-- What both came to, and what is written. -/
structure Hz (w W : World) (BA BB : Nat) (q : Int) (S T : Nat → Int) (x0 x1 x2 x3 x4 : Int) (v : Value) (L : List UInt8) : Prop where
  a : Cel W BA (rgC q S) 26
  x : Cel W (BA + 1) #[.int .u8 x0, .int .u16 x1, .int .u16 x2, .int .u8 x3, .int .i64 x4] 35
  b : Cel W BB (rgC q T) 26
  y : Cel W (BB + 1) #[.int .u8 x0, .int .u16 x1, .int .u16 x2, .int .u8 x3, .int .i64 x4] 35
  l : Bts W v L
  bl : Below w.heap.size w W
  z1 : BA + 1 < W.heap.size
  z2 : BB + 1 < W.heap.size
theorem Hz.low {w W W' : World} {BA BB : Nat} {q : Int} {S T : Nat → Int} {x0 x1 x2 x3 x4 : Int} {v : Value} {L : List UInt8} (h : Hz w W BA BB q S T x0 x1 x2 x3 x4 v L) (k : Below W.heap.size W W') : Hz w W' BA BB q S T x0 x1 x2 x3 x4 v L :=
  ⟨h.a.below k (by have := h.z1; omega), h.x.below k h.z1, h.b.below k (by have := h.z2; omega), h.y.below k h.z2, h.l.below k (Nat.le_refl _), h.bl.trans (k.mono h.bl.size), Nat.lt_of_lt_of_le h.z1 k.size, Nat.lt_of_lt_of_le h.z2 k.size⟩
theorem Hz.drew {w W : World} {BA BB : Nat} {q : Int} {S T : Nat → Int} {x0 x1 x2 x3 x4 : Int} {v : Value} {L : List UInt8} (h : Hz w W BA BB q S T x0 x1 x2 x3 x4 v L) : Hz w W.drew BA BB q S T x0 x1 x2 x3 x4 v L := ⟨h.a, h.x, h.b, h.y, h.l, h.bl.drew, h.z1, h.z2⟩
set_option maxHeartbeats 8000000 in
theorem changs_a (cV : ∀ w, Calls Tryd.prog 7 #[] w fun e w' => e = .returned (.bool true) ∧ Below w.heap.size w w') (pc : Int) (r : Nat → Int) (pc2 : Int) (t : Nat → Int) (o a b m : Int) (w : World) (hp : Wd pc) (hr : ∀ k, Wd (r k)) (ht : ∀ k, Wd (t k)) (hO : InsOk o a b m) :
    Calls Tryd.prog 3 #[rgV pc r, rgV pc2 t, insV o a b m] w fun e w' => e = .returned (.bool true) ∧ Below w.heap.size w w' := by
  have cR := fun w => Reads_any o a b m w hO
  have HCL := Hid4.mk (fun (u : Nat → Int) (hu : ∀ k, Wd (u k)) w => exec_any pc u o a b m w hp hu hO)
  have HH := Hid4.mk (fun u => exec_hangs pc r u o a b m hO.1)
  have HLt := Hid4.mk (rdG_lt o a b m)
  have HRr := Hid4.mk hr
  have HTt := Hid4.mk ht
  have HWr := Hid4.mk (fun w => Writes_any o a b m w hO)
  have HLm := Hid4.mk (fun x (h : x ∈ lst (rdG o a b m) 8) => (lst_mem (rdG o a b m) h).1)
  have HLh := Hid4.mk (fun j => has_lst (rdG o a b m) j 8 (by decide))
  have hLn : (lst (rdG o a b m) 8).length ≤ 8 := lst_len _ 8
  generalize lst (rdG o a b m) 8 = L at *
  clear hr ht hp hO
  have k0 := ((Cel.new w #[.int .u16 pc, .int .u16 (r 0), .int .u16 (r 1), .int .u16 (r 2), .int .u16 (r 3), .int .u16 (r 4), .int .u16 (r 5), .int .u16 (r 6), .int .u16 (r 7)] 26).alloc (.cells #[.int .u16 pc2, .int .u16 (t 0), .int .u16 (t 1), .int .u16 (t 2), .int .u16 (t 3), .int .u16 (t 4), .int .u16 (t 5), .int .u16 (t 6), .int .u16 (t 7)] 26)).alloc (.cells #[.int .u8 o, .int .u8 a, .int .u8 b, .int .u16 m] 29)
  have k1 := (Cel.new (w.alloc (.cells #[.int .u16 pc, .int .u16 (r 0), .int .u16 (r 1), .int .u16 (r 2), .int .u16 (r 3), .int .u16 (r 4), .int .u16 (r 5), .int .u16 (r 6), .int .u16 (r 7)] 26)) #[.int .u16 pc2, .int .u16 (t 0), .int .u16 (t 1), .int .u16 (t 2), .int .u16 (t 3), .int .u16 (t 4), .int .u16 (t 5), .int .u16 (t 6), .int .u16 (t 7)] 26).alloc (.cells #[.int .u8 o, .int .u8 a, .int .u8 b, .int .u16 m] 29)
  have k2 := Cel.new ((w.alloc (.cells #[.int .u16 pc, .int .u16 (r 0), .int .u16 (r 1), .int .u16 (r 2), .int .u16 (r 3), .int .u16 (r 4), .int .u16 (r 5), .int .u16 (r 6), .int .u16 (r 7)] 26)).alloc (.cells #[.int .u16 pc2, .int .u16 (t 0), .int .u16 (t 1), .int .u16 (t 2), .int .u16 (t 3), .int .u16 (t 4), .int .u16 (t 5), .int .u16 (t 6), .int .u16 (t 7)] 26)) #[.int .u8 o, .int .u8 a, .int .u8 b, .int .u16 m] 29
  rw [World.size_alloc] at k1
  rw [World.size_alloc, World.size_alloc] at k2
  have hb0 := nx (nx (nx (Below.refl _ w) (.cells #[.int .u16 pc, .int .u16 (r 0), .int .u16 (r 1), .int .u16 (r 2), .int .u16 (r 3), .int .u16 (r 4), .int .u16 (r 5), .int .u16 (r 6), .int .u16 (r 7)] 26)) (.cells #[.int .u16 pc2, .int .u16 (t 0), .int .u16 (t 1), .int .u16 (t 2), .int .u16 (t 3), .int .u16 (t 4), .int .u16 (t 5), .int .u16 (t 6), .int .u16 (t 7)] 26)) (.cells #[.int .u8 o, .int .u8 a, .int .u8 b, .int .u16 m] 29)
  have hs0 : (((w.alloc (.cells #[.int .u16 pc, .int .u16 (r 0), .int .u16 (r 1), .int .u16 (r 2), .int .u16 (r 3), .int .u16 (r 4), .int .u16 (r 5), .int .u16 (r 6), .int .u16 (r 7)] 26)).alloc (.cells #[.int .u16 pc2, .int .u16 (t 0), .int .u16 (t 1), .int .u16 (t 2), .int .u16 (t 3), .int .u16 (t 4), .int .u16 (t 5), .int .u16 (t 6), .int .u16 (t 7)] 26)).alloc (.cells #[.int .u8 o, .int .u8 a, .int .u8 b, .int .u16 m] 29)).heap.size = w.heap.size + 1 + 1 + 1 := by simp
  unfold rgV insV at *
  go_enter Tryd.func3, Tryd.ntmps3
  go_wp2_with fail
  generalize (((w.alloc (.cells #[.int .u16 pc, .int .u16 (r 0), .int .u16 (r 1), .int .u16 (r 2), .int .u16 (r 3), .int .u16 (r 4), .int .u16 (r 5), .int .u16 (r 6), .int .u16 (r 7)] 26)).alloc (.cells #[.int .u16 pc2, .int .u16 (t 0), .int .u16 (t 1), .int .u16 (t 2), .int .u16 (t 3), .int .u16 (t 4), .int .u16 (t 5), .int .u16 (t 6), .int .u16 (t 7)] 26)).alloc (.cells #[.int .u8 o, .int .u8 a, .int .u8 b, .int .u16 m] 29)) = W0 at *
  refine (cR _).mono ?_
  rintro e1 W1 ⟨⟨v, rfl, hv⟩, hB1⟩
  obtain ⟨ad, cap, rfl, _⟩ := id hv
  have hs1 := hB1.size
  replace k0 := k0.below hB1 (by omega)
  replace k1 := k1.below hB1 (by omega)
  replace k2 := k2.below hB1 (by omega)
  have hb1 := hb0.trans (hB1.mono (by omega))
  have s0 : W1.cell? ⟨w.heap.size, 0, none⟩ = some (.int .u16 pc) := k0.c 0
  have t0 : W1.cell? ⟨w.heap.size + 1, 0, none⟩ = some (.int .u16 pc2) := k1.c 0
  have tf := k1.f 0
  have l1 : w.heap.size + 1 + 1 < W1.heap.size := by omega
  have l0 : w.heap.size < W1.heap.size := by omega
  have l2 : w.heap.size + 1 < W1.heap.size := by omega
  have HQ0 : Hid4 (Hs w (W1.setCell ⟨w.heap.size + 1, 0, none⟩ (.int .u16 pc)) pc r t o a b m (.slice ad L.length cap) L) := by
    refine ⟨⟨k0.other (by omega) _ _, ?_, k2.other (by omega) _ _, ?_, hb1.setCell (p := ⟨w.heap.size + 1, 0, none⟩) (by show w.heap.size ≤ w.heap.size + 1; omega) _, by simpa using l1⟩⟩
    · exact k1.set 0 (.int .u16 pc)
    · obtain ⟨ad, cap, hv, h1, h2, hc⟩ := hv
      refine ⟨ad, cap, hv, h1, h2, fun j z hz => ?_⟩
      obtain ⟨g, off, e, hcell⟩ := hc j z hz
      refine ⟨g, off, e, ?_⟩
      have hne : g ≠ w.heap.size + 1 := fun e => by
        rw [e, k1.c] at hcell
        exact rgC_no pc2 t _ _ hcell
      rw [World.cell?_of_block (w := W1) (Below.heap_setCell W1 ⟨w.heap.size + 1, 0, none⟩ (.int .u16 pc) g hne)]
      exact hcell
  clear hb0 hB1 cR k0 k1 k2 hv hb1 hs1 hs0
  go_wp2_with fail
  clear s0 t0 tf l0 l1 l2
  go_loopw [8] (fun s8 wr => ∃ (k : Nat) (u : Nat → Int), k ≤ L.length ∧ s8 = .int .i64 k ∧ Hid4 (∀ j, u j = if hasL (L.take k) j = true then r j else t j) ∧ Hid4 (Hs w wr pc r u o a b m (.slice ad L.length cap) L)) (fun s _ => L.length - (intOf s).toNat)
  case atStart => exact ⟨0, t, Nat.zero_le _, rfl, ⟨fun j => by simp [hasL]⟩, HQ0⟩
  case round =>
    obtain ⟨k, u, hk, rfl, HU, HQ⟩ := hrel
    clear HQ0
    by_cases hlt : k < L.length
    · have hltz : (k : Int) < (L.length : Int) := by omega
      obtain ⟨_, _, e0, _, _, hc⟩ := HQ.out.l
      injection e0 with e1 e2 e3
      obtain ⟨g, off, e4, hcell⟩ := hc k L[k] (List.getElem?_eq_getElem hlt)
      rw [← e1] at e4
      subst e4
      clear e1 e2 e3 hc
      have hx8 := HLm.out L[k] (List.getElem_mem hlt)
      have HN := Hid4.mk (hu_next hlt HU.out)
      generalize L[k].toNat = x at *
      have em : (x : Int) % 8 = (x : Int) := by omega
      have sc : wr.cell? ⟨w.heap.size, 1 + x, none⟩ = some (.int .u16 (r x)) := (HQ.out.s.c _).trans (rg_at pc r x hx8)
      have tc : wr.cell? ⟨w.heap.size + 1, 1 + x, none⟩ = some (.int .u16 (u x)) := (HQ.out.t.c _).trans (rg_at pc u x hx8)
      have tf := HQ.out.t.f (1 + x)
      have l1 := HQ.out.sz
      have l0 : w.heap.size < wr.heap.size := by omega
      have l2 : w.heap.size + 1 < wr.heap.size := by omega
      have hgl := World.block_lt_of_cell? _ _ hcell
      simp only at hgl
      go_wp2_with fail
      go_region
      go_wp2
      go_roundw
      case rel => exact ⟨k + 1, upd u x (r x), by omega, by go_num, HN, ⟨(HQ.out.set x hx8 (r x)).drew⟩⟩
      case measure => simp [intOf]; omega
    · obtain rfl : k = L.length := by omega
      have hltz : ¬ (L.length : Int) < (L.length : Int) := by omega
      have HUr : Hid4 (∀ j, rdG o a b m j = true → r j = u j) := ⟨fun j hj => by rw [HU.out j, List.take_length, HLh.out j, hj, decide_eq_true (HLt.out j hj)]; rfl⟩
      have HWu : Hid4 (∀ k, Wd (u k)) := ⟨fun j => by
        rw [HU.out j]
        split
        · exact HRr.out j
        · exact HTt.out j⟩
      obtain ⟨⟨⟨q, S⟩, x0, x1, x2, x3, x4⟩, hE⟩ : ∃ E, execP pc r o a b m = E := ⟨_, rfl⟩
      obtain ⟨⟨⟨q2, T⟩, y0, y1, y2, y3, y4⟩, hE2⟩ : ∃ E, execP pc u o a b m = E := ⟨_, rfl⟩
      have h3 := HH.out u HUr.out
      have cL := HCL.out r HRr.out
      have cL2 := HCL.out u HWu.out
      rw [hE] at cL
      rw [hE2] at cL2
      rw [hE, hE2] at h3
      simp only [Prod.mk.injEq] at h3
      obtain ⟨⟨rfl, rfl, rfl, rfl, rfl⟩, rfl, hS⟩ := h3
      have HSS := Hid4.mk hS
      unfold execV rgV accV at cL cL2
      simp only at cL cL2
      clear hS hE hE2 HH HCL HU HUr HLm HLh HLt
      have l1 := HQ.out.sz
      have l0 : w.heap.size < wr.heap.size := by omega
      have l2 : w.heap.size + 1 < wr.heap.size := by omega
      have s0 : wr.cell? ⟨w.heap.size, 0, none⟩ = some (.int .u16 pc) := (HQ.out.s).c 0
      have s1 : wr.cell? ⟨w.heap.size, 1, none⟩ = some (.int .u16 (r 0)) := (HQ.out.s).c 1
      have s2 : wr.cell? ⟨w.heap.size, 2, none⟩ = some (.int .u16 (r 1)) := (HQ.out.s).c 2
      have s3 : wr.cell? ⟨w.heap.size, 3, none⟩ = some (.int .u16 (r 2)) := (HQ.out.s).c 3
      have s4 : wr.cell? ⟨w.heap.size, 4, none⟩ = some (.int .u16 (r 3)) := (HQ.out.s).c 4
      have s5 : wr.cell? ⟨w.heap.size, 5, none⟩ = some (.int .u16 (r 4)) := (HQ.out.s).c 5
      have s6 : wr.cell? ⟨w.heap.size, 6, none⟩ = some (.int .u16 (r 5)) := (HQ.out.s).c 6
      have s7 : wr.cell? ⟨w.heap.size, 7, none⟩ = some (.int .u16 (r 6)) := (HQ.out.s).c 7
      have s8 : wr.cell? ⟨w.heap.size, 8, none⟩ = some (.int .u16 (r 7)) := (HQ.out.s).c 8
      have i0 : wr.cell? ⟨w.heap.size + 1 + 1, 0, none⟩ = some (.int .u8 o) := (HQ.out.i).c 0
      have i1 : wr.cell? ⟨w.heap.size + 1 + 1, 1, none⟩ = some (.int .u8 a) := (HQ.out.i).c 1
      have i2 : wr.cell? ⟨w.heap.size + 1 + 1, 2, none⟩ = some (.int .u8 b) := (HQ.out.i).c 2
      have i3 : wr.cell? ⟨w.heap.size + 1 + 1, 3, none⟩ = some (.int .u16 m) := (HQ.out.i).c 3
      go_wp2_with fail
      refine (cL _).mono ?_
      rintro e1 W2 ⟨rfl, hB2⟩
      have H2 := Hid4.mk (HQ.out.low hB2)
      clear cL hB2 HQ l1 l0 l2 s0 s1 s2 s3 s4 s5 s6 s7 s8 i0 i1 i2 i3
      have l1 := H2.out.sz
      have l0 : w.heap.size < W2.heap.size := by omega
      have l2 : w.heap.size + 1 < W2.heap.size := by omega
      have t0 : W2.cell? ⟨w.heap.size + 1, 0, none⟩ = some (.int .u16 pc) := (H2.out.t).c 0
      have t1 : W2.cell? ⟨w.heap.size + 1, 1, none⟩ = some (.int .u16 (u 0)) := (H2.out.t).c 1
      have t2 : W2.cell? ⟨w.heap.size + 1, 2, none⟩ = some (.int .u16 (u 1)) := (H2.out.t).c 2
      have t3 : W2.cell? ⟨w.heap.size + 1, 3, none⟩ = some (.int .u16 (u 2)) := (H2.out.t).c 3
      have t4 : W2.cell? ⟨w.heap.size + 1, 4, none⟩ = some (.int .u16 (u 3)) := (H2.out.t).c 4
      have t5 : W2.cell? ⟨w.heap.size + 1, 5, none⟩ = some (.int .u16 (u 4)) := (H2.out.t).c 5
      have t6 : W2.cell? ⟨w.heap.size + 1, 6, none⟩ = some (.int .u16 (u 5)) := (H2.out.t).c 6
      have t7 : W2.cell? ⟨w.heap.size + 1, 7, none⟩ = some (.int .u16 (u 6)) := (H2.out.t).c 7
      have t8 : W2.cell? ⟨w.heap.size + 1, 8, none⟩ = some (.int .u16 (u 7)) := (H2.out.t).c 8
      have i0 : W2.cell? ⟨w.heap.size + 1 + 1, 0, none⟩ = some (.int .u8 o) := (H2.out.i).c 0
      have i1 : W2.cell? ⟨w.heap.size + 1 + 1, 1, none⟩ = some (.int .u8 a) := (H2.out.i).c 1
      have i2 : W2.cell? ⟨w.heap.size + 1 + 1, 2, none⟩ = some (.int .u8 b) := (H2.out.i).c 2
      have i3 : W2.cell? ⟨w.heap.size + 1 + 1, 3, none⟩ = some (.int .u16 m) := (H2.out.i).c 3
      go_wp2_with fail
      have H3 := Hid4.mk (H2.out.low (nx (nx (Below.refl _ W2) (.cells #[.int .u16 q, .int .u16 (S 0), .int .u16 (S 1), .int .u16 (S 2), .int .u16 (S 3), .int .u16 (S 4), .int .u16 (S 5), .int .u16 (S 6), .int .u16 (S 7)] 26)) (.cells #[.int .u8 x0, .int .u16 x1, .int .u16 x2, .int .u8 x3, .int .i64 x4] 35)))
      have kA := (Cel.new W2 #[.int .u16 q, .int .u16 (S 0), .int .u16 (S 1), .int .u16 (S 2), .int .u16 (S 3), .int .u16 (S 4), .int .u16 (S 5), .int .u16 (S 6), .int .u16 (S 7)] 26).alloc (.cells #[.int .u8 x0, .int .u16 x1, .int .u16 x2, .int .u8 x3, .int .i64 x4] 35)
      have kX := Cel.new (W2.alloc (.cells #[.int .u16 q, .int .u16 (S 0), .int .u16 (S 1), .int .u16 (S 2), .int .u16 (S 3), .int .u16 (S 4), .int .u16 (S 5), .int .u16 (S 6), .int .u16 (S 7)] 26)) #[.int .u8 x0, .int .u16 x1, .int .u16 x2, .int .u8 x3, .int .i64 x4] 35
      rw [World.size_alloc] at kX
      have hs3 : ((W2.alloc (.cells #[.int .u16 q, .int .u16 (S 0), .int .u16 (S 1), .int .u16 (S 2), .int .u16 (S 3), .int .u16 (S 4), .int .u16 (S 5), .int .u16 (S 6), .int .u16 (S 7)] 26)).alloc (.cells #[.int .u8 x0, .int .u16 x1, .int .u16 x2, .int .u8 x3, .int .i64 x4] 35)).heap.size = W2.heap.size + 1 + 1 := by simp
      clear l1 l0 l2 H2 t0 t1 t2 t3 t4 t5 t6 t7 t8 i0 i1 i2 i3
      generalize ((W2.alloc (.cells #[.int .u16 q, .int .u16 (S 0), .int .u16 (S 1), .int .u16 (S 2), .int .u16 (S 3), .int .u16 (S 4), .int .u16 (S 5), .int .u16 (S 6), .int .u16 (S 7)] 26)).alloc (.cells #[.int .u8 x0, .int .u16 x1, .int .u16 x2, .int .u8 x3, .int .i64 x4] 35)) = W3 at *
      generalize W2.heap.size = B5 at *
      refine (cL2 _).mono ?_
      rintro e1 W4 ⟨rfl, hB4⟩
      have H4 := Hid4.mk (H3.out.low hB4)
      have hs4 := hB4.size
      replace kA := kA.below hB4 (by omega)
      replace kX := kX.below hB4 (by omega)
      clear cL2 hB4 H3
      have HS3 := Hid4.mk hs3
      have HS4 := Hid4.mk hs4
      clear hs3 hs4
      have l1 := H4.out.sz
      have l0 : w.heap.size < W4.heap.size := by omega
      have l2 : w.heap.size + 1 < W4.heap.size := by omega
      have l3 : ¬ w.heap.size + 1 + 1 = W4.heap.size := by omega
      have l4 : ¬ w.heap.size + 1 + 1 = W4.heap.size + 1 := by omega
      have i0 : W4.cell? ⟨w.heap.size + 1 + 1, 0, none⟩ = some (.int .u8 o) := (H4.out.i).c 0
      have i1 : W4.cell? ⟨w.heap.size + 1 + 1, 1, none⟩ = some (.int .u8 a) := (H4.out.i).c 1
      have i2 : W4.cell? ⟨w.heap.size + 1 + 1, 2, none⟩ = some (.int .u8 b) := (H4.out.i).c 2
      have i3 : W4.cell? ⟨w.heap.size + 1 + 1, 3, none⟩ = some (.int .u16 m) := (H4.out.i).c 3
      go_wp2_with fail
      have H5 := Hid4.mk (H4.out.low (nx (nx (Below.refl _ W4) (.cells #[.int .u16 q, .int .u16 (T 0), .int .u16 (T 1), .int .u16 (T 2), .int .u16 (T 3), .int .u16 (T 4), .int .u16 (T 5), .int .u16 (T 6), .int .u16 (T 7)] 26)) (.cells #[.int .u8 x0, .int .u16 x1, .int .u16 x2, .int .u8 x3, .int .i64 x4] 35)))
      have kA5 := (kA.alloc (.cells #[.int .u16 q, .int .u16 (T 0), .int .u16 (T 1), .int .u16 (T 2), .int .u16 (T 3), .int .u16 (T 4), .int .u16 (T 5), .int .u16 (T 6), .int .u16 (T 7)] 26)).alloc (.cells #[.int .u8 x0, .int .u16 x1, .int .u16 x2, .int .u8 x3, .int .i64 x4] 35)
      have kX5 := (kX.alloc (.cells #[.int .u16 q, .int .u16 (T 0), .int .u16 (T 1), .int .u16 (T 2), .int .u16 (T 3), .int .u16 (T 4), .int .u16 (T 5), .int .u16 (T 6), .int .u16 (T 7)] 26)).alloc (.cells #[.int .u8 x0, .int .u16 x1, .int .u16 x2, .int .u8 x3, .int .i64 x4] 35)
      have kB := (Cel.new W4 #[.int .u16 q, .int .u16 (T 0), .int .u16 (T 1), .int .u16 (T 2), .int .u16 (T 3), .int .u16 (T 4), .int .u16 (T 5), .int .u16 (T 6), .int .u16 (T 7)] 26).alloc (.cells #[.int .u8 x0, .int .u16 x1, .int .u16 x2, .int .u8 x3, .int .i64 x4] 35)
      have kY := Cel.new (W4.alloc (.cells #[.int .u16 q, .int .u16 (T 0), .int .u16 (T 1), .int .u16 (T 2), .int .u16 (T 3), .int .u16 (T 4), .int .u16 (T 5), .int .u16 (T 6), .int .u16 (T 7)] 26)) #[.int .u8 x0, .int .u16 x1, .int .u16 x2, .int .u8 x3, .int .i64 x4] 35
      rw [World.size_alloc] at kY
      have hs5 : ((W4.alloc (.cells #[.int .u16 q, .int .u16 (T 0), .int .u16 (T 1), .int .u16 (T 2), .int .u16 (T 3), .int .u16 (T 4), .int .u16 (T 5), .int .u16 (T 6), .int .u16 (T 7)] 26)).alloc (.cells #[.int .u8 x0, .int .u16 x1, .int .u16 x2, .int .u8 x3, .int .i64 x4] 35)).heap.size = W4.heap.size + 1 + 1 := by simp
      have hs3 := HS3.out
      have hs4 := HS4.out
      clear l1 l0 l2 l3 l4 H4 kA kX i0 i1 i2 i3
      generalize ((W4.alloc (.cells #[.int .u16 q, .int .u16 (T 0), .int .u16 (T 1), .int .u16 (T 2), .int .u16 (T 3), .int .u16 (T 4), .int .u16 (T 5), .int .u16 (T 6), .int .u16 (T 7)] 26)).alloc (.cells #[.int .u8 x0, .int .u16 x1, .int .u16 x2, .int .u8 x3, .int .i64 x4] 35)) = W5 at *
      generalize W4.heap.size = B6 at *
      have cW := HWr.out W5
      refine cW.mono ?_
      rintro e1 W6 ⟨⟨v2, rfl, hv2⟩, hB6⟩
      obtain ⟨ad2, cap2, rfl, _⟩ := id hv2
      have hs6 := hB6.size
      have HZ : Hid4 (Hz w W6 B5 B6 q S T x0 x1 x2 x3 x4 (.slice ad2 (lst (wrG o a b m) 8).length cap2) (lst (wrG o a b m) 8)) := ⟨⟨kA5.below hB6 (by omega), kX5.below hB6 (by omega), kB.below hB6 (by omega), kY.below hB6 (by omega), hv2, H5.out.bl.trans (hB6.mono H5.out.bl.size), by omega, by omega⟩⟩
      have HM2 := Hid4.mk (fun x (h : x ∈ lst (wrG o a b m) 8) => lst_mem (wrG o a b m) h)
      have hL2 : (lst (wrG o a b m) 8).length ≤ 8 := lst_len _ 8
      clear cW hv2 hB6 H5 kA5 kX5 kB kY hs6 hs5 hs4 hs3 HWr
      generalize lst (wrG o a b m) 8 = L2 at *
      have eA := fun w => eqAcc w (x0, x1, x2, x3, x4)
      have eH := eqGuardA
      unfold accV at eA
      simp only at eA
      have hqq : (q == q) = true := by simp
      go_wp2_with fail
      go_loopw [14] (fun s14 wq => ∃ k : Nat, k ≤ L2.length ∧ s14 = .int .i64 k ∧ Hid4 (Hz w wq B5 B6 q S T x0 x1 x2 x3 x4 (.slice ad2 L2.length cap2) L2)) (fun s _ => L2.length - (intOf s).toNat)
      case atStart => exact ⟨0, Nat.zero_le _, rfl, HZ⟩
      case round =>
        obtain ⟨k, hk2, rfl, HY⟩ := hrel
        clear HZ
        have n1 := HY.out.z1
        have n2 := HY.out.z2
        have n3 : B5 < wr.heap.size := by omega
        have n4 : B6 < wr.heap.size := by omega
        have xc : wr.cell? ⟨B5 + 1, 0, none⟩ = some (.int .u8 x0) := HY.out.x.c 0
        by_cases hlt2 : k < L2.length
        · have hlt2z : (k : Int) < (L2.length : Int) := by omega
          by_cases hx : x0 = 0
          · have hxb : (x0 == 0) = true := by rw [hx]; rfl
            obtain ⟨_, _, e0, _, _, hc⟩ := HY.out.l
            injection e0 with e1 e2 e3
            obtain ⟨g, off, e4, hcell⟩ := hc k L2[k] (List.getElem?_eq_getElem hlt2)
            rw [← e1] at e4
            subst e4
            clear e1 e2 e3 hc
            obtain ⟨hy8, hyw⟩ := HM2.out L2[k] (List.getElem_mem hlt2)
            have hST := HSS.out hx _ hyw
            clear hyw
            generalize L2[k].toNat = y at *
            have ac : wr.cell? ⟨B5, 1 + y, none⟩ = some (.int .u16 (T y)) := (HY.out.a.c _).trans ((rg_at q S y hy8).trans (by rw [hST]))
            have bc : wr.cell? ⟨B6, 1 + y, none⟩ = some (.int .u16 (T y)) := (HY.out.b.c _).trans (rg_at q T y hy8)
            have hne : (T y != T y) = false := by simp
            have hgl := World.block_lt_of_cell? _ _ hcell
            simp only at hgl
            clear hST
            go_wp2_with fail
            go_region
            go_wp2
            go_roundw
            case rel => exact ⟨k + 1, by omega, by go_num, ⟨HY.out.drew⟩⟩
            case measure => simp [intOf]; omega
          · have hxb : (x0 == 0) = false := by simpa using hx
            go_wp2_with fail
            refine (cV _).mono ?_
            rintro e1 W9 ⟨rfl, hB9⟩
            have H9 := Hid4.mk (HY.out.low hB9)
            have m1 := H9.out.z1
            have m2 := H9.out.z2
            have m3 : B5 < W9.heap.size := by omega
            have m4 : B6 < W9.heap.size := by omega
            have p0 : W9.cell? ⟨B5, 0, none⟩ = some (.int .u16 q) := H9.out.a.c 0
            have p1 : W9.cell? ⟨B6, 0, none⟩ = some (.int .u16 q) := H9.out.b.c 0
            have u0 : W9.cell? ⟨B5 + 1, 0, none⟩ = some (.int .u8 x0) := (H9.out.x).c 0
            have u1 : W9.cell? ⟨B5 + 1, 1, none⟩ = some (.int .u16 x1) := (H9.out.x).c 1
            have u2 : W9.cell? ⟨B5 + 1, 2, none⟩ = some (.int .u16 x2) := (H9.out.x).c 2
            have u3 : W9.cell? ⟨B5 + 1, 3, none⟩ = some (.int .u8 x3) := (H9.out.x).c 3
            have u4 : W9.cell? ⟨B5 + 1, 4, none⟩ = some (.int .i64 x4) := (H9.out.x).c 4
            have z0 : W9.cell? ⟨B6 + 1, 0, none⟩ = some (.int .u8 x0) := (H9.out.y).c 0
            have z1 : W9.cell? ⟨B6 + 1, 1, none⟩ = some (.int .u16 x1) := (H9.out.y).c 1
            have z2 : W9.cell? ⟨B6 + 1, 2, none⟩ = some (.int .u16 x2) := (H9.out.y).c 2
            have z3 : W9.cell? ⟨B6 + 1, 3, none⟩ = some (.int .u8 x3) := (H9.out.y).c 3
            have z4 : W9.cell? ⟨B6 + 1, 4, none⟩ = some (.int .i64 x4) := (H9.out.y).c 4
            clear hB9
            go_wp2
            go_ret
            exact ⟨rfl, H9.out.bl⟩
        · have hlt2z : ¬ (k : Int) < (L2.length : Int) := by omega
          go_wp2_with fail
          refine (cV _).mono ?_
          rintro e1 W9 ⟨rfl, hB9⟩
          have H9 := Hid4.mk (HY.out.low hB9)
          have m1 := H9.out.z1
          have m2 := H9.out.z2
          have m3 : B5 < W9.heap.size := by omega
          have m4 : B6 < W9.heap.size := by omega
          have p0 : W9.cell? ⟨B5, 0, none⟩ = some (.int .u16 q) := H9.out.a.c 0
          have p1 : W9.cell? ⟨B6, 0, none⟩ = some (.int .u16 q) := H9.out.b.c 0
          have u0 : W9.cell? ⟨B5 + 1, 0, none⟩ = some (.int .u8 x0) := (H9.out.x).c 0
          have u1 : W9.cell? ⟨B5 + 1, 1, none⟩ = some (.int .u16 x1) := (H9.out.x).c 1
          have u2 : W9.cell? ⟨B5 + 1, 2, none⟩ = some (.int .u16 x2) := (H9.out.x).c 2
          have u3 : W9.cell? ⟨B5 + 1, 3, none⟩ = some (.int .u8 x3) := (H9.out.x).c 3
          have u4 : W9.cell? ⟨B5 + 1, 4, none⟩ = some (.int .i64 x4) := (H9.out.x).c 4
          have z0 : W9.cell? ⟨B6 + 1, 0, none⟩ = some (.int .u8 x0) := (H9.out.y).c 0
          have z1 : W9.cell? ⟨B6 + 1, 1, none⟩ = some (.int .u16 x1) := (H9.out.y).c 1
          have z2 : W9.cell? ⟨B6 + 1, 2, none⟩ = some (.int .u16 x2) := (H9.out.y).c 2
          have z3 : W9.cell? ⟨B6 + 1, 3, none⟩ = some (.int .u8 x3) := (H9.out.y).c 3
          have z4 : W9.cell? ⟨B6 + 1, 4, none⟩ = some (.int .i64 x4) := (H9.out.y).c 4
          clear hB9
          go_wp2
          go_ret
          exact ⟨rfl, H9.out.bl⟩
end Go.Proofs.YtbjklpdloglniaaDoor
