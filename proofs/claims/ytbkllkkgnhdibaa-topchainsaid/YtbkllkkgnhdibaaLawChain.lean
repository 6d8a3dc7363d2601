/- TopChain: a chain of capabilities that are derived and restricted opens less and less: what the last one opens each one ahead opens. -/
import Derived.Test.YtbkllkkgnhdibaaNameV
import Derived.Test.YtbkllkkgnhdibaaNameT
import Derived.Lib.QuietBelow
import Derived.StillTail
import Derived.StillTactics
import Derived.Deep.RegionHeld3
namespace Go.Proofs.Ytbkllkkgnhdibaa
open Go.RowKit Go.Shelf Go.Sort
set_option linter.unusedVariables false
set_option maxRecDepth 100000
attribute [local irreducible] wpQuiet

structure Hid3 (p : Prop) : Prop where
  out : p
theorem infoC : (Try.prog.info? 24).map (fun i => (i.zero, i.size, i.bytes)) = some (some (.agg #[.string ⟨#[]⟩, .int .u8 0]), 2, 24) := by kernel_rfl
/-- As loop 1 goes on. -/
structure Kc (W wr : World) (g cap : Nat) (L : List Cp) (p : Cp) : Prop where
  own : wr.ownsRow (W.heap.size + 1) 24 2 (.slice (some ⟨g, 0, none⟩) L.length cap) L.length (cpCells L)
  box : Two wr W.heap.size 24 (cpN p) (cpR p)
  ch : Chn L
  len : ∀ q ∈ L, q.1.length ≤ 150
  last : ∃ M, L = M ++ [p]
  right : rightB p.1 p.2.toNat = true
  bl : Below W.heap.size W wr
  sz : W.heap.size + 1 ≤ wr.heap.size
theorem Kc.low {W wr w' : World} {g cap : Nat} {L : List Cp} {p : Cp} (h : Kc W wr g cap L p) (k : Below wr.heap.size wr w') : Kc W w' g cap L p := ⟨own_later h.own k, h.box.below k (by have := h.sz; omega), h.ch, h.len, h.last, h.right, h.bl.trans (k.mono h.bl.size), Nat.le_trans h.sz k.size⟩
theorem own_cap {w : World} {B g cap n : Nat} {xs : List Value} (h : w.ownsRow B 24 2 (.slice (some ⟨g, 0, none⟩) n cap) n xs) : n ≤ cap := by
  rcases h.2 with ⟨h0, h1⟩ | ⟨g', cap', cur, h0, _, _, h3, _⟩
  · omega
  · injection h0 with _ _ h0
    subst h0
    exact h3
theorem grownSets (W : World) (b j : Nat) (v : Value) : W.grownBy (W.setCell ⟨b, j, none⟩ v) (some b) :=
  ⟨rfl, rfl, rfl, by simp [World.setCell], fun k hk hne => Below.heap_setCell W ⟨b, j, none⟩ v k (fun e => hne (by rw [e]))⟩
theorem size_setCells (w : World) (p : Addr) (u : Value) : (w.setCell p u).heap.size = w.heap.size := by simp [World.setCell]
theorem own_sets {W2 : World} {B b : Nat} {v : Value} {n : Nat} {xs : List Value} (h : W2.ownsRow B 24 2 v n xs) (hb : b < B) (x y : Value) : ((W2.setCell ⟨b, 0, none⟩ x).setCell ⟨b, 1, none⟩ y).ownsRow B 24 2 v n xs := by
  have hn : v.ownBlock = none ∨ v.ownBlock ≠ some b := .inr (fun e => by have := (h.lt b e).1; omega)
  exact (h.kept (grownSets W2 b 0 x) hn).kept (grownSets _ b 1 y) hn
theorem new_two (W2 : World) (b : Nat) (c : List UInt8) (r : BitVec 8) : ∀ j u, [cpN (c, r), cpR (c, r)][j]? = some u → (((W2.setCell ⟨b, 0, none⟩ (.string ⟨c.toArray⟩)).setCell ⟨b, 1, none⟩ (.int .u8 (r.toNat : Int))).alloc (.cells #[.string ⟨c.toArray⟩, .int .u8 (r.toNat : Int)] 24)).cell? ((⟨W2.heap.size, 0, none⟩ : Addr).add j) = some u := by
  intro j u hu
  have hT := Two.new ((W2.setCell ⟨b, 0, none⟩ (.string ⟨c.toArray⟩)).setCell ⟨b, 1, none⟩ (.int .u8 (r.toNat : Int))) 24 (.string ⟨c.toArray⟩) (.int .u8 (r.toNat : Int))
  rw [size_setCells, size_setCells] at hT
  match j, hu with
  | 0, hu => injection hu with hu; subst hu; exact hT.c0
  | 1, hu => injection hu with hu; subst hu; exact hT.c1
theorem Kc.next {W W2 w1 : World} {g cap : Nat} {L : List Cp} {p : Cp} {c : List UInt8} {r : BitVec 8} {v' : Value} {o : Obj} (h : Kc W W2 g cap L p) (hl : c.length ≤ 150) (hr : rightB c r.toNat = true) (hs : ∀ g' s', opensB c r g' s' = true → opensB p.1 p.2 g' s' = true)
    (hown : w1.ownsRow (W.heap.size + 1) 24 2 v' (L.length + 1) (cpCells L ++ [cpN (c, r), cpR (c, r)])) (hg : (((W2.setCell ⟨W.heap.size, 0, none⟩ (.string ⟨c.toArray⟩)).setCell ⟨W.heap.size, 1, none⟩ (.int .u8 (r.toNat : Int))).alloc o).grownBy w1 (Value.slice (some ⟨g, 0, none⟩) L.length cap).ownBlock) :
    ∃ g' cap', v' = .slice (some ⟨g', 0, none⟩) (L ++ [(c, r)]).length cap' ∧ Kc W w1 g' cap' (L ++ [(c, r)]) (c, r) := by
  obtain ⟨g', cap', hv⟩ : ∃ g' cap', v' = .slice (some ⟨g', 0, none⟩) (L.length + 1) cap' := by
    rcases hown.2 with ⟨_, h0⟩ | ⟨g', cap', _, h0, _⟩
    · omega
    · exact ⟨g', cap', h0⟩
  have hll : (L ++ [(c, r)]).length = L.length + 1 := by simp
  have hbg : W.heap.size + 1 ≤ g := by
    have := (h.own.lt g rfl).1
    exact this
  have hsz : ((W2.setCell ⟨W.heap.size, 0, none⟩ (.string ⟨c.toArray⟩)).setCell ⟨W.heap.size, 1, none⟩ (.int .u8 (r.toNat : Int))).heap.size = W2.heap.size := by rw [size_setCells, size_setCells]
  have hbx := ((h.box.set0 (.string ⟨c.toArray⟩)).set1 (.int .u8 (r.toNat : Int))).alloc o
  have hlt : W.heap.size < (((W2.setCell ⟨W.heap.size, 0, none⟩ (.string ⟨c.toArray⟩)).setCell ⟨W.heap.size, 1, none⟩ (.int .u8 (r.toNat : Int))).alloc o).heap.size := by rw [World.size_alloc, hsz]; have := h.sz; omega
  obtain ⟨M, hM⟩ := h.last
  refine ⟨g', cap', by rw [hv, hll], ?_, ?_, ?_, ?_, ⟨L, rfl⟩, hr, ?_, ?_⟩
  · rw [hll, cpCells_app, ← hv]
    exact hown
  · exact (hg.block W.heap.size hlt (fun e => by
      have e' : some W.heap.size = some g := e
      injection e' with e'
      omega)).trans hbx
  · rw [hM]
    refine chn_step (by rw [← hM]; exact h.ch) hs
  · intro q hq
    rcases List.mem_append.1 hq with hq | hq
    · exact h.len q hq
    · have : q = (c, r) := by simpa using hq
      rw [this]
      exact hl
  · have b1 : Below W.heap.size W (W2.setCell ⟨W.heap.size, 0, none⟩ (.string ⟨c.toArray⟩)) := h.bl.grown (grownSets W2 W.heap.size 0 _) h.bl.size (fun k e => by injection e with e; omega)
    have b2 := b1.grown (grownSets _ W.heap.size 1 (.int .u8 (r.toNat : Int))) b1.size (fun k e => by injection e with e; omega)
    have b3 := b2.alloc b2.size o
    exact b3.grown hg b3.size (fun k e => by
      have e' : some g = some k := e
      injection e' with e'
      omega)
  · have := hg.size
    rw [World.size_alloc, hsz] at this
    have := h.sz
    omega
theorem own_first (W : World) : ((W.alloc (.cells #[.string ⟨#[47]⟩, .int .u8 31] 24)).alloc (.cells #[.string ⟨#[47]⟩, .int .u8 31] 24)).ownsRow (W.heap.size + 1) 24 2 (.slice (some ⟨W.heap.size + 1, 0, none⟩) 1 1) 1 (cpCells [([47], 31#8)]) := by
  refine ⟨rfl, .inr ⟨W.heap.size + 1, 1, #[.string ⟨#[47]⟩, .int .u8 31], rfl, Nat.le_refl _, ?_, Nat.le_refl _, by unfold maxLen; omega, rfl, rfl⟩⟩
  have := World.alloc_heap_new (W.alloc (.cells #[.string ⟨#[47]⟩, .int .u8 31] 24)) (.cells #[.string ⟨#[47]⟩, .int .u8 31] 24)
  simp only [World.size_alloc] at this
  exact this
set_option maxHeartbeats 16000000 in
theorem chain_walk (vb : Value) (bs : List UInt8) (gd : BitVec 8) (W : World) (hb : Byt W vb bs) :
    Calls Try.prog 3 #[vb, .int .u8 (gd.toNat : Int)] W fun e W' => e = .returned (.bool true) ∧ Below W.heap.size W W' := by
  obtain ⟨ao, cap0, rfl, hcap, hm, hc⟩ := hb
  have HCb : Hid (∀ j x, bs[j]? = some x → ∃ g off, ao = some ⟨g, off, none⟩ ∧ W.cell? ⟨g, off + j, none⟩ = some (.int .u8 (x.toNat : Int))) := hc
  clear hc
  go_enter Try.func3, Try.ntmps3
  go_wp2
  rename_i K hK
  have tail : Hid (∀ (x0 x2 x3 x4 x7 x8 x9 x10 x11 x12 x13 x14 x15 x16 x17 x18 x19 x20 x21 x22 x23 x24 x25 x26 x27 x28 x29 x30 x31 x32 x33 x34 x35 x36 x37 x38 x39 x40 x41 x42 x43 x44 x45 x46 x47 x48 x49 x50 x51 x52 x53 x54 x55 x56 x57 x58 x59 x60 x61 x62 x63 x64 x65 x66 x67 x68 x69 x70 x71 x72 x73 x74 x75 x76 x77 x78 x79 x80 x81 x82 x83 x84 x85 x86 x87 x88 x89 x90 x91 x92 x93 x94 x95 x96 : Value) (g cap : Nat) (L : List Cp) (p : Cp) (Wt : World), Wt.ownsRow (W.heap.size + 1) 24 2 (.slice (some ⟨g, 0, none⟩) L.length cap) L.length (cpCells L) → Two Wt W.heap.size 24 (cpN p) (cpR p) → Chn L → (∀ q ∈ L, q.1.length ≤ 150) → L.length ≤ 10 → L.length ≤ cap → rightB p.1 p.2.toNat = true → Below W.heap.size W Wt → W.heap.size + 1 ≤ Wt.heap.size →
      K { tmps := #[x0, .int .u8 (gd.toNat : Int), x2, x3, x4, .pointer (some ⟨W.heap.size, 0, none⟩), .slice (some ⟨g, 0, none⟩) L.length cap, x7, x8, x9, x10, x11, x12, x13, x14, x15, x16, x17, x18, x19, x20, x21, x22, x23, x24, x25, x26, x27, x28, x29, x30, x31, x32, x33, x34, x35, x36, x37, x38, x39, x40, x41, x42, x43, x44, x45, x46, x47, x48, x49, x50, x51, x52, x53, x54, x55, x56, x57, x58, x59, x60, x61, x62, x63, x64, x65, x66, x67, x68, x69, x70, x71, x72, x73, x74, x75, x76, x77, x78, x79, x80, x81, x82, x83, x84, x85, x86, x87, x88, x89, x90, x91, x92, x93, x94, x95, x96], defers := [] } Wt) := by
    intro x0 x2 x3 x4 x7 x8 x9 x10 x11 x12 x13 x14 x15 x16 x17 x18 x19 x20 x21 x22 x23 x24 x25 x26 x27 x28 x29 x30 x31 x32 x33 x34 x35 x36 x37 x38 x39 x40 x41 x42 x43 x44 x45 x46 x47 x48 x49 x50 x51 x52 x53 x54 x55 x56 x57 x58 x59 x60 x61 x62 x63 x64 x65 x66 x67 x68 x69 x70 x71 x72 x73 x74 x75 x76 x77 x78 x79 x80 x81 x82 x83 x84 x85 x86 x87 x88 x89 x90 x91 x92 x93 x94 x95 x96 g cap L p Wt hown hC hch hLm hl10 hlcap hR hB hWt
    refine hK _ _ ?_
    clear hK
    have hrem := rem_bits gd.toNat
    have hq31 : (BitVec.ofNat 8 (gd.toNat % 32)).toNat ≤ 31 := by rw [BitVec.toNat_ofNat]; omega
    generalize BitVec.ofNat 8 (gd.toNat % 32) = gq at *
    have hnl := right_len hR
    have hfin := fin_open hR hq31
    have hself := opens_self p.1 p.2
    rw [hR] at hself
    have a0 := hC.c0
    have hown2 := hown.alloc (.cells #[cpN p, .int .u8 (gq.toNat : Int)] 24)
    have hC2 := hC.alloc (.cells #[cpN p, .int .u8 (gq.toNat : Int)] 24)
    have hG2 := Two.new Wt 24 (cpN p) (.int .u8 (gq.toNat : Int))
    have hB2 := hB.alloc hB.size (.cells #[cpN p, .int .u8 (gq.toNat : Int)] 24)
    have hs2 : (Wt.alloc (.cells #[cpN p, .int .u8 (gq.toNat : Int)] 24)).heap.size = Wt.heap.size + 1 := by simp
    clear hown hC hB
    unfold cpN at a0 hown2 hC2 hG2 hB2 hs2
    go_wp2
    generalize Wt.alloc (.cells #[.string ⟨p.1.toArray⟩, .int .u8 (gq.toNat : Int)] 24) = Wg at *
    clear a0
    have hL1 : 1 ≤ L.length := by
      have := (List.getElem?_eq_some_iff.1 hch.1).1
      omega
    have HCh : Hid (Chn L) := hch
    have HLm : Hid (∀ q ∈ L, q.1.length ≤ 150) := hLm
    clear hch hLm
    go_loopw [11] (fun i W' => ∃ j : Nat, j + 1 ≤ L.length ∧ i = .int .i64 ((j : Int) + 1) ∧ W'.ownsRow (W.heap.size + 1) 24 2 (.slice (some ⟨g, 0, none⟩) L.length cap) L.length (cpCells L) ∧ Two W' W.heap.size 24 (.string ⟨p.1.toArray⟩) (cpR p) ∧ Two W' Wt.heap.size 24 (.string ⟨p.1.toArray⟩) (.int .u8 (gq.toNat : Int)) ∧ Below W.heap.size W W' ∧ Wt.heap.size + 1 ≤ W'.heap.size) (fun i _ => 11 - (intOf i).toNat)
    case atStart => exact ⟨0, by omega, rfl, hown2, hC2, hG2, hB2, by omega⟩
    case round =>
      obtain ⟨j, hj, rfl, hown, hC, hG, hB, hsz⟩ := hrel
      clear hown2 hC2 hG2 hB2 hs2
      by_cases hlt : j + 1 < L.length
      · have hlt' : (j : Int) + 1 < (L.length : Int) := by omega
        have hj' : (j : Int) < (L.length : Int) := by omega
        have hwj : IntKind.i64.wrap ((j : Int) + 1 - 1) = (j : Int) := by rw [IntKind.wrap_i64]; omega
        have hwk : IntKind.i64.wrap (j : Int) = (j : Int) := by rw [IntKind.wrap_i64]; omega
        have hge : (0 : Int) ≤ (j : Int) + 1 := by omega
        have hj2 : j < L.length := by omega
        obtain ⟨p0, hp0⟩ : ∃ p0, L[j]? = some p0 := ⟨_, List.getElem?_eq_getElem (by omega)⟩
        obtain ⟨p1, hp1⟩ : ∃ p1, L[j + 1]? = some p1 := ⟨_, List.getElem?_eq_getElem hlt⟩
        have hless := HCh.out.2 j p0 p1 hp0 hp1 p.1 gq
        obtain ⟨k0, k1⟩ := row_at hown hp1
        obtain ⟨k2, k3⟩ := row_at hown hp0
        have k4 := hG.c0
        have k5 := hG.c1
        have cA := fun w => opens_any ⟨p1.1.toArray⟩ ⟨p.1.toArray⟩ p1.2 gq w (by show p1.1.length ≤ 1000; have := HLm.out p1 (List.mem_of_getElem? hp1); omega) (by show p.1.length ≤ 1000; omega)
        have cB := fun w => opens_any ⟨p0.1.toArray⟩ ⟨p.1.toArray⟩ p0.2 gq w (by show p0.1.length ≤ 1000; have := HLm.out p0 (List.mem_of_getElem? hp0); omega) (by show p.1.length ≤ 1000; omega)
        rw [show opensB (⟨p1.1.toArray⟩ : ByteArray).data.toList p1.2 (⟨p.1.toArray⟩ : ByteArray).data.toList gq = opensB p1.1 p1.2 p.1 gq from rfl] at cA
        rw [show opensB (⟨p0.1.toArray⟩ : ByteArray).data.toList p0.2 (⟨p.1.toArray⟩ : ByteArray).data.toList gq = opensB p0.1 p0.2 p.1 gq from rfl] at cB
        unfold capV at cA cB
        unfold cpN at k0 k2
        unfold cpR at k1 k3
        clear hp0 hp1 hfin hself hR
        cases hOA : opensB p1.1 p1.2 p.1 gq with
        | false =>
          rw [hOA] at cA
          clear hOA hless
          generalize opensB p0.1 p0.2 p.1 gq = OB at *
          go_wp2_with fail
          have g0 := fun d os => cell_regrown k0 d os
          have g1 := fun d os => cell_regrown k1 d os
          have g2 := fun d os => cell_regrown k2 d os
          have g3 := fun d os => cell_regrown k3 d os
          have g4 := fun d os => cell_regrown k4 d os
          have g5 := fun d os => cell_regrown k5 d os
          have dA := fun d os => Calls.regrown_of (cA (grow (redrawn wr d) os))
          have dB := fun d os => Calls.regrown_of (cB (grow (redrawn wr d) os))
          clear k0 k1 k2 k3 k4 k5 cA cB
          refine wp_region_quiet_below (by kernel_rfl) (by kernel_rfl) ?_
          repeat (quiet_step (first | (with_reducible exact dA _ _) | (with_reducible exact dB _ _)))
          refine wpQuiet_nil ?_
          intro _ hw'
          obtain ⟨⟨dq, osq⟩, hw''⟩ := hw'
          subst hw''
          have hbr := below_regrown wr dq osq
          have hown' := own_later hown hbr
          have hC' := hC.below hbr (by have := hB.size; omega)
          have hG' := hG.below hbr (by omega)
          have hB' := hB.trans (hbr.mono hB.size)
          have hsz' := Nat.le_trans hsz hbr.size
          clear hown hC hG hB hsz hbr
          go_wp2
          go_roundw
          case rel => exact ⟨j + 1, by omega, by go_num, hown', hC', hG', hB', hsz'⟩
          case measure => simp [intOf]; omega
        | true =>
          rw [hOA] at cA
          rw [hless hOA] at cB
          clear hOA hless
          go_wp2_with fail
          have g0 := fun d os => cell_regrown k0 d os
          have g1 := fun d os => cell_regrown k1 d os
          have g2 := fun d os => cell_regrown k2 d os
          have g3 := fun d os => cell_regrown k3 d os
          have g4 := fun d os => cell_regrown k4 d os
          have g5 := fun d os => cell_regrown k5 d os
          have dA := fun d os => Calls.regrown_of (cA (grow (redrawn wr d) os))
          have dB := fun d os => Calls.regrown_of (cB (grow (redrawn wr d) os))
          clear k0 k1 k2 k3 k4 k5 cA cB
          refine wp_region_quiet_below (by kernel_rfl) (by kernel_rfl) ?_
          repeat (quiet_step (first | (with_reducible exact dA _ _) | (with_reducible exact dB _ _)))
          refine wpQuiet_nil ?_
          intro _ hw'
          obtain ⟨⟨dq, osq⟩, hw''⟩ := hw'
          subst hw''
          have hbr := below_regrown wr dq osq
          have hown' := own_later hown hbr
          have hC' := hC.below hbr (by have := hB.size; omega)
          have hG' := hG.below hbr (by omega)
          have hB' := hB.trans (hbr.mono hB.size)
          have hsz' := Nat.le_trans hsz hbr.size
          clear hown hC hG hB hsz hbr
          go_wp2
          go_roundw
          case rel => exact ⟨j + 1, by omega, by go_num, hown', hC', hG', hB', hsz'⟩
          case measure => simp [intOf]; omega
      · have hje : j + 1 = L.length := by omega
        have hz : (0 : Int) < (L.length : Int) := by omega
        have hz2 : 0 < L.length := by omega
        obtain ⟨k0, k1⟩ := row_at hown HCh.out.1
        have k2 := hG.c0
        have k3 := hG.c1
        have k4 := hC.c0
        have k5 := hC.c1
        unfold cpN at k0
        unfold cpR at k1 k5
        simp only [Nat.zero_mul, Nat.zero_add] at k0 k1
        have cA := fun w => opens_any ⟨([47] : List UInt8).toArray⟩ ⟨p.1.toArray⟩ 31#8 gq w (by decide) (by show p.1.length ≤ 1000; omega)
        have cB := fun w => opens_any ⟨p.1.toArray⟩ ⟨p.1.toArray⟩ p.2 p.2 w (by show p.1.length ≤ 1000; omega) (by show p.1.length ≤ 1000; omega)
        rw [show opensB (⟨([47] : List UInt8).toArray⟩ : ByteArray).data.toList 31#8 (⟨p.1.toArray⟩ : ByteArray).data.toList gq = true from hfin] at cA
        rw [show opensB (⟨p.1.toArray⟩ : ByteArray).data.toList p.2 (⟨p.1.toArray⟩ : ByteArray).data.toList p.2 = true from hself] at cB
        unfold capV at cA cB
        have hlt' : ¬ (j : Int) + 1 < (L.length : Int) := by omega
        clear hfin hself hR
        go_wp2_with fail
        have g0 := fun d os => cell_regrown k0 d os
        have g1 := fun d os => cell_regrown k1 d os
        have g2 := fun d os => cell_regrown k2 d os
        have g3 := fun d os => cell_regrown k3 d os
        have g4 := fun d os => cell_regrown k4 d os
        have g5 := fun d os => cell_regrown k5 d os
        have dA := fun d os => Calls.regrown_of (cA (grow (redrawn wr d) os))
        have dB := fun d os => Calls.regrown_of (cB (grow (redrawn wr d) os))
        clear k0 k1 k2 k3 k4 k5 cA cB
        refine wp_region_quiet_below (by kernel_rfl) (by kernel_rfl) ?_
        repeat (quiet_step (first | (with_reducible exact dB _ _) | exact dA _ _))
        refine wpQuiet_nil ?_
        intro _ hw'
        obtain ⟨⟨dq, osq⟩, hw''⟩ := hw'
        subst hw''
        have hB' := hB.trans ((below_regrown wr dq osq).mono hB.size)
        go_wp2
        go_ret
        exact ⟨by simp, hB'⟩
  clear hK
  obtain ⟨i0, hi, hz0, hz1, hz2⟩ := info_parts infoC
  have TK : Hid3 (∀ (i g cap : Nat) (L : List Cp) (p : Cp) (wr : World), L.length = i + 1 → i ≤ 9 → Kc W wr g cap L p → L.length ≤ 10 ∧ L.length ≤ cap) := ⟨fun i g cap L p wr h1 h2 h3 => ⟨by omega, own_cap h3.own⟩⟩
  go_loopw [6, 7] (fun s6 s7 wr => ∃ (i : Nat) (g cap : Nat) (L : List Cp) (p : Cp), i ≤ bs.length ∧ i ≤ 9 ∧ s7 = .int .i64 i ∧ s6 = .slice (some ⟨g, 0, none⟩) L.length cap ∧ Hid3 (L.length = i + 1 ∧ Kc W wr g cap L p)) (fun _ s7 _ => 9 - (intOf s7).toNat)
  case atStart =>
    refine ⟨0, W.heap.size + 1, 1, [([47], 31#8)], ([47], 31#8), Nat.zero_le _, by omega, rfl, rfl, ⟨rfl, own_first W, ?_, chn_one, fun q hq => ?_, ⟨[], rfl⟩, by decide, ?_, ?_⟩⟩
    · exact (Two.new W 24 (.string ⟨#[47]⟩) (.int .u8 31)).alloc _
    · have : q = ([47], 31#8) := by simpa using hq
      subst this
      decide
    · exact ((Below.refl _ W).alloc (Nat.le_refl _) _).alloc (by simp) _
    · simp
  case round =>
    obtain ⟨i, g, cap, L, p, hil, hi9, rfl, rfl, HK⟩ := hrel
    have hcapz := (TK.out i g cap L p wr HK.out.1 hi9 HK.out.2).2
    by_cases hgo : i < bs.length ∧ i < 9
    · obtain ⟨hlt, h9⟩ := hgo
      have hltz : (i : Int) < (bs.length : Int) := by omega
      have h9z : (i : Int) < 9 := by omega
      obtain ⟨x, hx⟩ : ∃ x, bs[i]? = some x := ⟨_, List.getElem?_eq_getElem hlt⟩
      obtain ⟨gb, off, ea, cb0⟩ := HCb.out i x hx
      subst ea
      have hgbl := World.block_lt_of_cell? W _ cb0
      have HCB : Hid3 (∀ w', Below W.heap.size W w' → w'.cell? ⟨gb, off + i, none⟩ = some (.int .u8 (x.toNat : Int))) := ⟨fun w' hB => (hB.cell (p := ⟨gb, off + i, none⟩) hgbl).trans cb0⟩
      have hwi : IntKind.i64.wrap ((i : Int) + 1) = ((i + 1 : Nat) : Int) := by rw [IntKind.wrap_i64]; omega
      have c0 := HK.out.2.box.c0
      have c1 := HK.out.2.box.c1
      unfold cpN at c0
      unfold cpR at c1
      obtain ⟨M, hM⟩ := HK.out.2.last
      have hpl : p.1.length ≤ 150 := HK.out.2.len p (by rw [hM]; simp)
      have cD := fun w => derive_any ⟨p.1.toArray⟩ ⟨#[97]⟩ p.2 w (by show p.1.length ≤ 1000; omega) (by decide)
      rw [show deriveO (⟨p.1.toArray⟩ : ByteArray).data.toList p.2 (⟨#[97]⟩ : ByteArray).data.toList = deriveO p.1 p.2 [97] from rfl] at cD
      unfold capV capsV at cD
      have HM := Hid3.mk hM
      clear hM hx cb0
      have HLT := Hid3.mk (TK.out i g cap L p wr HK.out.1 hi9 HK.out.2)
      have cD0 : ∀ (m : List UInt8) (q : BitVec 8) (e : Int), deriveO p.1 p.2 [97] = (m, q, e) → ∀ w, Calls Try.prog 4 #[.agg #[.string ⟨p.1.toArray⟩, .int .u8 (p.2.toNat : Int)], .string ⟨#[97]⟩] w fun o W' => o = .returned (.tuple #[.agg #[.string ⟨m.toArray⟩, .int .u8 (q.toNat : Int)], .int .i64 e]) ∧ Below w.heap.size w W' := fun m q e he w => by
        have := cD w
        rw [he] at this
        exact this
      clear cD
      rcases derive_form HK.out.2.right with hd | ⟨hd, hdep⟩ | ⟨c', hd, hrc⟩
      · have cD1 : ∀ w, Calls Try.prog 4 #[.agg #[.string ⟨p.1.toArray⟩, .int .u8 (p.2.toNat : Int)], .string ⟨#[97]⟩] w fun o W' => o = .returned (.tuple #[.agg #[.string ⟨#[]⟩, .int .u8 0], .int .i64 7]) ∧ Below w.heap.size w W' := fun w => cD0 _ _ _ hd w
        clear hd cD0
        go_wp2_with fail
        refine (cD1 _).mono ?_
        rintro o W1 ⟨rfl, hB1⟩
        have HK1 := Hid3.mk (HK.out.2.low (hB1.alloc hB1.size (.cells #[.string ⟨#[]⟩, .int .u8 0] 24)))
        clear hB1 cD1 c0 c1
        go_wp2
        exact tail.out _ _ _ _ _ _ _ _ _ _ _ _ _ _ _ _ _ _ _ _ _ _ _ _ _ _ _ _ _ _ _ _ _ _ _ _ _ _ _ _ _ _ _ _ _ _ _ _ _ _ _ _ _ _ _ _ _ _ _ _ _ _ _ _ _ _ _ _ _ _ _ _ _ _ _ _ _ _ _ _ _ _ _ _ _ _ _ _ _ _ _ _ _ _ _ _ _ _ _ HK1.out.own HK1.out.box HK1.out.ch HK1.out.len HLT.out.1 HLT.out.2 HK1.out.right HK1.out.bl HK1.out.sz
      · have cD1 : ∀ w, Calls Try.prog 4 #[.agg #[.string ⟨p.1.toArray⟩, .int .u8 (p.2.toNat : Int)], .string ⟨#[97]⟩] w fun o W' => o = .returned (.tuple #[.agg #[.string ⟨#[]⟩, .int .u8 0], .int .i64 4]) ∧ Below w.heap.size w W' := fun w => cD0 _ _ _ hd w
        have cE : ∀ w, Calls Try.prog 5 #[.string ⟨p.1.toArray⟩] w fun e W' => e = .returned (.int .i64 6) ∧ Below w.heap.size w W' := fun w => by
          have := depth_any ⟨p.1.toArray⟩ w (by show p.1.length ≤ 1000; omega)
          rw [show depthN (⟨p.1.toArray⟩ : ByteArray).data.toList = 6 from hdep] at this
          exact this
        clear hd hdep cD0
        go_wp2_with fail
        refine (cD1 _).mono ?_
        rintro o W1 ⟨rfl, hB1⟩
        have HK1 := Hid3.mk (HK.out.2.low (hB1.alloc hB1.size (.cells #[.string ⟨#[]⟩, .int .u8 0] 24)))
        have d0 := HK1.out.box.c0
        unfold cpN at d0
        clear hB1 cD1 c0 c1
        go_wp2_with fail
        refine (cE _).mono ?_
        rintro o W2 ⟨rfl, hB2⟩
        have HK2 := Hid3.mk (HK1.out.low hB2)
        clear hB2 cE d0 HK1
        go_wp2
        exact tail.out _ _ _ _ _ _ _ _ _ _ _ _ _ _ _ _ _ _ _ _ _ _ _ _ _ _ _ _ _ _ _ _ _ _ _ _ _ _ _ _ _ _ _ _ _ _ _ _ _ _ _ _ _ _ _ _ _ _ _ _ _ _ _ _ _ _ _ _ _ _ _ _ _ _ _ _ _ _ _ _ _ _ _ _ _ _ _ _ _ _ _ _ _ _ _ _ _ _ _ HK2.out.own HK2.out.box HK2.out.ch HK2.out.len HLT.out.1 HLT.out.2 HK2.out.right HK2.out.bl HK2.out.sz
      · have cD1 := fun w => cD0 _ _ _ hd w
        have hlc : c'.length ≤ 150 := by
          have := deriveO_len p.1 [97] p.2
          rw [hd] at this
          exact this
        have hless : ∀ g' s', opensB c' p.2 g' s' = true → opensB p.1 p.2 g' s' = true := fun g' s' h => derive_less hd h
        clear cD0
        obtain ⟨y, hy⟩ : ∃ y : BitVec 8, y = BitVec.ofNat 8 (x.toNat % 32) := ⟨_, rfl⟩
        have hyr : ((x.toNat : Nat) : Int).tmod 32 = (y.toNat : Int) := by rw [hy]; exact rem_bits x.toNat
        have hyr2 : ((x.toNat : Nat) : Int) % 32 = (y.toNat : Int) := by rw [← hyr, Int.tmod_eq_emod_of_nonneg (by omega)]
        have hy31 : y.toNat ≤ 31 := by rw [hy, BitVec.toNat_ofNat]; omega
        obtain ⟨hrs, hrr⟩ := restrict_form hrc hy31
        have cR : ∀ w, Calls Try.prog 6 #[.agg #[.string ⟨c'.toArray⟩, .int .u8 (p.2.toNat : Int)], .int .u8 (y.toNat : Int)] w fun e W' => e = .returned (.tuple #[.agg #[.string ⟨c'.toArray⟩, .int .u8 ((p.2 &&& y).toNat : Int)], .int .i64 0]) ∧ Below w.heap.size w W' := fun w => by
          have := restrict_any ⟨c'.toArray⟩ p.2 y w (by show c'.length ≤ 1000; omega)
          rw [show restrictO (⟨c'.toArray⟩ : ByteArray).data.toList p.2 y = (c', p.2 &&& y, 0) from hrs] at this
          exact this
        have hless2 : ∀ g' s', opensB c' (p.2 &&& y) g' s' = true → opensB p.1 p.2 g' s' = true := fun g' s' h => hless g' s' (restrict_less hrs h)
        have HLS := Hid3.mk hless2
        have HRR := Hid3.mk hrr
        have HLC := Hid3.mk hlc
        have hyu : IntKind.u8.wrap (y.toNat : Int) = (y.toNat : Int) := by rw [IntKind.wrap_u8]; omega
        clear hd hrc hless hrs hrr hless2 hlc hy
        go_wp2_with fail
        refine (cD1 _).mono ?_
        rintro o W1 ⟨rfl, hB1⟩
        have hX1 := hB1.alloc hB1.size (.cells #[.string ⟨c'.toArray⟩, .int .u8 (p.2.toNat : Int)] 24)
        have hT1 := Two.new W1 24 (.string ⟨c'.toArray⟩) (.int .u8 (p.2.toNat : Int))
        have HK1 := Hid3.mk (HK.out.2.low hX1)
        have hsz1 : W.heap.size < W1.heap.size := by have := HK.out.2.sz; have := hB1.size; omega
        clear hB1 hX1 cD1 c0 c1
        go_wp2_with fail
        generalize (W1.alloc (.cells #[.string ⟨c'.toArray⟩, .int .u8 (p.2.toNat : Int)] 24)) = V1 at *
        have d0 : V1.drew.cell? ⟨W1.heap.size, 0, none⟩ = some (.string ⟨c'.toArray⟩) := hT1.c0
        have d1 : V1.drew.cell? ⟨W1.heap.size, 1, none⟩ = some (.int .u8 (p.2.toNat : Int)) := hT1.c1
        have cb : V1.drew.cell? ⟨gb, off + i, none⟩ = some (.int .u8 (x.toNat : Int)) := HCB.out V1.drew HK1.out.bl.drew
        have HK1d := Hid3.mk (HK1.out.low ((Below.refl _ V1).drew))
        have cR1 := cR V1.drew
        generalize p.2 &&& y = pr at *
        clear hT1 cR
        go_region_with ((go_at_call 6; refine cR1.mono ?_; rintro o W2 ⟨rfl, hB2⟩; have HK2 := Hid3.mk (HK1d.out.low hB2); have b0 := HK2.out.box.c0; have b1 := HK2.out.box.c1; have bf0 := HK2.out.box.f 0; have bf1 := HK2.out.box.f 1; have hl2 : W.heap.size < W2.heap.size := HK2.out.sz; unfold cpN at b0; unfold cpR at b1; clear hB2))
        all_goals
          have hown3 := own_sets HK2.out.own (Nat.lt_succ_self _) (.string ⟨c'.toArray⟩) (.int .u8 (pr.toNat : Int))
          have hbx3 := (HK2.out.box.set0 (.string ⟨c'.toArray⟩)).set1 (.int .u8 (pr.toNat : Int))
          have e0 := hbx3.c0
          have e1 := hbx3.c1
          have hnw : ∀ j u, [cpN (c', pr), cpR (c', pr)][j]? = some u → (((W2.setCell ⟨W.heap.size, 0, none⟩ (.string ⟨c'.toArray⟩)).setCell ⟨W.heap.size, 1, none⟩ (.int .u8 (pr.toNat : Int))).alloc (.cells #[.string ⟨c'.toArray⟩, .int .u8 (pr.toNat : Int)] 24)).cell? ((⟨W2.heap.size, 0, none⟩ : Addr).add j) = some u := new_two W2 W.heap.size c' pr
          have hsz3 : ((W2.setCell ⟨W.heap.size, 0, none⟩ (.string ⟨c'.toArray⟩)).setCell ⟨W.heap.size, 1, none⟩ (.int .u8 (pr.toNat : Int))).heap.size = W2.heap.size := by rw [size_setCells, size_setCells]
          have hL10 := HLT.out.1
          have HS3 := Hid3.mk hsz3
          have HNX : Hid3 (∀ v' w1, w1.ownsRow (W.heap.size + 1) 24 2 v' (L.length + 1) (cpCells L ++ [cpN (c', pr), cpR (c', pr)]) → (((W2.setCell ⟨W.heap.size, 0, none⟩ (.string ⟨c'.toArray⟩)).setCell ⟨W.heap.size, 1, none⟩ (.int .u8 (pr.toNat : Int))).alloc (.cells #[.string ⟨c'.toArray⟩, .int .u8 (pr.toNat : Int)] 24)).grownBy w1 (Value.slice (some ⟨g, 0, none⟩) L.length cap).ownBlock → ∃ g' cap', v' = .slice (some ⟨g', 0, none⟩) (L ++ [(c', pr)]).length cap' ∧ Kc W w1 g' cap' (L ++ [(c', pr)]) (c', pr)) := ⟨fun v' w1 h1 h2 => Kc.next HK2.out HLC.out HRR.out HLS.out h1 h2⟩
          clear hsz3 hbx3 b0 b1 bf0 bf1 cR1 cb d0 d1 HK1d HK1
          go_wp2_with (at_builtin; refine wpList_append_own _ rfl _ _ 25 rfl (W.heap.size + 1) 24 i0 (.agg #[.string ⟨#[]⟩, .int .u8 0]) 2 24 Try.underlying25 hi hz0 hz1 hz2 rfl (by decide) _ _ _ rfl (hown3.alloc _) ⟨W2.heap.size, 0, none⟩ 1 1 [cpN (c', pr), cpR (c', pr)] rfl rfl hnw (by simp [cpN, cpR, Value.oneCell']) (by unfold maxLen; omega) (by omega) (by rw [World.size_alloc, HS3.out]; omega) ?_; intro v' w1 hown' hgrow _; obtain ⟨g', cap', rfl, hKn⟩ := HNX.out v' w1 hown' hgrow; have HKn := Hid3.mk hKn; clear hown' hgrow hKn)
          go_roundw
          case rel => exact ⟨i + 1, g', cap', L ++ [(c', pr)], (c', pr), by omega, by omega, by go_num, by rw [show (L ++ [(c', pr)]).length = L.length + 1 by simp], ⟨by have := HK.out.1; simp; omega, HKn.out⟩⟩
          case measure => simp [intOf]; omega
    · have HLT := Hid3.mk (TK.out i g cap L p wr HK.out.1 hi9 HK.out.2)
      have hend : ¬ ((i : Int) < (bs.length : Int)) ∨ ((i : Int) < (bs.length : Int) ∧ ¬ (i : Int) < 9) := by omega
      have HK2 := Hid3.mk HK.out.2
      clear HK
      rcases hend with hz | ⟨hz, hz9⟩
      all_goals
        go_wp2
        exact tail.out _ _ _ _ _ _ _ _ _ _ _ _ _ _ _ _ _ _ _ _ _ _ _ _ _ _ _ _ _ _ _ _ _ _ _ _ _ _ _ _ _ _ _ _ _ _ _ _ _ _ _ _ _ _ _ _ _ _ _ _ _ _ _ _ _ _ _ _ _ _ _ _ _ _ _ _ _ _ _ _ _ _ _ _ _ _ _ _ _ _ _ _ _ _ _ _ _ _ _ HK2.out.own HK2.out.box HK2.out.ch HK2.out.len HLT.out.1 HLT.out.2 HK2.out.right HK2.out.bl HK2.out.sz
end Go.Proofs.Ytbkllkkgnhdibaa
