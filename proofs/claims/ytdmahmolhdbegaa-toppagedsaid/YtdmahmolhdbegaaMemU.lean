/- The document's memory: filled; a new one; a word. -/
import Derived.Test.YtdmahmolhdbegaaMemT
import Derived.Laws.OwnMore
namespace Go.Proofs.Ytdmahmolhdbegaa
open Go.RowKit Go.Maps
set_option linter.unusedVariables false
set_option maxRecDepth 100000
theorem Byts.only {B b : Nat} {w w' : World} {v : Value} {bs : List Int} (h : Byts B w v bs) (k : Only b w w') (hb : B ≤ b) : Byts B w' v bs := by
  obtain ⟨a, cap, rfl, hc, hb, hcell⟩ := h
  refine ⟨a, cap, rfl, hc, hb, fun j x hj => ?_⟩
  obtain ⟨g, off, rfl, hg, c0⟩ := hcell j x hj
  exact ⟨g, off, rfl, hg, (k.cell g (off + j) (World.block_lt_of_cell? w _ c0) (by omega)).trans c0⟩
set_option maxHeartbeats 4000000 in
theorem rfill_any (B rb g K N : Nat) (f o : Int) (v : Value) (L vs : List Int) (w : World) (h : RMem w rb g K L) (hK : K = 32 * N) (hv : Byts B w v vs) (hB : B ≤ g) (hs : vs.length ≤ 1000) : Calls Try.prog 76 #[.pointer (some ⟨rb, 0, none⟩), .int .i64 f, .int .i64 o, v] w fun e w' => e = .returned (.int .i64 (flE N f o vs.length)) ∧ RMem w' rb g K (flL N L f o vs) ∧ Only g w w' := by
  have c1 := may_any rb g K N f o 1 L w h hK (by decide)
  obtain ⟨a, cap, rfl, hcap, hby, hcell⟩ := id hv
  unfold inE at c1
  unfold flL flE flB
  by_cases q : inB N f o 1 = true
  · rw [if_pos q] at c1
    rw [q]
    obtain ⟨h1, h2, h3, h4⟩ := inB_t q
    obtain ⟨p, hp⟩ : ∃ p : Nat, p = plc f o := ⟨_, rfl⟩
    have hp1 : f * 32 + o = (p : Int) := by unfold plc at hp; omega
    have hh := h.hi
    have hf64 : f < 64 := by omega
    have ho32 : o < 32 := by omega
    have hpK : (p : Int) < (K : Int) := by omega
    obtain ⟨C0, hC0, hc0⟩ := h.c
    by_cases q2 : (vs.length : Int) ≤ ((N : Int) - f) * 32 - o
    · rw [decide_eq_true q2, if_pos (by rfl), if_pos (by rfl), ← hp]
      have hfit : ¬ (K : Int) - (p : Int) < (vs.length : Int) := by omega
      have hfn : p + vs.length ≤ K := by omega
      have HV : Hid3 (Byts B w (.slice a vs.length cap) vs) := ⟨hv⟩
      have HL : Hid3 (L.length = 2048) := ⟨h.len⟩
      clear q q2 h4 hK hcell hv hp
      go_enter Try.func76, Try.ntmps76
      go_wp2_with fail
      refine c1.mono ?_
      rintro e W1 ⟨rfl, rfl⟩
      clear c1
      go_wp2
      clear hc0 hfit
      go_loopw [11] (fun s11 wr => ∃ i : Nat, i ≤ vs.length ∧ s11 = .int .i64 i ∧ RMem wr rb g K (putL L p (vs.take i)) ∧ Only g W1 wr) (fun s11 _ => vs.length - (intOf s11).toNat)
      case atStart => exact ⟨0, by omega, rfl, by rw [List.take_zero, putL_nil]; exact h, Only.refl _ _⟩
      case round =>
        obtain ⟨i, hi, rfl, hM, hO⟩ := hrel
        by_cases hlt : i < vs.length
        · have hltz : (i : Int) < (vs.length : Int) := by omega
          obtain ⟨C, hC, hc⟩ := hM.c
          obtain ⟨r, hr⟩ : ∃ r : Nat, r = p + i := ⟨_, rfl⟩
          have hr1 : (p : Int) + (i : Int) = (r : Int) := by omega
          have hrK : (r : Int) < (K : Int) := by omega
          have hx := hM.byte r (by omega)
          obtain ⟨a2, cap2, e0, _, _, hcl⟩ := HV.out.only hO hB
          injection e0 with e1 e2 e3
          obtain ⟨sg, off, e4, hsg, hy⟩ := hcl i vs[i] (List.getElem?_eq_getElem hlt)
          rw [← e1] at e4
          subst e4
          have hfr := hM.free r
          have k1 := hM.set1 r (by omega) vs[i]
          have k2 := putL_snoc (L := L) (vs := vs) (k := p) (i := i) (by rw [HL.out]; omega) hlt
          rw [show vs.getD i 0 = vs[i] by rw [List.getD_eq_getElem?_getD, List.getElem?_eq_getElem hlt]; rfl, ← hr] at k2
          rw [k2] at k1
          generalize vs[i] = X at *
          generalize (putL L p (vs.take i)).getD r 0 = Y at *
          have HM : Hid3 (RMem (wr.setCell ⟨g, r, none⟩ (.int .u8 X)) rb g K (putL L p (vs.take (i + 1)))) := ⟨k1⟩
          clear k1 k2 hr hM hcl e1 e2 e3
          go_wp2_with fail
          go_region
          all_goals
            go_wp2
            go_roundw
            case rel => exact ⟨i + 1, by omega, by go_num, HM.out.below (Below.refl _ _).drew, (hO.trans (Only.cell1 _ _ _ _)).trans (Only.of_below (Below.refl _ _).drew)⟩
            case measure => simp [intOf]; omega
        · have hltz : ¬ (i : Int) < (vs.length : Int) := by omega
          go_wp2
          go_ret
          refine ⟨rfl, ?_, hO⟩
          rw [List.take_of_length_le (by omega)] at hM
          exact hM
    · rw [decide_eq_false q2, if_neg (by decide), if_neg (by decide)]
      have hfit : (K : Int) - (p : Int) < (vs.length : Int) := by omega
      clear q q2 h4 hK hcell hv hp
      go_enter Try.func76, Try.ntmps76
      go_wp2_with fail
      refine c1.mono ?_
      rintro e W1 ⟨rfl, rfl⟩
      clear c1
      go_wp2
      go_ret
      exact ⟨rfl, h, Only.refl _ _⟩
  · rw [if_neg q] at c1
    have e1 : inB N f o 1 = false := by simpa using q
    rw [e1, if_neg (by simp), if_neg (by simp)]
    clear q e1 hcell hv
    go_enter Try.func76, Try.ntmps76
    go_wp2_with fail
    refine c1.mono ?_
    rintro e W1 ⟨rfl, rfl⟩
    go_wp2
    go_ret
    exact ⟨rfl, h, Only.refl _ _⟩
theorem infoU8 : (Try.prog.info? 5).map (fun i => (i.zero, i.size, i.bytes)) = some (some (.int .u8 0), 1, 1) := by kernel_rfl
theorem made_any (K : Nat) (hK : K ≤ 2048) (W : World) : (Instr.makeSlice 32 (.int .i64 K) (.int .i64 K)).run Try.prog W = .ok (.slice (some ⟨W.heap.size, 0, none⟩) K K) (W.alloc (.cells ((zeroL.take K).map (Value.int .u8)).toArray 5)) := by
  obtain ⟨i, hi, hz, hs, hb⟩ := info_parts infoU8
  rw [run_make W 32 5 i (.int .u8 0) Try.underlying32 hi hz .i64 .i64 K K (by omega) (Int.le_refl _) (by rw [hb]; omega) (by omega), hs]
  simp only [Int.toNat_natCast, Nat.mul_one]
  have e : madeCells (Value.int .u8 0).cells K = ((zeroL.take K).map (Value.int .u8)).toArray := by
    apply Array.ext'
    rw [show (Value.int .u8 0).cells = #[Value.int .u8 0] from rfl, toList_madeCells_one]
    show _ = (zeroL.take K).map (Value.int .u8)
    unfold zeroL
    rw [List.take_replicate, Nat.min_eq_left hK, List.map_replicate]
  rw [e]
set_option maxHeartbeats 1000000 in
theorem rnew_any (N : Nat) (w : World) (h1 : 1 ≤ N) (h2 : N ≤ 64) (K : Nat) (hK : K = 32 * N) : Calls Try.prog 34 #[.int .i64 N] w fun e w' => e = .returned (.pointer (some ⟨w.heap.size + 1, 0, none⟩)) ∧ RMem w' (w.heap.size + 1) w.heap.size K zeroL ∧ Below w.heap.size w w' := by
  have hmk := made_any K (by omega)
  have e1 : (N : Int) * 32 = (K : Int) := by omega
  have g1 : ¬ (N : Int) < 1 := by omega
  have g2 : ¬ (64 : Int) < (N : Int) := by omega
  have hk : K ≤ 2048 := by omega
  have HZ : Hid3 (zeroL.length = 2048) := ⟨zeroL_length⟩
  obtain ⟨R, hR⟩ : ∃ R, R = ((zeroL.take K).map (Value.int .u8)).toArray := ⟨_, rfl⟩
  rw [← hR] at hmk
  have HR : Hid3 (R = ((zeroL.take K).map (Value.int .u8)).toArray) := ⟨hR⟩
  clear hR
  clear hK
  go_enter Try.func34, Try.ntmps34
  go_wp2
  go_ret
  refine ⟨rfl, ⟨⟨K, Nat.le_refl _, ?_⟩, ⟨[], ?_⟩, HZ.out, by omega, hk⟩, ((Below.refl _ w).alloc (Nat.le_refl _) _).alloc (by simp) _⟩
  · rw [show w.heap.size + 1 = (w.alloc (.cells R 5)).heap.size by simp]
    exact heap_alloc_last _ _
  · rw [Lib.alloc_old _ _ _ (by simp), List.append_nil, ← HR.out]
    exact heap_alloc_last _ _
end Go.Proofs.Ytdmahmolhdbegaa
