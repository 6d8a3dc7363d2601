/- The program's vm: Fill of many bytes. -/
import Derived.Test.YtfmcoibpbcheiaaVmR
namespace Go.Proofs.Ytfmcoibpbcheiaa
open Go.RowKit Go.Maps
set_option linter.unusedVariables false
set_option maxRecDepth 100000
theorem ar_at (a i : Nat) (h : a + i < 512) : Int.tdiv ((a + i : Nat) : Int) 32 = (((a + i) / 32 : Nat) : Int) ∧ Int.tmod ((a + i : Nat) : Int) 32 = (((a + i) % 32 : Nat) : Int) ∧ IntKind.i64.wrap (((a + i) / 32 : Nat) : Int) = (((a + i) / 32 : Nat) : Int) ∧ IntKind.i64.wrap (((a + i) % 32 : Nat) : Int) = (((a + i) % 32 : Nat) : Int) ∧ wrap64 (((a + i) / 32 : Nat) : Int) = (((a + i) / 32 : Nat) : Int) ∧ wrap64 (((a + i) % 32 : Nat) : Int) = (((a + i) % 32 : Nat) : Int) ∧ IntKind.i64.wrap ((a : Int) + (i : Int)) = ((a + i : Nat) : Int) ∧ IntKind.i64.wrap ((i : Int) + 1) = ((i + 1 : Nat) : Int) := by
  obtain ⟨e2, e3, e1, e4, e5, e6, e7, e8, e9⟩ := arith512 (a + i) h
  refine ⟨e2, e3, e8, e9, e1, e4, ?_, ?_⟩ <;> clear e2 e3 e1 e4 e5 e6 e7 e8 e9 <;> rw [IntKind.wrap_i64] <;> omega
theorem ar_pg (a m c : Nat) (hm : 1 ≤ m) (ha : a + m ≤ 512) (hc : c = (a + m - 1) / 32 - a / 32 + 1) : (∀ d, d < c → ((a / 32 + d : Nat) : Int) ≤ (((a + m - 1) / 32 : Nat) : Int)) ∧ (¬ ((a / 32 + c : Nat) : Int) ≤ (((a + m - 1) / 32 : Nat) : Int)) ∧ (∀ d, d < c → IntKind.i64.wrap (((a / 32 + d : Nat) : Int) + 1) = ((a / 32 + (d + 1) : Nat) : Int) ∧ ((a / 32 + d : Nat) : Int).toNat = a / 32 + d ∧ ((a / 32 + (d + 1) : Nat) : Int).toNat = a / 32 + d + 1 ∧ a / 32 + d < 20) ∧ IntKind.i64.wrap ((a : Int) + (m : Int)) = ((a + m : Nat) : Int) ∧ IntKind.i64.wrap (((a + m : Nat) : Int) - 1) = ((a + m - 1 : Nat) : Int) :=
  ⟨fun d hd => by omega, by omega, fun d hd => ⟨by rw [IntKind.wrap_i64]; omega, by omega, by omega, by omega⟩, by rw [IntKind.wrap_i64]; omega, by rw [IntKind.wrap_i64]; omega⟩
set_option maxHeartbeats 8000000 in
theorem fill_all (B : Nat) (l : Lo) (s : Vs) (N : Nat) (p : Fin 6) (a m c gb off cap : Nat) (b : Nat → Int) (w : World) (h : Vb B w l s) (hF : Fr N s) (hp : s.has p = true) (hm : 1 ≤ m) (ha : a + m ≤ 512) (hc : c = (a + m - 1) / 32 - a / 32 + 1) (hn : ∀ j, j < c → s.pg p ((a / 32 + j : Nat) : Int) ≠ none) (hz : ndT s p (a / 32) c ≤ zr N s) (hcp : 0 ≤ s.cp ∧ s.cp ≤ 90000)
    (cb : ∀ i, i < m → w.cell? ⟨gb, off + i, none⟩ = some (.int .u8 (b i))) (hgb : gb < w.heap.size) (hgx : ¬ XV l s gb) :
    Calls Try.prog 15 #[.pointer (some ⟨l.b, 0, none⟩), .int .i64 p.1, .int .i64 a, .slice (some ⟨gb, off, none⟩) m cap] w fun r w' => r = .returned (.int .i64 0) ∧ Vb B w' l { alN N s p (a / 32) c with L := wrL N (alN N s p (a / 32) c) p a b m } ∧ Apart (XV l s) w w' := by
  have hz1 : a < 512 := by omega
  have hz2 : a + m - 1 < 512 := by omega
  have hm0 : ¬ (m : Int) = 0 := by omega
  have hm00 : ((m : Int) == 0) = false := by simpa using hm0
  have hc16 : a / 32 + c ≤ 16 := by omega
  have K := alN_ok hF hc16 hn hz
  have cO := of_ok B l s p w h hp
  have cP := addressed_any a m w
  rw [decide_eq_true (by omega : (0 : Int) ≤ (a : Int)), decide_eq_true (by omega : (a : Int) < 512), decide_eq_true (by omega : (m : Int) ≤ 512 - (a : Int))] at cP
  have cN := needs_all B l s N p (a / 32) c w h hF hp hc16 (by omega) hn
  have hlast : a / 32 + c - 1 = (a + m - 1) / 32 := by omega
  rw [hlast] at cN
  have cF := left_any B l s N hF.n w h
  have hlf' : ¬ (zrs (fun k => s.rf.getD k 0) N : Int) < ndT s p (a / 32) c := by
    have : (zr N s : Int) = (zrs (fun k => s.rf.getD k 0) N : Int) := rfl
    omega
  have hzN : (zrs (fun k => s.rf.getD k 0) N : Int) ≤ 64 := by
    have := zrs_le (fun k => s.rf.getD k 0) N
    have := hF.hi
    omega
  generalize (zrs (fun k => s.rf.getD k 0) N : Int) = z at *
  have HR : Hid3 (∀ d, d < c → ∃ f g s'', (∀ W, Vb B W l (alN N s p (a / 32) d) → (Instr.lookup 60 (.map (some (l.r p))) (.int .i64 ((a / 32 + d : Nat) : Int)) false).run Try.prog W = .ok (.int .i64 f) W ∧ Calls Try.prog 42 #[.pointer (some ⟨l.b, 6, none⟩), .int .i64 f] W fun r w' => r = .returned (.int .i64 g) ∧ Vb B w' l s'' ∧ Apart (XS l) W w') ∧ (∀ W, Vb B W l s'' → ∃ W', (Instr.mapUpdate 60 (.map (some (l.r p))) (.int .i64 ((a / 32 + d : Nat) : Int)) (.int .i64 g)).run Try.prog W = .ok () W' ∧ Vb B W' l (alN N s p (a / 32) (d + 1)) ∧ Apart (XB (l.r p)) W W')) := ⟨fun d hd => by
    have Kd := K d (by omega)
    obtain ⟨r1, r2⟩ := Kd.rest d (Nat.le_refl _) hd
    cases e : s.pg p ((a / 32 + d : Nat) : Int) with
    | none => exact absurd e (hn d hd)
    | some f =>
      rw [e] at r1
      have hmono := ndT_mono s p (a / 32) (d + 1) (c - (d + 1))
      rw [show d + 1 + (c - (d + 1)) = c by omega] at hmono
      have hstep : ndT s p (a / 32) (d + 1) = ndT s p (a / 32) d + nd s p (a / 32 + d) := rfl
      have Kz := Kd.z
      have Kcp := Kd.cp
      obtain ⟨a1, a2⟩ := alone_al (B := B) (l := l) Kd.fr (by omega : a / 32 + d < 16) r1 (by omega) (by omega)
      have hp' : (if ownB (alN N s p (a / 32) d) f = true then (alN N s p (a / 32) d) else alS (alN N s p (a / 32) d) f (nx N (alN N s p (a / 32) d))).has p = true := by rw [a1.has, Kd.has]; exact hp
      refine ⟨f, (alG N (alN N s p (a / 32) d) p (a / 32 + d) : Nat), _, fun W hW => ⟨?_, a1.c W hW⟩, fun W hW => ?_⟩
      · have e1 := lookQ (hW.sp p (by rw [Kd.has]; exact hp)).2 ((a / 32 + d : Nat) : Int)
        rw [r1] at e1
        exact e1
      · obtain ⟨W', u1, u2, u3⟩ := stepP (hW.sp p hp').2 ((a / 32 + d : Nat) : Int) ((alG N (alN N s p (a / 32) d) p (a / 32 + d) : Nat) : Int)
        have := hW.respace p hp' _ u3 u2
        rw [a2] at this
        exact ⟨W', u1, this, u3⟩⟩
  have Kc := K c (Nat.le_refl _)
  have HE : Hid3 (∀ i, i < m → ∃ g : Int, (∀ W, Vb B W l { alN N s p (a / 32) c with L := wrL N (alN N s p (a / 32) c) p a b i } → (Instr.lookup 60 (.map (some (l.r p))) (.int .i64 (((a + i) / 32 : Nat) : Int)) false).run Try.prog W = .ok (.int .i64 g) W ∧ Calls Try.prog 43 #[.pointer (some ⟨l.m, 0, none⟩), .int .i64 g, .int .i64 ((a + i) % 32 : Nat), .int .u8 (b i)] W fun e w' => e = .returned (.int .i64 0) ∧ Vb B w' l { alN N s p (a / 32) c with L := wrL N (alN N s p (a / 32) c) p a b (i + 1) } ∧ Only l.m W w')) := ⟨fun i hi => by
    obtain ⟨g, g1, g2, g3⟩ := Kc.done ((a + i) / 32 - a / 32) (by omega)
    have eq : a / 32 + ((a + i) / 32 - a / 32) = (a + i) / 32 := by omega
    rw [eq] at g2
    refine ⟨(g : Int), fun W hW => ⟨?_, ?_⟩⟩
    · have e1 := lookQ (hW.sp p (by show (alN N s p (a / 32) c).has p = true; rw [Kc.has]; exact hp)).2 (((a + i) / 32 : Nat) : Int)
      have e2 : ({ alN N s p (a / 32) c with L := wrL N (alN N s p (a / 32) c) p a b i } : Vs).pg p (((a + i) / 32 : Nat) : Int) = some (g : Int) := g2
      rw [e2] at e1
      exact e1
    · have e := setbyte_any l.m _ g ((a + i) % 32 : Nat) (b i) _ W hW.m
      have hnn : ({ alN N s p (a / 32) c with L := wrL N (alN N s p (a / 32) c) p a b i } : Vs).n = N := Kc.n.trans hF.n
      rw [hnn] at e
      have ei : inE (N : Int) g ((a + i) % 32 : Nat) 1 = 0 := by
        unfold inE inB
        rw [if_pos (decide_eq_true (by omega))]
      rw [ei] at e
      refine e.mono ?_
      rintro r w' ⟨rfl, k1, k2⟩
      have k1' : Mem w' l.m ({ alN N s p (a / 32) c with L := wrL N (alN N s p (a / 32) c) p a b i } : Vs).n (wrL N (alN N s p (a / 32) c) p a b (i + 1)) := by
        rw [hnn]
        have e3 : frG (alN N s p (a / 32) c) p (a + i) = g := by unfold frG; rw [g2]; rfl
        show Mem w' l.m N (sbL N (wrL N (alN N s p (a / 32) c) p a b i) (frG (alN N s p (a / 32) c) p (a + i)) ((a + i) % 32 : Nat) (b i))
        rw [e3]
        exact k1
      exact ⟨rfl, hW.remem _ k2 k1', k2⟩⟩
  have HXg : Hid3 (∀ W i, i < m → Apart (XV l s) w W → W.cell? ⟨gb, off + i, none⟩ = some (.int .u8 (b i))) := ⟨fun W i hi k => (World.cell?_of_block (w := w) (k.block gb hgb hgx)).trans (cb i hi)⟩
  have Hp := Hid3.mk hp
  have HV0 : Hid3 (∀ W, Below w.heap.size w W → Vb B W l (alN N s p (a / 32) 0)) := ⟨fun W k => h.below k⟩
  have HW0 : Hid3 (∀ W, Vb B W l (alN N s p (a / 32) c) → Vb B W l { alN N s p (a / 32) c with L := wrL N (alN N s p (a / 32) c) p a b 0 }) := ⟨fun W k => k⟩
  have HAR : Hid3 (∀ i, i < m → Int.tdiv ((a + i : Nat) : Int) 32 = (((a + i) / 32 : Nat) : Int) ∧ Int.tmod ((a + i : Nat) : Int) 32 = (((a + i) % 32 : Nat) : Int) ∧ IntKind.i64.wrap (((a + i) / 32 : Nat) : Int) = (((a + i) / 32 : Nat) : Int) ∧ IntKind.i64.wrap (((a + i) % 32 : Nat) : Int) = (((a + i) % 32 : Nat) : Int) ∧ wrap64 (((a + i) / 32 : Nat) : Int) = (((a + i) / 32 : Nat) : Int) ∧ wrap64 (((a + i) % 32 : Nat) : Int) = (((a + i) % 32 : Nat) : Int) ∧ IntKind.i64.wrap ((a : Int) + (i : Int)) = ((a + i : Nat) : Int) ∧ IntKind.i64.wrap ((i : Int) + 1) = ((i + 1 : Nat) : Int)) := ⟨fun i hi => ar_at a i (by omega)⟩
  obtain ⟨hP1, hP2, hP3, hs1, hs2⟩ := ar_pg a m c hm ha hc
  have HLE : Hid3 (∀ d, d < c → ((a / 32 + d : Nat) : Int) ≤ (((a + m - 1) / 32 : Nat) : Int)) := ⟨hP1⟩
  have HLN : Hid3 (¬ ((a / 32 + c : Nat) : Int) ≤ (((a + m - 1) / 32 : Nat) : Int)) := ⟨hP2⟩
  have HW1 : Hid3 (∀ d, d < c → IntKind.i64.wrap (((a / 32 + d : Nat) : Int) + 1) = ((a / 32 + (d + 1) : Nat) : Int) ∧ ((a / 32 + d : Nat) : Int).toNat = a / 32 + d ∧ ((a / 32 + (d + 1) : Nat) : Int).toNat = a / 32 + d + 1 ∧ a / 32 + d < 20) := ⟨hP3⟩
  clear hP1 hP2 hP3
  obtain ⟨q2, _, q1, _, _, _, _, q8, _⟩ := arith512 a hz1
  obtain ⟨v2, _, v1, _, _, _, _, v8, _⟩ := arith512 (a + m - 1) hz2
  clear hz1 hz2
  generalize hfs : a / 32 = fs at *
  generalize hS : alN N s p fs = S at *
  obtain ⟨T, hT⟩ : ∃ T : Nat → Vs, T = fun i => { S c with L := wrL N (S c) p a b i } := ⟨_, rfl⟩
  have eT : ∀ i, ({ S c with L := wrL N (S c) p a b i } : Vs) = T i := fun i => by rw [hT]
  simp only [eT] at HE HW0 ⊢
  have HX0 : Hid3 (a + m ≤ 512) := ⟨ha⟩
  clear hT eT hS K Kc h hF hn hp hz cb hlast hc hc16 ha hgb hgx
  generalize ndT s p fs c = nn at *
  generalize (((a + m - 1) / 32 : Nat) : Int) = la at *
  generalize ((a + m - 1 : Nat) : Int) = am1 at *
  generalize ((a + m : Nat) : Int) = am at *
  obtain ⟨f0, hf0⟩ : ∃ f0 : Int, f0 = (fs : Int) := ⟨_, rfl⟩
  rw [← hf0] at cN q2 q1 q8
  have HF0 := Hid3.mk hf0
  generalize haa : (a : Int) = aa at *
  clear hf0 haa hfs
  generalize hr : l.r p = r at *
  go_enter Try.func15, Try.ntmps15
  go_wp2_with fail
  refine cO.mono ?_
  rintro r0 W ⟨rfl, hW⟩
  rw [hW]
  clear cO hW
  go_wp2_with fail
  refine cP.mono ?_
  rintro r0 W ⟨rfl, hW⟩
  rw [hW]
  clear cP hW
  go_wp2_with fail
  refine cN.mono ?_
  rintro r0 W ⟨rfl, hW⟩
  rw [hW]
  clear cN hW
  go_wp2_with fail
  refine cF.mono ?_
  rintro r0 W2 ⟨rfl, hB2⟩
  have HS0 : Hid3 (Vb B W2 l (S 0) ∧ Apart (XV l s) w W2) := ⟨HV0.out W2 hB2, Apart.of_below hB2⟩
  clear cF hB2 HV0
  go_wp2
  go_loopw [14] (fun i W => ∃ d : Nat, d ≤ c ∧ i = .int .i64 ((fs + d : Nat) : Int) ∧ Hid3 (Vb B W l (S d) ∧ Apart (XV l s) w W)) (fun i _ => 20 - (intOf i).toNat)
  case atStart => exact ⟨0, Nat.zero_le _, by rw [HF0.out]; simp, HS0⟩
  case round =>
    obtain ⟨d, hd, rfl, H5⟩ := hrel
    clear HS0
    by_cases hdc : d < c
    · obtain ⟨f, g, s'', hX, hU⟩ := HR.out d hdc
      have hle := HLE.out d hdc
      obtain ⟨hw1, hm2, hm1, hm3⟩ := HW1.out d hdc
      obtain ⟨hL1, hC1⟩ := hX wr.drew (H5.out.1.below (below_drew _))
      have HL1 := Hid3.mk hL1
      have HC1 := Hid3.mk hC1
      have HU1 := Hid3.mk hU
      clear hL1 hC1 hX hU
      generalize hkk : ((fs + d : Nat) : Int) = kk at *
      generalize hk1 : ((fs + (d + 1) : Nat) : Int) = k1 at *
      have HK1 := Hid3.mk hk1
      have HM := Hid3.mk (And.intro hm1 (And.intro hm2 hm3))
      clear hkk hk1 hm1 hm2 hm3
      go_wp2_with fail
      refine wp_region_held_drew (S := fun _ => True) (by kernel_rfl) trivial (fun hHeld => ?_)
      refine takeD (i := 0) (v := ?v66) (some 66) rfl rfl (by kernel_rfl) (by kernel_rfl) (by kernel_rfl) (fun _ _ _ h => h) (Or.inl ⟨by rfl, ?hy66⟩) (by assumption) ?_
      case hy66 => (intro w' hSw; (try dsimp only at hSw); go_simp; try (with_reducible rfl))
      simp only [Act.put, List.setIfInBounds_toArray, List.set_cons_zero, List.set_cons_succ]
      refine takeD (i := 1) (v := ?v67) (some 67) rfl rfl (by kernel_rfl) (by kernel_rfl) (by kernel_rfl) (fun _ _ _ h => h) (Or.inl ⟨by rfl, ?hy67⟩) (by assumption) ?_
      case hy67 => (intro w' hSw; (try dsimp only at hSw); go_simp; try (with_reducible rfl))
      simp only [Act.put, List.setIfInBounds_toArray, List.set_cons_zero, List.set_cons_succ]
      refine takeD (i := 2) (v := ?v68) (some 68) rfl rfl (by kernel_rfl) (by kernel_rfl) (by kernel_rfl) (fun _ _ _ h => h) (Or.inl ⟨by rfl, ?hy68⟩) (by assumption) ?_
      case hy68 => (intro w' hSw; (try dsimp only at hSw); go_simp; try (with_reducible rfl))
      simp only [Act.put, List.setIfInBounds_toArray, List.set_cons_zero, List.set_cons_succ]
      refine takeD (i := 3) (v := ?v69) (some 69) rfl rfl (by kernel_rfl) (by kernel_rfl) (by kernel_rfl) (fun _ _ _ h => h) (Or.inl ⟨by rfl, ?hy69⟩) (by assumption) ?_
      case hy69 => (intro w' hSw; (try dsimp only at hSw); go_simp; try (with_reducible rfl))
      simp only [Act.put, List.setIfInBounds_toArray, List.set_cons_zero, List.set_cons_succ]
      refine takeD (i := 4) (v := ?v70) (some 70) rfl rfl (by kernel_rfl) (by kernel_rfl) (by kernel_rfl) (fun _ _ _ h => h) (Or.inl ⟨by rfl, ?hy70⟩) (by assumption) ?_
      case hy70 => (intro w' hSw; (try dsimp only at hSw); go_simp; try (with_reducible rfl))
      simp only [Act.put, List.setIfInBounds_toArray, List.set_cons_zero, List.set_cons_succ]
      refine takeD (i := 5) (v := ?v71) (some 71) rfl rfl (by kernel_rfl) (by kernel_rfl) (by kernel_rfl) (fun _ _ _ h => h) (Or.inl ⟨by rfl, ?hy71⟩) (by assumption) ?_
      case hy71 => (intro w' hSw; (try dsimp only at hSw); go_simp; try (with_reducible rfl))
      simp only [Act.put, List.setIfInBounds_toArray, List.set_cons_zero, List.set_cons_succ]
      refine takeD (i := 6) (v := ?v72) (some 72) rfl rfl (by kernel_rfl) (by kernel_rfl) (by kernel_rfl) (fun _ _ _ h => h) (Or.inl ⟨by rfl, ?hy72⟩) (by assumption) ?_
      case hy72 => (intro w' hSw; (try dsimp only at hSw); go_simp; try (with_reducible rfl))
      simp only [Act.put, List.setIfInBounds_toArray, List.set_cons_zero, List.set_cons_succ]
      refine wpAnyH_ready (rs := [7]) (by kernel_rfl) (by simp) (AllReadyH.cons rfl (fun K hK => ?_) AllReadyH.nil)
      refine step_look (some 73) rfl rfl 60 _ _ false rfl _ _ _ rfl rfl HL1.out ?_
      refine hK.out _ _ trivial (fun hHeld2 => ?_)
      clear hK K hHeld
      have hHeld := hHeld2
      clear hHeld2
      try simp only [Act.put, List.setIfInBounds_toArray, List.set_cons_zero, List.set_cons_succ]
      refine wpAnyH_ready (rs := [8]) (by kernel_rfl) (by simp) (AllReadyH.cons rfl (fun K hK => ?_) AllReadyH.nil)
      go_simp
      with_reducible refine (HC1.out).mono ?_
      rintro r W3 ⟨rfl, hV3, hA3⟩
      have HA3 := Hid3.mk hA3
      obtain ⟨W4, u1, u2, u3⟩ := HU1.out W3 hV3
      have HV4 := Hid3.mk u2
      have HA4 := Hid3.mk u3
      clear u2 u3 hV3 hA3
      refine hK.out _ _ trivial (fun hHeld2 => ?_)
      clear hK K hHeld
      have hHeld := hHeld2
      clear hHeld2
      try simp only [Act.put, List.setIfInBounds_toArray, List.set_cons_zero, List.set_cons_succ]
      refine wpAnyH_ready (rs := [9]) (by kernel_rfl) (by simp) (AllReadyH.cons rfl (fun K hK => ?_) AllReadyH.nil)
      refine step_mupd none rfl rfl 60 _ _ _ rfl _ _ _ rfl rfl rfl u1 ?_
      clear u1
      refine hK.out _ _ trivial (fun hHeld2 => ?_)
      clear hK K hHeld
      have hHeld := hHeld2
      clear hHeld2
      try simp only [Act.put]
      refine wpAnyH_done (by kernel_rfl) ?_ _
      go_wp2
      go_roundw
      case rel => exact ⟨d + 1, by omega, HK1.out ▸ rfl, ⟨HV4.out, (((H5.out.2.trans (Apart.of_below (below_drew _))).trans (XS.v HA3.out)).trans (XB.v Hp.out (by rw [hr]; exact HA4.out)))⟩⟩
      case measure =>
        have := HM.out
        simp only [intOf]
        omega
    · have hdc2 : d = c := by omega
      subst hdc2
      have hle := HLN.out
      generalize ((fs + d : Nat) : Int) = kk at *
      have H6 : Hid3 (Vb B wr l (T 0) ∧ Apart (XV l s) w wr) := ⟨HW0.out _ H5.out.1, H5.out.2⟩
      clear H5
      go_wp2
      go_loopw [77] (fun i W => ∃ n : Nat, n ≤ m ∧ i = .int .i64 (n : Int) ∧ Hid3 (Vb B W l (T n) ∧ Apart (XV l s) w W)) (fun i _ => m - (intOf i).toNat)
      case atStart => exact ⟨0, Nat.zero_le _, rfl, H6⟩
      case round =>
        obtain ⟨n, hnm, rfl, H5⟩ := hrel
        clear H6
        by_cases hlt : n < m
        · have hltz : (n : Int) < (m : Int) := by omega
          have c0 := HXg.out _ n hlt H5.out.2
          obtain ⟨g, hX⟩ := HE.out n hlt
          have HV5 := Hid3.mk (H5.out.1.below (below_drew _))
          have HM6 := Hid3.mk HV5.out.mem
          have HL5 := Hid3.mk (hX _ HV5.out).1
          have HSB := Hid3.mk (hX _ HV5.out).2
          obtain ⟨e1, e2, e3, e4, e5, e6, e7, hw1⟩ := HAR.out n hlt
          clear hX
          generalize (((a + n) / 32 : Nat) : Int) = d at *
          generalize (((a + n) % 32 : Nat) : Int) = mm at *
          generalize ((a + n : Nat) : Int) = xx at *
          generalize b n = bn at *
          go_wp2_with fail
          refine wp_region_held_drew (S := fun w' => w'.cell? ⟨l.b, 6, none⟩ = some (.pointer (some ⟨l.m, 0, none⟩))) (by kernel_rfl) HM6.out (fun hHeld => ?_)
          refine takeD (i := 0) (v := ?v85) (some 85) rfl rfl (by kernel_rfl) (by kernel_rfl) (by kernel_rfl) (fun _ _ _ h => h) (Or.inl ⟨by rfl, ?hy85⟩) (by assumption) ?_
          case hy85 => (intro w' hSw; (try dsimp only at hSw); go_simp; try (with_reducible rfl))
          simp only [Act.put, List.setIfInBounds_toArray, List.set_cons_zero, List.set_cons_succ]
          refine takeD (i := 1) (v := ?v86) (some 86) rfl rfl (by kernel_rfl) (by kernel_rfl) (by kernel_rfl) (fun _ _ _ h => h) (Or.inl ⟨by rfl, ?hy86⟩) (by assumption) ?_
          case hy86 => (intro w' hSw; (try dsimp only at hSw); go_simp; try (with_reducible rfl))
          simp only [Act.put, List.setIfInBounds_toArray, List.set_cons_zero, List.set_cons_succ]
          refine takeD (i := 2) (v := ?v87) (some 87) rfl rfl (by kernel_rfl) (by kernel_rfl) (by kernel_rfl) (fun _ _ _ h => h) (Or.inl ⟨by rfl, ?hy87⟩) (by assumption) ?_
          case hy87 => (intro w' hSw; (try dsimp only at hSw); go_simp; try (with_reducible rfl))
          simp only [Act.put, List.setIfInBounds_toArray, List.set_cons_zero, List.set_cons_succ]
          refine takeD (i := 3) (v := ?v88) (some 88) rfl rfl (by kernel_rfl) (by kernel_rfl) (by kernel_rfl) (fun _ _ _ h => h) (Or.inl ⟨by rfl, ?hy88⟩) (by assumption) ?_
          case hy88 => (intro w' hSw; (try dsimp only at hSw); go_simp; try (with_reducible rfl))
          simp only [Act.put, List.setIfInBounds_toArray, List.set_cons_zero, List.set_cons_succ]
          refine takeD (i := 4) (v := ?v89) (some 89) rfl rfl (by kernel_rfl) (by kernel_rfl) (by kernel_rfl) (fun _ _ _ h => h) (Or.inl ⟨by rfl, ?hy89⟩) (by assumption) ?_
          case hy89 => (intro w' hSw; (try dsimp only at hSw); go_simp; try (with_reducible rfl))
          simp only [Act.put, List.setIfInBounds_toArray, List.set_cons_zero, List.set_cons_succ]
          refine takeD (i := 5) (v := ?v90) (some 90) rfl rfl (by kernel_rfl) (by kernel_rfl) (by kernel_rfl) (fun _ _ _ h => h) (Or.inl ⟨by rfl, ?hy90⟩) (by assumption) ?_
          case hy90 => (intro w' hSw; (try dsimp only at hSw); go_simp; try (with_reducible rfl))
          simp only [Act.put, List.setIfInBounds_toArray, List.set_cons_zero, List.set_cons_succ]
          refine takeD (i := 6) (v := ?v91) (some 91) rfl rfl (by kernel_rfl) (by kernel_rfl) (by kernel_rfl) (fun _ _ _ h => h) (Or.inl ⟨by rfl, ?hy91⟩) (by assumption) ?_
          case hy91 => (intro w' hSw; (try dsimp only at hSw); go_simp; try (with_reducible rfl))
          simp only [Act.put, List.setIfInBounds_toArray, List.set_cons_zero, List.set_cons_succ]
          refine takeD (i := 7) (v := (Value.int .i64 d)) (some 92) rfl rfl (by kernel_rfl) (by kernel_rfl) (by kernel_rfl) (fun _ _ _ h => h) (Or.inl ⟨by rfl, ?hy92⟩) (by assumption) ?_
          case hy92 => (intro w' hSw; (try dsimp only at hSw); go_simp; try (with_reducible rfl))
          simp only [Act.put, List.setIfInBounds_toArray, List.set_cons_zero, List.set_cons_succ]
          refine takeD (i := 9) (v := ?v94) (some 94) rfl rfl (by kernel_rfl) (by kernel_rfl) (by kernel_rfl) (fun _ _ _ h => h) (Or.inl ⟨by rfl, ?hy94⟩) (by assumption) ?_
          case hy94 => (intro w' hSw; (try dsimp only at hSw); go_simp; try (with_reducible rfl))
          simp only [Act.put, List.setIfInBounds_toArray, List.set_cons_zero, List.set_cons_succ]
          refine takeD (i := 10) (v := (Value.int .i64 mm)) (some 95) rfl rfl (by kernel_rfl) (by kernel_rfl) (by kernel_rfl) (fun _ _ _ h => h) (Or.inl ⟨by rfl, ?hy95⟩) (by assumption) ?_
          case hy95 => (intro w' hSw; (try dsimp only at hSw); go_simp; try (with_reducible rfl))
          simp only [Act.put, List.setIfInBounds_toArray, List.set_cons_zero, List.set_cons_succ]
          refine takeD (i := 11) (v := ?v96) (some 96) rfl rfl (by kernel_rfl) (by kernel_rfl) (by kernel_rfl) (fun _ _ _ h => h) (Or.inl ⟨by rfl, ?hy96⟩) (by assumption) ?_
          case hy96 => (intro w' hSw; (try dsimp only at hSw); go_simp; try (with_reducible rfl))
          simp only [Act.put, List.setIfInBounds_toArray, List.set_cons_zero, List.set_cons_succ]
          refine wpAnyH_ready (rs := [8]) (by kernel_rfl) (by simp) (AllReadyH.cons rfl (fun K hK => ?_) AllReadyH.nil)
          refine step_look (some 93) rfl rfl 60 _ _ false rfl (.map (some r)) (.int .i64 d) (.int .i64 g) (by rfl) (by rfl) HL5.out ?_
          refine hK.out _ _ HM6.out (fun hHeld2 => ?_)
          clear hK K hHeld
          have hHeld := hHeld2
          clear hHeld2
          try simp only [Act.put, List.setIfInBounds_toArray, List.set_cons_zero, List.set_cons_succ]
          refine wpAnyH_ready (rs := [12]) (by kernel_rfl) (by simp) (AllReadyH.cons rfl (fun K hK => ?_) AllReadyH.nil)
          go_simp
          with_reducible refine HSB.out.mono ?_
          rintro r W6 ⟨rfl, hV6, ho6⟩
          have HV6 := Hid3.mk hV6
          have HA6 := Hid3.mk ho6
          have HM7 := Hid3.mk HV6.out.mem
          clear hV6 ho6
          refine hK.out _ _ HM7.out (fun hHeld2 => ?_)
          clear hK K hHeld
          have hHeld := hHeld2
          clear hHeld2
          try simp only [Act.put, List.setIfInBounds_toArray, List.set_cons_zero, List.set_cons_succ]
          refine wpAnyH_done (by kernel_rfl) ?_ _
          go_wp2
          go_roundw
          case rel => exact ⟨n + 1, by omega, by go_num, ⟨HV6.out, H5.out.2.drew.trans (Only.v HA6.out)⟩⟩
          case measure => simp [intOf]; omega
        · have hltz : ¬ (n : Int) < (m : Int) := by omega
          have e : n = m := by omega
          subst e
          go_wp2
          go_ret
          exact ⟨rfl, H5.out⟩
end Go.Proofs.Ytfmcoibpbcheiaa
