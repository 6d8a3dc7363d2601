/- The program's vm: Fill and Poke of one byte, where it may. -/
import Derived.Test.YtfmcoibpbcheiaaVmG
namespace Go.Proofs.Ytfmcoibpbcheiaa
open Go.RowKit Go.Maps
set_option linter.unusedVariables false
set_option maxRecDepth 100000
theorem look_runF {w : World} {r : Nat} {ik : IntKind} {es : List (Int × Value)} (h : Mp w r ik es) {t kt et : TypeId} (ht : Try.prog.underlying t = some (.map kt et)) (hk : Try.prog.underlying kt = some (.int ik)) {z : Value} (hz : (zeroValue et).run Try.prog w = .ok z w) (k : Int) :
    (Instr.lookup t (.map (some r)) (.int ik k) false).run Try.prog w = .ok ((lk es k).getD z) w := by
  obtain ⟨arr, c, h1, h2, _⟩ := h
  obtain ⟨o, h3, h4⟩ := find_int ik k arr.toList es 0 h2
  simp only [Instr.lookup, Sem.run_bind, run_underlying ht, Result.andThen_ok, get_map h1, Sem.run_pure, key_ok hk, Instr.findKey, run_underlying hk, h3]
  rcases h4 with ⟨rfl, h5, _⟩ | ⟨j, v, rfl, h5, _⟩
  · simp [hz, h5]
  · simp [h5]
theorem arith512 (a : Nat) (ha : a < 512) : Int.tdiv (a : Int) 32 = ((a / 32 : Nat) : Int) ∧ Int.tmod (a : Int) 32 = ((a % 32 : Nat) : Int) ∧ wrap64 ((a / 32 : Nat) : Int) = ((a / 32 : Nat) : Int) ∧ wrap64 ((a % 32 : Nat) : Int) = ((a % 32 : Nat) : Int) ∧ IntKind.i64.wrap ((a : Int) + 1) = (a : Int) + 1 ∧ IntKind.i64.wrap (a : Int) = (a : Int) ∧ IntKind.i64.wrap (((a / 32 : Nat) : Int) + 1) = ((a / 32 : Nat) : Int) + 1 ∧ IntKind.i64.wrap ((a / 32 : Nat) : Int) = ((a / 32 : Nat) : Int) ∧ IntKind.i64.wrap ((a % 32 : Nat) : Int) = ((a % 32 : Nat) : Int) := by
  refine ⟨?_, ?_, ?_, ?_, ?_, ?_, ?_, ?_, ?_⟩
  · rw [Int.tdiv_eq_ediv_of_nonneg (by omega)]; omega
  · rw [Int.tmod_eq_emod_of_nonneg (by omega)]; omega
  · unfold wrap64; omega
  · unfold wrap64; omega
  · rw [IntKind.wrap_i64]; omega
  · rw [IntKind.wrap_i64]; omega
  · rw [IntKind.wrap_i64]; omega
  · rw [IntKind.wrap_i64]; omega
  · rw [IntKind.wrap_i64]; omega
theorem lookQ {w : World} {r : Nat} {f : Int → Option Int} (h : Sp w r f) (k : Int) : (Instr.lookup 60 (.map (some r)) (.int .i64 k) false).run Try.prog w = .ok (.int .i64 ((f k).getD 0)) w := by
  obtain ⟨es, hm, _, hl⟩ := h
  have := look_runF hm (t := 60) Try.underlying60 Try.underlying3 (zeroI w) k
  rw [hl] at this
  rw [this]
  cases f k <;> rfl
/-- A page that goes to be written: what alone comes to. -/
structure Al (B : Nat) (l : Lo) (s : Vs) (f : Int) (g : Nat) (s' : Vs) : Prop where
  c : ∀ W, Vb B W l s → Calls Try.prog 42 #[.pointer (some ⟨l.b, 6, none⟩), .int .i64 f] W fun r w' => r = .returned (.int .i64 g) ∧ Vb B w' l s' ∧ Apart (XS l) W w'
  has : s'.has = s.has
  pg : s'.pg = s.pg
  n : s'.n = s.n
def pkS (s' : Vs) (p : Fin 6) (a g : Nat) (b : Int) : Vs := { s' with pg := upF s'.pg p (upI (s'.pg p) ((a / 32 : Nat) : Int) (some (g : Int))), L := sbL s'.n s'.L g (a % 32 : Nat) b }
theorem XS.v {l : Lo} {s : Vs} {w w' : World} (h : Apart (XS l) w w') : Apart (XV l s) w w' := ⟨h.os, h.tape, h.output, h.size, fun k hk hx => h.block k hk (fun e => hx (e.elim .inl (fun e => .inr (.inl e))))⟩
theorem XB.v {l : Lo} {s : Vs} {p : Fin 6} (hp : s.has p = true) {w w' : World} (h : Apart (XB (l.r p)) w w') : Apart (XV l s) w w' := ⟨h.os, h.tape, h.output, h.size, fun k hk hx => h.block k hk (fun e => hx (.inr (.inr ⟨p, hp, e⟩)))⟩
theorem Only.v {l : Lo} {s : Vs} {w w' : World} (h : Only l.m w w') : Apart (XV l s) w w' := XS.v h.sm
set_option maxHeartbeats 8000000 in
theorem fill_one (B : Nat) (l : Lo) (s s' : Vs) (N : Nat) (p : Fin 6) (a g gb : Nat) (f b : Int) (w : World) (h : Vb B w l s) (hN : s.n = N) (hp : s.has p = true) (ha : a < 512) (hn : s.pg p ((a / 32 : Nat) : Int) = some f) (hf : f = -1 ∨ (0 ≤ f ∧ f < 64)) (hg : g < N) (hlf : ndI s f ≤ zrs (fun k => s.rf.getD k 0) N) (hAl : Al B l s f g s')
    (cb : w.cell? ⟨gb, 0, none⟩ = some (.int .u8 b)) (hgb : gb < w.heap.size) (hgx : ¬ XV l s gb) :
    Calls Try.prog 15 #[.pointer (some ⟨l.b, 0, none⟩), .int .i64 p.1, .int .i64 a, .slice (some ⟨gb, 0, none⟩) 1 1] w fun r w' => r = .returned (.int .i64 0) ∧ Vb B w' l (pkS s' p a g b) ∧ Apart (XV l s) w w' := by
  have cO := of_ok B l s p w h hp
  have cP := addressed_any a 1 w
  rw [decide_eq_true (by omega : (0 : Int) ≤ (a : Int)), decide_eq_true (by omega : (a : Int) < 512), decide_eq_true (by omega : (1 : Int) ≤ 512 - (a : Int))] at cP
  have cN := needs_one B l s p (a / 32) f w h hp (by omega) hn hf
  have cF := left_any B l s N hN w h
  have hlf' : ¬ (zrs (fun k => s.rf.getD k 0) N : Int) < ndI s f := by omega
  have hzN : (zrs (fun k => s.rf.getD k 0) N : Int) ≤ 64 := by
    have := zrs_le (fun k => s.rf.getD k 0) N
    have := h.m.hi
    omega
  generalize (zrs (fun k => s.rf.getD k 0) N : Int) = z at *
  generalize ndI s f = nd at *
  have hp' : s'.has p = true := by rw [hAl.has]; exact hp
  have H17 : Hid3 (∀ W, Below w.heap.size w W → (Instr.lookup 60 (.map (some (l.r p))) (.int .i64 ((a / 32 : Nat) : Int)) false).run Try.prog W = .ok (.int .i64 f) W ∧ Calls Try.prog 42 #[.pointer (some ⟨l.b, 6, none⟩), .int .i64 f] W fun r w' => r = .returned (.int .i64 g) ∧ Vb B w' l s' ∧ Apart (XS l) W w') := ⟨fun W k => ⟨by
    have e := lookQ ((h.below k).sp p hp).2 ((a / 32 : Nat) : Int)
    rw [hn] at e
    exact e, hAl.c W (h.below k)⟩⟩
  have HU : Hid3 (∀ W, Vb B W l s' → ∃ W', (Instr.mapUpdate 60 (.map (some (l.r p))) (.int .i64 ((a / 32 : Nat) : Int)) (.int .i64 (g : Int))).run Try.prog W = .ok () W' ∧ Vb B W' l { s' with pg := upF s'.pg p (upI (s'.pg p) ((a / 32 : Nat) : Int) (some (g : Int))) } ∧ Apart (XB (l.r p)) W W') := ⟨fun W k => by
    obtain ⟨W', u1, u2, u3⟩ := stepP (k.sp p hp').2 ((a / 32 : Nat) : Int) (g : Int)
    exact ⟨W', u1, k.respace p hp' _ u3 u2, u3⟩⟩
  have HE : Hid3 (∀ W, Vb B W l { s' with pg := upF s'.pg p (upI (s'.pg p) ((a / 32 : Nat) : Int) (some (g : Int))) } → (Instr.lookup 60 (.map (some (l.r p))) (.int .i64 ((a / 32 : Nat) : Int)) false).run Try.prog W = .ok (.int .i64 (g : Int)) W ∧ Calls Try.prog 43 #[.pointer (some ⟨l.m, 0, none⟩), .int .i64 g, .int .i64 (a % 32 : Nat), .int .u8 b] W fun e w' => e = .returned (.int .i64 0) ∧ Mem w' l.m s'.n (sbL s'.n s'.L g (a % 32 : Nat) b) ∧ Only l.m W w') := ⟨fun W k => ⟨by
    have e := lookQ (k.sp p hp').2 ((a / 32 : Nat) : Int)
    have e9 : (upF s'.pg p (upI (s'.pg p) ((a / 32 : Nat) : Int) (some (g : Int)))) p ((a / 32 : Nat) : Int) = some (g : Int) := by rw [upF_same]; exact if_pos rfl
    have e10 := e.trans (by rw [show ({ s' with pg := upF s'.pg p (upI (s'.pg p) ((a / 32 : Nat) : Int) (some (g : Int))) } : Vs).pg p ((a / 32 : Nat) : Int) = some (g : Int) from e9])
    exact e10, by
    have e := setbyte_any l.m s'.n g (a % 32 : Nat) b s'.L W k.m
    have ei : inE s'.n g (a % 32 : Nat) 1 = 0 := by
      have hnn := hAl.n
      unfold inE inB
      rw [if_pos (decide_eq_true (by omega))]
    rw [ei] at e
    exact e⟩⟩
  have HXg : Hid3 (∀ W, Apart (XV l s) w W → W.cell? ⟨gb, 0, none⟩ = some (.int .u8 b)) := ⟨fun W k => (World.cell?_of_block (w := w) (k.block gb hgb hgx)).trans cb⟩
  have Hp := Hid3.mk hp
  obtain ⟨e2, e3, e1, e4, e5, e6, e7, e8, e9⟩ := arith512 a ha
  unfold pkS
  generalize ((a / 32 : Nat) : Int) = d at *
  generalize ((a % 32 : Nat) : Int) = m at *
  generalize (a : Int) = x at *
  have hd1 : ¬ (d + 1 ≤ d) := by omega
  clear h hAl hn hf hp hp' cb hlf hN hg hgx hgb ha
  generalize hr : l.r p = r at *
  go_enter Try.func15, Try.ntmps15
  go_wp2_with fail
  refine cO.mono ?_
  rintro r0 W ⟨rfl, hW⟩
  rw [hW]
  clear cO hW
  go_wp2_with fail
  refine cP.mono ?_
  rintro r0 W ⟨rfl, hW⟩
  rw [hW]
  clear cP hW
  go_wp2_with fail
  refine cN.mono ?_
  rintro r0 W ⟨rfl, hW⟩
  rw [hW]
  clear cN hW
  go_wp2_with fail
  refine cF.mono ?_
  rintro r0 W2 ⟨rfl, hB2⟩
  have HB1 := Hid3.mk hB2
  clear cF hB2
  go_wp2
  go_loopw [14] (fun i W => (i = .int .i64 d ∧ W = W2) ∨ (i = .int .i64 (d + 1) ∧ Hid3 (Vb B W l { s' with pg := upF s'.pg p (upI (s'.pg p) d (some (g : Int))) } ∧ Apart (XV l s) w W))) (fun i _ => (d + 1 - intOf i).toNat)
  case atStart => exact .inl ⟨rfl, rfl⟩
  case round =>
    obtain ⟨rfl, rfl⟩ | ⟨rfl, H5⟩ := hrel
    · have HB2 := Hid3.mk (HB1.out.trans ((below_drew wr).mono HB1.out.size))
      go_wp2_with fail
      refine wp_region_held_drew (S := fun _ => True) (by kernel_rfl) trivial (fun hHeld => ?_)
      refine takeD (i := 0) (v := ?v66) (some 66) rfl rfl (by kernel_rfl) (by kernel_rfl) (by kernel_rfl) (fun _ _ _ h => h) (Or.inl ⟨by rfl, ?hy66⟩) (by assumption) ?_
      case hy66 => (intro w' hSw; (try dsimp only at hSw); go_simp; try (with_reducible rfl))
      simp only [Act.put, List.setIfInBounds_toArray, List.set_cons_zero, List.set_cons_succ]
      refine takeD (i := 1) (v := ?v67) (some 67) rfl rfl (by kernel_rfl) (by kernel_rfl) (by kernel_rfl) (fun _ _ _ h => h) (Or.inl ⟨by rfl, ?hy67⟩) (by assumption) ?_
      case hy67 => (intro w' hSw; (try dsimp only at hSw); go_simp; try (with_reducible rfl))
      simp only [Act.put, List.setIfInBounds_toArray, List.set_cons_zero, List.set_cons_succ]
      refine takeD (i := 2) (v := ?v68) (some 68) rfl rfl (by kernel_rfl) (by kernel_rfl) (by kernel_rfl) (fun _ _ _ h => h) (Or.inl ⟨by rfl, ?hy68⟩) (by assumption) ?_
      case hy68 => (intro w' hSw; (try dsimp only at hSw); go_simp; try (with_reducible rfl))
      simp only [Act.put, List.setIfInBounds_toArray, List.set_cons_zero, List.set_cons_succ]
      refine takeD (i := 3) (v := ?v69) (some 69) rfl rfl (by kernel_rfl) (by kernel_rfl) (by kernel_rfl) (fun _ _ _ h => h) (Or.inl ⟨by rfl, ?hy69⟩) (by assumption) ?_
      case hy69 => (intro w' hSw; (try dsimp only at hSw); go_simp; try (with_reducible rfl))
      simp only [Act.put, List.setIfInBounds_toArray, List.set_cons_zero, List.set_cons_succ]
      refine takeD (i := 4) (v := ?v70) (some 70) rfl rfl (by kernel_rfl) (by kernel_rfl) (by kernel_rfl) (fun _ _ _ h => h) (Or.inl ⟨by rfl, ?hy70⟩) (by assumption) ?_
      case hy70 => (intro w' hSw; (try dsimp only at hSw); go_simp; try (with_reducible rfl))
      simp only [Act.put, List.setIfInBounds_toArray, List.set_cons_zero, List.set_cons_succ]
      refine takeD (i := 5) (v := ?v71) (some 71) rfl rfl (by kernel_rfl) (by kernel_rfl) (by kernel_rfl) (fun _ _ _ h => h) (Or.inl ⟨by rfl, ?hy71⟩) (by assumption) ?_
      case hy71 => (intro w' hSw; (try dsimp only at hSw); go_simp; try (with_reducible rfl))
      simp only [Act.put, List.setIfInBounds_toArray, List.set_cons_zero, List.set_cons_succ]
      refine takeD (i := 6) (v := ?v72) (some 72) rfl rfl (by kernel_rfl) (by kernel_rfl) (by kernel_rfl) (fun _ _ _ h => h) (Or.inl ⟨by rfl, ?hy72⟩) (by assumption) ?_
      case hy72 => (intro w' hSw; (try dsimp only at hSw); go_simp; try (with_reducible rfl))
      simp only [Act.put, List.setIfInBounds_toArray, List.set_cons_zero, List.set_cons_succ]
      refine wpAnyH_ready (rs := [7]) (by kernel_rfl) (by simp) (AllReadyH.cons rfl (fun K hK => ?_) AllReadyH.nil)
      refine step_look (some 73) rfl rfl 60 _ _ false rfl _ _ _ rfl rfl (H17.out _ HB2.out).1 ?_
      refine hK.out _ _ trivial (fun hHeld2 => ?_)
      clear hK K hHeld
      have hHeld := hHeld2
      clear hHeld2
      try simp only [Act.put, List.setIfInBounds_toArray, List.set_cons_zero, List.set_cons_succ]
      refine wpAnyH_ready (rs := [8]) (by kernel_rfl) (by simp) (AllReadyH.cons rfl (fun K hK => ?_) AllReadyH.nil)
      go_simp
      with_reducible refine ((H17.out _ HB2.out).2).mono ?_
      rintro r W3 ⟨rfl, hV3, hA3⟩
      have HV3 := Hid3.mk hV3
      have HA3 := Hid3.mk hA3
      clear hV3 hA3
      obtain ⟨W4, u1, u2, u3⟩ := HU.out W3 HV3.out
      have HV4 := Hid3.mk u2
      have HA4 := Hid3.mk u3
      clear u2 u3
      refine hK.out _ _ trivial (fun hHeld2 => ?_)
      clear hK K hHeld
      have hHeld := hHeld2
      clear hHeld2
      try simp only [Act.put, List.setIfInBounds_toArray, List.set_cons_zero, List.set_cons_succ]
      refine wpAnyH_ready (rs := [9]) (by kernel_rfl) (by simp) (AllReadyH.cons rfl (fun K hK => ?_) AllReadyH.nil)
      refine step_mupd none rfl rfl 60 _ _ _ rfl _ _ _ rfl rfl rfl u1 ?_
      clear u1
      refine hK.out _ _ trivial (fun hHeld2 => ?_)
      clear hK K hHeld
      have hHeld := hHeld2
      clear hHeld2
      try simp only [Act.put]
      refine wpAnyH_done (by kernel_rfl) ?_ _
      go_wp2
      go_roundw
      case rel => exact .inr ⟨by first | rfl | trivial, ⟨HV4.out, ((Apart.of_below HB2.out).trans (XS.v HA3.out)).trans (XB.v Hp.out (by rw [hr]; exact HA4.out))⟩⟩
      case measure => simp [intOf]; omega
    · go_wp2
      go_loopw [77] (fun i W => (i = .int .i64 0 ∧ Hid3 (Vb B W l { s' with pg := upF s'.pg p (upI (s'.pg p) d (some (g : Int))) } ∧ Apart (XV l s) w W)) ∨ (i = .int .i64 1 ∧ Hid3 (Vb B W l { s' with pg := upF s'.pg p (upI (s'.pg p) d (some (g : Int))), L := sbL s'.n s'.L g m b } ∧ Apart (XV l s) w W))) (fun i _ => (1 - intOf i).toNat)
      case atStart => exact .inl ⟨rfl, H5⟩
      case round =>
        obtain ⟨rfl, H5⟩ | ⟨rfl, H5⟩ := hrel
        · have c0 := HXg.out _ H5.out.2
          have HV5 := Hid3.mk (H5.out.1.below (below_drew _))
          have HM6 := Hid3.mk HV5.out.mem
          have HL5 := Hid3.mk (HE.out _ HV5.out).1
          have HSB := Hid3.mk (HE.out _ HV5.out).2
          go_wp2_with fail
          refine wp_region_held_drew (S := fun w' => w'.cell? ⟨l.b, 6, none⟩ = some (.pointer (some ⟨l.m, 0, none⟩))) (by kernel_rfl) HM6.out (fun hHeld => ?_)
          refine takeD (i := 0) (v := ?v85) (some 85) rfl rfl (by kernel_rfl) (by kernel_rfl) (by kernel_rfl) (fun _ _ _ h => h) (Or.inl ⟨by rfl, ?hy85⟩) (by assumption) ?_
          case hy85 => (intro w' hSw; (try dsimp only at hSw); go_simp; try (with_reducible rfl))
          simp only [Act.put, List.setIfInBounds_toArray, List.set_cons_zero, List.set_cons_succ]
          refine takeD (i := 1) (v := ?v86) (some 86) rfl rfl (by kernel_rfl) (by kernel_rfl) (by kernel_rfl) (fun _ _ _ h => h) (Or.inl ⟨by rfl, ?hy86⟩) (by assumption) ?_
          case hy86 => (intro w' hSw; (try dsimp only at hSw); go_simp; try (with_reducible rfl))
          simp only [Act.put, List.setIfInBounds_toArray, List.set_cons_zero, List.set_cons_succ]
          refine takeD (i := 2) (v := ?v87) (some 87) rfl rfl (by kernel_rfl) (by kernel_rfl) (by kernel_rfl) (fun _ _ _ h => h) (Or.inl ⟨by rfl, ?hy87⟩) (by assumption) ?_
          case hy87 => (intro w' hSw; (try dsimp only at hSw); go_simp; try (with_reducible rfl))
          simp only [Act.put, List.setIfInBounds_toArray, List.set_cons_zero, List.set_cons_succ]
          refine takeD (i := 3) (v := ?v88) (some 88) rfl rfl (by kernel_rfl) (by kernel_rfl) (by kernel_rfl) (fun _ _ _ h => h) (Or.inl ⟨by rfl, ?hy88⟩) (by assumption) ?_
          case hy88 => (intro w' hSw; (try dsimp only at hSw); go_simp; try (with_reducible rfl))
          simp only [Act.put, List.setIfInBounds_toArray, List.set_cons_zero, List.set_cons_succ]
          refine takeD (i := 4) (v := ?v89) (some 89) rfl rfl (by kernel_rfl) (by kernel_rfl) (by kernel_rfl) (fun _ _ _ h => h) (Or.inl ⟨by rfl, ?hy89⟩) (by assumption) ?_
          case hy89 => (intro w' hSw; (try dsimp only at hSw); go_simp; try (with_reducible rfl))
          simp only [Act.put, List.setIfInBounds_toArray, List.set_cons_zero, List.set_cons_succ]
          refine takeD (i := 5) (v := ?v90) (some 90) rfl rfl (by kernel_rfl) (by kernel_rfl) (by kernel_rfl) (fun _ _ _ h => h) (Or.inl ⟨by rfl, ?hy90⟩) (by assumption) ?_
          case hy90 => (intro w' hSw; (try dsimp only at hSw); go_simp; try (with_reducible rfl))
          simp only [Act.put, List.setIfInBounds_toArray, List.set_cons_zero, List.set_cons_succ]
          refine takeD (i := 6) (v := ?v91) (some 91) rfl rfl (by kernel_rfl) (by kernel_rfl) (by kernel_rfl) (fun _ _ _ h => h) (Or.inl ⟨by rfl, ?hy91⟩) (by assumption) ?_
          case hy91 => (intro w' hSw; (try dsimp only at hSw); go_simp; try (with_reducible rfl))
          simp only [Act.put, List.setIfInBounds_toArray, List.set_cons_zero, List.set_cons_succ]
          refine takeD (i := 7) (v := (Value.int .i64 d)) (some 92) rfl rfl (by kernel_rfl) (by kernel_rfl) (by kernel_rfl) (fun _ _ _ h => h) (Or.inl ⟨by rfl, ?hy92⟩) (by assumption) ?_
          case hy92 => (intro w' hSw; (try dsimp only at hSw); go_simp; try (with_reducible rfl))
          simp only [Act.put, List.setIfInBounds_toArray, List.set_cons_zero, List.set_cons_succ]
          refine takeD (i := 9) (v := ?v94) (some 94) rfl rfl (by kernel_rfl) (by kernel_rfl) (by kernel_rfl) (fun _ _ _ h => h) (Or.inl ⟨by rfl, ?hy94⟩) (by assumption) ?_
          case hy94 => (intro w' hSw; (try dsimp only at hSw); go_simp; try (with_reducible rfl))
          simp only [Act.put, List.setIfInBounds_toArray, List.set_cons_zero, List.set_cons_succ]
          refine takeD (i := 10) (v := (Value.int .i64 m)) (some 95) rfl rfl (by kernel_rfl) (by kernel_rfl) (by kernel_rfl) (fun _ _ _ h => h) (Or.inl ⟨by rfl, ?hy95⟩) (by assumption) ?_
          case hy95 => (intro w' hSw; (try dsimp only at hSw); go_simp; try (with_reducible rfl))
          simp only [Act.put, List.setIfInBounds_toArray, List.set_cons_zero, List.set_cons_succ]
          refine takeD (i := 11) (v := ?v96) (some 96) rfl rfl (by kernel_rfl) (by kernel_rfl) (by kernel_rfl) (fun _ _ _ h => h) (Or.inl ⟨by rfl, ?hy96⟩) (by assumption) ?_
          case hy96 => (intro w' hSw; (try dsimp only at hSw); go_simp; try (with_reducible rfl))
          simp only [Act.put, List.setIfInBounds_toArray, List.set_cons_zero, List.set_cons_succ]
          refine wpAnyH_ready (rs := [8]) (by kernel_rfl) (by simp) (AllReadyH.cons rfl (fun K hK => ?_) AllReadyH.nil)
          refine step_look (some 93) rfl rfl 60 _ _ false rfl (.map (some r)) (.int .i64 d) (.int .i64 g) (by rfl) (by rfl) HL5.out ?_
          refine hK.out _ _ HM6.out (fun hHeld2 => ?_)
          clear hK K hHeld
          have hHeld := hHeld2
          clear hHeld2
          try simp only [Act.put, List.setIfInBounds_toArray, List.set_cons_zero, List.set_cons_succ]
          refine wpAnyH_ready (rs := [12]) (by kernel_rfl) (by simp) (AllReadyH.cons rfl (fun K hK => ?_) AllReadyH.nil)
          go_simp
          with_reducible refine HSB.out.mono ?_
          rintro r W6 ⟨rfl, hm6, ho6⟩
          have HV6 := Hid3.mk (HV5.out.remem _ ho6 hm6)
          have HA6 := Hid3.mk ho6
          have HM7 := Hid3.mk HV6.out.mem
          clear hm6 ho6
          refine hK.out _ _ HM7.out (fun hHeld2 => ?_)
          clear hK K hHeld
          have hHeld := hHeld2
          clear hHeld2
          try simp only [Act.put, List.setIfInBounds_toArray, List.set_cons_zero, List.set_cons_succ]
          refine wpAnyH_done (by kernel_rfl) ?_ _
          go_wp2
          go_roundw
          case rel => exact .inr ⟨by first | rfl | trivial, ⟨HV6.out, H5.out.2.drew.trans (Only.v HA6.out)⟩⟩
          case measure => simp [intOf]
        · go_wp2
          go_ret
          exact ⟨rfl, H5.out⟩
set_option maxHeartbeats 2000000 in
theorem poke_one (B : Nat) (l : Lo) (s s' : Vs) (N : Nat) (p : Fin 6) (a g : Nat) (f b : Int) (w : World) (h : Vb B w l s) (hN : s.n = N) (hp : s.has p = true) (ha : a < 512) (hn : s.pg p ((a / 32 : Nat) : Int) = some f) (hf : f = -1 ∨ (0 ≤ f ∧ f < 64)) (hg : g < N) (hlf : ndI s f ≤ zrs (fun k => s.rf.getD k 0) N) (hAl : Al B l s f g s') :
    Calls Try.prog 23 #[.pointer (some ⟨l.b, 0, none⟩), .int .i64 p.1, .int .i64 a, .int .u8 b] w fun r w' => r = .returned (.int .i64 0) ∧ Vb B w' l (pkS s' p a g b) ∧ Apart (XV l s) w w' := by
  have hX : ∀ k, XV l s k → k < w.heap.size := fun k hk => by
    rcases hk with rfl | rfl | ⟨q, hq, rfl⟩
    · exact h.c.lt
    · exact h.m.lt
    · exact (h.sp q hq).2.lt
  have HF : Hid3 (∀ W gb, Below w.heap.size w W → w.heap.size ≤ gb → gb < W.heap.size → W.cell? ⟨gb, 0, none⟩ = some (.int .u8 b) → Calls Try.prog 15 #[.pointer (some ⟨l.b, 0, none⟩), .int .i64 p.1, .int .i64 a, .slice (some ⟨gb, 0, none⟩) 1 1] W fun r w' => r = .returned (.int .i64 0) ∧ Vb B w' l (pkS s' p a g b) ∧ Apart (XV l s) W w') := ⟨fun W gb k h1 h2 h3 => fill_one B l s s' N p a g gb f b W (h.below k) hN hp ha hn hf hg hlf hAl h3 h2 (fun e => absurd (hX _ e) (by omega))⟩
  clear h hN hp hn hf hg hlf hAl hX
  go_enter Try.func23, Try.ntmps23
  go_wp2_with fail
  refine (HF.out _ _ (below_new w _) (Nat.le_refl _) (by simp) (by simp [go_sem])).mono ?_
  rintro r W ⟨rfl, hV, hA⟩
  have HV := Hid3.mk hV
  have HA := Hid3.mk hA
  clear hV hA
  go_wp2
  go_ret
  exact ⟨rfl, HV.out, (Apart.of_below (below_new w _)).trans HA.out⟩
end Go.Proofs.Ytfmcoibpbcheiaa
