/- AreaDead: the walk. -/
import Derived.Test.YtgoofonogdhhoaaLawArA
namespace Go.Proofs.Ytgoofonogdhhoaa
open Go.RowKit Go.Maps
set_option linter.unusedVariables false
set_option maxRecDepth 100000
/-- What ended stays so. -/
theorem dead_facts {q : Ar} (ok : q.Ok) (hal : q.al = false) (u v : Int) : retE q = 9 ∧ retQ q = q ∧ setE q = 9 ∧ (∀ s, setQ s q = q) ∧ killQ q = q ∧ uQ u v q = q ∧ (upE u q = 9 ∨ upE u q = 2) ∧ (enQ u v q).al = false ∧ q.s = rg0 ∧ q.kp = [] := by
  obtain ⟨h1, h2⟩ := ok.2 hal
  refine ⟨by rw [retE, if_pos h2], by rw [retQ, h2]; rfl, by simp [setE, hal], fun s => by simp [setQ, hal], by simp [killQ, hal], ?_, ?_, ?_, h1, h2⟩
  · unfold uQ
    split
    · rfl
    · rename_i k _
      rw [if_neg (by simp [readyE, hal])]
  · unfold upE
    split
    · exact .inr rfl
    · exact .inl (by simp [readyE, hal])
  · unfold enQ
    split
    · exact hal
    · exact hal
theorem killed {q : Ar} : (killQ q).al = false := by
  unfold killQ
  split
  · rfl
  · rename_i h
    cases e : q.al with
    | true => exact (h e).elim
    | false => rfl
set_option maxHeartbeats 4000000 in
theorem dead_law (v v2 : Value) (l l2 : List Dd) (w : World) (hd : Dds w v l) (hok : ∀ d ∈ l, d.Ok) (hd2 : Dds w v2 l2) (hok2 : ∀ d ∈ l2, d.Ok) : Calls Try.prog 6 #[v, v2] w fun e w' => e = .returned (.bool true) ∧ Below w.heap.size w w' := by
  have cP := play_any rg0 v l w hd hok
  change Calls _ _ #[.agg #[.int .u16 0, .int .u16 0, .int .u16 0, .int .u16 0, .int .u16 0, .int .u16 0, .int .u16 0, .int .u16 0, .int .u16 0], _] _ _ at cP
  generalize playQ (l.take 40) (ar0 rg0) = q at *
  obtain ⟨ad, cap, rfl, hcell⟩ := id hd2
  have HD : Hid (Dds w (.slice ad l2.length cap) l2) := hd2
  have HK : Hid (∀ d ∈ l2, d.Ok) := hok2
  clear hd hok hd2 hcell hok2
  go_enter Try.func6, Try.ntmps6
  go_wp2_with fail
  refine cP.mono ?_
  rintro e W1 ⟨ab, rb, rfl, hT, hB1⟩
  have cL := live_any W1
  have HT1 : Hid (Two w.heap.size W1 ab rb q) := hT
  clear cP hT
  go_wp2_with fail
  refine cL.mono ?_
  rintro e W2 ⟨rfl, hB2⟩
  have HT2 : Hid3 (Two w.heap.size W2 ab rb q) := ⟨HT1.out.below hB2⟩
  have HB2 : Hid (Below w.heap.size w W2) := hB1.trans (hB2.mono hB1.size)
  clear cL hB2 hB1 HT1
  have cK := kill_any _ ab q W2 HT2.out.t
  go_wp2_with fail
  refine cK.mono ?_
  rintro e W3 ⟨rfl, hS3⟩
  have HA3 : Hid3 (Ac w.heap.size W3 ab (killQ q)) := ⟨hS3.a⟩
  have HB3 : Hid3 (Below w.heap.size w W3) := ⟨HB2.out.trans (hS3.belowB HB2.out.size)⟩
  clear cK hS3 HT2 HB2
  go_wp2_with fail
  go_loopw [8] (fun sx wr => ∃ (i : Nat) (q' : Ar), i ≤ l2.length ∧ i ≤ 12 ∧ sx = .int .i64 i ∧ Hid3 (q'.al = false) ∧ Hid3 (Ac w.heap.size wr ab q') ∧ Hid3 (Below w.heap.size w wr)) (fun sx _ => 12 - (intOf sx).toNat)
  case atStart => exact ⟨0, _, Nat.zero_le _, by omega, rfl, ⟨killed⟩, HA3, HB3⟩
  case round =>
    obtain ⟨i, q', hil, hi6, rfl, Hal, HA, HB⟩ := hrel
    have hsz := HB.out.size
    by_cases hgo : i < l2.length ∧ i < 12
    · obtain ⟨hlt, h60⟩ := hgo
      have hltz : (i : Int) < (l2.length : Int) := by omega
      have h60z : (i : Int) < 12 := by omega
      obtain ⟨_, _, e0, hc⟩ := HD.out.below HB.out
      injection e0 with e1 e2 e3
      obtain ⟨g, off, e4, c0⟩ := hc i l2[i] (List.getElem?_eq_getElem hlt)
      rw [← e1] at e4
      subst e4
      have hu0 := HK.out _ (List.getElem_mem hlt)
      have hld := load_deed c0
      clear hc e1 e2 e3 c0
      generalize l2[i] = d at *
      obtain ⟨kk, uu, wd, ⟨s0, s1, s2, s3, s4, s5, s6, s7, s8⟩⟩ := d
      have hu0 : 0 ≤ uu := hu0
      change (Instr.loadAt _ _).run _ _ = .ok (.agg #[.int .i64 kk, .int .u8 uu, .int .u16 wd, .int .u16 s0, .int .u16 s1, .int .u16 s2, .int .u16 s3, .int .u16 s4, .int .u16 s5, .int .u16 s6, .int .u16 s7, .int .u16 s8]) _ at hld
      have hX := below_new wr (.cells #[.int .i64 kk, .int .u8 uu, .int .u16 wd, .int .u16 s0, .int .u16 s1, .int .u16 s2, .int .u16 s3, .int .u16 s4, .int .u16 s5, .int .u16 s6, .int .u16 s7, .int .u16 s8] 37)
      have HX := Hid3.mk hX
      have hAx := HA.out.below hX
      have hlx := HA.out.lt
      have HBx : Hid3 (Below w.heap.size w (wr.alloc (.cells #[.int .i64 kk, .int .u8 uu, .int .u16 wd, .int .u16 s0, .int .u16 s1, .int .u16 s2, .int .u16 s3, .int .u16 s4, .int .u16 s5, .int .u16 s6, .int .u16 s7, .int .u16 s8] 37))) := ⟨HB.out.trans (hX.mono hsz)⟩
      have HC := Hid3.mk (Cl.new wr 37 [.int .i64 kk, .int .u8 uu, .int .u16 wd, .int .u16 s0, .int .u16 s1, .int .u16 s2, .int .u16 s3, .int .u16 s4, .int .u16 s5, .int .u16 s6, .int .u16 s7, .int .u16 s8])
      have cE := dentry_any _ ab q' uu wd _ hAx hu0
      have cU := dup_any _ ab q' uu wd _ hAx hu0
      obtain ⟨r1, r2, r3, r4, r5, r6, r7, r8, r9, r10⟩ := dead_facts HA.out.ok Hal.out uu wd
      have H8 := Hid3.mk r8
      have cR := fun W (hW : Ac w.heap.size W ab q') => dret_any _ ab q' W hW
      have cS := fun W (hW : Ac w.heap.size W ab q') => set_any _ ab q' ⟨s0, s1, s2, s3, s4, s5, s6, s7, s8⟩ W hW
      have cK := fun W (hW : Ac w.heap.size W ab q') => kill_any _ ab q' W hW
      change ∀ W, Ac w.heap.size W ab q' → Calls _ _ #[_, .agg #[.int .u16 s0, .int .u16 s1, .int .u16 s2, .int .u16 s3, .int .u16 s4, .int .u16 s5, .int .u16 s6, .int .u16 s7, .int .u16 s8]] _ _ at cS
      rw [r1, r2] at cR
      rw [r3, r4] at cS
      rw [r3, r5] at cK
      rw [r6] at cU
      clear hX hAx r1 r2 r3 r4 r5 r6 r9 r10 r8
      by_cases hk0 : kk = 0
      · subst hk0
        clear cU cR cS cK r7
        go_wp2_with (refine wpList_loads rfl 37 _ rfl _ (.agg #[.int .i64 0, .int .u8 uu, .int .u16 wd, .int .u16 s0, .int .u16 s1, .int .u16 s2, .int .u16 s3, .int .u16 s4, .int .u16 s5, .int .u16 s6, .int .u16 s7, .int .u16 s8]) rfl hld ?_)
        refine cE.mono ?_
        rintro e W4 ⟨rfl, hS⟩
        have HB4 : Hid3 (Below w.heap.size w W4) := ⟨HBx.out.trans (hS.belowB HBx.out.size)⟩
        have HA4 := Hid3.mk hS.a
        clear cE hS hld
        go_wp2
        go_roundw
        case rel => exact ⟨i + 1, _, by omega, by omega, by go_num, H8, HA4, HB4⟩
        case measure => simp [intOf]; omega
      · have e0 : (kk == 0) = false := by simpa using hk0
        clear cE H8
        generalize upE uu q' = ue at *
        go_wp2_with (refine wpList_loads rfl 37 _ rfl _ (.agg #[.int .i64 kk, .int .u8 uu, .int .u16 wd, .int .u16 s0, .int .u16 s1, .int .u16 s2, .int .u16 s3, .int .u16 s4, .int .u16 s5, .int .u16 s6, .int .u16 s7, .int .u16 s8]) rfl hld ?_)
        refine cU.mono ?_
        rintro e W4 ⟨rfl, hS⟩
        have HB4 : Hid3 (Below w.heap.size w W4) := ⟨HBx.out.trans (hS.belowB HBx.out.size)⟩
        have HA4 := Hid3.mk hS.a
        have hCl := HC.out.stay hS.ap (fun e => by have e' : wr.heap.size = ab := e; omega)
        have HC4 := Hid3.mk hCl
        have cR4 := cR W4 hS.a
        clear cU hS hCl hld cR
        have hxa : wr.heap.size ≠ ab := by omega
        generalize wr.heap.size = x at *
        rcases r7 with rfl | rfl
        · skip
          go_wp2_with fail
          refine cR4.mono ?_
          rintro e W5 ⟨rfl, hS⟩
          have HB5 : Hid3 (Below w.heap.size w W5) := ⟨HB4.out.trans (hS.belowB HB4.out.size)⟩
          have hCl := HC4.out.stay hS.ap (fun e => by have e' : x = ab := e; exact hxa e')
          have cS5 := cS W5 hS.a
          have x3 := hCl.cell 3
          have x4 := hCl.cell 4
          have x5 := hCl.cell 5
          have x6 := hCl.cell 6
          have x7 := hCl.cell 7
          have x8 := hCl.cell 8
          have x9 := hCl.cell 9
          have x10 := hCl.cell 10
          have x11 := hCl.cell 11
          simp only [List.getElem?_cons_succ, List.getElem?_cons_zero] at x3 x4 x5 x6 x7 x8 x9 x10 x11
          clear cR4 hS hCl cS
          go_wp2_with fail
          refine cS5.mono ?_
          rintro e W6 ⟨rfl, hS⟩
          have HB6 : Hid3 (Below w.heap.size w W6) := ⟨HB5.out.trans (hS.belowB HB5.out.size)⟩
          have cK6 := cK W6 hS.a
          clear cS5 hS cK x3 x4 x5 x6 x7 x8 x9 x10 x11
          go_wp2_with fail
          refine cK6.mono ?_
          rintro e W7 ⟨rfl, hS⟩
          have HB7 : Hid3 (Below w.heap.size w W7) := ⟨HB6.out.trans (hS.belowB HB6.out.size)⟩
          have HA7 := Hid3.mk hS.a
          clear cK6 hS
          go_wp2
          go_roundw
          case rel => exact ⟨i + 1, _, by omega, by omega, by go_num, Hal, HA7, HB7⟩
          case measure => simp [intOf]; omega
        · skip
          go_wp2_with fail
          refine cR4.mono ?_
          rintro e W5 ⟨rfl, hS⟩
          have HB5 : Hid3 (Below w.heap.size w W5) := ⟨HB4.out.trans (hS.belowB HB4.out.size)⟩
          have hCl := HC4.out.stay hS.ap (fun e => by have e' : x = ab := e; exact hxa e')
          have cS5 := cS W5 hS.a
          have x3 := hCl.cell 3
          have x4 := hCl.cell 4
          have x5 := hCl.cell 5
          have x6 := hCl.cell 6
          have x7 := hCl.cell 7
          have x8 := hCl.cell 8
          have x9 := hCl.cell 9
          have x10 := hCl.cell 10
          have x11 := hCl.cell 11
          simp only [List.getElem?_cons_succ, List.getElem?_cons_zero] at x3 x4 x5 x6 x7 x8 x9 x10 x11
          clear cR4 hS hCl cS
          go_wp2_with fail
          refine cS5.mono ?_
          rintro e W6 ⟨rfl, hS⟩
          have HB6 : Hid3 (Below w.heap.size w W6) := ⟨HB5.out.trans (hS.belowB HB5.out.size)⟩
          have cK6 := cK W6 hS.a
          clear cS5 hS cK x3 x4 x5 x6 x7 x8 x9 x10 x11
          go_wp2_with fail
          refine cK6.mono ?_
          rintro e W7 ⟨rfl, hS⟩
          have HB7 : Hid3 (Below w.heap.size w W7) := ⟨HB6.out.trans (hS.belowB HB6.out.size)⟩
          have HA7 := Hid3.mk hS.a
          clear cK6 hS
          go_wp2
          go_roundw
          case rel => exact ⟨i + 1, _, by omega, by omega, by go_num, Hal, HA7, HB7⟩
          case measure => simp [intOf]; omega
    · have cV := alive_any _ ab q' wr HA.out
      rw [Hal.out] at cV
      obtain ⟨_, _, _, _, _, _, _, _, r9, r10⟩ := dead_facts HA.out.ok Hal.out 0 0
      have cD := fun W (hW : Ac w.heap.size W ab q') => depth_any _ ab q' W hW
      have cG := fun W (hW : Ac w.heap.size W ab q') => regs_any _ ab q' W hW
      rw [r10] at cD
      rw [r9] at cG
      change ∀ W, Ac w.heap.size W ab q' → Calls _ _ #[_] _ (fun r w' => r = .returned (.agg #[.int .u16 0, .int .u16 0, .int .u16 0, .int .u16 0, .int .u16 0, .int .u16 0, .int .u16 0, .int .u16 0, .int .u16 0]) ∧ Below W.heap.size W w') at cG
      change ∀ W, Ac w.heap.size W ab q' → Calls _ _ #[_] _ (fun r w' => r = .returned (.int .i64 0) ∧ w' = W) at cD
      have eG := eqGuardR
      have eM : ∀ w, (Op.equalIn 10000 26 (.agg #[.int .u16 0, .int .u16 0, .int .u16 0, .int .u16 0, .int .u16 0, .int .u16 0, .int .u16 0, .int .u16 0, .int .u16 0]) (.agg #[.int .u16 0, .int .u16 0, .int .u16 0, .int .u16 0, .int .u16 0, .int .u16 0, .int .u16 0, .int .u16 0, .int .u16 0])).run Try.prog w = .ok true w := fun w => eqRgs w rg0
      clear r9 r10
      by_cases hlt : i < l2.length
      · have hltz : (i : Int) < (l2.length : Int) := by omega
        have h60z : ¬ (i : Int) < 12 := by omega
        go_wp2_with fail
        refine cV.mono ?_
        rintro e W5 ⟨rfl, hB5⟩
        have HB5 : Hid3 (Below w.heap.size w W5) := ⟨HB.out.trans (hB5.mono HB.out.size)⟩
        have cD5 := cD W5 (HA.out.below hB5)
        have cG5 := cG W5 (HA.out.below hB5)
        clear cV hB5 cD cG
        go_wp2_with fail
        refine cD5.mono ?_
        rintro e W6 ⟨rfl, hW⟩
        rw [hW]
        clear cD5 hW
        go_wp2_with fail
        refine cG5.mono ?_
        rintro e W7 ⟨rfl, hB7⟩
        have HB7 : Hid3 (Below w.heap.size w W7) := ⟨HB5.out.trans (hB7.mono HB5.out.size)⟩
        clear cG5 hB7
        go_wp2
        go_ret
        exact ⟨rfl, HB7.out⟩
      · have hltz : ¬ (i : Int) < (l2.length : Int) := by omega
        go_wp2_with fail
        refine cV.mono ?_
        rintro e W5 ⟨rfl, hB5⟩
        have HB5 : Hid3 (Below w.heap.size w W5) := ⟨HB.out.trans (hB5.mono HB.out.size)⟩
        have cD5 := cD W5 (HA.out.below hB5)
        have cG5 := cG W5 (HA.out.below hB5)
        clear cV hB5 cD cG
        go_wp2_with fail
        refine cD5.mono ?_
        rintro e W6 ⟨rfl, hW⟩
        rw [hW]
        clear cD5 hW
        go_wp2_with fail
        refine cG5.mono ?_
        rintro e W7 ⟨rfl, hB7⟩
        have HB7 : Hid3 (Below w.heap.size w W7) := ⟨HB5.out.trans (hB7.mono HB5.out.size)⟩
        clear cG5 hB7
        go_wp2
        go_ret
        exact ⟨rfl, HB7.out⟩
end Go.Proofs.Ytgoofonogdhhoaa
