/- FdsEnds: the walk. -/
import Derived.Test.YtbkpkcndmlapfaaLawFdE
namespace Go.Proofs.Ytbkpkcndmlapfaa
open Go.RowKit Go.Maps
set_option linter.unusedVariables false
set_option maxRecDepth 100000
/-- What stands ahead of each round: as many were opened as were told and as somebody has. -/
structure EnI (w W : World) (tb op td : Nat) : Prop where
  ex : ∃ s, Lt w W tb s ∧ op = td + lv s
theorem EnI.le {w W : World} {tb op td : Nat} (h : EnI w W tb op td) : td ≤ op := h.ex.elim fun s hs => by have := hs.2; omega
theorem EnI.bl {w W : World} {tb op td : Nat} (h : EnI w W tb op td) : Below w.heap.size w W := h.ex.elim fun s hs => hs.1.bl
theorem EnI.low {w W W' : World} {tb op td : Nat} (h : EnI w W tb op td) (k : Below W.heap.size W W') : EnI w W' tb op td := ⟨h.ex.elim fun s hs => ⟨s, hs.1.low k, hs.2⟩⟩
/-- The last rounds: those below P are no more. -/
structure EnJ (w W : World) (tb op td P : Nat) : Prop where
  ex : ∃ s, Lt w W tb s ∧ op = td + lv s ∧ ∀ q : Fin 6, q.1 < P → s.has q = false
theorem EnJ.fin {w W : World} {tb op td : Nat} (h : EnJ w W tb op td 6) : op = td := by
  obtain ⟨s, ⟨⟨L, _, hF⟩, _⟩, h1, h2⟩ := h.ex
  have : lv s = 0 := lvN_zero s.fd (fun p k => hF.b.ok.no p (h2 p p.2) k) _
  omega
set_option maxHeartbeats 4000000 in
theorem ends_law (v : Value) (l : List Dd) (w : World) (hd : Dds w v l) : Calls Try.prog 6 #[v] w fun r w' => r = .returned (.bool true) ∧ Below w.heap.size w w' := by
  have cN := new_any w
  obtain ⟨ad, cap, rfl, hk0, hcell⟩ := id hd
  have HD := Hid3.mk hd
  clear hd hcell hk0
  go_enter Try.func6, Try.ntmps6
  go_wp2_with fail
  refine cN.mono ?_
  rintro r W0 ⟨rfl, ⟨L, eL, hF, _⟩, hB0⟩
  have cL := live_any W0
  have HF := Hid3.mk (And.intro eL (And.intro hF hB0))
  clear cN eL hF hB0
  go_wp2_with fail
  refine cL.mono ?_
  rintro r W1 ⟨rfl, hB1⟩
  have hF1 := HF.out.2.1.below hB1
  have hBB : Below w.heap.size w W1 := HF.out.2.2.trans (hB1.mono HF.out.2.2.size)
  have c1 := begin_ok w.heap.size L fs0 0 W1 hF1 hBB.size rfl
  rw [HF.out.1] at c1
  have HF1 := Hid3.mk (And.intro hF1 hBB)
  clear cL hB1 hF1 hBB
  go_wp2_with fail
  refine c1.mono ?_
  rintro r W2 ⟨rfl, hs⟩
  have H0 : Hid3 (EnI w W2 w.heap.size 0 0) := ⟨⟨begS fs0 0, Lt.step HF.out.1 HF1.out.1 HF1.out.2 hs, by rw [show lv (begS fs0 0) = 0 from lvN_zero _ (fun _ _ => rfl) _]⟩⟩
  clear c1 hs HF HF1
  go_wp2_with fail
  go_loopw [4, 5, 6] (fun s4 s5 s6 wr => ∃ (i op td : Nat), i ≤ l.length ∧ i ≤ 50 ∧ op ≤ i ∧ s4 = .int .i64 op ∧ s5 = .int .i64 td ∧ s6 = .int .i64 i ∧ Hid3 (EnI w wr w.heap.size op td)) (fun _ _ s6 _ => 50 - (intOf s6).toNat)
  case atStart => exact ⟨0, 0, 0, Nat.zero_le _, by omega, Nat.le_refl _, rfl, rfl, rfl, H0⟩
  case round =>
    obtain ⟨i, op, td, hil, hi5, hop, rfl, rfl, rfl, HI⟩ := hrel
    clear H0
    have htd := HI.out.le
    have hgo : (i < l.length ∧ i < 50) ∨ (¬ i < l.length ∨ ¬ i < 50) := by omega
    rcases hgo with ⟨hlt, h50⟩ | hstop
    · have hltz : (i : Int) < (l.length : Int) := by omega
      have h50z : (i : Int) < 50 := by omega
      obtain ⟨_, _, e0, _, hc⟩ := HD.out.below HI.out.bl
      injection e0 with e1 e2 e3
      obtain ⟨g, off, e4, c0, c1, c2, c3, c4, c5, c6⟩ := hc i l[i] (List.getElem?_eq_getElem hlt)
      rw [← e1] at e4
      subst e4
      clear hc e1 e2 e3
      generalize l[i] = d at *
      obtain ⟨k, p, q, n, o⟩ := d
      simp only at c0 c1 c2 c3 c4 c5 c6
      have hX := below_new wr (.cells #[.int .i64 k, .int .i64 p, .int .i64 q, .int .i64 n, .int .u8 o.k, .int .i64 o.r, .int .i64 o.p] 49)
      obtain ⟨s, hLt, hlv⟩ := (HI.out.low hX).ex
      obtain ⟨⟨L1, eL1, hF1⟩, hB1⟩ := hLt
      have hOk := hF1.b.ok
      have HL := Hid3.mk (And.intro eL1 (And.intro hF1 (And.intro hB1 hlv)))
      have HX := Hid3.mk (HI.out.low hX)
      clear hX hlv eL1 hF1 hB1
      by_cases k0 : k = 0
      · subst k0
        obtain ⟨e, s', hC, hv⟩ := beg_lv s p
        have cT := hC _ _ L1 HL.out.2.1 HL.out.2.2.1.size
        rw [HL.out.1] at cT
        clear hC hOk
        go_wp2_with fail
        refine cT.mono ?_
        rintro r W5 ⟨rfl, hs⟩
        have HN : Hid3 (EnI w W5 w.heap.size op td) := ⟨⟨s', Lt.step HL.out.1 HL.out.2.1 HL.out.2.2.1 hs, by have := HL.out.2.2.2; omega⟩⟩
        clear cT hs hv HL HX
        go_wp2
        go_roundw
        case rel => exact ⟨i + 1, op, td, by omega, by omega, by omega, by go_num, by go_num, by go_num, HN⟩
        case measure => simp [intOf]; omega
      by_cases k1 : k = 1
      · subst k1
        obtain ⟨gl, e, s', hC, hv, _, _⟩ := end_lv s p hOk
        have hgl : gl.length ≤ 50 := by have := HL.out.2.2.2; omega
        have cT := hC _ _ L1 HL.out.2.1 HL.out.2.2.1.size
        rw [HL.out.1] at cT
        clear hC hOk
        go_wp2_with fail
        refine cT.mono ?_
        rintro r W5 ⟨vv, rfl, hown, hs⟩
        obtain ⟨av, cv, rfl⟩ := slice_of hown
        have HN : Hid3 (EnI w W5 w.heap.size op (td + gl.length)) := ⟨⟨s', Lt.step HL.out.1 HL.out.2.1 HL.out.2.2.1 hs, by have := HL.out.2.2.2; omega⟩⟩
        clear cT hs hv HL HX hown
        generalize gl.length = gn at *
        go_wp2
        go_roundw
        case rel => exact ⟨i + 1, op, td + gn, by omega, by omega, by omega, by go_num, by go_num, by go_num, HN⟩
        case measure => simp [intOf]; omega
      by_cases k2 : k = 2
      · subst k2
        obtain ⟨e, s', hC, hv⟩ := fork_lv s p q hOk
        have cT := hC _ _ L1 HL.out.2.1 HL.out.2.2.1.size
        rw [HL.out.1] at cT
        clear hC hOk
        go_wp2_with fail
        refine cT.mono ?_
        rintro r W5 ⟨rfl, hs⟩
        have HN : Hid3 (EnI w W5 w.heap.size op td) := ⟨⟨s', Lt.step HL.out.1 HL.out.2.1 HL.out.2.2.1 hs, by have := HL.out.2.2.2; omega⟩⟩
        clear cT hs hv HL HX
        go_wp2
        go_roundw
        case rel => exact ⟨i + 1, op, td, by omega, by omega, by omega, by go_num, by go_num, by go_num, HN⟩
        case measure => simp [intOf]; omega
      by_cases k3 : k = 3
      · subst k3
        obtain ⟨x, e, s', hC, hv⟩ := open_lv s p o hOk
        have cT := hC _ _ L1 HL.out.2.1 HL.out.2.2.1.size
        rw [HL.out.1] at cT
        unfold opC at cT
        clear hC hOk
        go_wp2_with fail
        refine cT.mono ?_
        rintro r W5 ⟨rfl, hs⟩
        rcases hv with ⟨rfl, hv⟩ | ⟨he, hv⟩
        · have HN : Hid3 (EnI w W5 w.heap.size (op + 1) td) := ⟨⟨s', Lt.step HL.out.1 HL.out.2.1 HL.out.2.2.1 hs, by have := HL.out.2.2.2; omega⟩⟩
          clear cT hs hv HL HX
          go_wp2
          go_roundw
          case rel => exact ⟨i + 1, op + 1, td, by omega, by omega, by omega, by go_num, by go_num, by go_num, HN⟩
          case measure => simp [intOf]; omega
        · have HN : Hid3 (EnI w W5 w.heap.size op td) := ⟨⟨s', Lt.step HL.out.1 HL.out.2.1 HL.out.2.2.1 hs, by have := HL.out.2.2.2; omega⟩⟩
          have he1 : (e == 0) = false := by simpa using he
          clear cT hs hv HL HX he
          go_wp2
          go_roundw
          case rel => exact ⟨i + 1, op, td, by omega, by omega, by omega, by go_num, by go_num, by go_num, HN⟩
          case measure => simp [intOf]; omega
      by_cases k4 : k = 4
      · subst k4
        obtain ⟨x, e, s', hC, hv⟩ := dup_lv s p n
        have cT := hC _ _ L1 HL.out.2.1 HL.out.2.2.1.size
        rw [HL.out.1] at cT
        clear hC hOk
        go_wp2_with fail
        refine cT.mono ?_
        rintro r W5 ⟨rfl, hs⟩
        have HN : Hid3 (EnI w W5 w.heap.size op td) := ⟨⟨s', Lt.step HL.out.1 HL.out.2.1 HL.out.2.2.1 hs, by have := HL.out.2.2.2; omega⟩⟩
        clear cT hs hv HL HX
        go_wp2
        go_roundw
        case rel => exact ⟨i + 1, op, td, by omega, by omega, by omega, by go_num, by go_num, by go_num, HN⟩
        case measure => simp [intOf]; omega
      by_cases k5 : k = 5
      · subst k5
        obtain ⟨oo, z, e, s', hC, hv⟩ := close_lv s p n hOk
        have cT := hC _ _ L1 HL.out.2.1 HL.out.2.2.1.size
        rw [HL.out.1] at cT
        clear hC hOk
        go_wp2_with fail
        refine cT.mono ?_
        rintro r W5 ⟨rfl, hs⟩
        rcases hv with ⟨rfl, hv⟩ | ⟨rfl, hv⟩
        · have HN : Hid3 (EnI w W5 w.heap.size op (td + 1)) := ⟨⟨s', Lt.step HL.out.1 HL.out.2.1 HL.out.2.2.1 hs, by have := HL.out.2.2.2; omega⟩⟩
          have htl : td + 1 ≤ op := by have := HL.out.2.2.2; omega
          clear cT hs hv HL HX
          go_wp2
          go_roundw
          case rel => exact ⟨i + 1, op, td + 1, by omega, by omega, by omega, by go_num, by go_num, by go_num, ⟨HN.out.low (below_new W5 _)⟩⟩
          case measure => simp [intOf]; omega
        · have HN : Hid3 (EnI w W5 w.heap.size op td) := ⟨⟨s', Lt.step HL.out.1 HL.out.2.1 HL.out.2.2.1 hs, by have := HL.out.2.2.2; omega⟩⟩
          clear cT hs hv HL HX
          go_wp2
          go_roundw
          case rel => exact ⟨i + 1, op, td, by omega, by omega, by omega, by go_num, by go_num, by go_num, ⟨HN.out.low (below_new W5 _)⟩⟩
          case measure => simp [intOf]; omega
      have e0 : (k == 0) = false := by simpa using k0
      have e1 : (k == 1) = false := by simpa using k1
      have e2 : (k == 2) = false := by simpa using k2
      have e3 : (k == 3) = false := by simpa using k3
      have e4 : (k == 4) = false := by simpa using k4
      have e5 : (k == 5) = false := by simpa using k5
      clear k0 k1 k2 k3 k4 k5 HL hOk
      go_wp2
      go_roundw
      case rel => exact ⟨i + 1, op, td, by omega, by omega, by omega, by go_num, by go_num, by go_num, HX⟩
      case measure => simp [intOf]; omega
    · rcases hstop with hlt | h50
      · have hltz : ¬ (i : Int) < (l.length : Int) := by omega
        have hstop : True := trivial
        clear hstop HD
        go_wp2
        go_loopw [5, 15] (fun s5 s15 wq => ∃ (P td2 : Nat), P ≤ 6 ∧ s5 = .int .i64 td2 ∧ s15 = .int .i64 P ∧ Hid3 (EnJ w wq w.heap.size op td2 P)) (fun _ s15 _ => 6 - (intOf s15).toNat)
        case atStart => exact ⟨0, td, Nat.zero_le _, rfl, rfl, ⟨HI.out.ex.elim fun s hs => ⟨s, hs.1, hs.2, fun q hq => absurd hq (by omega)⟩⟩⟩
        case round =>
          obtain ⟨P, td2, hP, rfl, rfl, HJ⟩ := hrel
          clear HI
          have htd2 : td2 ≤ op := by obtain ⟨s, _, h1, _⟩ := HJ.out.ex; omega
          by_cases hP6 : P < 6
          · have hPz : (P : Int) < 6 := by omega
            obtain ⟨s, ⟨⟨L1, eL1, hF1⟩, hB1⟩, hlv, hhas⟩ := HJ.out.ex
            obtain ⟨gl, e, s', hC, hv, h1, h2⟩ := end_lv s (P : Int) hF1.b.ok
            have hgl : gl.length ≤ 50 := by omega
            have cT := hC _ _ L1 hF1 hB1.size
            rw [eL1] at cT
            have HK : Hid3 (∀ W5, FStp w.heap.size wr W5 L1 s s' → EnJ w W5 w.heap.size op (td2 + gl.length) (P + 1)) := ⟨fun W5 hs => ⟨s', Lt.step eL1 hF1 hB1 hs, by omega, fun r hr => by
              by_cases er : r.1 = P
              · exact h2 r (by rw [er])
              · exact h1 r (hhas r (by omega))⟩⟩
            clear hC hv h1 h2 hlv hhas hF1 hB1 eL1 HJ
            go_wp2_with fail
            refine cT.mono ?_
            rintro r W5 ⟨vv, rfl, hown, hs⟩
            obtain ⟨av, cv, rfl⟩ := slice_of hown
            have HN := Hid3.mk (HK.out W5 hs)
            clear cT hs hown HK
            generalize gl.length = gn at *
            go_wp2
            go_roundw
            case rel => exact ⟨P + 1, td2 + gn, by omega, by go_num, by go_num, HN⟩
            case measure => simp [intOf]; omega
          · have hPz : ¬ (P : Int) < 6 := by omega
            obtain rfl : P = 6 := by omega
            have hfin := HJ.out.fin
            have hoo : ((op : Int) == (td2 : Int)) = true := by rw [hfin]; simp
            have HB : Hid3 (Below w.heap.size w wr) := ⟨HJ.out.ex.elim fun s hs => hs.1.bl⟩
            clear hfin HJ
            go_wp2
            go_ret
            exact ⟨rfl, HB.out⟩
      · have hlt2 : i < l.length ∨ ¬ i < l.length := by omega
        have h50z : ¬ (i : Int) < 50 := by omega
        have hstop : True := trivial
        rcases hlt2 with hlt | hlt
        · have hltz : (i : Int) < (l.length : Int) := by omega
          clear hstop HD
          go_wp2
          go_loopw [5, 15] (fun s5 s15 wq => ∃ (P td2 : Nat), P ≤ 6 ∧ s5 = .int .i64 td2 ∧ s15 = .int .i64 P ∧ Hid3 (EnJ w wq w.heap.size op td2 P)) (fun _ s15 _ => 6 - (intOf s15).toNat)
          case atStart => exact ⟨0, td, Nat.zero_le _, rfl, rfl, ⟨HI.out.ex.elim fun s hs => ⟨s, hs.1, hs.2, fun q hq => absurd hq (by omega)⟩⟩⟩
          case round =>
            obtain ⟨P, td2, hP, rfl, rfl, HJ⟩ := hrel
            clear HI
            have htd2 : td2 ≤ op := by obtain ⟨s, _, h1, _⟩ := HJ.out.ex; omega
            by_cases hP6 : P < 6
            · have hPz : (P : Int) < 6 := by omega
              obtain ⟨s, ⟨⟨L1, eL1, hF1⟩, hB1⟩, hlv, hhas⟩ := HJ.out.ex
              obtain ⟨gl, e, s', hC, hv, h1, h2⟩ := end_lv s (P : Int) hF1.b.ok
              have hgl : gl.length ≤ 50 := by omega
              have cT := hC _ _ L1 hF1 hB1.size
              rw [eL1] at cT
              have HK : Hid3 (∀ W5, FStp w.heap.size wr W5 L1 s s' → EnJ w W5 w.heap.size op (td2 + gl.length) (P + 1)) := ⟨fun W5 hs => ⟨s', Lt.step eL1 hF1 hB1 hs, by omega, fun r hr => by
                by_cases er : r.1 = P
                · exact h2 r (by rw [er])
                · exact h1 r (hhas r (by omega))⟩⟩
              clear hC hv h1 h2 hlv hhas hF1 hB1 eL1 HJ
              go_wp2_with fail
              refine cT.mono ?_
              rintro r W5 ⟨vv, rfl, hown, hs⟩
              obtain ⟨av, cv, rfl⟩ := slice_of hown
              have HN := Hid3.mk (HK.out W5 hs)
              clear cT hs hown HK
              generalize gl.length = gn at *
              go_wp2
              go_roundw
              case rel => exact ⟨P + 1, td2 + gn, by omega, by go_num, by go_num, HN⟩
              case measure => simp [intOf]; omega
            · have hPz : ¬ (P : Int) < 6 := by omega
              obtain rfl : P = 6 := by omega
              have hfin := HJ.out.fin
              have hoo : ((op : Int) == (td2 : Int)) = true := by rw [hfin]; simp
              have HB : Hid3 (Below w.heap.size w wr) := ⟨HJ.out.ex.elim fun s hs => hs.1.bl⟩
              clear hfin HJ
              go_wp2
              go_ret
              exact ⟨rfl, HB.out⟩
        · have hltz : ¬ (i : Int) < (l.length : Int) := by omega
          clear hstop HD
          go_wp2
          go_loopw [5, 15] (fun s5 s15 wq => ∃ (P td2 : Nat), P ≤ 6 ∧ s5 = .int .i64 td2 ∧ s15 = .int .i64 P ∧ Hid3 (EnJ w wq w.heap.size op td2 P)) (fun _ s15 _ => 6 - (intOf s15).toNat)
          case atStart => exact ⟨0, td, Nat.zero_le _, rfl, rfl, ⟨HI.out.ex.elim fun s hs => ⟨s, hs.1, hs.2, fun q hq => absurd hq (by omega)⟩⟩⟩
          case round =>
            obtain ⟨P, td2, hP, rfl, rfl, HJ⟩ := hrel
            clear HI
            have htd2 : td2 ≤ op := by obtain ⟨s, _, h1, _⟩ := HJ.out.ex; omega
            by_cases hP6 : P < 6
            · have hPz : (P : Int) < 6 := by omega
              obtain ⟨s, ⟨⟨L1, eL1, hF1⟩, hB1⟩, hlv, hhas⟩ := HJ.out.ex
              obtain ⟨gl, e, s', hC, hv, h1, h2⟩ := end_lv s (P : Int) hF1.b.ok
              have hgl : gl.length ≤ 50 := by omega
              have cT := hC _ _ L1 hF1 hB1.size
              rw [eL1] at cT
              have HK : Hid3 (∀ W5, FStp w.heap.size wr W5 L1 s s' → EnJ w W5 w.heap.size op (td2 + gl.length) (P + 1)) := ⟨fun W5 hs => ⟨s', Lt.step eL1 hF1 hB1 hs, by omega, fun r hr => by
                by_cases er : r.1 = P
                · exact h2 r (by rw [er])
                · exact h1 r (hhas r (by omega))⟩⟩
              clear hC hv h1 h2 hlv hhas hF1 hB1 eL1 HJ
              go_wp2_with fail
              refine cT.mono ?_
              rintro r W5 ⟨vv, rfl, hown, hs⟩
              obtain ⟨av, cv, rfl⟩ := slice_of hown
              have HN := Hid3.mk (HK.out W5 hs)
              clear cT hs hown HK
              generalize gl.length = gn at *
              go_wp2
              go_roundw
              case rel => exact ⟨P + 1, td2 + gn, by omega, by go_num, by go_num, HN⟩
              case measure => simp [intOf]; omega
            · have hPz : ¬ (P : Int) < 6 := by omega
              obtain rfl : P = 6 := by omega
              have hfin := HJ.out.fin
              have hoo : ((op : Int) == (td2 : Int)) = true := by rw [hfin]; simp
              have HB : Hid3 (Below w.heap.size w wr) := ⟨HJ.out.ex.elim fun s hs => hs.1.bl⟩
              clear hfin HJ
              go_wp2
              go_ret
              exact ⟨rfl, HB.out⟩
end Go.Proofs.Ytbkpkcndmlapfaa
