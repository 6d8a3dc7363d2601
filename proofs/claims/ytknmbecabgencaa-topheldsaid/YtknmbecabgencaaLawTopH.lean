/- TopHeld: the walk. -/
import Derived.Test.YtknmbecabgencaaRgHt
namespace Go.Proofs.Ytknmbecabgencaa
open Go.RowKit Go.Maps
set_option linter.unusedVariables false
set_option maxRecDepth 100000
/-- All that is held is below 16. -/
def Lo (q : St) : Prop := ∀ f c, q.C f = some c → f < 16 ∧ c.1 < 16
theorem Lo.hold {q : St} (h : Lo q) (f : Int) (c : Int × Bool) (hf : f < 16) (hc : c.1 < 16) : Lo (q.hold f c) := fun g d e => by
  have e' : upI q.C f (some c) g = some d := e
  unfold upI at e'
  by_cases i : g = f
  · rw [if_pos i] at e'
    injection e' with e'
    subst e'
    exact ⟨by omega, hc⟩
  · rw [if_neg i] at e'
    exact h g d e'
theorem Lo.leave {q : St} (h : Lo q) (f : Int) (c : Int × Bool) : Lo (q.leave f c) := fun g d e => by
  have e' : upI q.C f none g = some d := e
  unfold upI at e'
  by_cases i : g = f
  · rw [if_pos i] at e'
    cases e'
  · rw [if_neg i] at e'
    exact h g d e'
theorem Lo.bind {q : St} (h : Lo q) (f s : Int) (hf : f < 16) (hs : s < 16) : Lo (bindQ f s q) := by
  unfold bindQ
  split
  · exact h.hold f _ hf hs
  · exact h
theorem Lo.move {q : St} (h : Lo q) (hq : q.Ok) (f t : Int) (ht : t < 16) : Lo (moQ f t q) := by
  unfold moQ
  split
  · rename_i e
    have e0 : ctE q.C f = 0 := by
      unfold moE at e
      by_cases h6 : 64 ≤ t
      · rw [if_pos h6] at e; omega
      · rw [if_neg h6] at e
        by_cases h0 : ctE q.C f = 0
        · exact h0
        · rw [if_neg h0] at e; exact e
    obtain ⟨_, c, hc, hcc, _⟩ := ct_some hq e0
    rw [hcc]
    exact (h.leave f c).hold t c ht (h f c hc).2
  · exact h
theorem Lo.cl {q : St} (h : Lo q) (f : Int) : Lo (clQ f q) := by
  unfold clQ
  split
  · exact h.leave f _
  · exact h
theorem Lo.cq {q : St} (h : Lo q) (f g : Int) : Lo (cq f g q 2) := (h.cl _).cl _
theorem Lo.noneF {q : St} (h : Lo q) (hq : q.Ok) (s : Int) (hs : 16 ≤ s) : q.F s = none := by
  cases e : q.F s with
  | none => rfl
  | some f =>
    obtain ⟨b, hb⟩ := hq.f s f e
    have := (h f _ hb).2
    simp only at this
    omega
theorem Lo.noneC {q : St} (h : Lo q) (f : Int) (hf : 16 ≤ f) : q.C f = none := by
  cases e : q.C f with
  | none => rfl
  | some c =>
    have := (h f _ e).1
    omega
theorem frL_flat {q : St} (k : Nat) : ∀ j : Nat, (∀ i : Nat, k ≤ i → i < k + j → q.C (i : Int) = none) → frL q (k + j) = frL q k
  | 0, _ => rfl
  | j + 1, h => by
    have h1 := frL_flat k j (fun i a b => h i a (by omega))
    have h2 := h (k + j) (by omega) (by omega)
    show frL q (k + j) ++ (if (q.C ((k + j : Nat) : Int)).isSome = true then [((k + j : Nat) : Int)] else []) = _
    rw [h2, h1]
    simp
/-- Behind Bind(63, 63) one more is held. -/
theorem held_one {q : St} (h : Lo q) (hq : q.Ok) : bindE 63 63 q = 0 ∧ (frL (bindQ 63 63 q) 64).length = (frL (qS q) 16).length + 1 := by
  have h0 : bindE 63 63 q = 0 := by
    unfold bindE
    rw [if_neg (by omega), if_neg (by omega), if_neg]
    rw [h.noneC 63 (by omega), h.noneF hq 63 (by omega)]
    simp
  refine ⟨h0, ?_⟩
  have hk : bindQ 63 63 q = q.hold 63 (63, false) := by unfold bindQ; rw [if_pos h0]
  rw [← count_eq (bind_ok hq 63 63 (by omega)), hk]
  have e1 : ∀ k : Nat, k ≤ 63 → frL (qS (q.hold 63 (63, false))) k = frL (qS q) k := fun k => by
    induction k with
    | zero => intro _; rfl
    | succ k ih =>
      intro hle
      show frL _ k ++ _ = frL _ k ++ _
      rw [ih (by omega), qS_some, qS_some]
      have : (q.hold 63 (63, false)).F (k : Int) = q.F (k : Int) := if_neg (show ¬ (k : Int) = 63 by omega)
      rw [this]
  rw [frL_step, e1 63 (Nat.le_refl _), qS_some, show ((q.hold 63 (63, false)).F ((63 : Nat) : Int)).isSome = true from rfl, if_pos rfl]
  have := frL_flat (q := qS q) 16 47 (fun i a b => by
    show (q.F (i : Int)).map _ = none
    rw [h.noneF hq i (by omega)]
    rfl)
  rw [show (16 + 47 : Nat) = 63 from rfl] at this
  rw [this]
/-- A slice of pairs that can be read. -/
def Prs (w : World) (v : Value) (l : List (Int × Int)) : Prop := ∃ a cap, v = .slice a l.length cap ∧ ∀ (j : Nat) (d : Int × Int), l[j]? = some d → (0 ≤ d.1 ∧ d.1 ≤ 255 ∧ 0 ≤ d.2 ∧ d.2 ≤ 255) ∧ ∃ g off, a = some ⟨g, off, none⟩ ∧ w.cell? ⟨g, off + j * 2, none⟩ = some (.int .u8 d.1) ∧ w.cell? ⟨g, off + j * 2 + 1, none⟩ = some (.int .u8 d.2)
theorem Prs.below {w w' : World} {v : Value} {l : List (Int × Int)} (h : Prs w v l) (k : Below w.heap.size w w') : Prs w' v l := by
  obtain ⟨a, cap, rfl, hcell⟩ := h
  refine ⟨a, cap, rfl, fun j d hj => ?_⟩
  obtain ⟨hd, g, off, rfl, c0, c1⟩ := hcell j d hj
  exact ⟨hd, g, off, rfl, (k.cell (World.block_lt_of_cell? w _ c0)).trans c0, (k.cell (World.block_lt_of_cell? w _ c1)).trans c1⟩
structure Hd (w W : World) (b rc rf : Nat) (q : St) : Prop where
  k : Kp w W b rc rf q
  ok : q.Ok
  lo : Lo q
theorem Hd.below {w W W' : World} {b rc rf : Nat} {q : St} (h : Hd w W b rc rf q) (k : Below W.heap.size W W') : Hd w W' b rc rf q := ⟨h.k.below k, h.ok, h.lo⟩
set_option maxHeartbeats 8000000 in
theorem held_law (v : Value) (l : List (Int × Int)) (w : World) (hd : Prs w v l) : Calls Try.prog 3 #[v] w fun e w' => e = .returned (.bool true) ∧ Below w.heap.size w w' := by
  obtain ⟨ad, cap, rfl, hcell⟩ := id hd
  have HD := Hid3.mk hd
  have cN := new_any w
  clear hd hcell
  go_enter Try.func3, Try.ntmps3
  go_wp2_with fail
  refine cN.mono ?_
  rintro r W1 ⟨rfl, hR1, hB1⟩
  have HK1 : Hid3 (∃ q, Hd w W1 (w.heap.size + 1 + 1) w.heap.size (w.heap.size + 1) q) := ⟨q0, ⟨hR1, hB1⟩, ok0, fun f c e => by cases e⟩
  clear cN hR1 hB1
  generalize w.heap.size + 1 + 1 = b at *
  generalize w.heap.size + 1 = rf at *
  obtain ⟨rc, hrc⟩ : ∃ rc, rc = w.heap.size := ⟨_, rfl⟩
  have HK2 : Hid3 (∃ q, Hd w W1 b rc rf q) := ⟨by rw [hrc]; exact HK1.out⟩
  clear hrc HK1
  go_wp2_with fail
  go_loopw [4] (fun s4 wr => ∃ i : Nat, i ≤ l.length ∧ i ≤ 40 ∧ s4 = .int .i64 i ∧ Hid3 (∃ q, Hd w wr b rc rf q)) (fun s4 _ => 40 - (intOf s4).toNat)
  case atStart => exact ⟨0, Nat.zero_le _, by omega, rfl, HK2⟩
  case round =>
    obtain ⟨i, hil, hi4, rfl, HK⟩ := hrel
    clear HK2
    by_cases hgo : i < l.length ∧ i < 40
    · obtain ⟨hlt, h40⟩ := hgo
      have hltz : (i : Int) < (l.length : Int) := by omega
      have h40z : (i : Int) < 40 := by omega
      obtain ⟨q, hK⟩ := HK.out
      obtain ⟨_, _, e0, hc⟩ := HD.out.below hK.k.bl
      injection e0 with e1 e2 e3
      obtain ⟨⟨x0, x1, y0, y1⟩, g, off, e4, c0, c1⟩ := hc i l[i] (List.getElem?_eq_getElem hlt)
      rw [← e1] at e4
      subst e4
      have hwi : IntKind.i64.wrap ((i : Int) + 1) = ((i + 1 : Nat) : Int) := by rw [IntKind.wrap_i64]; omega
      have hgl := World.block_lt_of_cell? wr _ c0
      simp only at hgl
      have HK3 := Hid3.mk hK
      generalize l[i].1 = x at *
      generalize l[i].2 = y at *
      obtain ⟨a, ha⟩ : ∃ a, x % 16 = a := ⟨_, rfl⟩
      obtain ⟨d, hdd⟩ : ∃ d, y % 16 = d := ⟨_, rfl⟩
      have hta : x.tmod 16 = a := by rw [Int.tmod_eq_emod_of_nonneg x0]; exact ha
      have htd : y.tmod 16 = d := by rw [Int.tmod_eq_emod_of_nonneg y0]; exact hdd
      have a0 : 0 ≤ a := by omega
      have a1 : a < 16 := by omega
      have d0 : 0 ≤ d := by omega
      have d1 : d < 16 := by omega
      have hwa : IntKind.u8.wrap a = a := by rw [IntKind.wrap_u8]; omega
      have hwd : IntKind.u8.wrap d = d := by rw [IntKind.wrap_u8]; omega
      have hwd2 : IntKind.i64.wrap d = d := by rw [IntKind.wrap_i64]; omega
      have HKn : Hid3 (∀ m, Hd w (wr.drewN m) b rc rf q) := ⟨fun m => hK.below (⟨rfl, rfl, rfl, Nat.le_refl _, fun _ _ => rfl⟩)⟩
      obtain ⟨z, hz⟩ : ∃ z, x / 64 = z := ⟨_, rfl⟩
      have htz : x.tdiv 64 = z := by rw [Int.tdiv_eq_ediv_of_nonneg x0]; exact hz
      have hwz : IntKind.u8.wrap z = z := by rw [IntKind.wrap_u8]; omega
      have z0 : 0 ≤ z := by omega
      have z1 : z ≤ 3 := by omega
      have c0n : ∀ m, (wr.drewN m).cell? ⟨g, off + i * 2, none⟩ = some (.int .u8 x) := fun m => c0
      have hgn : ∀ m, g < (wr.drewN m).heap.size := fun m => hgl
      clear hc e1 e2 e3 hK HK
      go_wp2_with fail
      go_quiet (fail)
      have c0q := c0n nq
      have HKq := Hid3.mk (HKn.out nq)
      have hgq := hgn nq
      generalize wr.drewN nq = wq at *
      clear c0n hgn c0 c1 HKn HK3 hgl
      by_cases hz01 : z = 0 ∨ z = 1
      · have cB := bind_any w.heap.size b rc rf q a d wq HKq.out.k.r
        have HF : Hid3 (∀ W, StpS w.heap.size wq W b rc rf (bindQ a d q) → ∃ q, Hd w W b rc rf q) := ⟨fun W h => ⟨_, HKq.out.k.step h, bind_ok HKq.out.ok a d a0, HKq.out.lo.bind a d a1 d1⟩⟩
        clear HKq
        rcases hz01 with rfl | rfl
        all_goals
          go_wp2_with fail
          refine cB.mono ?_
          rintro r W2 ⟨rfl, hS⟩
          have HK5 := Hid3.mk (HF.out W2 hS)
          clear hS cB HF c0q
          go_wp2
          go_roundw
          case rel => exact ⟨i + 1, by omega, by omega, by go_num, HK5⟩
          case measure => simp [intOf]; omega
      · have n0 : (z == 0) = false := by simpa using fun e => hz01 (.inl e)
        have n1 : (z == 1) = false := by simpa using fun e => hz01 (.inr e)
        by_cases hz2 : z = 2
        · subst hz2
          have cB := move_any w.heap.size b rc rf q a d wq HKq.out.k.r
          have HF : Hid3 (∀ W, StpS w.heap.size wq W b rc rf (moQ a d q) → ∃ q, Hd w W b rc rf q) := ⟨fun W h => ⟨_, HKq.out.k.step h, mo_ok HKq.out.ok a d a0 d0, HKq.out.lo.move HKq.out.ok a d d1⟩⟩
          clear HKq
          go_wp2_with fail
          refine cB.mono ?_
          rintro r W2 ⟨rfl, hS⟩
          have HK5 := Hid3.mk (HF.out W2 hS)
          clear hS cB HF c0q
          go_wp2
          go_roundw
          case rel => exact ⟨i + 1, by omega, by omega, by go_num, HK5⟩
          case measure => simp [intOf]; omega
        · have n2 : (z == 2) = false := by simpa using hz2
          have hX := below_new wq (.cells #[.int .u8 a, .int .u8 d] 5)
          have hlt2 : rc < wq.heap.size ∧ rf < wq.heap.size := ⟨HKq.out.k.r.mc.elim fun _ hc => hc.1.lt, HKq.out.k.r.mf.elim fun _ hc => hc.1.lt⟩
          have hC := Cl.new wq 5 [.int .u8 a, .int .u8 d]
          have cB := clear_any w.heap.size b rc rf wq.heap.size q a d _ (HKq.out.k.r.below hX) (fun e => by rcases e with e | e <;> omega) (hC.cell 0) (hC.cell 1)
          have HF : Hid3 (∀ W, StpS w.heap.size (wq.alloc (.cells #[.int .u8 a, .int .u8 d] 5)) W b rc rf (cq a d q 2) → ∃ q, Hd w W b rc rf q) := ⟨fun W h => ⟨_, (HKq.out.k.below hX).step h, cq_ok HKq.out.ok a d 2, HKq.out.lo.cq a d⟩⟩
          clear HKq hX hlt2 hC
          go_wp2_with fail
          refine cB.mono ?_
          rintro r W2 ⟨rfl, hS⟩
          have HK5 := Hid3.mk (HF.out W2 hS)
          clear hS cB HF c0q
          go_wp2
          go_roundw
          case rel => exact ⟨i + 1, by omega, by omega, by go_num, HK5⟩
          case measure => simp [intOf]; omega
    · have HK3 := HK
      obtain ⟨q, hK⟩ := HK3.out
      have HK4 := Hid3.mk hK
      have hend : ¬ ((i : Int) < (l.length : Int)) ∨ ((i : Int) < (l.length : Int) ∧ ¬ (i : Int) < 40) := by omega
      clear HK HK3 hK HD
      rcases hend with hz | ⟨hz, hz40⟩
      all_goals
        go_wp2_with fail
        go_loopw [7, 8] (fun s7 s8 wr => ∃ s : Nat, s ≤ 16 ∧ s8 = .int .i64 s ∧ s7 = .int .i64 (frL (qS q) s).length ∧ Hid3 (Hd w wr b rc rf q)) (fun _ t _ => 16 - (intOf t).toNat)
        case atStart => exact ⟨0, by omega, rfl, rfl, HK4⟩
        case round =>
          obtain ⟨s, hs, rfl, rfl, HK⟩ := hrel
          clear HK4
          by_cases h16 : s < 16
          · have h16z : (s : Int) < 16 := by omega
            have cF := frame_any w.heap.size b rc rf q.C q.F (s : Int) wr HK.out.k.r
            have hst := frL_step (qS q) s
            have hln := frL_len (qS q) s
            rw [qS_some] at hst
            have hws : IntKind.i64.wrap ((s : Int) + 1) = ((s + 1 : Nat) : Int) := by rw [IntKind.wrap_i64]; omega
            have HN2 := Hid3.mk hst
            generalize (frL (qS q) s).length = n at *
            have hwn : IntKind.i64.wrap ((n : Int) + 1) = ((n + 1 : Nat) : Int) := by rw [IntKind.wrap_i64]; omega
            cases hz : q.F (s : Int) with
            | none =>
              rw [hz] at cF
              have HN3 : Hid3 ((frL (qS q) (s + 1)).length = n) := ⟨by rw [HN2.out, hz]; rfl⟩
              simp only [Option.getD_none, Option.isSome_none] at cF
              clear hst HN2 hz
              go_wp2_with fail
              refine cF.mono ?_
              rintro r W6 ⟨rfl, rfl⟩
              clear cF
              go_wp2
              go_roundw
              case rel => exact ⟨s + 1, by omega, by go_num, by rw [HN3.out], HK⟩
              case measure => simp [intOf]; omega
            | some y =>
              rw [hz] at cF
              simp only [Option.getD_some, Option.isSome_some] at cF
              obtain ⟨bb, hb⟩ := HK.out.ok.f s y hz
              obtain ⟨y0, y1, _⟩ := HK.out.ok.c y s bb hb
              have hn : ¬ (64 : Int) ≤ y := by omega
              have e1 : (ctE q.C y == 0) = true := by unfold ctE; rw [if_neg hn, hb]; rfl
              have e2 : ctC q.C y = ((s : Int), bb) := by unfold ctC; rw [if_neg hn, hb]; rfl
              have cS := sector_any w.heap.size b rc rf q.C q.F y wr HK.out.k.r
              rw [e1, e2] at cS
              have HN3 : Hid3 ((frL (qS q) (s + 1)).length = n + 1) := ⟨by rw [HN2.out, hz]; rfl⟩
              have hss : ((s : Int) != (s : Int)) = false := by simp
              clear hst HN2 hz hb e1 e2 hn y0 y1
              simp only at cS
              go_wp2_with fail
              refine cF.mono ?_
              rintro r W6 ⟨rfl, rfl⟩
              clear cF
              go_wp2_with fail
              refine cS.mono ?_
              rintro r W7 ⟨rfl, hB7⟩
              have HK7 := Hid3.mk (HK.out.below hB7)
              clear cS hB7 HK
              go_wp2
              go_roundw
              case rel => exact ⟨s + 1, by omega, by go_num, by rw [HN3.out]; go_num, HK7⟩
              case measure => simp [intOf]; omega
          · obtain rfl : s = 16 := by omega
            have cB := bind_any w.heap.size b rc rf q 63 63 wr HK.out.k.r
            obtain ⟨hb0, hlen⟩ := held_one HK.out.lo HK.out.ok
            rw [hb0] at cB
            have HL := Hid3.mk hlen
            have hln := frL_len (qS q) 16
            have HO := Hid3.mk (bind_ok HK.out.ok 63 63 (by omega))
            generalize (frL (qS q) 16).length = n at *
            have hwn : IntKind.i64.wrap ((n : Int) + 1) = (n : Int) + 1 := by rw [IntKind.wrap_i64]; omega
            clear hb0 hlen
            generalize bindQ 63 63 q = q' at *
            go_wp2_with fail
            refine cB.mono ?_
            rintro r W6 ⟨rfl, hS⟩
            have HK7 := Hid3.mk (HK.out.k.step hS)
            have cF := frames_any w.heap.size b rc rf q' W6 HK7.out.r HO.out
            clear cB hS HK
            go_wp2_with fail
            refine cF.mono ?_
            rintro r W7 ⟨vf, rfl, hr, hB⟩
            obtain ⟨a0, cap0, rfl⟩ := hr.form
            have HB := Hid3.mk (HK7.out.below hB).bl
            have hLL : ((frL q' 64).length : Int) = (n : Int) + 1 := by rw [HL.out]; rfl
            clear cF hr hB HL
            generalize (frL q' 64).length = m at *
            go_wp2
            go_ret
            exact ⟨by simp, HB.out⟩
end Go.Proofs.Ytknmbecabgencaa
