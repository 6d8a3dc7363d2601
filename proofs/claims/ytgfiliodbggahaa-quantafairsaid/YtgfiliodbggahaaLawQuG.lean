/- QuantaFair: the walk. -/
import Derived.Test.YtgfiliodbggahaaLawQuF
namespace Go.Proofs.Ytgfiliodbggahaa
open Go.RowKit Go.Maps
set_option linter.unusedVariables false
set_option maxRecDepth 100000
theorem places_own (vb pb : Nat) (q : Qs) (env : Int) (w : World) (h : VecC w vb pb q) : Calls Try.prog 12 #[.pointer (some ⟨vb, 0, none⟩), .int .u8 env] w fun e W' => ∃ a cap, e = .returned (.slice a (pcF env (tkL q.pl 0 8)).length cap) ∧ Ints W' (.slice a (pcF env (tkL q.pl 0 8)).length cap) ((pcF env (tkL q.pl 0 8)).map (fun i => i.1)) ∧ (∀ g, (Value.slice a (pcF env (tkL q.pl 0 8)).length cap).ownBlock = some g → w.heap.size ≤ g) ∧ Below w.heap.size w W' :=
  (places_any vb pb q env w h).mono fun e W' ⟨v, he, hrow, hB⟩ => by
    obtain ⟨hI, hO⟩ := Ints.of_own hrow
    rw [pcL_eq] at hI
    obtain ⟨a, cap, hv, hc⟩ := hI
    rw [List.length_map] at hv
    subst hv
    exact ⟨a, cap, he, ⟨a, cap, by rw [List.length_map], hc⟩, hO, hB⟩
/-- What a penalty's cell holds. -/
def penAt (W : World) (vb k : Nat) : Nat := match W.cell? ⟨vb, 1 + k, none⟩ with
  | some x => (intOf x).toNat
  | none => 0
theorem penAt_is {W : World} {vb pb : Nat} {s : Qs} (h : VecC W vb pb s) (k : Nat) (hk : k < 6) : penAt W vb k = s.pen ⟨k, hk⟩ := by
  have := h.cp ⟨k, hk⟩
  unfold penAt
  simp only at this
  rw [this]
  simp [intOf]
theorem vis_end (l : List Pe) (n e : Nat) : visN l (n * l.length) e = n * cnt e l := by
  unfold visN
  by_cases h : 0 < l.length
  · rw [Nat.mul_div_cancel _ h, Nat.mul_mod_left, List.take_zero]
    rfl
  · have h0 : l.length = 0 := by omega
    obtain rfl : l = [] := List.eq_nil_of_length_eq_zero h0
    simp [cnt, pcL]
theorem rot_zero (l : List Pe) : rotL l 0 = l := by simp [rotL]
theorem vis_zero (l : List Pe) (e : Nat) : visN l 0 e = 0 := by simp [visN, cnt, pcL]
/-- What the turns hold: the vector without penalties, whose turn it is next, how often each has had it. -/
structure Tn (q : Qs) (i : Nat) (s : Qs) (g : Fin 6 → Nat) : Prop where
  pl : s.pl = q.pl
  pen : ∀ e, s.pen e = 0
  rot : tkL q.pl (s.now.1 + 1) 8 = rotL (tkL q.pl (q.now.1 + 1) 8) i
  vis : ∀ e : Fin 6, g e = visN (tkL q.pl (q.now.1 + 1) 8) i e.1
  few : ∀ e, g e ≤ i
theorem Tn.start (q : Qs) : Tn q 0 (stF q 6) (fun _ => 0) :=
  ⟨rfl, fun e => by simp [stF], by rw [rot_zero]; rfl, fun e => by rw [vis_zero], fun _ => Nat.le_refl _⟩
theorem Tn.next {q : Qs} {i : Nat} {s : Qs} {g : Fin 6 → Nat} (h : Tn q i s g) (hl : 0 < (tkL q.pl 0 8).length) : ∃ x : Pe, (turnS s).2 = some x ∧ Tn q (i + 1) (turnQ s) (upd g x.2 (g x.2 + 1)) := by
  obtain ⟨x, r, h1, h2, h3⟩ := rot_step (tkL q.pl (q.now.1 + 1) 8) i (by rw [len_from]; exact hl)
  have h4 : tkL s.pl (s.now.1 + 1) 8 = x :: r := by rw [h.pl, h.rot, h1]
  obtain ⟨t1, t2⟩ := turn_zero s h.pen x r h4
  refine ⟨x, t1, ?_⟩
  rw [t2]
  refine ⟨h.pl, h.pen, ?_, fun e => ?_, fun e => ?_⟩
  · show tkL q.pl (x.1.1 + 1) 8 = _
    rw [h2]
    exact tkL_next q.pl _ x r (by rw [h.rot, h1])
  · rw [h3, ← h.vis]
    unfold upd
    by_cases he : e = x.2
    · subst he; rw [if_pos rfl, if_pos rfl]
    · rw [if_neg he, if_neg (fun h5 => he (Fin.ext h5.symm)), Nat.add_zero]
  · have := h.few e
    unfold upd
    by_cases he : e = x.2
    · subst he; rw [if_pos rfl]; omega
    · rw [if_neg he]; omega
theorem Tn.done {q : Qs} {n : Nat} {s : Qs} {g : Fin 6 → Nat} (h : Tn q (n * (tkL q.pl 0 8).length) s g) (e : Fin 6) : g e = n * plN q 6 e := by
  rw [h.vis e, ← len_from q.pl (q.now.1 + 1), vis_end, cnt_from]
  simp [plN, e.2]
def stB (q : Qs) (k : Nat) (b : Bool) : Qs := if b then stF q (k + 1) else stF q k
set_option maxHeartbeats 4000000 in
theorem fair_law (v : Value) (l : List Dd) (rounds : Int) (w : World) (hd : Dds w v l) (hok : ∀ d ∈ l, DdOk d) (hr0 : 0 ≤ rounds) (hr1 : rounds ≤ 255) : Calls Try.prog 4 #[v, .int .u8 rounds] w fun e w' => e = .returned (.bool true) ∧ Below w.heap.size w w' := by
  have cP := play_any v l w hd hok
  have hq := ok_play (l.take 60) ok_q0
  generalize playQ (l.take 60) q0 = q at *
  have HQ : Hid3 (q.Ok) := ⟨hq⟩
  obtain ⟨n0, hn0⟩ : ∃ n0 : Nat, rounds % 5 = (n0 : Int) := ⟨(rounds % 5).toNat, by omega⟩
  have hn5 : n0 < 5 := by omega
  clear hd hok hq
  go_enter Try.func4, Try.ntmps4
  go_wp2_with fail
  refine cP.mono ?_
  rintro r W1 ⟨vb, pb, rb, rfl, hT, hB1⟩
  have cL := live_any W1
  have HT1 : Hid3 (Vec w.heap.size W1 vb pb q) := ⟨hT.t⟩
  clear cP hT
  go_wp2_with fail
  refine cL.mono ?_
  rintro r W2 ⟨rfl, hB2⟩
  have HT2 : Hid3 (Vec w.heap.size W2 vb pb q) := ⟨HT1.out.below hB2⟩
  have HB2 : Hid3 (Below w.heap.size w W2) := ⟨hB1.trans (hB2.mono hB1.size)⟩
  clear cL hB2 hB1 HT1
  go_wp2_with fail
  have HF0 : Hid3 (FrS w ((W2.alloc (.cells #[.int .i64 0, .int .i64 0, .int .i64 0, .int .i64 0, .int .i64 0, .int .i64 0] 30)).alloc (.cells #[.int .i64 0, .int .i64 0, .int .i64 0, .int .i64 0, .int .i64 0, .int .i64 0] 30)) vb pb W2.heap.size (W2.heap.size + 1) (stF q 0) (plN q 0) (fun _ => 0)) := by
    have hB := ((below_new W2 (.cells #[.int .i64 0, .int .i64 0, .int .i64 0, .int .i64 0, .int .i64 0, .int .i64 0] 30)).alloc (by simp) (.cells #[.int .i64 0, .int .i64 0, .int .i64 0, .int .i64 0, .int .i64 0, .int .i64 0] 30))
    refine ⟨⟨by rw [stF_zero]; exact HT2.out.below hB, (Cl.new W2 30 (penCs (fun _ => 0))).alloc _, ?_, HB2.out.trans (hB.mono HB2.out.size), HT2.out.v.lt, HT2.out.p.lt, by omega, HB2.out.size⟩⟩
    have := Cl.new (W2.alloc (.cells #[.int .i64 0, .int .i64 0, .int .i64 0, .int .i64 0, .int .i64 0, .int .i64 0] 30)) 30 (penCs (fun _ => 0))
    rw [World.size_alloc] at this
    exact this
  generalize ((W2.alloc (.cells #[.int .i64 0, .int .i64 0, .int .i64 0, .int .i64 0, .int .i64 0, .int .i64 0] 30)).alloc (.cells #[.int .i64 0, .int .i64 0, .int .i64 0, .int .i64 0, .int .i64 0, .int .i64 0] 30)) = W3 at *
  generalize W2.heap.size = bp at *
  clear HT2 HB2
  go_loopw [8, 11] (fun s8 s11 wr => ∃ (k : Nat), k ≤ 6 ∧ s8 = .int .i64 (sumN (tkL q.pl 0 8) k) ∧ s11 = .int .u8 k ∧ Hid3 (FrS w wr vb pb bp (bp + 1) (stF q k) (plN q k) (fun _ => 0))) (fun _ s _ => 6 - (intOf s).toNat)
  case atStart => exact ⟨0, Nat.zero_le _, rfl, rfl, HF0⟩
  case round =>
    obtain ⟨k, hk, rfl, rfl, HF⟩ := hrel
    by_cases hlt : k < 6
    · have hltz : (k : Int) < 6 := by omega
      have cA := places_len vb pb (stF q k) k wr HF.out.v.c
      change Calls _ _ _ _ (fun e W' => ∃ a cap, e = .returned (.slice a (cnt k (tkL q.pl 0 8)) cap) ∧ _ ∧ _) at cA
      have HN : Hid3 (sumN (tkL q.pl 0 8) (k + 1) = sumN (tkL q.pl 0 8) k + cnt k (tkL q.pl 0 8)) := ⟨rfl⟩
      have hle := sumN_le (tkL q.pl 0 8) k (by omega)
      have hl8 := tkL_len q.pl 0 8
      have hc8 := cnt_le k (tkL q.pl 0 8)
      have hpn := plN_next q k hlt
      generalize cnt k (tkL q.pl 0 8) = m at *
      generalize hn1 : sumN (tkL q.pl 0 8) (k + 1) = n1 at *
      generalize sumN (tkL q.pl 0 8) k = nn at *
      have hn8 : (nn : Int) ≤ 8 := by omega
      have hm8 : (m : Int) ≤ 8 := by omega
      have HN2 : Hid3 (sumN (tkL q.pl 0 8) (k + 1) = n1) := ⟨hn1⟩
      clear hn1 hle hl8 hc8
      go_wp2_with fail
      refine cA.mono ?_
      rintro r W4 ⟨a3, cap3, rfl, _, hB4⟩
      have hF4 := HF.out.below hB4
      obtain ⟨c0, f0⟩ := hF4.cp ⟨k, hlt⟩
      have hF5 := hF4.setp ⟨k, hlt⟩ m
      rw [hpn] at hF5
      simp only at c0 f0 hF5
      have HF5 : Hid3 (FrS w (W4.setCell ⟨bp, k, none⟩ (.int .i64 m)) vb pb bp (bp + 1) (stF q k) (plN q (k + 1)) (fun _ => 0)) := ⟨hF5⟩
      have hk5 : (W4.setCell ⟨bp, k, none⟩ (.int .i64 m)).cell? ⟨bp, k, none⟩ = some (.int .i64 m) := by
        have := (hF5.cp ⟨k, hlt⟩).1
        rw [← hpn, upd_same] at this
        exact this
      have HK5 : Hid3 ((W4.setCell ⟨bp, k, none⟩ (.int .i64 m)).cell? ⟨bp, k, none⟩ = some (.int .i64 m)) := ⟨hk5⟩
      clear cA hB4 hF4 hF5 hpn
      go_wp2_with fail
      generalize W4.setCell ⟨bp, k, none⟩ (.int .i64 m) = W5 at *
      have HF5b : Hid3 (FrS w W5 vb pb bp (bp + 1) (stB q k false) (plN q (k + 1)) (fun _ => 0)) := HF5
      clear HF5 hk5 HK5 c0 f0
      go_loopw [] (fun wr2 => ∃ b : Bool, Hid3 (FrS w wr2 vb pb bp (bp + 1) (stB q k b) (plN q (k + 1)) (fun _ => 0))) (fun wr2 => penAt wr2 vb k)
      case atStart => exact ⟨false, HF5b⟩
      case round =>
        obtain ⟨b, HG⟩ := hrel
        have cV := vpen_ok vb pb _ ⟨k, hlt⟩ _ HG.out.v.c
        simp only at cV
        by_cases hx : (stB q k b).pen ⟨k, hlt⟩ = 0
        · have hdone : stB q k b = stF q (k + 1) := by
            cases b with
            | true => rfl
            | false =>
              have h2 : q.pen ⟨k, hlt⟩ = 0 := by rw [← stF_pen q k hlt]; exact hx
              exact stF_same q k hlt h2
          rw [hx] at cV
          rw [hdone] at HG
          change Calls _ _ _ _ (fun r w' => r = .returned (.int .i64 0) ∧ _) at cV
          clear hx hdone
          go_wp2_with fail
          refine cV.mono ?_
          rintro r W6 ⟨rfl, hW⟩
          rw [hW]
          clear cV hW
          go_wp2
          go_roundw
          case rel => exact ⟨k + 1, by omega, by rw [HN2.out, HN.out]; go_num, by go_num, HG⟩
          case measure => simp [intOf]; omega
        · obtain rfl : b = false := by
            cases b with
            | false => rfl
            | true => exact (hx (stF_pen1 q k hlt)).elim
          have HM : Hid3 (penAt _ vb k ≠ 0) := ⟨by rw [penAt_is HG.out.v.c k hlt]; exact hx⟩
          have hxz : 0 < (((stB q k false).pen ⟨k, hlt⟩ : Nat) : Int) := by omega
          generalize (((stB q k false).pen ⟨k, hlt⟩ : Nat) : Int) = xz at *
          have HG2 : Hid3 (FrS w _ vb pb bp (bp + 1) (stF q k) (plN q (k + 1)) (fun _ => 0)) := HG
          have cB := places_own vb pb (stF q k) k _ HG2.out.v.c
          change Calls _ _ _ _ (fun e W' => ∃ a cap, e = .returned (.slice a (pcF (k : Nat) (tkL q.pl 0 8)).length cap) ∧ Ints W' (.slice a (pcF (k : Nat) (tkL q.pl 0 8)).length cap) ((pcF (k : Nat) (tkL q.pl 0 8)).map (fun i => i.1)) ∧ (∀ g, (Value.slice a (pcF (k : Nat) (tkL q.pl 0 8)).length cap).ownBlock = some g → _) ∧ _) at cB
          have HS : Hid3 ((pcF (k : Nat) (tkL q.pl 0 8)).Pairwise (fun a b => a.1 < b.1) ∧ (∀ i ∈ pcF (k : Nat) (tkL q.pl 0 8), (stF q k).pl i = some ⟨k, hlt⟩) ∧ (pcF (k : Nat) (tkL q.pl 0 8)).length ≤ 8 ∧ rtk ⟨k, hlt⟩ (pcF (k : Nat) (tkL q.pl 0 8)) (stF q k) = stF q (k + 1)) :=
            ⟨pcF_sorted ⟨k, hlt⟩ q.pl 8 (Nat.le_refl _), fun i hi => (mem_pcF q.pl 0 ⟨k, hlt⟩ i).1 hi, pcF_len _ q.pl 0, (rtk_all ⟨k, hlt⟩ (stF q k)).trans (stF_next q k hlt)⟩
          generalize pcF (k : Nat) (tkL q.pl 0 8) = F at *
          clear hx
          go_wp2_with fail
          refine cV.mono ?_
          rintro r W6 ⟨rfl, hW⟩
          rw [hW]
          clear cV hW
          go_wp2_with fail
          refine cB.mono ?_
          rintro r W7 ⟨a7, cap7, rfl, hI7, hO7, hB7⟩
          have HG7 : Hid3 (FrS w W7 vb pb bp (bp + 1) (stF q k) (plN q (k + 1)) (fun _ => 0)) := ⟨HG2.out.below hB7⟩
          have hvl := HG2.out.v.v.lt
          have hpl := HG2.out.v.p.lt
          have HI7 : Hid3 (Ints W7 (.slice a7 F.length cap7) (F.map (fun i => i.1))) := ⟨hI7⟩
          have HO7 : Hid3 (∀ g, (Value.slice a7 F.length cap7).ownBlock = some g → ¬ XV vb pb g) := ⟨fun g hg e => by
            have := hO7 g hg
            rcases e with e | e <;> omega⟩
          have cO := out_ok _ vb pb (stF q k) ⟨k, hlt⟩ W7 HG7.out.v
          simp only at cO
          generalize outN (k : Nat) (stF q k) = on at *
          clear cB hB7 hI7 hO7 hvl hpl
          go_wp2_with fail
          refine cO.mono ?_
          rintro r W8 ⟨rfl, hS8⟩
          have HG8 : Hid3 (FrS w W8 vb pb bp (bp + 1) (rtk ⟨k, hlt⟩ (F.take 0) (stF q k)) (plN q (k + 1)) (fun _ => 0)) := ⟨by rw [List.take_zero, rtk_nil]; exact HG7.out.step hS8⟩
          have HI8 : Hid3 (Ints W8 (.slice a7 F.length cap7) (F.map (fun i => i.1))) := ⟨HI7.out.stay hS8.ap HO7.out⟩
          clear cO hS8 HI7
          go_wp2_with fail
          go_loopw [13] (fun s13 wr3 => ∃ j : Nat, j ≤ F.length ∧ s13 = .int .i64 j ∧ Hid3 (FrS w wr3 vb pb bp (bp + 1) (rtk ⟨k, hlt⟩ (F.take j) (stF q k)) (plN q (k + 1)) (fun _ => 0)) ∧ Hid3 (Ints wr3 (.slice a7 F.length cap7) (F.map (fun i => i.1)))) (fun s _ => F.length - (intOf s).toNat)
          case atStart => exact ⟨0, Nat.zero_le _, rfl, HG8, HI8⟩
          case round =>
            obtain ⟨j, hj, rfl, HG9, HI9⟩ := hrel
            have hF8 := HS.out.2.2.1
            by_cases hjl : j < F.length
            · have hjz : (j : Int) < (F.length : Int) := by omega
              obtain ⟨_, _, e0, hc⟩ := HI9.out
              injection e0 with e1 e2 e3
              obtain ⟨g, off, e4, c1⟩ := hc j F[j].1 (by rw [List.getElem?_map, List.getElem?_eq_getElem hjl]; rfl)
              rw [← e1] at e4
              subst e4
              have cT := take_ok _ vb pb _ ⟨k, hlt⟩ F[j] _ HG9.out.v
              obtain ⟨t1, t2⟩ := rtk_take ⟨k, hlt⟩ F (stF q k) j hjl HS.out.1 HS.out.2.1
              rw [t1, t2] at cT
              simp only at cT
              clear hc e1 e2 e3 t1 t2
              generalize F[j] = fj at *
              go_wp2_with fail
              refine cT.mono ?_
              rintro r W9 ⟨rfl, hS9⟩
              have HG10 : Hid3 (FrS w W9 vb pb bp (bp + 1) (rtk ⟨k, hlt⟩ (F.take (j + 1)) (stF q k)) (plN q (k + 1)) (fun _ => 0)) := ⟨HG9.out.step hS9⟩
              have HI10 : Hid3 (Ints W9 (.slice (some ⟨g, off, none⟩) F.length cap7) (F.map (fun i => i.1))) := ⟨HI9.out.stay hS9.ap HO7.out⟩
              clear cT hS9 c1
              go_wp2
              go_roundw
              case rel => exact ⟨j + 1, by omega, by go_num, HG10, HI10⟩
              case measure => simp [intOf]; omega
            · have hjz : ¬ (j : Int) < (F.length : Int) := by omega
              obtain rfl : j = F.length := by omega
              have HG11 : Hid3 (FrS w _ vb pb bp (bp + 1) (stB q k true) (plN q (k + 1)) (fun _ => 0)) := ⟨by
                have := HG9.out
                rw [List.take_length, HS.out.2.2.2] at this
                exact this⟩
              go_wp2
              go_roundw
              case rel => exact ⟨true, HG11⟩
              case measure => rw [penAt_is HG11.out.v.c k hlt]; rw [show (stB q k true).pen ⟨k, hlt⟩ = 0 from stF_pen1 q k hlt]; have := HM.out; omega
    · obtain rfl : k = 6 := by omega
      rw [sumN_six, show (((6 : Nat)) : Int) = 6 from rfl]
      have hA8 := tkL_len q.pl 0 8
      have HT0 : Hid3 (Tn q 0 (stF q 6) (fun _ => 0)) := ⟨Tn.start q⟩
      have HD : ∀ i s g, Tn q i s g → i = (n0 + 1) * (tkL q.pl 0 8).length → ∀ e : Fin 6, g e = (n0 + 1) * plN q 6 e := fun i s g h hi e => by subst hi; exact h.done e
      have HE : ∀ i s g, Tn q i s g → (tkL q.pl 0 8).length = 0 → (turnS s).2 = none := fun i s g h h0 => turn_none s (by
        rw [h.pl]
        exact List.eq_nil_of_length_eq_zero (by rw [len_from]; exact h0))
      have HX : ∀ i s g, Tn q i s g → 0 < (tkL q.pl 0 8).length → ∃ x : Pe, (turnS s).2 = some x ∧ Tn q (i + 1) (turnQ s) (upd g x.2 (g x.2 + 1)) := fun i s g h => h.next
      have HPl : Hid3 (∀ e, plN q 6 e ≤ 8) := ⟨fun e => by
        have := cnt_le e.1 (tkL q.pl 0 8)
        unfold plN
        split <;> omega⟩
      generalize (tkL q.pl 0 8).length = A at *
      obtain ⟨N, hN⟩ : ∃ N, N = (n0 + 1) * A := ⟨_, rfl⟩
      have hmul : ((n0 : Int) + 1) * (A : Int) = (N : Int) := by rw [hN, Int.natCast_mul]; rfl
      have hN40 : N ≤ 40 := by rw [hN]; exact Nat.le_trans (Nat.mul_le_mul (show n0 + 1 ≤ 5 by omega) hA8) (Nat.le_refl _)
      have hAN : 0 < N → 0 < A := fun h => by
        rcases Nat.eq_zero_or_pos A with h0 | h0
        · rw [hN, h0, Nat.mul_zero] at h; omega
        · exact h0
      have HDx : Hid3 (∀ i s g, Tn q i s g → i = N → ∀ e : Fin 6, g e = (n0 + 1) * plN q 6 e) := ⟨fun i s g h hi => HD i s g h (hi.trans hN)⟩
      have HEx : Hid3 (∀ i s g, Tn q i s g → A = 0 → (turnS s).2 = none) := ⟨HE⟩
      have HXx : Hid3 (∀ i s g, Tn q i s g → 0 < A → ∃ x : Pe, (turnS s).2 = some x ∧ Tn q (i + 1) (turnQ s) (upd g x.2 (g x.2 + 1))) := ⟨HX⟩
      have HAN : Hid3 (0 < N → 0 < A) := ⟨hAN⟩
      generalize plN q 6 = f at *
      clear HD HE HX hN hAN
      go_wp2_with fail
      rw [hn0]
      go_loopw [15] (fun s15 wr4 => ∃ (i : Nat) (s : Qs) (g : Fin 6 → Nat), i ≤ N ∧ s15 = .int .i64 i ∧ Hid3 (Tn q i s g) ∧ Hid3 (FrS w wr4 vb pb bp (bp + 1) s f g)) (fun s _ => N - (intOf s).toNat)
      case atStart => exact ⟨0, _, _, Nat.zero_le _, rfl, HT0, HF⟩
      case round =>
        obtain ⟨i, s, g, hi, rfl, HT, HG⟩ := hrel
        by_cases hlt2 : i < N
        · have hltz : (i : Int) < (N : Int) := by omega
          obtain ⟨x, hx1, hx2⟩ := HXx.out i s g HT.out (HAN.out (by omega))
          have cT := turn_any _ vb pb s _ HG.out.v (fun e => by rw [HT.out.pen e]; omega)
          rw [hx1] at cT
          simp only [turnV] at cT
          have HT2 : Hid3 (Tn q (i + 1) (turnQ s) (upd g x.2 (g x.2 + 1))) := ⟨hx2⟩
          have hg40 : ((g x.2 : Nat) : Int) ≤ 40 := by have := HT.out.few x.2; omega
          have hx6 : (x.2.1 : Int) < 6 := by have := x.2.2; omega
          have hx6' : ¬ (6 : Int) ≤ (x.2.1 : Int) := by omega
          generalize turnQ s = s2 at *
          clear hx1 hx2
          go_wp2_with fail
          refine cT.mono ?_
          rintro r W6 ⟨rfl, hS6⟩
          have hG6 := HG.out.step hS6
          obtain ⟨c0, f0⟩ := hG6.ct x.2
          have hG7 := hG6.sett x.2 (g x.2 + 1)
          have HG7 : Hid3 (FrS w (W6.setCell ⟨bp + 1, x.2.1, none⟩ (.int .i64 ((g x.2 : Int) + 1))) vb pb bp (bp + 1) s2 f (upd g x.2 (g x.2 + 1))) := ⟨hG7⟩
          clear cT hS6 hG6 hG7
          go_wp2
          go_roundw
          case rel => exact ⟨i + 1, _, _, by omega, by go_num, HT2, HG7⟩
          case measure => simp [intOf]; omega
        · have hltz : ¬ (i : Int) < (N : Int) := by omega
          have HZ : Hid3 (∀ e : Fin 6, g e = (n0 + 1) * f e) := ⟨HDx.out i s g HT.out (by omega)⟩
          have HO : Hid3 (A = 0 → (turnS s).2 = none) := ⟨HEx.out i s g HT.out⟩
          have HP0 : Hid3 (s.Ok) := ⟨fun e => by rw [HT.out.pen e]; omega⟩
          clear HT HDx HEx HXx HAN
          go_wp2_with fail
          go_loopw [19] (fun s19 wr5 => ∃ (k : Nat), k ≤ 6 ∧ s19 = .int .i64 k ∧ Hid3 (FrS w wr5 vb pb bp (bp + 1) s f g)) (fun s _ => 6 - (intOf s).toNat)
          case atStart => exact ⟨0, Nat.zero_le _, rfl, HG⟩
          case round =>
            obtain ⟨k, hk, rfl, HG5⟩ := hrel
            by_cases hk6 : k < 6
            · have hkz : (k : Int) < 6 := by omega
              have c0 := (HG5.out.ct ⟨k, hk6⟩).1
              have c1 := (HG5.out.cp ⟨k, hk6⟩).1
              simp only at c0 c1
              have h8 := HPl.out ⟨k, hk6⟩
              have hz := HZ.out ⟨k, hk6⟩
              generalize g ⟨k, hk6⟩ = gk at *
              generalize f ⟨k, hk6⟩ = fk at *
              have hmm : ((n0 : Int) + 1) * (fk : Int) = (gk : Int) := by rw [hz, Int.natCast_mul]; rfl
              have hgk : gk ≤ 40 := by rw [hz]; exact Nat.le_trans (Nat.mul_le_mul (show n0 + 1 ≤ 5 by omega) h8) (Nat.le_refl _)
              have hgg : ((gk : Int) != (gk : Int)) = false := by simp
              clear hz
              go_wp2_with fail
              go_quiet (fail)
              have HG6 : Hid3 (FrS w (World.drewN _ nq) vb pb bp (bp + 1) s f g) := ⟨HG5.out.below ⟨rfl, rfl, rfl, Nat.le_refl _, fun _ _ => rfl⟩⟩
              go_wp2
              go_roundw
              case rel => exact ⟨k + 1, by omega, by go_num, HG6⟩
              case measure => simp [intOf]; omega
            · obtain rfl : k = 6 := by omega
              by_cases hA0 : A = 0
              · have cT := turn_any _ vb pb s _ HG5.out.v HP0.out
                rw [HO.out hA0] at cT
                simp only [turnV] at cT
                subst hA0
                go_wp2_with fail
                refine cT.mono ?_
                rintro r W6 ⟨rfl, hS6⟩
                have HB6 := (HG5.out.step hS6).b
                clear cT hS6
                go_wp2
                go_ret
                exact ⟨rfl, HB6⟩
              · have hAb : ((A : Int) == 0) = false := by rw [beq_eq_false_iff_ne]; omega
                have hA0z : ¬ ((A : Int) = 0) := by omega
                have HB6 := HG5.out.b
                go_wp2
                go_ret
                exact ⟨rfl, HB6⟩
end Go.Proofs.Ytgfiliodbggahaa
