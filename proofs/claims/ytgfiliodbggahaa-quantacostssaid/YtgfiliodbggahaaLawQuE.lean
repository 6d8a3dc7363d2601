/- QuantaCosts: the walk. -/
import Derived.Test.YtgfiliodbggahaaLawQuA
namespace Go.Proofs.Ytgfiliodbggahaa
open Go.RowKit Go.Maps
set_option linter.unusedVariables false
set_option maxRecDepth 100000
def plC : Fin 8 → Option (Fin 6) := upd (upd (fun _ => none) 2 (some 0)) 5 (some 1)
def penC (r : Nat) : Fin 6 → Nat := fun e => if e = 0 then r else 0
def nowC (p i : Nat) : Fin 8 := if i = 0 then 7 else if i ≤ p then 5 else if (i - p) % 2 = 1 then 2 else 5
def stQ (p i : Nat) : Qs := ⟨plC, penC (p - i), nowC p i⟩
def whoC (p i : Nat) : Pe := if i < p then (5, 1) else if (i - p) % 2 = 0 then (2, 0) else (5, 1)
def firstN (p i : Nat) : Nat := if i ≤ p then 0 else (i - p + 1) / 2
theorem tkC7 : tkL plC 8 8 = [(2, 0), (5, 1)] := by decide
theorem tkC5 : tkL plC 6 8 = [(2, 0), (5, 1)] := by decide
theorem tkC2 : tkL plC 3 8 = [(5, 1), (2, 0)] := by decide
theorem tk57 (n : Fin 8) (h : n = 7 ∨ n = 5) : tkL plC (n.1 + 1) 8 = [(2, 0), (5, 1)] := by
  rcases h with rfl | rfl
  · exact tkC7
  · exact tkC5
theorem penC_dec (r : Nat) : upd (penC (r + 1)) 0 (r + 1 - 1) = penC r := by
  funext e
  unfold upd penC
  split <;> rfl
theorem stQ_step (p i : Nat) : (turnS (stQ p i)).2 = some (whoC p i) ∧ turnQ (stQ p i) = stQ p (i + 1) := by
  by_cases h1 : i < p
  · have hn : nowC p i = 7 ∨ nowC p i = 5 := by
      unfold nowC
      by_cases h0 : i = 0
      · rw [if_pos h0]; exact .inl rfl
      · rw [if_neg h0, if_pos (by omega)]; exact .inr rfl
    have hS : turnS (stQ p i) = (penC (p - (i + 1)), some (5, 1)) := by
      show goS (tkL plC ((nowC p i).1 + 1) 8) (penC (p - i)) = _
      rw [tk57 _ hn, show p - i = (p - (i + 1)) + 1 by omega]
      show (if penC (p - (i + 1) + 1) 0 = 0 then _ else goS [(5, 1)] (upd (penC (p - (i + 1) + 1)) 0 (p - (i + 1) + 1 - 1))) = _
      rw [if_neg (by simp [penC]), penC_dec]
      simp [goS, penC]
    refine ⟨by rw [hS]; simp [whoC, h1], ?_⟩
    unfold turnQ
    rw [hS]
    simp only [stQ]
    congr 1
    unfold nowC
    rw [if_neg (by omega), if_pos (by omega)]
  · have hp : p - i = 0 := by omega
    have hp1 : p - (i + 1) = 0 := by omega
    by_cases h2 : (i - p) % 2 = 0
    · have hn : nowC p i = 7 ∨ nowC p i = 5 := by
        unfold nowC
        by_cases h0 : i = 0
        · rw [if_pos h0]; exact .inl rfl
        · rw [if_neg h0]
          by_cases h3 : i ≤ p
          · rw [if_pos h3]; exact .inr rfl
          · rw [if_neg h3, if_neg (by omega)]; exact .inr rfl
      have hS : turnS (stQ p i) = (penC 0, some (2, 0)) := by
        show goS (tkL plC ((nowC p i).1 + 1) 8) (penC (p - i)) = _
        rw [tk57 _ hn, hp]
        simp [goS, penC]
      refine ⟨by rw [hS]; simp [whoC, h1, h2], ?_⟩
      unfold turnQ
      rw [hS]
      simp only [stQ, hp1]
      congr 1
      unfold nowC
      rw [if_neg (by omega), if_neg (by omega), if_pos (by omega)]
    · have hn : nowC p i = 2 := by
        unfold nowC
        rw [if_neg (by omega), if_neg (by omega), if_pos (by omega)]
      have hS : turnS (stQ p i) = (penC 0, some (5, 1)) := by
        show goS (tkL plC ((nowC p i).1 + 1) 8) (penC (p - i)) = _
        rw [hn, hp]
        rw [show ((2 : Fin 8).1 + 1) = 3 from rfl, tkC2]
        simp [goS, penC]
      refine ⟨by rw [hS]; simp [whoC, h1, h2], ?_⟩
      unfold turnQ
      rw [hS]
      simp only [stQ, hp1]
      congr 1
      unfold nowC
      rw [if_neg (by omega), if_neg (by omega), if_neg (by omega)]
theorem whoC_env (p i : Nat) : (whoC p i).2.1 = (if i < p then 1 else if (i - p) % 2 = 0 then 0 else 1) := by
  unfold whoC
  split
  · rfl
  · split <;> rfl
theorem firstN_step (p i : Nat) : firstN p (i + 1) = firstN p i + (if (whoC p i).2.1 = 0 then 1 else 0) := by
  rw [whoC_env]
  unfold firstN
  by_cases h1 : i < p
  · rw [if_pos h1, if_pos (show i + 1 ≤ p by omega), if_pos (show i ≤ p by omega)]
    rfl
  · rw [if_neg h1, if_neg (show ¬ i + 1 ≤ p by omega)]
    by_cases h2 : (i - p) % 2 = 0
    · rw [if_pos h2, if_pos rfl]
      by_cases h3 : i ≤ p
      · rw [if_pos h3]; omega
      · rw [if_neg h3]; omega
    · rw [if_neg h2, if_neg (show ¬ i ≤ p by omega)]
      simp only [Nat.one_ne_zero, if_false]
      omega
theorem ok_stQ (p i : Nat) (h : p ≤ 1000) : (stQ p i).Ok := fun e => by
  show penC (p - i) e ≤ 1000
  unfold penC
  split <;> omega
theorem stQ_start (s : Nat) (h : s ≤ 255) : overQ 0 s (takeQ 1 5 (takeQ 0 2 q0)) = stQ (s - 4) 0 := by
  show (⟨plC, upd (fun _ => 0) 0 (min 1000 (0 + (s - 4))), 7⟩ : Qs) = ⟨plC, penC (s - 4 - 0), 7⟩
  congr 1
  funext e
  unfold upd penC
  split
  · omega
  · rfl
set_option maxHeartbeats 2000000 in
theorem costs_law (steps turns : Int) (w : World) (h0 : 0 ≤ steps) (h1 : steps ≤ 255) (h2 : 0 ≤ turns) (h3 : turns ≤ 255) : Calls Try.prog 5 #[.int .u8 steps, .int .u8 turns] w fun e w' => e = .returned (.bool true) ∧ Below w.heap.size w w' := by
  obtain ⟨s, rfl⟩ : ∃ s : Nat, steps = (s : Int) := ⟨steps.toNat, by omega⟩
  obtain ⟨N, hN⟩ : ∃ N : Nat, turns % 120 = (N : Int) := ⟨(turns % 120).toNat, by omega⟩
  have hN120 : N < 120 := by omega
  have hs : s ≤ 255 := by omega
  have cN := new_any w
  have c1 := fun W (h : Vec w.heap.size W (w.heap.size + 1) w.heap.size q0) => take_ok w.heap.size (w.heap.size + 1) w.heap.size q0 0 2 W h
  have c2 := fun W (h : Vec w.heap.size W (w.heap.size + 1) w.heap.size (takeQ 0 2 q0)) => take_ok w.heap.size (w.heap.size + 1) w.heap.size (takeQ 0 2 q0) 1 5 W h
  have c3 := fun W (h : Vec w.heap.size W (w.heap.size + 1) w.heap.size (takeQ 1 5 (takeQ 0 2 q0))) => over_ok w.heap.size (w.heap.size + 1) w.heap.size (takeQ 1 5 (takeQ 0 2 q0)) 0 s W h (fun _ => Nat.zero_le _) (by omega)
  rw [stQ_start s hs] at c3
  have e1 : takeE 0 2 q0 = 0 := by decide
  have e2 : takeE 1 5 (takeQ 0 2 q0) = 0 := by decide
  rw [e1] at c1
  rw [e2] at c2
  change ∀ W, Vec w.heap.size W (w.heap.size + 1) w.heap.size q0 → Calls _ _ #[_, .int .u8 0, .int .i64 2] _ _ at c1
  change ∀ W, Vec w.heap.size W (w.heap.size + 1) w.heap.size (takeQ 0 2 q0) → Calls _ _ #[_, .int .u8 1, .int .i64 5] _ _ at c2
  change ∀ W, Vec w.heap.size W (w.heap.size + 1) w.heap.size (takeQ 1 5 (takeQ 0 2 q0)) → Calls _ _ #[_, .int .u8 0, _] _ _ at c3
  generalize takeQ 1 5 (takeQ 0 2 q0) = q2 at *
  generalize takeQ 0 2 q0 = q1 at *
  generalize q0 = qz at *
  obtain ⟨p, hp⟩ : ∃ p, s - 4 = p := ⟨_, rfl⟩
  rw [hp] at c3
  have hp251 : p ≤ 251 := by omega
  clear e1 e2
  go_enter Try.func5, Try.ntmps5
  go_wp2_with fail
  refine cN.mono ?_
  rintro r W0 ⟨rfl, v0, hB0⟩
  have c1' := c1 W0 v0
  clear c1 cN
  go_wp2_with fail
  refine c1'.mono ?_
  rintro r W1 ⟨rfl, s1⟩
  have c2' := c2 W1 s1.vec
  have hB1 := hB0.trans (s1.belowB v0 hB0.size)
  have V1 := s1.vec
  clear c2 c1' s1 v0 hB0
  go_wp2_with fail
  refine c2'.mono ?_
  rintro r W2 ⟨rfl, s2⟩
  have c3' := c3 W2 s2.vec
  have hB2 := hB1.trans (s2.belowB V1 hB1.size)
  have V2 := s2.vec
  clear c3 c2' s2 V1 hB1
  go_wp2_with fail
  refine c3'.mono ?_
  rintro r W3 ⟨rfl, s3⟩
  have HB3 : Hid3 (Below w.heap.size w W3) := ⟨hB2.trans (s3.belowB V2 hB2.size)⟩
  have HV3 : Hid3 (Vec w.heap.size W3 (w.heap.size + 1) w.heap.size (stQ p 0)) := ⟨s3.vec⟩
  have cP := vpen_ok (w.heap.size + 1) w.heap.size (stQ p 0) 0 W3 HV3.out.c
  change Calls _ _ #[_, .int .u8 0] _ (fun r w' => r = .returned (.int .i64 p) ∧ _) at cP
  clear c3' s3 V2 hB2
  go_wp2_with fail
  refine cP.mono ?_
  rintro r W4 ⟨rfl, hW⟩
  rw [hW]
  clear cP hW
  by_cases h4 : 4 < (s : Int)
  · have hpe : ((p : Int) != (s : Int) - 4) = false := by
      have : (p : Int) = (s : Int) - 4 := by omega
      rw [this]; simp
    clear hp
    go_wp2_with fail
    go_loopw [7, 9] (fun s7 s9 wr => ∃ (k : Nat), k ≤ N ∧ s7 = .int .i64 (firstN p k) ∧ s9 = .int .i64 k ∧ Hid3 (Vec w.heap.size wr (w.heap.size + 1) w.heap.size (stQ p k)) ∧ Hid3 (Below w.heap.size w wr)) (fun _ s _ => N - (intOf s).toNat)
    case atStart => exact ⟨0, Nat.zero_le _, by simp [firstN], rfl, HV3, HB3⟩
    case round =>
      obtain ⟨k, hk, rfl, rfl, HV, HB⟩ := hrel
      by_cases hlt : k < N
      · have hltz : (k : Int) < (N : Int) := by omega
        have cT := turn_any _ (w.heap.size + 1) w.heap.size (stQ p k) wr HV.out (ok_stQ p k (by omega))
        rw [(stQ_step p k).1, (stQ_step p k).2] at cT
        have HF : Hid3 (firstN p (k + 1) = firstN p k + (if (whoC p k).2.1 = 0 then 1 else 0)) := ⟨firstN_step p k⟩
        have hf : firstN p k ≤ k := by unfold firstN; split <;> omega
        have hf2 : ((firstN p k : Nat) : Int) ≤ 120 := by omega
        simp only [turnV] at cT
        generalize hF1 : firstN p (k + 1) = f1 at *
        generalize firstN p k = f0 at *
        have HF1 : Hid3 (firstN p (k + 1) = f1) := ⟨hF1⟩
        generalize whoC p k = x at *
        clear hF1 hf
        by_cases hx : x.2.1 = 0
        · have hxb : (((x.2.1 : Nat) : Int) == 0) = true := by rw [hx]; rfl
          have HF2 : Hid3 (f1 = f0 + 1) := ⟨by rw [HF.out, if_pos hx]⟩
          clear hx HF
          generalize ((x.1.1 : Nat) : Int) = xa at *
          generalize ((x.2.1 : Nat) : Int) = xb at *
          go_wp2_with fail
          refine cT.mono ?_
          rintro r W7 ⟨rfl, hS⟩
          have HV7 : Hid3 (Vec w.heap.size W7 (w.heap.size + 1) w.heap.size (stQ p (k + 1))) := ⟨hS.vec⟩
          have HB7 : Hid3 (Below w.heap.size w W7) := ⟨HB.out.trans (hS.belowB HV.out HB.out.size)⟩
          clear hS cT
          go_wp2
          go_roundw
          case rel => exact ⟨k + 1, by omega, by rw [HF1.out, HF2.out]; go_num, by go_num, HV7, HB7⟩
          case measure => simp [intOf]; omega
        · have hxb : (((x.2.1 : Nat) : Int) == 0) = false := by rw [beq_eq_false_iff_ne]; omega
          have HF2 : Hid3 (f1 = f0) := ⟨by rw [HF.out, if_neg hx, Nat.add_zero]⟩
          clear hx HF
          generalize ((x.1.1 : Nat) : Int) = xa at *
          generalize ((x.2.1 : Nat) : Int) = xb at *
          go_wp2_with fail
          refine cT.mono ?_
          rintro r W7 ⟨rfl, hS⟩
          have HV7 : Hid3 (Vec w.heap.size W7 (w.heap.size + 1) w.heap.size (stQ p (k + 1))) := ⟨hS.vec⟩
          have HB7 : Hid3 (Below w.heap.size w W7) := ⟨HB.out.trans (hS.belowB HV.out HB.out.size)⟩
          clear hS cT
          go_wp2
          go_roundw
          case rel => exact ⟨k + 1, by omega, by rw [HF1.out, HF2.out], by go_num, HV7, HB7⟩
          case measure => simp [intOf]; omega
      · have hltz : ¬ (k : Int) < (N : Int) := by omega
        obtain rfl : k = N := by omega
        have cL := live_any wr
        by_cases hgt : (p : Int) < (k : Int)
        · obtain ⟨f, hf⟩ : ∃ f, firstN p k = f := ⟨_, rfl⟩
          have hfz : ((k : Int) - (p : Int) + 1) / 2 = (f : Int) := by rw [← hf]; unfold firstN; rw [if_neg (by omega)]; omega
          have hff : ((f : Int) == (f : Int)) = true := by simp
          rw [hf]
          clear hf
          go_wp2_with fail
          refine cL.mono ?_
          rintro r W8 ⟨rfl, hB8⟩
          clear cL
          go_wp2
          go_ret
          exact ⟨rfl, HB.out.trans (hB8.mono HB.out.size)⟩
        · have hf : firstN p k = 0 := by unfold firstN; rw [if_pos (by omega)]
          rw [hf]
          clear hf
          go_wp2_with fail
          refine cL.mono ?_
          rintro r W8 ⟨rfl, hB8⟩
          clear cL
          go_wp2
          go_ret
          exact ⟨rfl, HB.out.trans (hB8.mono HB.out.size)⟩
  · have h4' : (s : Int) ≤ 4 := by omega
    have hpe : ((p : Int) != 0) = false := by
      have : (p : Int) = 0 := by omega
      rw [this]; rfl
    clear hp
    go_wp2_with fail
    go_loopw [7, 9] (fun s7 s9 wr => ∃ (k : Nat), k ≤ N ∧ s7 = .int .i64 (firstN p k) ∧ s9 = .int .i64 k ∧ Hid3 (Vec w.heap.size wr (w.heap.size + 1) w.heap.size (stQ p k)) ∧ Hid3 (Below w.heap.size w wr)) (fun _ s _ => N - (intOf s).toNat)
    case atStart => exact ⟨0, Nat.zero_le _, by simp [firstN], rfl, HV3, HB3⟩
    case round =>
      obtain ⟨k, hk, rfl, rfl, HV, HB⟩ := hrel
      by_cases hlt : k < N
      · have hltz : (k : Int) < (N : Int) := by omega
        have cT := turn_any _ (w.heap.size + 1) w.heap.size (stQ p k) wr HV.out (ok_stQ p k (by omega))
        rw [(stQ_step p k).1, (stQ_step p k).2] at cT
        have HF : Hid3 (firstN p (k + 1) = firstN p k + (if (whoC p k).2.1 = 0 then 1 else 0)) := ⟨firstN_step p k⟩
        have hf : firstN p k ≤ k := by unfold firstN; split <;> omega
        have hf2 : ((firstN p k : Nat) : Int) ≤ 120 := by omega
        simp only [turnV] at cT
        generalize hF1 : firstN p (k + 1) = f1 at *
        generalize firstN p k = f0 at *
        have HF1 : Hid3 (firstN p (k + 1) = f1) := ⟨hF1⟩
        generalize whoC p k = x at *
        clear hF1 hf
        by_cases hx : x.2.1 = 0
        · have hxb : (((x.2.1 : Nat) : Int) == 0) = true := by rw [hx]; rfl
          have HF2 : Hid3 (f1 = f0 + 1) := ⟨by rw [HF.out, if_pos hx]⟩
          clear hx HF
          generalize ((x.1.1 : Nat) : Int) = xa at *
          generalize ((x.2.1 : Nat) : Int) = xb at *
          go_wp2_with fail
          refine cT.mono ?_
          rintro r W7 ⟨rfl, hS⟩
          have HV7 : Hid3 (Vec w.heap.size W7 (w.heap.size + 1) w.heap.size (stQ p (k + 1))) := ⟨hS.vec⟩
          have HB7 : Hid3 (Below w.heap.size w W7) := ⟨HB.out.trans (hS.belowB HV.out HB.out.size)⟩
          clear hS cT
          go_wp2
          go_roundw
          case rel => exact ⟨k + 1, by omega, by rw [HF1.out, HF2.out]; go_num, by go_num, HV7, HB7⟩
          case measure => simp [intOf]; omega
        · have hxb : (((x.2.1 : Nat) : Int) == 0) = false := by rw [beq_eq_false_iff_ne]; omega
          have HF2 : Hid3 (f1 = f0) := ⟨by rw [HF.out, if_neg hx, Nat.add_zero]⟩
          clear hx HF
          generalize ((x.1.1 : Nat) : Int) = xa at *
          generalize ((x.2.1 : Nat) : Int) = xb at *
          go_wp2_with fail
          refine cT.mono ?_
          rintro r W7 ⟨rfl, hS⟩
          have HV7 : Hid3 (Vec w.heap.size W7 (w.heap.size + 1) w.heap.size (stQ p (k + 1))) := ⟨hS.vec⟩
          have HB7 : Hid3 (Below w.heap.size w W7) := ⟨HB.out.trans (hS.belowB HV.out HB.out.size)⟩
          clear hS cT
          go_wp2
          go_roundw
          case rel => exact ⟨k + 1, by omega, by rw [HF1.out, HF2.out], by go_num, HV7, HB7⟩
          case measure => simp [intOf]; omega
      · have hltz : ¬ (k : Int) < (N : Int) := by omega
        obtain rfl : k = N := by omega
        have cL := live_any wr
        by_cases hgt : (p : Int) < (k : Int)
        · obtain ⟨f, hf⟩ : ∃ f, firstN p k = f := ⟨_, rfl⟩
          have hfz : ((k : Int) - (p : Int) + 1) / 2 = (f : Int) := by rw [← hf]; unfold firstN; rw [if_neg (by omega)]; omega
          have hff : ((f : Int) == (f : Int)) = true := by simp
          rw [hf]
          clear hf
          go_wp2_with fail
          refine cL.mono ?_
          rintro r W8 ⟨rfl, hB8⟩
          clear cL
          go_wp2
          go_ret
          exact ⟨rfl, HB.out.trans (hB8.mono HB.out.size)⟩
        · have hf : firstN p k = 0 := by unfold firstN; rw [if_pos (by omega)]
          rw [hf]
          clear hf
          go_wp2_with fail
          refine cL.mono ?_
          rintro r W8 ⟨rfl, hB8⟩
          clear cL
          go_wp2
          go_ret
          exact ⟨rfl, HB.out.trans (hB8.mono HB.out.size)⟩
end Go.Proofs.Ytgfiliodbggahaa
