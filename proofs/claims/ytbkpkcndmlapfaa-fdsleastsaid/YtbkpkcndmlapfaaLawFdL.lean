/- FdsLeast: the walk. -/
import Derived.Test.YtbkpkcndmlapfaaFdLv
namespace Go.Proofs.Ytbkpkcndmlapfaa
open Go.RowKit Go.Maps
set_option linter.unusedVariables false
set_option maxRecDepth 100000
theorem lsL_mem (f : Fin 8 → Nat) : ∀ K x, x ∈ lsL f K → ∃ h : x < 8, f ⟨x, h⟩ ≠ 0
  | 0, x, h => by cases h
  | K + 1, x, h => by
    rw [lsL] at h
    by_cases hK : K < 8
    · rw [dif_pos hK] at h
      by_cases h0 : f ⟨K, hK⟩ = 0
      · rw [if_pos h0] at h
        exact lsL_mem f K x h
      · rw [if_neg h0] at h
        rcases List.mem_append.1 h with h | h
        · exact lsL_mem f K x h
        · have e : x = K := by simpa using h
          subst e
          exact ⟨hK, h0⟩
    · rw [dif_neg hK] at h
      exact lsL_mem f K x h
theorem lsL_low (f : Fin 8 → Nat) (J : Nat) (hJ : J ≤ 8) (h : ∀ k : Fin 8, k.1 < J → f k ≠ 0) : ∀ K, K ≤ J → (lsL f K).length = K ∧ ∀ m, m < K → (lsL f K)[m]? = some m
  | 0, _ => ⟨rfl, fun m hm => absurd hm (by omega)⟩
  | K + 1, hK => by
    obtain ⟨h1, h2⟩ := lsL_low f J hJ h K (by omega)
    rw [lsL_yes f K (by omega) (h ⟨K, by omega⟩ (by show K < J; omega))]
    refine ⟨by rw [List.length_append, h1]; rfl, fun m hm => ?_⟩
    by_cases e : m = K
    · subst e
      rw [List.getElem?_append_right (by omega), h1]
      simp
    · rw [List.getElem?_append_left (by omega)]
      exact h2 m (by omega)
/-- How far the row has all. -/
structure Want (f : Fin 8 → Nat) (J : Nat) : Prop where
  le : J ≤ (lsL f 8).length
  lt : ∀ m, m < J → (lsL f 8)[m]? = some m
  ge : ∀ x, (lsL f 8)[J]? = some x → x ≠ J
theorem want_ok (f : Fin 8 → Nat) (J : Nat) (hJ : J ≤ 8) (h : ∀ k : Fin 8, k.1 < J → f k ≠ 0) (h0 : ∀ hh : J < 8, f ⟨J, hh⟩ = 0) : Want f J := by
  obtain ⟨h1, h2⟩ := lsL_low f J hJ h J (Nat.le_refl _)
  obtain ⟨r, hr⟩ := lsL_pre f J 8 hJ
  refine ⟨by rw [← hr, List.length_append]; omega, fun m hm => ?_, fun x hx e => ?_⟩
  · rw [← hr, List.getElem?_append_left (by omega)]
    exact h2 m hm
  · obtain ⟨hx8, hne⟩ := lsL_mem f 8 x (List.mem_of_getElem? hx)
    subst e
    exact hne (h0 hx8)
theorem lsL_upd (f : Fin 8 → Nat) (j : Fin 8) (n : Nat) (h0 : f j = 0) (hn : n ≠ 0) : ∀ K, K ≤ 8 → (lsL (upd f j n) K).length = (lsL f K).length + (if j.1 < K then 1 else 0)
  | 0, _ => by rw [if_neg (by omega)]; rfl
  | K + 1, hK => by
    have ih := lsL_upd f j n h0 hn K (by omega)
    by_cases e : j.1 = K
    · have ej : j = ⟨K, by omega⟩ := Fin.ext e
      rw [lsL_no f K (by omega) (by rw [← ej]; exact h0), lsL_yes (upd f j n) K (by omega) (by rw [← ej, upd_same]; exact hn), List.length_append, ih, if_neg (by omega), if_pos (by omega)]
      rfl
    · have ne : (⟨K, by omega⟩ : Fin 8) ≠ j := fun x => e (by rw [← x])
      have eu : upd f j n ⟨K, by omega⟩ = f ⟨K, by omega⟩ := upd_other _ _ _ _ ne
      by_cases hz : f ⟨K, by omega⟩ = 0
      · rw [lsL_no f K (by omega) hz, lsL_no (upd f j n) K (by omega) (by rw [eu]; exact hz), ih]
        congr 1
        by_cases c : j.1 < K
        · rw [if_pos c, if_pos (by omega)]
        · rw [if_neg c, if_neg (by omega)]
      · rw [lsL_yes f K (by omega) hz, lsL_yes (upd f j n) K (by omega) (by rw [eu]; exact hz), List.length_append, List.length_append, ih]
        by_cases c : j.1 < K
        · rw [if_pos c, if_pos (by omega)]
          simp only [List.length_singleton]
        · rw [if_neg c, if_neg (by omega)]
          simp
/-- What List, Room, Open, Get and Room again come to. -/
structure LeR (s : Fs) (pid : Int) (o : Opn) (ls : List Nat) (J : Nat) (rm n e : Int) : Prop where
  l : ∀ B w L, Ft B w L s → Calls Try.prog 12 #[.pointer (some ⟨L.t, 0, none⟩), .int .i64 pid] w fun r w' => ∃ v, r = .returned v ∧ Ints w' v ls ∧ Below w.heap.size w w'
  r : ∀ B w L, Ft B w L s → Calls Try.prog 13 #[.pointer (some ⟨L.t, 0, none⟩), .int .i64 pid] w fun r w' => r = .returned (.int .i64 rm) ∧ Below w.heap.size w w'
  ll : ls.length ≤ 8
  jl : J ≤ ls.length
  jt : ∀ m, m < J → ls[m]? = some m
  jg : ∀ x, ls[J]? = some x → x ≠ J
  ans : (e ≠ 0 ∧ n = 0 ∧ ((e = 5 ∧ rm = 0) ∨ e = 2 ∨ (e = 11 ∧ rm = 0 ∧ ls.length = 8)) ∧ ∀ B w L, Ft B w L s → Calls Try.prog 14 #[.pointer (some ⟨L.t, 0, none⟩), .int .i64 pid, .agg (opC o).toArray] w fun r w' => r = .returned (.tuple #[.int .i64 n, .int .i64 e]) ∧ Below w.heap.size w w') ∨
    (e = 0 ∧ n = J ∧ 1 ≤ rm ∧ rm ≤ 8 ∧ ∃ s', (∀ B w L, Ft B w L s → B ≤ w.heap.size → Calls Try.prog 14 #[.pointer (some ⟨L.t, 0, none⟩), .int .i64 pid, .agg (opC o).toArray] w fun r w' => r = .returned (.tuple #[.int .i64 n, .int .i64 e]) ∧ FStp B w w' L s s') ∧
      (∀ B w L, Ft B w L s' → Calls Try.prog 15 #[.pointer (some ⟨L.t, 0, none⟩), .int .i64 pid, .int .i64 n] w fun r w' => r = .returned (.tuple #[.agg #[.int .u8 o.k, .int .i64 o.r, .int .i64 o.p], .int .i64 0]) ∧ Below w.heap.size w w') ∧
      (∀ B w L, Ft B w L s' → Calls Try.prog 13 #[.pointer (some ⟨L.t, 0, none⟩), .int .i64 pid] w fun r w' => r = .returned (.int .i64 (rm - 1)) ∧ Below w.heap.size w w'))
theorem le_any (s : Fs) (pid : Int) (o : Opn) : ∃ ls J rm n e, LeR s pid o ls J rm n e := by
  rcases pid_cases s pid with hp | ⟨p, rfl, hp⟩
  · refine ⟨[], 0, 0, 0, 5, fun B w L h => (lst_bad B L s pid w h hp).mono (fun r w' k => ⟨_, k.1, ⟨none, 0, rfl, fun j n h => by cases h⟩, by rw [k.2]; exact Below.refl _ _⟩), fun B w L h => (room_bad B L s pid w h hp).mono (fun r w' k => ⟨k.1, by rw [k.2]; exact Below.refl _ _⟩), Nat.zero_le _, Nat.le_refl _, fun m hm => absurd hm (by omega), fun x hx => (by cases hx), .inl ⟨by decide, rfl, .inl ⟨rfl, rfl⟩, fun B w L h => open_nop B L s pid o w h hp⟩⟩
  have hL : ∀ B w L, Ft B w L s → Calls Try.prog 12 #[.pointer (some ⟨L.t, 0, none⟩), .int .i64 p.1] w fun r w' => ∃ v, r = .returned v ∧ Ints w' v (lsL (s.fd p) 8) ∧ Below w.heap.size w w' := fun B w L h => (lst_ok B L s p w h hp).mono (fun r w' ⟨v, k1, k2, k3⟩ => ⟨v, k1, Ints.of_own k2, k3⟩)
  have hR : ∀ B w L, Ft B w L s → Calls Try.prog 13 #[.pointer (some ⟨L.t, 0, none⟩), .int .i64 p.1] w fun r w' => r = .returned (.int .i64 (roomN s p)) ∧ Below w.heap.size w w' := fun B w L h => room_ok B L s p w h hp
  have hll := lsL_len (s.fd p) 8
  rcases leastF_cases (s.fd p) with ⟨hn, hf⟩ | ⟨j, hj, h0, hl⟩
  · have hfull := lsL_full (s.fd p) hf 8 (Nat.le_refl _)
    have hW := want_ok (s.fd p) 8 (Nat.le_refl _) (fun k _ => hf k) (fun hh => absurd hh (by omega))
    have hr0 : ((roomN s p : Nat) : Int) = 0 := by unfold roomN; rw [hfull]; rfl
    by_cases ho : kindOk o.k
    · exact ⟨_, 8, _, 0, 11, hL, hR, hll, hW.le, hW.lt, hW.ge, .inl ⟨by decide, rfl, .inr (.inr ⟨rfl, hr0, hfull⟩), fun B w L h => open_full B L s p o w h hp ho hn⟩⟩
    · exact ⟨_, 8, _, 0, 2, hL, hR, hll, hW.le, hW.lt, hW.ge, .inl ⟨by decide, rfl, .inr (.inl rfl), fun B w L h => open_kind B L s p o w h hp ho⟩⟩
  · have hW := want_ok (s.fd p) j.1 (by omega) hl (fun hh => h0)
    by_cases ho : kindOk o.k
    · have hup := lsL_upd (s.fd p) j (s.all.length + 1) h0 (by omega) 8 (Nat.le_refl _)
      rw [if_pos j.2] at hup
      have hul := lsL_len (upd (s.fd p) j (s.all.length + 1)) 8
      have efd : (opnS s p j o).fd p = upd (s.fd p) j (s.all.length + 1) := by unfold opnS setFd; exact upd_same _ _ _
      have efj : (opnS s p j o).fd p j = s.all.length + 1 := by rw [efd, upd_same]
      refine ⟨_, j.1, _, j.1, 0, hL, hR, hll, hW.le, hW.lt, hW.ge, .inr ⟨rfl, rfl, by unfold roomN; omega, by unfold roomN; omega, opnS s p j o, fun B w L h hB => open_ok B L s p j o w h hB hp ho hj h0, fun B w L h => ?_, fun B w L h => ?_⟩⟩
      · have := get_ok B L (opnS s p j o) p j w h hp (by rw [efj]; omega)
        rw [efj] at this
        have e2 : getO (opnS s p j o) (s.all.length + 1) = o := getO_new s o
        rw [e2] at this
        exact this
      · have := room_ok B L (opnS s p j o) p w h hp
        have e3 : ((roomN (opnS s p j o) p : Nat) : Int) = (roomN s p : Int) - 1 := by
          unfold roomN
          rw [efd, hup]
          omega
        rw [e3] at this
        exact this
    · exact ⟨_, j.1, _, 0, 2, hL, hR, hll, hW.le, hW.lt, hW.ge, .inl ⟨by decide, rfl, .inr (.inl rfl), fun B w L h => open_kind B L s p o w h hp ho⟩⟩
set_option maxHeartbeats 2000000 in
theorem least_law (v : Value) (l : List Dd) (x : Nat) (o : Opn) (hx : x ≤ 255) (w : World) (hd : Dds w v l) : Calls Try.prog 4 #[v, .int .u8 x, .agg (opC o).toArray] w fun r w' => r = .returned (.bool true) ∧ Below w.heap.size w w' := by
  have hX := below_new w (.cells #[.int .u8 o.k, .int .i64 o.r, .int .i64 o.p] 32)
  have hbx := heap_alloc_new w (.cells #[.int .u8 o.k, .int .i64 o.r, .int .i64 o.p] 32)
  have cP := play_any v l _ (hd.below hX)
  have HX := Hid3.mk hX
  obtain ⟨ad, cap, rfl, _⟩ := id hd
  clear hd hX
  unfold opC
  go_enter Try.func4, Try.ntmps4
  go_wp2_with fail
  refine cP.mono ?_
  rintro r W1 ⟨tb, rb, rfl, hPb⟩
  have hb1 := (hPb.bl.block w.heap.size (by simp)).trans hbx
  have HB := Hid3.mk hPb
  have cL := live_any W1
  clear cP hPb
  go_wp2_with fail
  refine cL.mono ?_
  rintro r W2 ⟨rfl, hb⟩
  have hl1 : w.heap.size < W1.heap.size := (Array.getElem?_eq_some_iff.1 hb1).1
  have hb2 := (hb.block w.heap.size hl1).trans hb1
  obtain ⟨⟨L, s, eL, hT, hl⟩, hB2⟩ := HB.out.low hb
  have HT := Hid3.mk (And.intro eL hT.t)
  have HB2 : Hid3 (Below w.heap.size w W2) := ⟨HX.out.trans (hB2.mono (by simp))⟩
  have hl2 : w.heap.size < W2.heap.size := (Array.getElem?_eq_some_iff.1 hb2).1
  obtain ⟨p, hp⟩ : ∃ p : Int, (x : Int) % 6 = p := ⟨_, rfl⟩
  obtain ⟨ls, J, rm, n, e, hR⟩ := le_any s p o
  have HR := Hid3.mk hR
  have c1 := hR.l _ _ L hT.t
  rw [eL] at c1
  clear cL hb hT eL hl hB2 HB hbx hb1 hR
  go_wp2_with fail
  refine c1.mono ?_
  rintro r W3 ⟨v3, rfl, hI3, hB3⟩
  have hF3 := HT.out.2.below hB3
  have hb3 := (hB3.block w.heap.size hl2).trans hb2
  have HF3 := Hid3.mk hF3
  have HB3 := Hid3.mk (HB2.out.trans (hB3.mono HB2.out.size))
  obtain ⟨a3, cap3, rfl, hI⟩ := hI3
  have HI := Hid3.mk hI
  obtain ⟨N, hN⟩ : ∃ N, ls.length = N := ⟨_, rfl⟩
  have HN := Hid3.mk hN
  have hN8 : N ≤ 8 := by rw [← hN]; exact HR.out.ll
  have hJN : J ≤ N := by rw [← hN]; exact HR.out.jl
  have c2 := HR.out.r _ _ L hF3
  rw [HT.out.1] at c2
  rw [hN]
  clear c1 hB3 hF3 hI hN hb2
  go_wp2_with fail
  go_loopw [12] (fun i W => ∃ m : Nat, i = .int .i64 m ∧ m ≤ J ∧ W = W3) (fun i _ => 9 - (intOf i).toNat)
  case atStart => exact ⟨0, rfl, Nat.zero_le _, rfl⟩
  case round =>
    obtain ⟨m, rfl, hm, rfl⟩ := hrel
    by_cases hmJ : m < J
    · have hmz : (m : Int) < (N : Int) := by omega
      obtain ⟨g, off, rfl, c0⟩ := HI.out m m (HR.out.jt m hmJ)
      have hmm : ((m : Int) == (m : Int)) = true := by simp
      go_wp2
      go_roundw
      case rel => exact ⟨m + 1, by go_num, by omega, by trivial⟩
      case measure => simp [intOf]; omega
    · obtain rfl : m = J := by omega
      have hrest : Hid3 (∀ (P : Prop), P → P) := ⟨fun P h => h⟩
      have HAns := Hid3.mk HR.out.ans
      have y0 : wr.cell? ⟨w.heap.size, 0, none⟩ = some (.int .u8 o.k) := by rw [Lib.cell_of_heap hb3]; rfl
      have y1 : wr.cell? ⟨w.heap.size, 1, none⟩ = some (.int .i64 o.r) := by rw [Lib.cell_of_heap hb3]; rfl
      have y2 : wr.cell? ⟨w.heap.size, 2, none⟩ = some (.int .i64 o.p) := by rw [Lib.cell_of_heap hb3]; rfl
      have hl3 : w.heap.size < wr.heap.size := (Array.getElem?_eq_some_iff.1 hb3).1
      have HRest : Hid3 (∀ W4, Below wr.heap.size wr W4 → W4.cell? ⟨w.heap.size, 0, none⟩ = some (.int .u8 o.k) ∧ W4.cell? ⟨w.heap.size, 1, none⟩ = some (.int .i64 o.r) ∧ W4.cell? ⟨w.heap.size, 2, none⟩ = some (.int .i64 o.p) ∧ w.heap.size < W4.heap.size ∧ W4.heap[w.heap.size]? = some (.cells #[.int .u8 o.k, .int .i64 o.r, .int .i64 o.p] 32)) := ⟨fun W4 hB => ⟨(hB.cell (p := ⟨w.heap.size, 0, none⟩) hl3).trans y0, (hB.cell (p := ⟨w.heap.size, 1, none⟩) hl3).trans y1, (hB.cell (p := ⟨w.heap.size, 2, none⟩) hl3).trans y2, Nat.lt_of_lt_of_le hl3 hB.size, (hB.block w.heap.size hl3).trans hb3⟩⟩
      have HEND : Hid3 (m = N ∨ (m < N ∧ ∃ y : Nat, y ≠ m ∧ ls[m]? = some y)) := ⟨by
        by_cases hmN : m < N
        · have hml : m < ls.length := by rw [HN.out]; exact hmN
          exact .inr ⟨hmN, ls[m], HR.out.jg _ (List.getElem?_eq_getElem hml), List.getElem?_eq_getElem hml⟩
        · exact .inl (by omega)⟩
      clear y0 y1 y2 hb3 hrest
      rcases HEND.out with hmN | ⟨hmN, y, hym, hy⟩
      · have hmz : ¬ (m : Int) < (N : Int) := by omega
        clear HEND hmN
        go_wp2_with fail
        refine c2.mono ?_
        rintro r W4 ⟨rfl, hB4⟩
        obtain ⟨z0, z1, z2, hl4, hb4⟩ := HRest.out W4 hB4
        have HF4 := Hid3.mk (HF3.out.below hB4)
        have HB4 := Hid3.mk (HB3.out.trans (hB4.mono HB3.out.size))
        clear c2 hB4 HRest
        rcases HAns.out with ⟨he, hn, hcase, hO⟩ | ⟨he, hn, hr1, hr8, s', hO, hG, hRm⟩
        · have c5 := hO _ _ L HF4.out
          rw [HT.out.1] at c5
          unfold opC at c5
          have hHN := HN.out
          rcases hcase with ⟨e1, e2⟩ | e1 | ⟨e1, e2, e3⟩
          · subst hn
            rw [e1] at c5
            rw [e2]
            clear HAns hO e1 e2 he hHN
            go_wp2_with fail
            refine c5.mono ?_
            rintro r W5 ⟨rfl, hB5⟩
            have HB5 := Hid3.mk (HB4.out.trans (hB5.mono HB4.out.size))
            clear c5 hB5
            go_wp2
            go_ret
            exact ⟨rfl, HB5.out⟩
          · subst hn
            rw [e1] at c5
            clear HAns hO e1 he hHN
            go_wp2_with fail
            refine c5.mono ?_
            rintro r W5 ⟨rfl, hB5⟩
            have HB5 := Hid3.mk (HB4.out.trans (hB5.mono HB4.out.size))
            clear c5 hB5
            go_wp2
            go_ret
            exact ⟨rfl, HB5.out⟩
          · subst hn
            rw [e1] at c5
            rw [e2]
            have hNz : (N : Int) = 8 := by omega
            have hNz2 : ((N : Int) == 8) = true := by rw [hNz]; rfl
            clear HAns hO e1 e2 he e3 hHN hNz
            go_wp2_with fail
            refine c5.mono ?_
            rintro r W5 ⟨rfl, hB5⟩
            have HB5 := Hid3.mk (HB4.out.trans (hB5.mono HB4.out.size))
            clear c5 hB5
            go_wp2
            go_ret
            exact ⟨rfl, HB5.out⟩
        · subst he
          have c5 := hO _ _ L HF4.out (by rw [World.size_alloc]; omega)
          rw [HT.out.1] at c5
          have HG := Hid3.mk hG
          have HRm := Hid3.mk hRm
          rw [hn] at c5 HG
          unfold opC at c5
          clear HAns hO hG hRm hn
          go_wp2_with fail
          refine c5.mono ?_
          rintro r W5 ⟨rfl, hs5⟩
          have hnx : ¬ XF L s w.heap.size := fun e => by
            obtain ⟨_, _, t, c, hc, ht⟩ := HF4.out.x e
            have := hc.symm.trans hb4
            injection this with this
            injection this with _ this
            rcases ht with e | e | e <;> (rw [e] at this; exact absurd this (by decide))
          have hb5 := (hs5.ap.block w.heap.size hl4 hnx).trans hb4
          have HB5 : Hid3 (Below w.heap.size w W5) := ⟨HB4.out.trans ((hs5.low HF4.out (by rw [World.size_alloc]; omega)).mono (by simp))⟩
          obtain ⟨L5, e5, hF5, _⟩ := hs5.out
          have c6 := HG.out _ _ L5 hF5
          rw [e5, HT.out.1] at c6
          have HF5 := Hid3.mk (And.intro e5 hF5)
          clear c5 hs5 hnx hF5 e5 z0 z1 z2 hb4
          go_wp2_with fail
          refine c6.mono ?_
          rintro r W6 ⟨rfl, hB6⟩
          have hl5 : w.heap.size < W5.heap.size := (Array.getElem?_eq_some_iff.1 hb5).1
          have hb6 := (hB6.block w.heap.size hl5).trans hb5
          have hX6 := below_new W6 (.cells #[.int .u8 o.k, .int .i64 o.r, .int .i64 o.p] 32)
          have y0 : W6.cell? ⟨w.heap.size, 0, none⟩ = some (.int .u8 o.k) := by rw [Lib.cell_of_heap hb6]; rfl
          have y1 : W6.cell? ⟨w.heap.size, 1, none⟩ = some (.int .i64 o.r) := by rw [Lib.cell_of_heap hb6]; rfl
          have y2 : W6.cell? ⟨w.heap.size, 2, none⟩ = some (.int .i64 o.p) := by rw [Lib.cell_of_heap hb6]; rfl
          have hl6 : w.heap.size < W6.heap.size := (Array.getElem?_eq_some_iff.1 hb6).1
          have c7 := HRm.out _ _ L5 ((HF5.out.2.below hB6).below hX6)
          rw [HF5.out.1, HT.out.1] at c7
          have HB6 : Hid3 (Below w.heap.size w (W6.alloc (.cells #[.int .u8 o.k, .int .i64 o.r, .int .i64 o.p] 32))) := ⟨(HB5.out.trans (hB6.mono HB5.out.size)).trans (hX6.mono (Nat.le_trans HB5.out.size hB6.size))⟩
          have eG := eqGuardO
          have eM := fun W => eqO W o o
          rw [decide_eq_true rfl] at eM
          have hJJ : ((m : Int) == (m : Int)) = true := by simp
          have hw : IntKind.i64.wrap (rm - 1) = rm - 1 := by rw [IntKind.wrap_i64]; omega
          obtain ⟨r1, hr1'⟩ : ∃ r1, rm - 1 = r1 := ⟨_, rfl⟩
          have hrr : (r1 == r1) = true := by simp
          rw [hr1'] at c7 hw
          clear c6 hB6 hX6 hb6 hb5 HG HRm HF5
          go_wp2_with fail
          refine c7.mono ?_
          rintro r W7 ⟨rfl, hB7⟩
          have HB7 := Hid3.mk (HB6.out.trans (hB7.mono HB6.out.size))
          clear c7 hB7
          go_wp2
          go_ret
          exact ⟨rfl, HB7.out⟩
      · have hmz : (m : Int) < (N : Int) := by omega
        obtain ⟨g, off, rfl, c0⟩ := HI.out m y hy
        have hmm : ((y : Int) == (m : Int)) = false := by rw [beq_eq_false_iff_ne]; omega
        generalize (y : Int) = yy at *
        clear HEND hmN hym hy
        go_wp2_with fail
        refine c2.mono ?_
        rintro r W4 ⟨rfl, hB4⟩
        obtain ⟨z0, z1, z2, hl4, hb4⟩ := HRest.out W4 hB4
        have HF4 := Hid3.mk (HF3.out.below hB4)
        have HB4 := Hid3.mk (HB3.out.trans (hB4.mono HB3.out.size))
        clear c2 hB4 HRest
        rcases HAns.out with ⟨he, hn, hcase, hO⟩ | ⟨he, hn, hr1, hr8, s', hO, hG, hRm⟩
        · have c5 := hO _ _ L HF4.out
          rw [HT.out.1] at c5
          unfold opC at c5
          have hHN := HN.out
          rcases hcase with ⟨e1, e2⟩ | e1 | ⟨e1, e2, e3⟩
          · subst hn
            rw [e1] at c5
            rw [e2]
            clear HAns hO e1 e2 he hHN
            go_wp2_with fail
            refine c5.mono ?_
            rintro r W5 ⟨rfl, hB5⟩
            have HB5 := Hid3.mk (HB4.out.trans (hB5.mono HB4.out.size))
            clear c5 hB5
            go_wp2
            go_ret
            exact ⟨rfl, HB5.out⟩
          · subst hn
            rw [e1] at c5
            clear HAns hO e1 he hHN
            go_wp2_with fail
            refine c5.mono ?_
            rintro r W5 ⟨rfl, hB5⟩
            have HB5 := Hid3.mk (HB4.out.trans (hB5.mono HB4.out.size))
            clear c5 hB5
            go_wp2
            go_ret
            exact ⟨rfl, HB5.out⟩
          · subst hn
            rw [e1] at c5
            rw [e2]
            have hNz : (N : Int) = 8 := by omega
            have hNz2 : ((N : Int) == 8) = true := by rw [hNz]; rfl
            clear HAns hO e1 e2 he e3 hHN hNz
            go_wp2_with fail
            refine c5.mono ?_
            rintro r W5 ⟨rfl, hB5⟩
            have HB5 := Hid3.mk (HB4.out.trans (hB5.mono HB4.out.size))
            clear c5 hB5
            go_wp2
            go_ret
            exact ⟨rfl, HB5.out⟩
        · subst he
          have c5 := hO _ _ L HF4.out (by rw [World.size_alloc]; omega)
          rw [HT.out.1] at c5
          have HG := Hid3.mk hG
          have HRm := Hid3.mk hRm
          rw [hn] at c5 HG
          unfold opC at c5
          clear HAns hO hG hRm hn
          go_wp2_with fail
          refine c5.mono ?_
          rintro r W5 ⟨rfl, hs5⟩
          have hnx : ¬ XF L s w.heap.size := fun e => by
            obtain ⟨_, _, t, c, hc, ht⟩ := HF4.out.x e
            have := hc.symm.trans hb4
            injection this with this
            injection this with _ this
            rcases ht with e | e | e <;> (rw [e] at this; exact absurd this (by decide))
          have hb5 := (hs5.ap.block w.heap.size hl4 hnx).trans hb4
          have HB5 : Hid3 (Below w.heap.size w W5) := ⟨HB4.out.trans ((hs5.low HF4.out (by rw [World.size_alloc]; omega)).mono (by simp))⟩
          obtain ⟨L5, e5, hF5, _⟩ := hs5.out
          have c6 := HG.out _ _ L5 hF5
          rw [e5, HT.out.1] at c6
          have HF5 := Hid3.mk (And.intro e5 hF5)
          clear c5 hs5 hnx hF5 e5 z0 z1 z2 hb4
          go_wp2_with fail
          refine c6.mono ?_
          rintro r W6 ⟨rfl, hB6⟩
          have hl5 : w.heap.size < W5.heap.size := (Array.getElem?_eq_some_iff.1 hb5).1
          have hb6 := (hB6.block w.heap.size hl5).trans hb5
          have hX6 := below_new W6 (.cells #[.int .u8 o.k, .int .i64 o.r, .int .i64 o.p] 32)
          have y0 : W6.cell? ⟨w.heap.size, 0, none⟩ = some (.int .u8 o.k) := by rw [Lib.cell_of_heap hb6]; rfl
          have y1 : W6.cell? ⟨w.heap.size, 1, none⟩ = some (.int .i64 o.r) := by rw [Lib.cell_of_heap hb6]; rfl
          have y2 : W6.cell? ⟨w.heap.size, 2, none⟩ = some (.int .i64 o.p) := by rw [Lib.cell_of_heap hb6]; rfl
          have hl6 : w.heap.size < W6.heap.size := (Array.getElem?_eq_some_iff.1 hb6).1
          have c7 := HRm.out _ _ L5 ((HF5.out.2.below hB6).below hX6)
          rw [HF5.out.1, HT.out.1] at c7
          have HB6 : Hid3 (Below w.heap.size w (W6.alloc (.cells #[.int .u8 o.k, .int .i64 o.r, .int .i64 o.p] 32))) := ⟨(HB5.out.trans (hB6.mono HB5.out.size)).trans (hX6.mono (Nat.le_trans HB5.out.size hB6.size))⟩
          have eG := eqGuardO
          have eM := fun W => eqO W o o
          rw [decide_eq_true rfl] at eM
          have hJJ : ((m : Int) == (m : Int)) = true := by simp
          have hw : IntKind.i64.wrap (rm - 1) = rm - 1 := by rw [IntKind.wrap_i64]; omega
          obtain ⟨r1, hr1'⟩ : ∃ r1, rm - 1 = r1 := ⟨_, rfl⟩
          have hrr : (r1 == r1) = true := by simp
          rw [hr1'] at c7 hw
          clear c6 hB6 hX6 hb6 hb5 HG HRm HF5
          go_wp2_with fail
          refine c7.mono ?_
          rintro r W7 ⟨rfl, hB7⟩
          have HB7 := Hid3.mk (HB6.out.trans (hB7.mono HB6.out.size))
          clear c7 hB7
          go_wp2
          go_ret
          exact ⟨rfl, HB7.out⟩
end Go.Proofs.Ytbkpkcndmlapfaa
