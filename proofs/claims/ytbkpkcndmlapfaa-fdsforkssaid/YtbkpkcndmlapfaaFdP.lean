/- What both tell; do both tell the same? live; deeds on both. -/
import Derived.Test.YtbkpkcndmlapfaaFdZ
namespace Go.Proofs.Ytbkpkcndmlapfaa
open Go.RowKit Go.Maps
set_option linter.unusedVariables false
set_option maxRecDepth 100000
theorem get_both (s : Fs) (pid fd : Int) (hl : s.all.length ≤ 1000) : ∃ (o : Opn) (e : Int), (∀ B w L, Ft B w L s → Calls Try.prog 15 #[.pointer (some ⟨L.t, 0, none⟩), .int .i64 pid, .int .i64 fd] w fun r w' => r = .returned (.tuple #[.agg #[.int .u8 o.k, .int .i64 o.r, .int .i64 o.p], .int .i64 e]) ∧ Below w.heap.size w w') ∧
    (∀ B w b, Rt B w b s → Calls Try.prog 31 #[.pointer (some ⟨b, 0, none⟩), .int .i64 pid, .int .i64 fd] w fun r w' => r = .returned (.tuple #[.agg #[.int .u8 o.k, .int .i64 o.r, .int .i64 o.p], .int .i64 e]) ∧ Below w.heap.size w w') := by
  rcases pid_cases s pid with hp | ⟨p, rfl, hp⟩
  · exact ⟨op0, 5, fun B w L h => get_err 5 (by decide) L.t pid fd w (fun W hW => at_nop B L s pid fd W (h.below hW) hp), fun B w b h => rget_err 5 (by decide) b pid fd w (fun W hW => rat_nop b s pid fd W (h.below hW).c hp)⟩
  rcases fd_cases s p fd with hk | ⟨k, rfl, hk⟩
  · exact ⟨op0, 3, fun B w L h => get_err 3 (by decide) L.t p.1 fd w (fun W hW => at_nof B L s p fd W (h.below hW) hp hk), fun B w b h => rget_err 3 (by decide) b p.1 fd w (fun W hW => rat_nof b s p fd W (h.below hW).c hp hk)⟩
  · exact ⟨getO s (s.fd p k), 0, fun B w L h => get_ok B L s p k w h hp hk, fun B w b h => rget_ok B b s p k w h hp hk hl⟩
theorem list_both (s : Fs) (pid : Int) : ∃ l : List Nat, l.length ≤ 8 ∧ (∀ B w L, Ft B w L s → Calls Try.prog 12 #[.pointer (some ⟨L.t, 0, none⟩), .int .i64 pid] w fun r w' => ∃ v, r = .returned v ∧ Ints w' v l ∧ Below w.heap.size w w') ∧
    (∀ B w b, Rt B w b s → Calls Try.prog 29 #[.pointer (some ⟨b, 0, none⟩), .int .i64 pid] w fun r w' => ∃ v, r = .returned v ∧ Ints w' v l ∧ Below w.heap.size w w') := by
  have hn : ∀ w, Ints w (.slice none 0 0) [] := fun w => ⟨none, 0, rfl, fun j n h => by cases h⟩
  rcases pid_cases s pid with hp | ⟨p, rfl, hp⟩
  · exact ⟨[], Nat.zero_le _, fun B w L h => (lst_bad B L s pid w h hp).mono (fun r w' k => ⟨_, k.1, hn _, by rw [k.2]; exact Below.refl _ _⟩), fun B w b h => (rlst_bad b s pid w h.c hp).mono (fun r w' k => ⟨_, k.1, hn _, by rw [k.2]; exact Below.refl _ _⟩)⟩
  · exact ⟨lsL (s.fd p) 8, lsL_len _ _, fun B w L h => (lst_ok B L s p w h hp).mono (fun r w' ⟨v, k1, k2, k3⟩ => ⟨v, k1, Ints.of_own k2, k3⟩), fun B w b h => (rlst_ok b s p w h.c hp).mono (fun r w' ⟨v, k1, k2, k3⟩ => ⟨v, k1, Ints.of_own k2, k3⟩)⟩
theorem room_both (s : Fs) (pid : Int) : ∃ x : Int, (∀ B w L, Ft B w L s → Calls Try.prog 13 #[.pointer (some ⟨L.t, 0, none⟩), .int .i64 pid] w fun r w' => r = .returned (.int .i64 x) ∧ Below w.heap.size w w') ∧
    (∀ B w b, Rt B w b s → Calls Try.prog 30 #[.pointer (some ⟨b, 0, none⟩), .int .i64 pid] w fun r w' => r = .returned (.int .i64 x) ∧ Below w.heap.size w w') := by
  rcases pid_cases s pid with hp | ⟨p, rfl, hp⟩
  · exact ⟨0, fun B w L h => (room_bad B L s pid w h hp).mono (fun r w' k => ⟨k.1, by rw [k.2]; exact Below.refl _ _⟩), fun B w b h => (rroom_bad b s pid w h.c hp).mono (fun r w' k => ⟨k.1, by rw [k.2]; exact Below.refl _ _⟩)⟩
  · exact ⟨(roomN s p : Int), fun B w L h => room_ok B L s p w h hp, fun B w b h => rroom_ok b s p w h.c hp⟩
/-- Is there no such descriptor of such a process? Then the errors of both. -/
theorem at_both (s : Fs) (pid fd : Int) : (∃ e : Int, e ≠ 0 ∧ (∀ B w L, Ft B w L s → Calls Try.prog 36 #[.pointer (some ⟨L.t, 0, none⟩), .int .i64 pid, .int .i64 fd] w fun r w' => r = .returned (.tuple #[.pointer none, .int .i64 e]) ∧ w' = w) ∧ (∀ w b, RtC w b s → Calls Try.prog 51 #[.pointer (some ⟨b, 0, none⟩), .int .i64 pid, .int .i64 fd] w fun r w' => r = .returned (.int .i64 e) ∧ w' = w)) ∨ ∃ (p : Fin 6) (k : Fin 8), pid = (p.1 : Int) ∧ fd = (k.1 : Int) ∧ s.has p = true ∧ s.fd p k ≠ 0 := by
  rcases pid_cases s pid with hp | ⟨p, rfl, hp⟩
  · exact .inl ⟨5, by decide, fun B w L h => at_nop B L s pid fd w h hp, fun w b h => rat_nop b s pid fd w h hp⟩
  rcases fd_cases s p fd with hk | ⟨k, rfl, hk⟩
  · exact .inl ⟨3, by decide, fun B w L h => at_nof B L s p fd w h hp hk, fun w b h => rat_nof b s p fd w h hp hk⟩
  · exact .inr ⟨p, k, rfl, rfl, hp, hk⟩
theorem sm_both (s : Fs) (p a q c : Int) : ∃ z : Bool, (∀ B w L, Ft B w L s → Calls Try.prog 16 #[.pointer (some ⟨L.t, 0, none⟩), .int .i64 p, .int .i64 a, .int .i64 q, .int .i64 c] w fun r w' => r = .returned (.bool z) ∧ Below w.heap.size w w') ∧
    (∀ B w b, Rt B w b s → Calls Try.prog 32 #[.pointer (some ⟨b, 0, none⟩), .int .i64 p, .int .i64 a, .int .i64 q, .int .i64 c] w fun r w' => r = .returned (.bool z) ∧ Below w.heap.size w w') := by
  rcases at_both s p a with ⟨e, he, h1, h2⟩ | ⟨p, a, rfl, rfl, hp, ha⟩
  · exact ⟨false, fun B w L h => same_bad1 e he L.t p a q c w (h1 B w L h), fun B w b h => rsame_bad1 e he b p a q c w (fun n => h2 _ b (h.c.heap rfl))⟩
  rcases at_both s q c with ⟨e, he, h1, h2⟩ | ⟨q, c, rfl, rfl, hq, hc⟩
  · exact ⟨false, fun B w L h => same_bad2 e he L.t (L.r p) p.1 a.1 q c w (at_ok B L s p a w h hp ha) (h1 B w L h), fun B w b h => rsame_bad2 e he b p.1 a.1 q c w (fun n => rat_ok b s p a _ (h.c.heap rfl) hp ha) (fun n => h2 _ b (h.c.heap rfl))⟩
  · exact ⟨decide (s.fd p a = s.fd q c), fun B w L h => same_ok B L s p q a c w h hp ha hq hc, fun B w b h => rsame_ok b s p q a c w h.c hp ha hq hc⟩
/-- Both above a world. -/
structure Bo (w W : World) (L : Lo) (b : Nat) (s : Fs) : Prop where
  two : Two w.heap.size W L b s
  bl : Below w.heap.size w W
theorem Bo.low {w W W' : World} {L : Lo} {b : Nat} {s : Fs} (h : Bo w W L b s) (k : Below W.heap.size W W') : Bo w W' L b s := ⟨h.two.below k, h.bl.trans (k.mono h.bl.size)⟩
/-- Both tell the same from here on. -/
structure Sm (B : Nat) (w W : World) (L : Lo) (b : Nat) (s : Fs) : Prop where
  two : Two B W L b s
  bl : Below w.heap.size w W
theorem Sm.low {B : Nat} {w W W' : World} {L : Lo} {b : Nat} {s : Fs} (h : Sm B w W L b s) (k : Below W.heap.size W W') : Sm B w W' L b s := ⟨h.two.below k, h.bl.trans (k.mono h.bl.size)⟩
set_option maxHeartbeats 2000000 in
theorem same_any (B b : Nat) (L : Lo) (s : Fs) (w : World) (h : Two B w L b s) (hl : s.all.length ≤ 1000) : Calls Try.prog 11 #[.pointer (some ⟨L.t, 0, none⟩), .pointer (some ⟨b, 0, none⟩)] w fun r w' => r = .returned (.bool true) ∧ Below w.heap.size w w' := by
  have H0 : Hid3 (Sm B w w L b s) := ⟨⟨h, Below.refl _ _⟩⟩
  have HL := Hid3.mk hl
  have eG := eqGuardO
  clear h hl
  go_enter Try.func11, Try.ntmps11
  go_wp2
  go_loopw [5] (fun i W => ∃ k : Nat, i = .int .i64 ((k : Int) - 1) ∧ k ≤ 8 ∧ Hid3 (Sm B w W L b s)) (fun i _ => 9 - (intOf i + 1).toNat)
  case atStart => exact ⟨0, rfl, Nat.zero_le _, H0⟩
  case round =>
    obtain ⟨k, rfl, hk, HS⟩ := hrel
    by_cases hk8 : k < 8
    · have hkz : (k : Int) - 1 ≤ 6 := by omega
      obtain ⟨ls, hls, lp, lr⟩ := list_both s ((k : Int) - 1)
      obtain ⟨rm, rp, rr⟩ := room_both s ((k : Int) - 1)
      have hrm : (rm != rm) = false := by simp
      have c1 := lp B _ L HS.out.two.t
      have HLR := Hid3.mk lr
      have HRP := Hid3.mk rp
      have HRR := Hid3.mk rr
      obtain ⟨pk, hpk⟩ : ∃ pk : Int, pk = (k : Int) - 1 := ⟨_, rfl⟩
      have HPK := Hid3.mk hpk
      rw [← hpk] at c1 HLR HRP HRR hkz ⊢
      clear hpk lp lr rp rr
      go_wp2_with fail
      refine c1.mono ?_
      rintro r W1 ⟨v1, rfl, hI1, hB1⟩
      have HS1 := Hid3.mk (HS.out.low hB1)
      have HI1 := Hid3.mk hI1
      have c2 := HLR.out B _ b HS1.out.two.r
      clear c1 hI1 hB1
      go_wp2_with fail
      refine c2.mono ?_
      rintro r W2 ⟨v2, rfl, hI2, hB2⟩
      have HS2 := Hid3.mk (HS1.out.low hB2)
      have c3 := sameints_any v1 v2 ls W2 (HI1.out.below hB2) hI2 (by omega)
      clear c2 hI2 hB2
      go_wp2_with fail
      refine c3.mono ?_
      rintro r W3 ⟨rfl, hB3⟩
      have HS3 := Hid3.mk (HS2.out.low hB3)
      have c4 := HRP.out B _ L HS3.out.two.t
      clear c3 hB3
      go_wp2_with fail
      refine c4.mono ?_
      rintro r W4 ⟨rfl, hB4⟩
      have HS4 := Hid3.mk (HS3.out.low hB4)
      have c5 := HRR.out B _ b HS4.out.two.r
      clear c4 hB4
      go_wp2_with fail
      refine c5.mono ?_
      rintro r W5 ⟨rfl, hB5⟩
      have HS5 := Hid3.mk (HS4.out.low hB5)
      clear c5 hB5 HS HS1 HS2 HS3 HS4 HI1
      go_wp2
      go_loopw [6] (fun i W => ∃ j : Nat, i = .int .i64 ((j : Int) - 1) ∧ j ≤ 10 ∧ Hid3 (Sm B w W L b s)) (fun i _ => 11 - (intOf i + 1).toNat)
      case atStart => exact ⟨0, rfl, Nat.zero_le _, HS5⟩
      case round =>
        obtain ⟨j, rfl, hj, HT⟩ := hrel
        clear HS5
        by_cases hj10 : j < 10
        · have hjz : (j : Int) - 1 ≤ 8 := by omega
          obtain ⟨nj, hnj⟩ : ∃ nj : Int, nj = (j : Int) - 1 := ⟨_, rfl⟩
          have HNJ := Hid3.mk hnj
          rw [← hnj] at hjz ⊢
          clear hnj
          obtain ⟨o, e, gp, gr⟩ := get_both s pk nj HL.out
          obtain ⟨z1, s1p, s1r⟩ := sm_both s pk nj 0 0
          obtain ⟨z2, s2p, s2r⟩ := sm_both s 0 1 pk nj
          have hee : (e != e) = false := by simp
          have hz1 : (z1 != z1) = false := by simp
          have hz2 : (z2 != z2) = false := by simp
          have eM := fun W => eqO W o o
          rw [decide_eq_true rfl] at eM
          have c1 := gp B _ L HT.out.two.t
          have H2 := Hid3.mk gr
          have H3 := Hid3.mk s1p
          have H4 := Hid3.mk s1r
          have H5 := Hid3.mk s2p
          have H6 := Hid3.mk s2r
          clear gp gr s1p s1r s2p s2r
          go_wp2_with fail
          refine c1.mono ?_
          rintro r V1 ⟨rfl, hB1⟩
          have HX1 := below_new V1 (.cells #[.int .u8 o.k, .int .i64 o.r, .int .i64 o.p] 32)
          have hb1 := heap_alloc_new V1 (.cells #[.int .u8 o.k, .int .i64 o.r, .int .i64 o.p] 32)
          have HT1 := Hid3.mk ((HT.out.low hB1).low HX1)
          have c2 := H2.out B _ b HT1.out.two.r
          clear c1 hB1 HX1
          go_wp2_with fail
          refine c2.mono ?_
          rintro r V2 ⟨rfl, hB2⟩
          have hb2 := (hB2.block V1.heap.size (by simp)).trans hb1
          have hl2 : V1.heap.size < V2.heap.size := (Array.getElem?_eq_some_iff.1 hb2).1
          have q0 : V2.cell? ⟨V1.heap.size, 0, none⟩ = some (.int .u8 o.k) := by rw [Lib.cell_of_heap hb2]; rfl
          have q1 : V2.cell? ⟨V1.heap.size, 1, none⟩ = some (.int .i64 o.r) := by rw [Lib.cell_of_heap hb2]; rfl
          have q2 : V2.cell? ⟨V1.heap.size, 2, none⟩ = some (.int .i64 o.p) := by rw [Lib.cell_of_heap hb2]; rfl
          have HT2 := Hid3.mk ((HT1.out.low hB2).low (below_new V2 (.cells #[.int .u8 o.k, .int .i64 o.r, .int .i64 o.p] 32)))
          have c3 := H3.out B _ L HT2.out.two.t
          clear c2 hB2 hb1 hb2
          go_wp2_with fail
          refine c3.mono ?_
          rintro r V3 ⟨rfl, hB3⟩
          have HT3 := Hid3.mk (HT2.out.low hB3)
          have c4 := H4.out B _ b HT3.out.two.r
          clear c3 hB3 q0 q1 q2
          go_wp2_with fail
          refine c4.mono ?_
          rintro r V4 ⟨rfl, hB4⟩
          have HT4 := Hid3.mk (HT3.out.low hB4)
          have c5 := H5.out B _ L HT4.out.two.t
          clear c4 hB4
          go_wp2_with fail
          refine c5.mono ?_
          rintro r V5 ⟨rfl, hB5⟩
          have HT5 := Hid3.mk (HT4.out.low hB5)
          have c6 := H6.out B _ b HT5.out.two.r
          clear c5 hB5
          go_wp2_with fail
          refine c6.mono ?_
          rintro r V6 ⟨rfl, hB6⟩
          have HT6 := Hid3.mk (HT5.out.low hB6)
          have hjl : -1 ≤ nj := by rw [HNJ.out]; omega
          clear c6 hB6
          go_wp2
          go_roundw
          case rel => exact ⟨j + 1, by rw [HNJ.out]; go_num, by omega, HT6⟩
          case measure =>
            have h2 := HNJ.out
            simp [intOf]
            omega
        · have hjz : ¬ (j : Int) - 1 ≤ 8 := by omega
          have hjl : -1 ≤ pk := by rw [HPK.out]; omega
          go_wp2
          go_roundw
          case rel => exact ⟨k + 1, by rw [HPK.out]; go_num, by omega, HT⟩
          case measure =>
            have h2 := HPK.out
            simp [intOf]
            omega
    · have hkz : ¬ (k : Int) - 1 ≤ 6 := by omega
      go_wp2
      go_ret
      exact ⟨rfl, HS.out.bl⟩
end Go.Proofs.Ytbkpkcndmlapfaa
