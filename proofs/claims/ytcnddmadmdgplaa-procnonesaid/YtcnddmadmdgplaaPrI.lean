/- Do both tell the same? What must be whatever is asked; deeds on both. -/
import Derived.Test.YtcnddmadmdgplaaPrH
namespace Go.Proofs.Ytcnddmadmdgplaa
open Go.RowKit Go.Maps
set_option linter.unusedVariables false
set_option maxRecDepth 100000
set_option maxHeartbeats 1000000 in
theorem sameints_any (v u : Value) (L : List Nat) (w : World) (hv : Ints w v L) (hu : Ints w u L) (hL : L.length ≤ 1000) :
    Calls Try.prog 28 #[v, u] w fun e w' => e = .returned (.bool true) ∧ Below w.heap.size w w' := by
  obtain ⟨ad, cap, rfl, hcell⟩ := hv
  obtain ⟨ad2, cap2, rfl, hcell2⟩ := hu
  have HC := Hid3.mk hcell
  have HC2 := Hid3.mk hcell2
  clear hcell hcell2
  have hne : ((L.length : Int) != (L.length : Int)) = false := by simp
  go_enter Try.func28, Try.ntmps28
  go_wp2
  go_loopw [5] (fun s5 wr => ∃ kk nq : Nat, kk ≤ L.length ∧ s5 = .int .i64 kk ∧ wr = w.drewN nq) (fun s5 _ => L.length - (intOf s5).toNat)
  case atStart => exact ⟨0, 0, Nat.zero_le _, rfl, rfl⟩
  case round =>
    obtain ⟨kk, nq, hkk, rfl, rfl⟩ := hrel
    by_cases hlt : kk < L.length
    · have hltz : (kk : Int) < (L.length : Int) := by omega
      obtain ⟨g, off, rfl, c0⟩ := HC.out kk L[kk] (List.getElem?_eq_getElem hlt)
      obtain ⟨g', off', rfl, d0⟩ := HC2.out kk L[kk] (List.getElem?_eq_getElem hlt)
      generalize ((L[kk] : Nat) : Int) = y at *
      have hyy : (y != y) = false := by simp
      go_wp2_with fail
      go_quiet (fail)
      go_wp2
      go_roundw
      case rel => exact ⟨kk + 1, _, by omega, by go_num, rfl⟩
      case measure => simp [intOf]; omega
    · have hltz : ¬ (kk : Int) < (L.length : Int) := by omega
      go_wp2
      go_ret
      exact ⟨rfl, ⟨rfl, rfl, rfl, Nat.le_refl _, fun _ _ => rfl⟩⟩
/-- Both from a world on. -/
structure Sm (B : Nat) (w W : World) (b r : Nat) (s : Pt) : Prop where
  two : Two B W b r s
  bl : Below w.heap.size w W
theorem Sm.low {B : Nat} {w W W' : World} {b r : Nat} {s : Pt} (h : Sm B w W b r s) (k : Below W.heap.size W W') : Sm B w W' b r s := ⟨h.two.below k, h.bl.trans (k.mono h.bl.size)⟩
theorem pstate_any (B b : Nat) (s : Pt) (pid : Int) (w : World) (h : Tp B w b s) : Calls Try.prog 12 #[.pointer (some ⟨b, 0, none⟩), .int .i64 pid] w fun r w' => r = .returned (.int .u8 (stI (gt s pid))) ∧ Below w.heap.size w w' := st_of _ pid _ w (at_any B b s pid w h)
theorem pparent_any (B b : Nat) (s : Pt) (pid : Int) (w : World) (h : Tp B w b s) : Calls Try.prog 13 #[.pointer (some ⟨b, 0, none⟩), .int .i64 pid] w fun r w' => r = .returned (.int .i64 (paI (gt s pid))) ∧ Below w.heap.size w w' := pa_of _ pid _ w (at_any B b s pid w h)
theorem pstatus_any (B b : Nat) (s : Pt) (pid : Int) (w : World) (h : Tp B w b s) : Calls Try.prog 16 #[.pointer (some ⟨b, 0, none⟩), .int .i64 pid] w fun r w' => r = .returned (.int .i64 (suI (gt s pid))) ∧ Below w.heap.size w w' := su_of _ pid _ w (at_any B b s pid w h)
theorem pchildren_any (B b : Nat) (s : Pt) (pid : Int) (w : World) (h : Tp B w b s) : Calls Try.prog 14 #[.pointer (some ⟨b, 0, none⟩), .int .i64 pid] w fun r w' => ∃ v, r = .returned v ∧ Ints w' v ((chA s pid).map (·.1)) ∧ (∀ g, v.ownBlock = some g → w.heap.size ≤ g) ∧ Below w.heap.size w w' :=
  (children_any B b s pid w h).mono fun r w' ⟨v, k1, k2, k3⟩ => ⟨v, k1, (Ints.of_own k2).1, (Ints.of_own k2).2, k3⟩
theorem qchildren_any (b : Nat) (s : Pt) (pid : Int) (w : World) (h : RpC w b s) : Calls Try.prog 29 #[.pointer (some ⟨b, 0, none⟩), .int .i64 pid] w fun r w' => ∃ v, r = .returned v ∧ Ints w' v ((chA s pid).map (·.1)) ∧ Below w.heap.size w w' :=
  (rchildren_any b s pid w h).mono fun r w' ⟨v, k1, k2, k3⟩ => ⟨v, k1, (Ints.of_own k2).1, k3⟩
theorem prunning_any (B b : Nat) (s : Pt) (w : World) (h : Tp B w b s) : Calls Try.prog 23 #[.pointer (some ⟨b, 0, none⟩)] w fun r w' => ∃ v, r = .returned v ∧ Ints w' v ((thL (fun i => runs (s i)) 6).map (·.1)) ∧ Below w.heap.size w w' :=
  (running_any B b s w h).mono fun r w' ⟨v, k1, k2, k3⟩ => ⟨v, k1, (Ints.of_own k2).1, k3⟩
theorem qrunning_any (b : Nat) (s : Pt) (w : World) (h : RpC w b s) : Calls Try.prog 31 #[.pointer (some ⟨b, 0, none⟩)] w fun r w' => ∃ v, r = .returned v ∧ Ints w' v ((thL (fun i => runs (s i)) 6).map (·.1)) ∧ Below w.heap.size w w' :=
  (rrunning_any b s w h).mono fun r w' ⟨v, k1, k2, k3⟩ => ⟨v, k1, (Ints.of_own k2).1, k3⟩
set_option maxHeartbeats 2000000 in
theorem same_any (B b rb : Nat) (s : Pt) (w : World) (h : Two B w b rb s) : Calls Try.prog 11 #[.pointer (some ⟨b, 0, none⟩), .pointer (some ⟨rb, 0, none⟩)] w fun r w' => r = .returned (.bool true) ∧ Below w.heap.size w w' := by
  have H0 : Hid3 (Sm B w w b rb s) := ⟨⟨h, Below.refl _ _⟩⟩
  clear h
  go_enter Try.func11, Try.ntmps11
  go_wp2
  go_loopw [5] (fun i W => ∃ k : Nat, i = .int .i64 ((k : Int) - 1) ∧ k ≤ 8 ∧ Hid3 (Sm B w W b rb s)) (fun i _ => 9 - (intOf i + 1).toNat)
  case atStart => exact ⟨0, rfl, Nat.zero_le _, H0⟩
  case round =>
    obtain ⟨k, rfl, hk, HS⟩ := hrel
    by_cases hk8 : k < 8
    · have hkz : (k : Int) - 1 ≤ 6 := by omega
      obtain ⟨pk, hpk⟩ : ∃ pk : Int, pk = (k : Int) - 1 := ⟨_, rfl⟩
      have HPK := Hid3.mk hpk
      rw [← hpk] at hkz ⊢
      clear hpk
      have c1 := pstate_any B b s pk _ HS.out.two.t
      have hcl := chA_len s pk
      have H2 := Hid3.mk (fun W => rstate_any rb s pk W)
      have H3 := Hid3.mk (fun W => pparent_any B b s pk W)
      have H4 := Hid3.mk (fun W => rparent_any rb s pk W)
      have H5 := Hid3.mk (fun W => pchildren_any B b s pk W)
      have H6 := Hid3.mk (fun W => qchildren_any rb s pk W)
      have H8 := Hid3.mk (fun W => pstatus_any B b s pk W)
      have H9 := Hid3.mk (fun W => rstatus_any rb s pk W)
      generalize stI (gt s pk) = x1 at *
      generalize paI (gt s pk) = x2 at *
      generalize suI (gt s pk) = x3 at *
      have hx1 : (x1 != x1) = false := by simp
      have hx2 : (x2 != x2) = false := by simp
      have hx3 : (x3 != x3) = false := by simp
      go_wp2_with fail
      refine c1.mono ?_
      rintro r W1 ⟨rfl, hB1⟩
      have HS1 := Hid3.mk (HS.out.low hB1)
      have c2 := H2.out _ HS1.out.two.r.cs
      clear c1 hB1
      go_wp2_with fail
      refine c2.mono ?_
      rintro r W2 ⟨rfl, hW2⟩
      rw [hW2]
      have c3 := H3.out _ HS1.out.two.t
      clear c2 hW2
      go_wp2_with fail
      refine c3.mono ?_
      rintro r W3 ⟨rfl, hB3⟩
      have HS3 := Hid3.mk (HS1.out.low hB3)
      have c4 := H4.out _ HS3.out.two.r.cs
      clear c3 hB3
      go_wp2_with fail
      refine c4.mono ?_
      rintro r W4 ⟨rfl, hW4⟩
      rw [hW4]
      have c5 := H5.out _ HS3.out.two.t
      clear c4 hW4
      go_wp2_with fail
      refine c5.mono ?_
      rintro r W5 ⟨v1, rfl, hI1, _, hB5⟩
      have HS5 := Hid3.mk (HS3.out.low hB5)
      have HI1 := Hid3.mk hI1
      have c6 := H6.out _ HS5.out.two.r.cs
      clear c5 hI1 hB5
      go_wp2_with fail
      refine c6.mono ?_
      rintro r W6 ⟨v2, rfl, hI2, hB6⟩
      have HS6 := Hid3.mk (HS5.out.low hB6)
      have c7 := sameints_any v1 v2 _ W6 (HI1.out.below hB6) hI2 (by rw [List.length_map]; omega)
      clear c6 hI2 hB6
      go_wp2_with fail
      refine c7.mono ?_
      rintro r W7 ⟨rfl, hB7⟩
      have HS7 := Hid3.mk (HS6.out.low hB7)
      have c8 := H8.out _ HS7.out.two.t
      clear c7 hB7
      go_wp2_with fail
      refine c8.mono ?_
      rintro r W8 ⟨rfl, hB8⟩
      have HS8 := Hid3.mk (HS7.out.low hB8)
      have c9 := H9.out _ HS8.out.two.r.cs
      clear c8 hB8
      go_wp2_with fail
      refine c9.mono ?_
      rintro r W9 ⟨rfl, hW9⟩
      rw [hW9]
      clear c9 hW9
      have hjl : -1 ≤ pk := by rw [HPK.out]; omega
      go_wp2
      go_roundw
      case rel => exact ⟨k + 1, by rw [HPK.out]; go_num, by omega, HS8⟩
      case measure =>
        have h2 := HPK.out
        simp [intOf]
        omega
    · have hkz : ¬ (k : Int) - 1 ≤ 6 := by omega
      have hlen := thL_len6 (fun i => runs (s i)) 6
      have c1 := prunning_any B b s _ HS.out.two.t
      go_wp2_with fail
      refine c1.mono ?_
      rintro r W1 ⟨v1, rfl, hI1, hB1⟩
      have HS1 := Hid3.mk (HS.out.low hB1)
      have HI1 := Hid3.mk hI1
      have c2 := qrunning_any rb s _ HS1.out.two.r.cs
      clear c1 hI1 hB1
      go_wp2_with fail
      refine c2.mono ?_
      rintro r W2 ⟨v2, rfl, hI2, hB2⟩
      have HS2 := Hid3.mk (HS1.out.low hB2)
      have c3 := sameints_any v1 v2 _ W2 (HI1.out.below hB2) hI2 (by rw [List.length_map]; omega)
      clear c2 hI2 hB2
      go_wp2_with fail
      refine c3.mono ?_
      rintro r W3 ⟨rfl, hB3⟩
      have HS3 := Hid3.mk (HS2.out.low hB3)
      clear c3 hB3
      go_wp2
      go_ret
      exact ⟨rfl, HS3.out.bl⟩
def ls1 : Pt := forkS pt0 0 1
def ls2 : Pt := exitS ls1 1 0 5
def ls3 : Pt := (wtX ls2 0).2.2.2
theorem lq1 : ls1 1 = .run 0 := by decide +kernel
theorem lq2 : runs (ls2 0) = true := by decide +kernel
theorem lq3 : (wtX ls2 0).1 = 1 ∧ (wtX ls2 0).2.1 = 5 ∧ (wtX ls2 0).2.2.1 = 0 := by decide +kernel
theorem lq4 : runs (ls3 0) = true := by decide +kernel
theorem lq5 : (wtX ls3 0).1 = 0 ∧ (wtX ls3 0).2.1 = 0 ∧ (wtX ls3 0).2.2.1 = 3 := by decide +kernel
theorem lq6 : (wtX ls3 0).2.2.2 0 = .run 0 := by decide +kernel
/-- The program's table above a world. -/
structure Lt (w W : World) (b : Nat) (s : Pt) : Prop where
  t : Tp w.heap.size W b s
  bl : Below w.heap.size w W
theorem Lt.step {w W W' : World} {b : Nat} {s s' : Pt} (h : Lt w W b s) (k : TS w.heap.size W W' b s') : Lt w W' b s' :=
  ⟨k.t, h.bl.trans (k.ap.below w.heap.size (fun i e => e ▸ h.t.g) h.bl.size)⟩
theorem Lt.low {w W W' : World} {b : Nat} {s : Pt} (h : Lt w W b s) (k : Below W.heap.size W W') : Lt w W' b s := ⟨h.t.below k, h.bl.trans (k.mono h.bl.size)⟩
set_option maxHeartbeats 2000000 in
theorem live_any (w : World) : Calls Try.prog 10 #[] w fun r w' => r = .returned (.bool true) ∧ Below w.heap.size w w' := by
  have cN := new_any w
  obtain ⟨n, hn⟩ : ∃ n : Nat, w.heap.size = n := ⟨_, rfl⟩
  have HN := Hid3.mk hn
  clear hn
  go_enter Try.func10, Try.ntmps10
  go_wp2_with fail
  refine cN.mono ?_
  rintro r W0 ⟨rfl, hT, hB0⟩
  have HB := Hid3.mk (Lt.mk hT hB0)
  have c1 := fork_any w.heap.size w.heap.size pt0 0 W0 hT rfl 1 (by omega) (fun j hj => by have : j = 0 := Fin.ext (by show j.1 = 0; omega); rw [this]; exact fun e => by cases e) (fun _ => rfl) 1 0 ls1 (fun _ => ⟨rfl, rfl, rfl⟩) (fun e => absurd (by omega) e)
  clear cN hT hB0
  go_wp2_with fail
  refine c1.mono ?_
  rintro r W1 ⟨rfl, hs⟩
  have HB1 := Hid3.mk (HB.out.step hs)
  have c2 := exit_ok w.heap.size w.heap.size ls1 1 0 5 W1 HB1.out.t (by decide) lq1
  clear c1 hs HB
  go_wp2_with fail
  refine c2.mono ?_
  rintro r W2 ⟨rfl, hs⟩
  have HB2 : Hid3 (Lt w W2 w.heap.size ls2) := ⟨HB1.out.step hs⟩
  have c3 := wait_any w.heap.size w.heap.size ls2 0 W2 HB2.out.t lq2
  rw [lq3.1, lq3.2.1, lq3.2.2] at c3
  clear c2 hs HB1
  go_wp2_with fail
  refine c3.mono ?_
  rintro r W3 ⟨rfl, hs⟩
  have HB3 : Hid3 (Lt w W3 w.heap.size ls3) := ⟨HB2.out.step hs⟩
  have c4 := wait_any w.heap.size w.heap.size ls3 0 W3 HB3.out.t lq4
  rw [lq5.1, lq5.2.1, lq5.2.2] at c4
  clear c3 hs HB2
  go_wp2_with fail
  refine c4.mono ?_
  rintro r W4 ⟨rfl, hs⟩
  have HB4 := Hid3.mk (HB3.out.step hs)
  have c5 := exit_0 w.heap.size w.heap.size _ 0 W4 HB4.out.t lq6
  clear c4 hs HB3
  go_wp2_with fail
  refine c5.mono ?_
  rintro r W5 ⟨rfl, hb⟩
  have HB5 := Hid3.mk (HB4.out.low hb)
  clear c5 hb HB4
  go_wp2
  go_ret
  exact ⟨rfl, HB5.out.bl⟩
/-- A slice of deeds that can be read. -/
def Dds (w : World) (v : Value) (l : List Dd) : Prop := ∃ a cap, v = .slice a l.length cap ∧ ∀ (j : Nat) (d : Dd), l[j]? = some d → ∃ g off, a = some ⟨g, off, none⟩ ∧ w.cell? ⟨g, off + j * 3, none⟩ = some (.int .i64 d.k) ∧ w.cell? ⟨g, off + j * 3 + 1, none⟩ = some (.int .i64 d.p) ∧ w.cell? ⟨g, off + j * 3 + 2, none⟩ = some (.int .i64 d.n)
theorem Dds.below {w w' : World} {v : Value} {l : List Dd} (h : Dds w v l) (k : Below w.heap.size w w') : Dds w' v l := by
  obtain ⟨a, cap, rfl, hcell⟩ := h
  refine ⟨a, cap, rfl, fun j d hj => ?_⟩
  obtain ⟨g, off, rfl, c0, c1, c2⟩ := hcell j d hj
  have hb := k.block g (World.block_lt_of_cell? w _ c0)
  refine ⟨g, off, rfl, ?_, ?_, ?_⟩ <;> (rw [World.cell?_of_block (w := w) hb]; assumption)
/-- Both, whatever is in them, above a world. -/
structure Pb (w W : World) (b rb : Nat) : Prop where
  ex : ∃ s, Two w.heap.size W b rb s
  bl : Below w.heap.size w W
theorem Pb.step {w W W' : World} {s s' : Pt} {b rb : Nat} (h : Two w.heap.size W b rb s) (hb : Below w.heap.size w W) (k : Mv w.heap.size W W' b rb s') : Pb w W' b rb := ⟨⟨s', k.two⟩, hb.trans (k.low h hb.size)⟩
theorem Pb.low {w W W' : World} {b rb : Nat} (h : Pb w W b rb) (k : Below W.heap.size W W') : Pb w W' b rb := ⟨h.ex.elim fun s hs => ⟨s, hs.below k⟩, h.bl.trans (k.mono h.bl.size)⟩
set_option maxHeartbeats 2000000 in
theorem play_any (v : Value) (l : List Dd) (w : World) (hd : Dds w v l) : Calls Try.prog 9 #[v] w fun e w' => ∃ b rb, e = .returned (.tuple #[.pointer (some ⟨b, 0, none⟩), .pointer (some ⟨rb, 0, none⟩), .bool true]) ∧ Pb w w' b rb := by
  have cN := new_any w
  obtain ⟨ad, cap, rfl, hcell⟩ := id hd
  have HD := Hid3.mk hd
  clear hd hcell
  go_enter Try.func9, Try.ntmps9
  go_wp2_with fail
  refine cN.mono ?_
  rintro e W0 ⟨rfl, hO, hB0⟩
  have cR := rnew_any W0
  go_wp2_with fail
  refine cR.mono ?_
  rintro e W1 ⟨rfl, hO2, hB1⟩
  have HP : Hid3 (Pb w W1 w.heap.size W0.heap.size) := ⟨⟨⟨pt0, ⟨hO.below hB1, ⟨Nat.le_trans hB0.size hO2.g, hO2.c⟩, ok0⟩⟩, hB0.trans (hB1.mono hB0.size)⟩⟩
  clear hO hO2 hB0 hB1 cN cR
  generalize W0.heap.size = rb at *
  obtain ⟨tb, htb⟩ : ∃ tb : Nat, tb = w.heap.size := ⟨_, rfl⟩
  rw [← htb] at HP ⊢
  clear htb
  go_wp2_with fail
  go_loopw [7] (fun s7 wr => ∃ (i : Nat), i ≤ l.length ∧ i ≤ 60 ∧ s7 = .int .i64 i ∧ Hid3 (Pb w wr tb rb)) (fun s7 _ => 60 - (intOf s7).toNat)
  case atStart => exact ⟨0, Nat.zero_le _, by omega, rfl, HP⟩
  case round =>
    obtain ⟨i, hil, hi6, rfl, HT1⟩ := hrel
    clear HP
    by_cases hlt : i < l.length
    · have hltz : (i : Int) < (l.length : Int) := by omega
      by_cases h60 : i < 60
      · have h60z : (i : Int) < 60 := by omega
        obtain ⟨_, _, e0, hc⟩ := HD.out.below HT1.out.bl
        injection e0 with e1 e2 e3
        obtain ⟨g, off, e4, c0, c1, c2⟩ := hc i l[i] (List.getElem?_eq_getElem hlt)
        rw [← e1] at e4
        subst e4
        obtain ⟨s1, hTw⟩ := HT1.out.ex
        have hcall := do_any w.heap.size tb rb s1 l[i] _ hTw
        have HTw := Hid3.mk hTw
        unfold ddV at hcall
        clear hc e1 e2 e3 hTw
        generalize l[i] = d at *
        obtain ⟨d0, d1, d2⟩ := d
        simp only at c0 c1 c2 hcall
        go_wp2_with fail
        refine hcall.mono ?_
        rintro e W3 ⟨rfl, s2, hM⟩
        have HT2 : Hid3 (Pb w W3 tb rb) := ⟨Pb.step HTw.out HT1.out.bl hM⟩
        clear hM hcall c0 c1 c2 HTw
        go_wp2
        go_roundw
        case rel => exact ⟨i + 1, by omega, by omega, by go_num, HT2⟩
        case measure => simp [intOf]; omega
      · have h60z : ¬ (i : Int) < 60 := by omega
        have hi : i = 60 := by omega
        subst hi
        go_wp2
        go_ret3
        exact ⟨_, _, rfl, HT1.out⟩
    · have hltz : ¬ (i : Int) < (l.length : Int) := by omega
      go_wp2
      go_ret3
      exact ⟨_, _, rfl, HT1.out⟩
end Go.Proofs.Ytcnddmadmdgplaa
