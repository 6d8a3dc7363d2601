/- vm: both tell the same. -/
import Derived.Test.YtfmcoibpbcheiaaVmYe
namespace Go.Proofs.Ytfmcoibpbcheiaa
open Go.RowKit Go.Maps
set_option linter.unusedVariables false
set_option maxRecDepth 100000
/-- What both tell. -/
structure Tell (W : World) (vb rb N : Nat) (s : Vs) (V : Fin 6 → Nat → Int) : Prop where
  pv : ∀ pid, Calls Try.prog 27 #[.pointer (some ⟨vb, 0, none⟩), .int .i64 pid] W fun r w' => ∃ v, r = .returned v ∧ Ints w' v (pgsV s pid) ∧ Below W.heap.size W w'
  pr : ∀ pid, Calls Try.prog 28 #[.pointer (some ⟨rb, 0, none⟩), .int .i64 pid] W fun r w' => ∃ v, r = .returned v ∧ Ints w' v (pgsV s pid) ∧ Below W.heap.size W w'
  fv : ∀ pid k, Calls Try.prog 29 #[.pointer (some ⟨vb, 0, none⟩), .int .i64 pid, .int .i64 k] W fun r w' => r = .returned (.tuple #[.int .i64 (frmV s pid k).1, .bool (frmV s pid k).2]) ∧ w' = W
  fr : ∀ pid k, Calls Try.prog 30 #[.pointer (some ⟨rb, 0, none⟩), .int .i64 pid, .int .i64 k] W fun r w' => r = .returned (.tuple #[.int .i64 (frmV s pid k).1, .bool (frmV s pid k).2]) ∧ w' = W
  kv : ∀ pid k, Calls Try.prog 16 #[.pointer (some ⟨vb, 0, none⟩), .int .i64 pid, .int .i64 k] W fun r w' => r = .returned (.tuple #[.int .u8 (peekV s V pid k).1, .int .i64 (peekV s V pid k).2]) ∧ w' = W
  kr : ∀ pid k, Calls Try.prog 31 #[.pointer (some ⟨rb, 0, none⟩), .int .i64 pid, .int .i64 k] W fun r w' => r = .returned (.tuple #[.int .u8 (peekV s V pid k).1, .int .i64 (peekV s V pid k).2]) ∧ w' = W
  rv : ∀ k, k < 64 → Calls Try.prog 10 #[.pointer (some ⟨vb, 0, none⟩), .int .i64 k] W fun r w' => r = .returned (.int .i64 (rfN s.pg k)) ∧ w' = W
  rr : ∀ k, Calls Try.prog 32 #[.pointer (some ⟨rb, 0, none⟩), .int .i64 k] W fun r w' => r = .returned (.int .i64 (rfN s.pg k)) ∧ w' = W
  lv : Calls Try.prog 12 #[.pointer (some ⟨vb, 0, none⟩)] W fun r w' => r = .returned (.int .i64 (zr N s : Nat)) ∧ Below W.heap.size W w'
  lr : Calls Try.prog 33 #[.pointer (some ⟨rb, 0, none⟩)] W fun r w' => r = .returned (.int .i64 (zr N s : Nat)) ∧ w' = W
  cv : Calls Try.prog 25 #[.pointer (some ⟨vb, 0, none⟩)] W fun r w' => r = .returned (.int .i64 s.cp) ∧ w' = W
  cr : Calls Try.prog 34 #[.pointer (some ⟨rb, 0, none⟩)] W fun r w' => r = .returned (.int .i64 s.cp) ∧ w' = W
theorem Bo.tell {B : Nat} {w : World} {vb rb N c : Nat} {S : Nat → Prop} (h : Bo B w vb rb N c S) : ∃ s V, ∀ W, Below w.heap.size w W → Tell W vb rb N s V := by
  obtain ⟨l, s, V, o, L, h1, rfl, h3, h4, h5, _⟩ := h.ex
  obtain ⟨rfl, hv, hi, hcp⟩ := h1
  refine ⟨s, V, fun W k => ?_⟩
  have v2 := hv.below k
  have r2 := h3.below k
  have hF := hi.fr
  exact {
    pv := fun pid => vpages_any B l s N pid W v2 hF
    pr := fun pid => rpages_any B o N s L pid W r2
    fv := fun pid k => vframe_any B l s pid k W v2
    fr := fun pid k => rframe_any B o N s L pid k W r2 hF
    kv := fun pid k => va_peek B l s V l.b N c pid k W ⟨rfl, v2, hi, hcp⟩
    kr := fun pid k => rpeek_any B o N s L V pid k W r2 hF h5
    rv := fun k hk => vrefs_any B l s N k hk W v2 hF
    rr := fun k => rrefs_any B o N s L k W r2 hF
    lv := vleft_any B l s N hF.n W v2
    lr := rleft_any B o N s L W r2 hF
    cv := copies_ok B l s W v2
    cr := rcopies_any B o N s L W r2 }
set_option maxHeartbeats 4000000 in
theorem same_any (B vb rb N c : Nat) (S : Nat → Prop) (w : World) (h : Bo B w vb rb N c S) : Calls Try.prog 9 #[.pointer (some ⟨vb, 0, none⟩), .pointer (some ⟨rb, 0, none⟩)] w fun r w' => r = .returned (.bool true) ∧ Below w.heap.size w w' := by
  obtain ⟨s, V, hT⟩ := h.tell
  have HT := Hid3.mk hT
  have HL := Hid3.mk (pgsV_len s)
  clear h hT
  go_enter Try.func9, Try.ntmps9
  go_wp2_with fail
  go_loopw [5] (fun i W => ∃ p : Int, -1 ≤ p ∧ p ≤ 7 ∧ i = .int .i64 p ∧ Hid3 (Below w.heap.size w W)) (fun i _ => (7 - intOf i).toNat)
  case atStart => exact ⟨-1, by omega, by omega, rfl, ⟨Below.refl _ _⟩⟩
  case round =>
    obtain ⟨p, hp0, hp1, rfl, HB⟩ := hrel
    by_cases hp : p ≤ 6
    · have c1 := (HT.out wr HB.out).pv p
      go_wp2_with fail
      refine c1.mono ?_
      rintro r W1 ⟨v1, rfl, hI1, hB1⟩
      have HB1 := Hid3.mk (HB.out.trans (hB1.mono HB.out.size))
      have HI1 := Hid3.mk hI1
      have c2 := (HT.out W1 HB1.out).pr p
      clear c1 hI1 hB1
      go_wp2_with fail
      refine c2.mono ?_
      rintro r W2 ⟨v2, rfl, hI2, hB2⟩
      have HB2 := Hid3.mk (HB1.out.trans (hB2.mono HB1.out.size))
      have c3 := sameints_any v1 v2 (pgsV s p) W2 (HI1.out.below hB2) hI2 (Nat.le_trans (HL.out p) (by omega))
      clear c2 hI2 hB2 HI1
      go_wp2_with fail
      refine c3.mono ?_
      rintro r W3 ⟨rfl, hB3⟩
      have HB3 := Hid3.mk (HB2.out.trans (hB3.mono HB2.out.size))
      clear c3 hB3 HB2 HB1 HB
      go_wp2_with fail
      go_loopw [6] (fun i W => ∃ k : Int, -1 ≤ k ∧ k ≤ 6 ∧ i = .int .i64 k ∧ Hid3 (Below w.heap.size w W)) (fun i _ => (6 - intOf i).toNat)
      case atStart => exact ⟨-1, by omega, by omega, rfl, HB3⟩
      case round =>
        obtain ⟨k, hk0, hk1, rfl, HB⟩ := hrel
        clear HB3
        by_cases hk : k < 6
        · have c1 := (HT.out wr HB.out).fv p k
          have c2 := (HT.out wr HB.out).fr p k
          have hw : IntKind.i64.wrap (k + 1) = k + 1 := by rw [IntKind.wrap_i64]; omega
          generalize frmV s p k = x at *
          obtain ⟨x1, x2⟩ := x
          simp only at c1 c2
          have hxx : (x1 != x1) = false := by simp
          have hyy : (x2 != x2) = false := by simp
          go_wp2_with fail
          refine c1.mono ?_
          rintro r W ⟨rfl, hW⟩
          rw [hW]
          clear c1 hW
          go_wp2_with fail
          refine c2.mono ?_
          rintro r W ⟨rfl, hW⟩
          rw [hW]
          clear c2 hW
          go_wp2
          go_roundw
          case rel => exact ⟨k + 1, by omega, by omega, by first | rfl | (go_num; done) | trivial, HB⟩
          case measure => simp [intOf]; omega
        · go_wp2_with fail
          go_loopw [11] (fun i W => ∃ k : Int, -1 ≤ k ∧ k ≤ 135 ∧ i = .int .i64 k ∧ Hid3 (Below w.heap.size w W)) (fun i _ => (135 - intOf i).toNat)
          case atStart => exact ⟨-1, by omega, by omega, rfl, HB⟩
          case round =>
            obtain ⟨j, hj0, hj1, rfl, HBj⟩ := hrel
            clear HB hk0 hk1 hk
            by_cases hj : j < 130
            · have c1 := (HT.out wr HBj.out).kv p j
              have c2 := (HT.out wr HBj.out).kr p j
              have hw : IntKind.i64.wrap (j + 5) = j + 5 := by rw [IntKind.wrap_i64]; omega
              generalize peekV s V p j = x at *
              obtain ⟨x1, x2⟩ := x
              simp only at c1 c2
              have hxx : (x1 != x1) = false := by simp
              have hyy : (x2 != x2) = false := by simp
              go_wp2_with fail
              refine c1.mono ?_
              rintro r W ⟨rfl, hW⟩
              rw [hW]
              clear c1 hW
              go_wp2_with fail
              refine c2.mono ?_
              rintro r W ⟨rfl, hW⟩
              rw [hW]
              clear c2 hW
              go_wp2
              go_roundw
              case rel => exact ⟨j + 5, by omega, by omega, by first | rfl | (go_num; done) | trivial, HBj⟩
              case measure => simp [intOf]; omega
            · have hw : IntKind.i64.wrap (p + 1) = p + 1 := by rw [IntKind.wrap_i64]; omega
              go_wp2
              go_roundw
              case rel => exact ⟨p + 1, by omega, by omega, by first | rfl | (go_num; done) | trivial, HBj⟩
              case measure => simp [intOf]; omega
    · go_wp2_with fail
      go_loopw [16] (fun i W => ∃ k : Int, -1 ≤ k ∧ k ≤ 10 ∧ i = .int .i64 k ∧ Hid3 (Below w.heap.size w W)) (fun i _ => (10 - intOf i).toNat)
      case atStart => exact ⟨-1, by omega, by omega, rfl, HB⟩
      case round =>
        obtain ⟨k, hk0, hk1, rfl, HBk⟩ := hrel
        clear HB hp0 hp1 hp
        by_cases hk : k < 10
        · have c1 := (HT.out wr HBk.out).rv k (by omega)
          have c2 := (HT.out wr HBk.out).rr k
          have hw : IntKind.i64.wrap (k + 1) = k + 1 := by rw [IntKind.wrap_i64]; omega
          generalize ((rfN s.pg k : Nat) : Int) = x1 at *
          have hxx : (x1 != x1) = false := by simp
          go_wp2_with fail
          refine c1.mono ?_
          rintro r W ⟨rfl, hW⟩
          rw [hW]
          clear c1 hW
          go_wp2_with fail
          refine c2.mono ?_
          rintro r W ⟨rfl, hW⟩
          rw [hW]
          clear c2 hW
          go_wp2
          go_roundw
          case rel => exact ⟨k + 1, by omega, by omega, by first | rfl | (go_num; done) | trivial, HBk⟩
          case measure => simp [intOf]; omega
        · have c1 := (HT.out wr HBk.out).lv
          go_wp2_with fail
          refine c1.mono ?_
          rintro r W1 ⟨rfl, hB1⟩
          have HB1 := Hid3.mk (HBk.out.trans (hB1.mono HBk.out.size))
          have c2 := (HT.out W1 HB1.out).lr
          have c3 := (HT.out W1 HB1.out).cv
          have c4 := (HT.out W1 HB1.out).cr
          clear c1 hB1
          generalize ((zr N s : Nat) : Int) = z at *
          generalize s.cp = y at *
          have hzz : (z == z) = true := by simp
          have hyy : (y == y) = true := by simp
          go_wp2_with fail
          refine c2.mono ?_
          rintro r W ⟨rfl, hW⟩
          rw [hW]
          clear c2 hW
          go_wp2_with fail
          refine c3.mono ?_
          rintro r W ⟨rfl, hW⟩
          rw [hW]
          clear c3 hW
          go_wp2_with fail
          refine c4.mono ?_
          rintro r W ⟨rfl, hW⟩
          rw [hW]
          clear c4 hW
          go_wp2
          go_ret
          exact ⟨rfl, HB1.out⟩
end Go.Proofs.Ytfmcoibpbcheiaa
