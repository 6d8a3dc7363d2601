/- Both: do they tell the same? -/
import Derived.Test.YtlnjpgcaciemnaaDevP
namespace Go.Proofs.Ytlnjpgcaciemnaa
open Go.RowKit Go.Maps
set_option linter.unusedVariables false
set_option maxRecDepth 100000
set_option maxHeartbeats 8000000 in
theorem dsame_any (B : Nat) (db sb mb rb og rmb rg : Nat) (v u : Value) (z : Sd) (w : World) (h : Two B w db sb mb rb og rmb rg v u z) : Calls Try.prog 10 #[.agg #[.pointer (some ⟨db, 0, none⟩), .pointer (some ⟨mb, 0, none⟩), .pointer (some ⟨rb, 0, none⟩), .pointer (some ⟨rmb, 0, none⟩)]] w fun e w' => e = .returned (.bool true) ∧ Below w.heap.size w w' := by
  have hb : Below w.heap.size w (w.alloc (.cells #[.pointer (some ⟨db, 0, none⟩), .pointer (some ⟨mb, 0, none⟩), .pointer (some ⟨rb, 0, none⟩), .pointer (some ⟨rmb, 0, none⟩)] 28)) := (Below.refl _ w).alloc (Nat.le_refl _) _
  have HT0 := Hid3.mk (h.below hb)
  have HX0 : Hid3 ((w.alloc (.cells #[.pointer (some ⟨db, 0, none⟩), .pointer (some ⟨mb, 0, none⟩), .pointer (some ⟨rb, 0, none⟩), .pointer (some ⟨rmb, 0, none⟩)] 28)).heap[w.heap.size]? = some (.cells #[.pointer (some ⟨db, 0, none⟩), .pointer (some ⟨mb, 0, none⟩), .pointer (some ⟨rb, 0, none⟩), .pointer (some ⟨rmb, 0, none⟩)] 28)) := ⟨heap_alloc_last w _⟩
  have HBw := Hid3.mk hb
  clear h hb
  go_enter Try.func10, Try.ntmps10
  go_wp2_with fail
  obtain ⟨b0, hb0⟩ : ∃ b0, w.heap.size = b0 := ⟨_, rfl⟩
  rw [hb0] at HX0 ⊢
  generalize (w.alloc (.cells #[.pointer (some ⟨db, 0, none⟩), .pointer (some ⟨mb, 0, none⟩), .pointer (some ⟨rb, 0, none⟩), .pointer (some ⟨rmb, 0, none⟩)] 28)) = W0 at *
  have hl0 : b0 < W0.heap.size := (Array.getElem?_eq_some_iff.1 HX0.out).1
  go_loopw [3] (fun s3 wr => ∃ i : Int, -1 ≤ i ∧ i ≤ 6 ∧ s3 = .int .i64 i ∧ Hid3 (Below W0.heap.size W0 wr)) (fun s3 _ => (7 - intOf s3).toNat)
  case atStart => exact ⟨-1, by omega, by omega, rfl, ⟨Below.refl _ _⟩⟩
  case round =>
    obtain ⟨i, hi1, hi2, rfl, HB⟩ := hrel
    have hsb := HB.out.size
    have HT := Hid3.mk (HT0.out.below HB.out)
    obtain ⟨x0, x1, x2, x3⟩ := b4c ((HB.out.block b0 hl0).trans HX0.out)
    have cS := rdsize_any B (PR db sb mb rg v) rb og 5 z.S u z.last z.Q wr HT.out.r.k
    rw [show ((5 : Nat) : Int) = 5 from rfl] at cS
    by_cases hle : i ≤ 5
    · have cA := sectorp_any B db sb 5 z.S v z.last z.Q i wr HT.out.p.d
      have cR := Hid3.mk (fun W1 (hB1 : Below wr.heap.size wr W1) => rsector_any B (PR db sb mb rg v) rb og 5 z.S u z.last z.Q i W1 (HT.out.below hB1).r.k)
      generalize scE 5 i = E at *
      generalize scT 5 z.S i = T at *
      go_wp2_with fail
      refine cS.mono ?_
      rintro e W1 ⟨rfl, rfl⟩
      clear cS
      go_wp2_with fail
      refine cA.mono ?_
      rintro e W1 ⟨⟨va, rfl, hva⟩, hB1⟩
      clear cA
      have cR1 := cR.out W1 hB1
      have HB1 : Hid3 (Below W0.heap.size W0 W1) := ⟨HB.out.trans (hB1.mono hsb)⟩
      have hsb1 := HB1.out.size
      obtain ⟨x0', x1', x2', x3'⟩ := b4c ((HB1.out.block b0 hl0).trans HX0.out)
      clear hB1 cR x0 x1 x2 x3
      go_wp2_with fail
      refine cR1.mono ?_
      rintro e W2 ⟨⟨vb, rfl, hvb⟩, hB2⟩
      clear cR1
      have k1 := hva W2 hB2
      have k2 := hvb W2 (Below.refl _ _)
      have HB2 : Hid3 (Below W0.heap.size W0 W2) := ⟨HB1.out.trans (hB2.mono hsb1)⟩
      clear hva hvb hB2
      go_wp2
      go_roundw
      case rel => exact ⟨i + 1, by omega, by omega, by go_num, HB2⟩
      case measure => simp [intOf]; omega
    · have hi6 : i = 6 := by omega
      subst hi6
      go_wp2_with fail
      refine cS.mono ?_
      rintro e W1 ⟨rfl, rfl⟩
      clear cS hi1 hi2 hle
      go_wp2_with fail
      go_loopw [8] (fun s8 wr => ∃ j : Nat, j ≤ 4 ∧ s8 = .int .i64 j ∧ Hid3 (Below W0.heap.size W0 wr)) (fun s8 _ => (5 - intOf s8).toNat)
      case atStart => exact ⟨0, by omega, rfl, HB⟩
      case round =>
        obtain ⟨j, hj4, rfl, HBq⟩ := hrel
        have hsq := HBq.out.size
        have HTq := Hid3.mk (HT0.out.below HBq.out)
        obtain ⟨y0, y1, y2, y3⟩ := b4c ((HBq.out.block b0 hl0).trans HX0.out)
        have cZ := rsize_any rmb rg (32 * 4) 4 z.L wr HTq.out.r.m rfl
        rw [show ((4 : Nat) : Int) = 4 from rfl] at cZ
        by_cases hlt : j < 4
        · have hltz : (j : Int) < 4 := by omega
          have cA := frame_any mb 4 j z.L wr HTq.out.p.m
          have cR := Hid3.mk (fun W1 (hB1 : Below wr.heap.size wr W1) => rframe_any rmb rg (32 * 4) 4 j z.L W1 (HTq.out.below hB1).r.m rfl)
          rw [show ((4 : Nat) : Int) = 4 from rfl] at cR
          generalize inE 4 (j : Int) 0 1 = E at *
          generalize fT z.L 4 (j : Int) = T at *
          go_wp2_with fail
          refine cZ.mono ?_
          rintro e W1 ⟨rfl, rfl⟩
          clear cZ
          go_wp2_with fail
          refine cA.mono ?_
          rintro e W1 ⟨⟨va, rfl, hva⟩, hB1⟩
          clear cA
          have cR1 := cR.out W1 hB1
          have HB1 : Hid3 (Below W0.heap.size W0 W1) := ⟨HBq.out.trans (hB1.mono hsq)⟩
          have hsb1 := HB1.out.size
          obtain ⟨y0', y1', y2', y3'⟩ := b4c ((HB1.out.block b0 hl0).trans HX0.out)
          clear hB1 cR y0 y1 y2 y3
          go_wp2_with fail
          refine cR1.mono ?_
          rintro e W2 ⟨⟨vb, rfl, hvb⟩, hB2⟩
          clear cR1
          have k1 := hva W2 hB2
          have k2 := hvb W2 (Below.refl _ _)
          have HB2 : Hid3 (Below W0.heap.size W0 W2) := ⟨HB1.out.trans (hB2.mono hsb1)⟩
          clear hva hvb hB2
          go_wp2
          go_roundw
          case rel => exact ⟨j + 1, by omega, by go_num, HB2⟩
          case measure => simp [intOf]; omega
        · have hj : j = 4 := by omega
          subst hj
          have cW := waiting_any B db sb 5 z.S v z.last z.Q wr.drew (HTq.out.below (Below.refl _ wr).drew).p.d
          have cV := Hid3.mk (fun W1 (hB1 : Below wr.drew.heap.size wr.drew W1) => rwaiting_any B (PR db sb mb rg v) rb og 5 z.S u z.last z.Q W1 ((HTq.out.below (Below.refl _ wr).drew).below hB1).r.k)
          have cX := Hid3.mk (fun W1 (hB1 : Below wr.drew.heap.size wr.drew W1) => dsize_any B db sb 5 z.S v z.last z.Q W1 ((HTq.out.below (Below.refl _ wr).drew).below hB1).p.d)
          have cY := Hid3.mk (fun W1 (hB1 : Below wr.drew.heap.size wr.drew W1) => rdsize_any B (PR db sb mb rg v) rb og 5 z.S u z.last z.Q W1 ((HTq.out.below (Below.refl _ wr).drew).below hB1).r.k)
          have cQ := Hid3.mk (fun (W1 W2 W3 : World) (va vb : Value) (hB2 : Below W1.heap.size W1 W2) (ha : W1.ownsRow W3.heap.size 45 5 va z.Q.length (rqsCs z.Q)) (hb : W2.ownsRow W1.heap.size 45 5 vb z.Q.length (rqsCs z.Q)) => samereqs_any va vb z.Q W2 ((RqS.of_own ha (fun _ => False) (fun _ _ _ e => e)).below hB2) (RqS.of_own hb (fun _ => False) (fun _ _ _ e => e)) (Nat.le_trans HT0.out.p.d.few (by decide)))
          have hS0 : Hid3 (wr.drew.cell? ⟨b0, 0, none⟩ = some (.pointer (some ⟨db, 0, none⟩)) ∧ wr.drew.cell? ⟨b0, 2, none⟩ = some (.pointer (some ⟨rb, 0, none⟩))) := ⟨⟨y0, y2⟩⟩
          have HSb : Hid3 (∀ W : World, Below wr.drew.heap.size wr.drew W → W.cell? ⟨b0, 0, none⟩ = some (.pointer (some ⟨db, 0, none⟩)) ∧ W.cell? ⟨b0, 2, none⟩ = some (.pointer (some ⟨rb, 0, none⟩))) := ⟨fun W hb => by
            obtain ⟨t0, t1, t2, t3⟩ := b4c ((hb.block b0 (by show b0 < wr.heap.size; omega)).trans ((HBq.out.block b0 hl0).trans HX0.out))
            exact ⟨t0, t2⟩⟩
          have HBd : Hid3 (Below W0.heap.size W0 wr.drew) := ⟨HBq.out.trans ((Below.refl _ wr).drew.mono hsq)⟩
          have hsd := HBd.out.size
          have cV2 := Hid3.mk (fun (W1 W2 : World) (hB1 : Below wr.drew.heap.size wr.drew W1) (hB2 : Below W1.heap.size W1 W2) => hB1.trans (hB2.mono hB1.size))
          clear HTq
          generalize rqsCs z.Q = csQ at *
          generalize z.Q.length = nQ at *
          go_wp2_with fail
          refine cZ.mono ?_
          rintro e W1 ⟨rfl, rfl⟩
          clear cZ y0 y1 y2 y3
          go_wp2_with fail
          go_region_held3 (fun w' => w'.cell? ⟨b0, 0, none⟩ = some (.pointer (some ⟨db, 0, none⟩)) ∧ w'.cell? ⟨b0, 2, none⟩ = some (.pointer (some ⟨rb, 0, none⟩))) (with_reducible (first | exact hS0.out | exact HSb.out _ hB3.out | exact HSb.out _ hB2.out | exact HSb.out _ hB1.out)) ((first
            | (go_at_call 13; refine cW.mono ?_; rintro e W5 ⟨⟨va, rfl, hva⟩, hb1⟩; have hB1 := Hid3.mk hb1; clear hb1)
            | (go_at_call 33; refine (cV.out _ hB1.out).mono ?_; rintro e W6 ⟨⟨vb, rfl, hvb⟩, hb2⟩; have cQ1 := cQ.out _ _ _ va vb hb2 hva hvb; have hB2 := Hid3.mk (cV2.out _ _ hB1.out hb2); clear hb2)
            | (go_at_call 32; refine cQ1.mono ?_; rintro e W7 ⟨rfl, hb3⟩; have hB3 := Hid3.mk (cV2.out _ _ hB2.out hb3); clear hb3)
            | (go_at_call 34; refine (cX.out _ hB3.out).mono ?_; rintro e W8 ⟨rfl, rfl⟩)
            | (go_at_call 28; refine (cY.out _ hB3.out).mono ?_; rintro e W8 ⟨rfl, rfl⟩)))
          all_goals
            have HE := Hid3.mk (HBw.out.trans ((HBd.out.trans (hB3.out.mono hsd)).mono (by have := HBw.out.size; omega)))
            clear cW cV cX cY cQ cV2 hS0 HSb
            go_wp2
            go_ret
            exact ⟨rfl, HE.out⟩
end Go.Proofs.Ytlnjpgcaciemnaa
