/- Do both tell the same? RegPlays: the walk. -/
import Derived.Test.YtboelnkeejmjnaaRgH
import Derived.Deep.RegionWith
namespace Go.Proofs.Ytboelnkeejmjnaa
open Go.RowKit Go.Maps
set_option linter.unusedVariables false
set_option maxRecDepth 100000
set_option maxHeartbeats 8000000 in
theorem same_any (B b rc rf rb : Nat) (q : St) (w : World) (h : Two B w b rc rf rb q) : Calls Try.prog 9 #[.pointer (some ⟨b, 0, none⟩), .pointer (some ⟨rb, 0, none⟩)] w fun e w' => e = .returned (.bool true) ∧ Below w.heap.size w w' := by
  have HT := Hid3.mk h
  clear h
  go_enter Try.func9, Try.ntmps9
  go_wp2_with fail
  go_loopw [5] (fun s5 wr => ∃ i : Nat, i ≤ 65 ∧ s5 = .int .i64 i ∧ Hid3 (Below w.heap.size w wr)) (fun s5 _ => 65 - (intOf s5).toNat)
  case atStart => exact ⟨0, by omega, rfl, ⟨Below.refl _ _⟩⟩
  case round =>
    obtain ⟨i, hi, rfl, HB⟩ := hrel
    by_cases hle : i ≤ 64
    · have hlez : (i : Int) ≤ 64 := by omega
      have hwu : IntKind.u8.wrap (i : Int) = (i : Int) := by rw [IntKind.wrap_u8]; omega
      have hwm : IntKind.i64.wrap ((i : Int) - 1) = (i : Int) - 1 := by rw [IntKind.wrap_i64]; omega
      have hwi : IntKind.i64.wrap ((i : Int) + 1) = ((i + 1 : Nat) : Int) := by rw [IntKind.wrap_i64]; omega
      have c1 := fun W (hW : Two B W b rc rf rb q) => sector_any B b rc rf q.C q.F (i : Int) W hW.t
      have c2 := fun W (hW : Two B W b rc rf rb q) => rsector_any B rb q (i : Int) W hW.r hW.ok (by omega)
      have c3 := fun W (hW : Two B W b rc rf rb q) => frame_any B b rc rf q.C q.F ((i : Int) - 1) W hW.t
      have c4 := fun W (hW : Two B W b rc rf rb q) => rframe_any B rb q ((i : Int) - 1) W hW.r hW.ok
      have c5 := fun W (hW : Two B W b rc rf rb q) => written_any B b rc rf q.C q.F (i : Int) W hW.t
      have c6 := fun W (hW : Two B W b rc rf rb q) => rwritten_any B rb q (i : Int) W hW.r hW.ok (by omega)
      generalize (ctE q.C (i : Int) == 0) = z2 at *
      generalize (ctC q.C (i : Int)).1 = z1 at *
      generalize (ctC q.C (i : Int)).2 = z5 at *
      generalize (q.F ((i : Int) - 1)).getD 0 = z3 at *
      generalize (q.F ((i : Int) - 1)).isSome = z4 at *
      have HT1 := Hid3.mk (HT.out.below HB.out)
      go_wp2_with fail
      refine (c1 _ HT1.out).mono ?_
      rintro r W1 ⟨rfl, hB⟩
      have HT2 := Hid3.mk (HT1.out.below hB)
      have HB2 := Hid3.mk (HB.out.trans (hB.mono HB.out.size))
      clear hB HB HT1
      go_wp2_with fail
      refine (c2 _ HT2.out).mono ?_
      rintro r W2 ⟨rfl, rfl⟩
      go_wp2_with fail
      refine (c3 _ HT2.out).mono ?_
      rintro r W2 ⟨rfl, rfl⟩
      go_wp2_with fail
      refine (c4 _ HT2.out).mono ?_
      rintro r W2 ⟨rfl, rfl⟩
      go_wp2_with fail
      refine (c5 _ HT2.out).mono ?_
      rintro r W3 ⟨rfl, hB⟩
      have HT3 := Hid3.mk (HT2.out.below hB)
      have HB3 := Hid3.mk (HB2.out.trans (hB.mono HB2.out.size))
      clear hB HB2 HT2
      go_wp2_with fail
      refine (c6 _ HT3.out).mono ?_
      rintro r W4 ⟨rfl, rfl⟩
      clear c1 c2 c3 c4 c5 c6
      go_wp2
      go_roundw
      case rel => exact ⟨i + 1, by omega, by go_num, HB3⟩
      case measure => simp [intOf]; omega
    · have hlez : ¬ (i : Int) ≤ 64 := by omega
      have HT1 := Hid3.mk (HT.out.below HB.out)
      have cF := frames_any B b rc rf q wr.drew (HT1.out.below (below_drew wr)).t HT1.out.ok
      have cR := fun W (hW : Two B W b rc rf rb q) => rframes_any B rb q W hW.r hW.ok
      have HTd := Hid3.mk (HT1.out.below (below_drew wr))
      have HBd := Hid3.mk HB.out.drew
      generalize frL q 64 = L at *
      clear HT1 HB
      go_wp2_with fail
      go_region_with ((first
        | (go_at_call 10; refine cF.mono ?_; rintro e W1 ⟨r1, rfl, hr1, hB1⟩; have HX1 := Hid3.mk (TxR.of hr1); have t1 := HX1.out W1 (Below.refl _ _); have HR1 := Hid3.mk (HTd.out.below hB1); have HB1 := Hid3.mk (HBd.out.trans (hB1.mono HBd.out.size)); clear hr1 hB1)
        | (go_at_call 26; refine (cR W1 HR1.out).mono ?_; rintro e W2 ⟨r2, rfl, hr2, hB2⟩; have t2 := HX1.out W2 hB2; have t3 := TxR.of hr2 W2 (Below.refl _ _); have HB2 := Hid3.mk (HB1.out.trans (hB2.mono HB1.out.size)); clear hr2 hB2)))
      all_goals
        clear cF cR HTd HBd
        go_wp2
        go_ret
        exact ⟨rfl, HB2.out⟩
set_option maxHeartbeats 4000000 in
theorem plays_law (v : Value) (l : List Dd) (w : World) (hd : Dds w v l) (hok : ∀ d ∈ l, d.Ok) : Calls Try.prog 3 #[v] w fun e w' => e = .returned (.bool true) ∧ Below w.heap.size w w' := by
  have cP := play_any v l w hd hok
  clear hd
  go_enter Try.func3, Try.ntmps3
  go_wp2_with fail
  refine cP.mono ?_
  rintro r W1 ⟨b, rc, rf, rb, rfl, hT, hB⟩
  generalize playQ (l.take 50) q0 = q at *
  have HT1 := Hid3.mk hT
  have HB1 := Hid3.mk hB
  clear cP hT hB
  go_wp2_with fail
  refine (live_any _).mono ?_
  rintro r W2 ⟨rfl, hB⟩
  have HT2 := Hid3.mk (HT1.out.below hB)
  have HB2 := Hid3.mk (HB1.out.trans (hB.mono HB1.out.size))
  clear hB HT1 HB1
  go_wp2_with fail
  refine (same_any _ _ _ _ _ _ _ HT2.out).mono ?_
  rintro r W3 ⟨rfl, hB⟩
  have HB3 := Hid3.mk (HB2.out.trans (hB.mono HB2.out.size))
  clear hB HT2 HB2
  go_wp2
  go_ret
  exact ⟨rfl, HB3.out⟩
end Go.Proofs.Ytboelnkeejmjnaa
