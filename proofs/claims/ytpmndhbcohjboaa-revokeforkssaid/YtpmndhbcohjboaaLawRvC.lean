/- Do both tell the same? RevokePlays: the walk. -/
import Derived.Test.YtpmndhbcohjboaaLawRvB
import Derived.Deep.RegionWith
namespace Go.Proofs.Ytpmndhbcohjboaa
open Go.RowKit Go.Maps
set_option linter.unusedVariables false
set_option maxRecDepth 100000
/-- A slice's text, in every world from here on. -/
def Txt (w : World) (v : Value) (S : ByteArray) : Prop := ∀ W, Below w.heap.size w W → (convert 43 9 v).run Try.prog W = .ok (.string S) W
theorem Txt.below {w w' : World} {v : Value} {S : ByteArray} (h : Txt w v S) (k : Below w.heap.size w w') : Txt w' v S := fun W hW => h W (k.trans (hW.mono k.size))
theorem Txt.of_row {w : World} {B n : Nat} {v : Value} {xs : List Int} (h : RowO w B 5 1 v n (uCs xs)) : Txt w v (strOfNums xs) := fun W hW => by
  have hn : n = xs.length := by have := h.1; rw [uCs_len] at this; omega
  subst hn
  rcases (h.below hW).form with ⟨rfl, h0, _⟩ | ⟨g, off, cap, rfl, _, _, _, hc⟩
  · obtain rfl : xs = [] := List.eq_nil_of_length_eq_zero h0
    exact run_convert_bytes_nil W 43 5 Try.underlying43 Try.underlying5 0 0 9 Try.underlying9
  · refine run_convert_bytes_arg W 43 5 Try.underlying43 Try.underlying5 g off xs.length cap xs rfl (fun i hi => ?_) 9 Try.underlying9
    have := hc i _ (uCs_at xs i hi)
    rw [this, List.getD_eq_getElem?_getD, List.getElem?_eq_getElem hi]
    rfl
set_option maxHeartbeats 8000000 in
theorem lsame_any (Bp B b m rb : Nat) (av lv : Value) (vs ls : Fin 6 → Value) (q : Rs) (N : Nat) (w : World) (ht : Two Bp B w b m rb av lv vs ls q) (hO : q.Ok N) (hN : N ≤ 900) : Calls Try.prog 11 #[.pointer (some ⟨b, 0, none⟩), .pointer (some ⟨rb, 0, none⟩)] w fun e w' => e = .returned (.bool true) ∧ Below w.heap.size w w' := by
  have HT := Hid3.mk ht
  have HO := Hid3.mk hO
  have HN := Hid3.mk hN
  have hfew := hO.few
  clear ht hO hN
  go_enter Try.func11, Try.ntmps11
  go_wp2
  go_loopw [5, 6, 7, 8, 9, 10] (fun s5 _ _ _ _ _ wr => ∃ ee : Nat, ee ≤ 7 ∧ s5 = .int .u8 ee ∧ Hid3 (Below w.heap.size w wr)) (fun s5 _ _ _ _ _ _ => 7 - (intOf s5).toNat)
  case atStart => exact ⟨0, by omega, rfl, ⟨Below.refl _ _⟩⟩
  case round =>
    obtain ⟨ee, hee, rfl, HB⟩ := hrel
    have hT := HT.out.below HB.out
    by_cases hle : ee ≤ 6
    · have hlez : (ee : Int) ≤ 6 := by omega
      have cL := lost_any Bp b m av vs q N ee (by omega) wr.drew (hT.t.below (below_drew _)) HO.out (by have := HN.out; omega)
      have cR := fun W (hW : Rk B W rb lv ls q) => rlost_any B rb lv ls q N ee (by omega) W hW HO.out (by have := HN.out; omega)
      have HTr := Hid3.mk (hT.r.below (below_drew _))
      have HBr := Hid3.mk HB.out.drew
      generalize vAt ee q = V at *
      clear hT
      go_wp2_with fail
      go_region_with ((first
        | (go_at_call 18; refine cL.mono ?_; rintro e W1 ⟨r1, rfl, hr1, hB1⟩; have HX1 := Hid3.mk (Txt.of_row hr1); have t1 := HX1.out W1 (Below.refl _ _); have HR1 := Hid3.mk (HTr.out.below hB1); have HB1 := Hid3.mk (HBr.out.trans (hB1.mono HBr.out.size)); clear hr1 hB1)
        | (go_at_call 25; refine (cR W1 HR1.out).mono ?_; rintro e W2 ⟨r2, rfl, hr2, hB2⟩; have t2 := HX1.out W2 hB2; have t3 := Txt.of_row hr2 W2 (Below.refl _ _); have HB2 := Hid3.mk (HB1.out.trans (hB2.mono HB1.out.size)); clear hr2 hB2)))
      all_goals
        clear cL cR HTr HBr
        go_wp2
        go_loopw [6, 7, 8, 9, 10] (fun s6 _ _ _ _ wr => ∃ ff : Nat, ff ≤ 8 ∧ s6 = .int .u8 ff ∧ Hid3 (Below w.heap.size w wr)) (fun s6 _ _ _ _ _ => 8 - (intOf s6).toNat)
        case atStart => exact ⟨0, by omega, rfl, HB2⟩
        case round =>
          obtain ⟨ff, hff, rfl, HF⟩ := hrel
          have hT := HT.out.below HF.out
          by_cases hfl : ff < 8
          · have hflz : (ff : Int) < 8 := by omega
            have c1 := asked_any Bp b m av vs q ee ff wr hT.t
            have c2 := rasked_any B rb lv ls q ee ff wr hT.r hfew
            generalize (dget q.d ee ff).getD 0 = z0 at *
            generalize (dget q.d ee ff).isSome = z1 at *
            clear hT
            go_wp2_with fail
            refine c1.mono ?_
            rintro e W3 ⟨rfl, hW3⟩
            rw [hW3]
            clear c1 hW3
            go_wp2_with fail
            refine c2.mono ?_
            rintro e W4 ⟨rfl, hW4⟩
            rw [hW4]
            clear c2 hW4
            cases z1
            · go_wp2
              go_roundw
              case rel => exact ⟨ff + 1, by omega, by go_num, HF⟩
              case measure => simp [intOf]; omega
            · go_wp2
              go_roundw
              case rel => exact ⟨ff + 1, by omega, by go_num, HF⟩
              case measure => simp [intOf]; omega
          · have hflz : ¬ (ff : Int) < 8 := by omega
            go_wp2
            go_roundw
            case rel => exact ⟨ee + 1, by omega, by go_num, HF⟩
            case measure => simp [intOf]; omega
    · have hlez : ¬ (ee : Int) ≤ 6 := by omega
      have c1 := open_any Bp b m av vs q N wr hT.t HO.out
      have c2 := fun W (hW : Rk B W rb lv ls q) => ropen_any B rb lv ls q W hW hfew
      have HTr := Hid3.mk hT.r
      clear hT
      go_wp2_with fail
      refine c1.mono ?_
      rintro e W1 ⟨r1, rfl, hr1, hB1⟩
      have HR1 := Hid3.mk (HTr.out.below hB1)
      have HB1 := Hid3.mk (HB.out.trans (hB1.mono HB.out.size))
      have H1 := Hid3.mk hr1
      clear c1 hr1 hB1
      go_wp2_with fail
      refine (c2 W1 HR1.out).mono ?_
      rintro e W2 ⟨r2, rfl, hr2, hB2⟩
      have HB2 := Hid3.mk (HB1.out.trans (hB2.mono HB1.out.size))
      have c3 := same_any _ _ r1 r2 q.d W2 (H1.out.below hB2) hr2 hfew
      clear c2 hr2 hB2
      go_wp2_with fail
      refine c3.mono ?_
      rintro e W3 ⟨rfl, hB3⟩
      have HB3 := Hid3.mk (HB2.out.trans (hB3.mono HB2.out.size))
      clear c3 hB3
      go_wp2
      go_ret
      exact ⟨rfl, HB3.out⟩
set_option maxHeartbeats 4000000 in
theorem plays_law (v : Value) (l : List Dd) (w : World) (hd : Dds w v l) (hok : ∀ d ∈ l, d.Ok) : Calls Try.prog 3 #[v] w fun e w' => e = .returned (.bool true) ∧ Below w.heap.size w w' := by
  have cP := play_any v l w hd hok
  clear hd
  go_enter Try.func3, Try.ntmps3
  go_wp2_with fail
  refine cP.mono ?_
  rintro r W1 ⟨b, m, rb, rfl, hM, hO⟩
  generalize playQ (l.take 50) q0 = q at *
  obtain ⟨av, lv, vs, ls, ht⟩ := hM.two
  have HO := Hid3.mk hO
  have HT := Hid3.mk ht
  have HB1 := Hid3.mk hM.below
  clear cP hM hO ht
  go_wp2_with fail
  refine (live_any _).mono ?_
  rintro r W2 ⟨rfl, hB⟩
  have cS := lsame_any w.heap.size w.heap.size b m rb av lv vs ls q 50 W2 (HT.out.below hB) HO.out (by omega)
  have HB2 := Hid3.mk (HB1.out.trans (hB.mono HB1.out.size))
  clear hB HT HB1
  go_wp2_with fail
  refine cS.mono ?_
  rintro r W3 ⟨rfl, hB⟩
  have HB3 := Hid3.mk (HB2.out.trans (hB.mono HB2.out.size))
  clear hB cS
  go_wp2
  go_ret
  exact ⟨rfl, HB3.out⟩
end Go.Proofs.Ytpmndhbcohjboaa
