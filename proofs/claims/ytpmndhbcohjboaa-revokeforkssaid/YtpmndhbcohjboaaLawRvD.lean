/- RevokeOut: the walk. -/
import Derived.Test.YtpmndhbcohjboaaLawRvC
namespace Go.Proofs.Ytpmndhbcohjboaa
open Go.RowKit Go.Maps
set_option linter.unusedVariables false
set_option maxRecDepth 100000
theorem vAt_out {k : Nat} (hk : k < 6) (q : Rs) : vAt k (outQ k q) = [] := by
  rw [vAt_ok _ k hk]
  exact if_pos rfl
theorem vAt_out' {k j : Nat} (hj : j < 6) (hne : j ≠ k) (q : Rs) : vAt j (outQ k q) = vAt j q := by
  rw [vAt_ok _ j hj, vAt_ok _ j hj]
  exact if_neg (fun e => hne (by have : (j : Int) = (k : Int) := e; omega))
theorem out_len (k : Int) (q : Rs) : outN k q + (outQ k q).d.length = q.d.length := filt_len q.d (ofP k)
set_option maxHeartbeats 8000000 in
theorem out_law (v : Value) (l : List Dd) (x : Int) (w : World) (hd : Dds w v l) (hok : ∀ d ∈ l, d.Ok) (hx : 0 ≤ x) (hx2 : x ≤ 255) : Calls Try.prog 7 #[v, .int .u8 x] w fun e w' => e = .returned (.bool true) ∧ Below w.heap.size w w' := by
  have cP := play_any v l w hd hok
  obtain ⟨k, hk⟩ : ∃ k : Nat, x % 6 = k := ⟨(x % 6).toNat, by omega⟩
  have hk6 : k < 6 := by omega
  obtain ⟨j, hj⟩ : ∃ j : Nat, ((k : Int) + 1) % 6 = j := ⟨(((k : Int) + 1) % 6).toNat, by omega⟩
  have hj6 : j < 6 := by omega
  have hjk : j ≠ k := by omega
  have hw8 : IntKind.u8.wrap ((k : Int) + 1) = (k : Int) + 1 := by rw [IntKind.wrap_u8]; omega
  have hw9 : IntKind.u8.wrap (k : Int) = (k : Int) := by rw [IntKind.wrap_u8]; omega
  have hw7 : IntKind.u8.wrap (j : Int) = (j : Int) := by rw [IntKind.wrap_u8]; omega
  clear hd
  go_enter Try.func7, Try.ntmps7
  go_wp2_with fail
  refine cP.mono ?_
  rintro r W1 ⟨b, m, rb, rfl, hM, hO⟩
  generalize playQ (l.take 50) q0 = q at *
  have HO := Hid3.mk hO
  have HL1 := Hid3.mk hM.liv
  have hfew := hO.few
  clear cP hM hO
  go_wp2_with fail
  refine (live_any _).mono ?_
  rintro r W2 ⟨rfl, hB⟩
  have hl := HL1.out.post hB
  obtain ⟨av, vs, hb⟩ := hl.out
  have cO := open_any w.heap.size b m av vs q 50 W2 hb HO.out
  have H2 := Hid3.mk (And.intro hb hl.below)
  clear hB HL1 hl hb
  go_wp2_with fail
  refine cO.mono ?_
  rintro e W3 ⟨r3, rfl, hr3, hB⟩
  obtain ⟨a3, k3, rfl⟩ := hr3.sl
  have H3 := Hid3.mk (And.intro (H2.out.1.below hB) (H2.out.2.trans (hB.mono H2.out.2.size)))
  have cL := lost_any w.heap.size b m av vs q 50 j (by omega) W3 H3.out.1 HO.out (by omega)
  clear cO hr3 hB H2
  go_wp2_with fail
  refine cL.mono ?_
  rintro e W4 ⟨r4, rfl, hr4, hB⟩
  obtain ⟨a4, k4, rfl⟩ := hr4.sl
  have hI4 := OrdI.start H3.out.1 H3.out.2 hB hr4
  obtain ⟨av4, vs4, hb4, hx4⟩ := hI4.out
  have cX := outc_any w.heap.size b m av4 vs4 q 50 k (by omega) W4 hb4 HO.out
  have H4 := Hid3.mk (And.intro hI4 (And.intro hb4 hx4))
  clear cL hr4 hB H3 hI4 hb4 hx4
  go_wp2_with fail
  refine cX.mono ?_
  rintro e W5 ⟨rfl, hs⟩
  have hI5 := H4.out.1.step H4.out.2.1 H4.out.2.2 hs
  obtain ⟨av5, vs5, hb5, hx5⟩ := hI5.out
  have hO5 : (outQ k q).Ok 51 := out_ok HO.out
  have cO := open_any w.heap.size b m av5 vs5 (outQ k q) 51 W5 hb5 hO5
  have H5 := Hid3.mk hI5
  have HO5 := Hid3.mk hO5
  have hlen := out_len k q
  have hl5 : (outQ k q).d.length ≤ 8 := hO5.few
  have HV1 := Hid3.mk (vAt_out hk6 q)
  have HV2 := Hid3.mk (vAt_out' hj6 hjk q)
  have HD : Hid3 (∀ i (hi : i < (outQ k q).d.length), ¬ (outQ k q).d[i].1 = k) := ⟨fun i hi e => by
    have := (List.mem_filter.1 (show (outQ k q).d[i] ∈ q.d.filter (fun d => !ofP k d) from List.getElem_mem hi)).2
    simp [ofP, e] at this⟩
  clear cX hs H4 hI5 hb5 hx5 hO5
  generalize outQ k q = q2 at *
  generalize outN k q = nn at *
  generalize vAt j q = V at *
  go_wp2_with fail
  refine cO.mono ?_
  rintro e W6 ⟨r6, rfl, hr6, hB⟩
  obtain ⟨a6, k6, rfl⟩ := hr6.sl
  have H6 := Hid3.mk (H5.out.post hB)
  have HR6 := Hid3.mk hr6
  clear cO hr6 hB H5
  have hsub : (q.d.length : Int) - (q2.d.length : Int) = (nn : Int) := by omega
  have hwn : IntKind.i64.wrap (nn : Int) = (nn : Int) := by rw [IntKind.wrap_i64]; omega
  generalize q.d.length = n1 at *
  go_wp2
  go_loopw [12] (fun s12 wr => ∃ kk : Nat, kk ≤ q2.d.length ∧ s12 = .int .i64 kk ∧ wr = W6) (fun s12 _ => q2.d.length - (intOf s12).toNat)
  case atStart => exact ⟨0, Nat.zero_le _, rfl, rfl⟩
  case round =>
    obtain ⟨kk, hkk, rfl, rfl⟩ := hrel
    by_cases hlt : kk < q2.d.length
    · have hltz : (kk : Int) < (q2.d.length : Int) := by omega
      obtain ⟨g, off, rfl, hg, y0, _, _⟩ := Row3.at HR6.out kk hlt
      have hne := HD.out kk hlt
      generalize q2.d[kk].1 = z at *
      go_wp2
      go_roundw
      case rel => exact ⟨kk + 1, by omega, by go_num, by trivial⟩
      case measure => simp [intOf]; omega
    · have hltz : ¬ (kk : Int) < (q2.d.length : Int) := by omega
      obtain ⟨av6, vs6, hb6, _⟩ := H6.out.out
      have c1 := lost_any w.heap.size b m av6 vs6 q2 51 k (by omega) wr.drew (hb6.below (below_drew _)) HO5.out (by omega)
      have c2 := fun W (hW : Bk w.heap.size W b m av6 vs6 q2) => lost_any w.heap.size b m av6 vs6 q2 51 j (by omega) W hW HO5.out (by omega)
      rw [HV1.out] at c1
      rw [HV2.out] at c2
      have HB6 := Hid3.mk (hb6.below (below_drew _))
      have HX := Hid3.mk (Txt.of_row H6.out.row)
      have hS0 := Hid3.mk (HX.out wr.drew (below_drew _))
      have HBl := Hid3.mk H6.out.below.drew
      clear hb6 HO5 HD H6 HR6 HV1 HV2
      have hj2 : ((k : Int) + 1).tmod 6 = (j : Int) := by rw [Int.tmod_eq_emod_of_nonneg (by omega)]; exact hj
      have HA1 : Hid3 (∀ V1, Below wr.drew.heap.size wr.drew V1 → ((convert 43 9 (.slice a4 V.length k4)).run Try.prog V1 = .ok (.string (strOfNums V)) V1) ∧ Below w.heap.size w V1 ∧ Bk w.heap.size V1 b m av6 vs6 q2 ∧ Below wr.heap.size wr V1) := ⟨fun V1 hB1 => ⟨HX.out V1 ((below_drew wr).trans hB1), HBl.out.trans (hB1.mono HBl.out.size), HB6.out.below hB1, (below_drew wr).trans hB1⟩⟩
      have HA2 : Hid3 (∀ V1 V2 u2, Below w.heap.size w V1 → Below wr.heap.size wr V1 → Below V1.heap.size V1 V2 → RowO V2 V1.heap.size 5 1 u2 V.length (uCs V) → ((convert 43 9 (.slice a4 V.length k4)).run Try.prog V2 = .ok (.string (strOfNums V)) V2) ∧ ((convert 43 9 u2).run Try.prog V2 = .ok (.string (strOfNums V)) V2) ∧ Below w.heap.size w V2) := ⟨fun V1 V2 u2 h1 h2 h3 h4 => ⟨HX.out V2 (h2.trans (h3.mono h2.size)), Txt.of_row h4 V2 (Below.refl _ _), h1.trans (h3.mono h1.size)⟩⟩
      go_wp2_with fail
      refine wp_region_held_drew (S := fun w' => (convert 43 9 (.slice a4 V.length k4)).run Try.prog w' = .ok (.string (strOfNums V)) w') (by kernel_rfl) hS0.out (fun hHeld => ?_)
      refine takeD (i := 0) (v := ?v0) (some 52) rfl rfl (by kernel_rfl) (by kernel_rfl) (by kernel_rfl) (fun _ _ _ h => h) (Or.inl ⟨by rfl, ?hy0⟩) (by assumption) ?_
      case hy0 => (intro w' hSw; (try dsimp only at hSw); go_simp; try (with_reducible rfl))
      simp only [Act.put, List.setIfInBounds_toArray, List.set_cons_zero, List.set_cons_succ]
      refine takeD (i := 1) (v := ?v1) (some 53) rfl rfl (by kernel_rfl) (by kernel_rfl) (by kernel_rfl) (fun _ _ _ h => h) (Or.inl ⟨by rfl, ?hy1⟩) (by assumption) ?_
      case hy1 => (intro w' hSw; (try dsimp only at hSw); go_simp; try (with_reducible rfl))
      simp only [Act.put, List.setIfInBounds_toArray, List.set_cons_zero, List.set_cons_succ]
      refine takeD (i := 2) (v := ?v2) (some 54) rfl rfl (by kernel_rfl) (by kernel_rfl) (by kernel_rfl) (fun _ _ _ h => h) (Or.inl ⟨by rfl, ?hy2⟩) (by assumption) ?_
      case hy2 => (intro w' hSw; (try dsimp only at hSw); go_simp; try (with_reducible rfl))
      simp only [Act.put, List.setIfInBounds_toArray, List.set_cons_zero, List.set_cons_succ]
      refine takeD (i := 3) (v := ?v3) (some 55) rfl rfl (by kernel_rfl) (by kernel_rfl) (by kernel_rfl) (fun _ _ _ h => h) (Or.inl ⟨by rfl, ?hy3⟩) (by assumption) ?_
      case hy3 => (intro w' hSw; (try dsimp only at hSw); go_simp; try (with_reducible rfl))
      simp only [Act.put, List.setIfInBounds_toArray, List.set_cons_zero, List.set_cons_succ]
      refine takeD (i := 4) (v := ?v4) (some 56) rfl rfl (by kernel_rfl) (by kernel_rfl) (by kernel_rfl) (fun _ _ _ h => h) (Or.inl ⟨by rfl, ?hy4⟩) (by assumption) ?_
      case hy4 => (intro w' hSw; (try dsimp only at hSw); go_simp; try (with_reducible rfl))
      simp only [Act.put, List.setIfInBounds_toArray, List.set_cons_zero, List.set_cons_succ]
      refine takeD (i := 5) (v := ?v5) (some 57) rfl rfl (by kernel_rfl) (by kernel_rfl) (by kernel_rfl) (fun _ _ _ h => h) (Or.inl ⟨by rfl, ?hy5⟩) (by assumption) ?_
      case hy5 => (intro w' hSw; (try dsimp only at hSw); go_simp; try (with_reducible rfl))
      simp only [Act.put, List.setIfInBounds_toArray, List.set_cons_zero, List.set_cons_succ]
      refine takeD (i := 6) (v := ?v6) (some 58) rfl rfl (by kernel_rfl) (by kernel_rfl) (by kernel_rfl) (fun _ _ _ h => h) (Or.inl ⟨by rfl, ?hy6⟩) (by assumption) ?_
      case hy6 => (intro w' hSw; (try dsimp only at hSw); go_simp; try (with_reducible rfl))
      simp only [Act.put, List.setIfInBounds_toArray, List.set_cons_zero, List.set_cons_succ]
      refine takeD (i := 7) (v := ?v7) (some 59) rfl rfl (by kernel_rfl) (by kernel_rfl) (by kernel_rfl) (fun _ _ _ h => h) (Or.inl ⟨by rfl, ?hy7⟩) (by assumption) ?_
      case hy7 => (intro w' hSw; (try dsimp only at hSw); go_simp; try (with_reducible rfl))
      simp only [Act.put, List.setIfInBounds_toArray, List.set_cons_zero, List.set_cons_succ]
      refine takeD (i := 8) (v := ?v8) (some 60) rfl rfl (by kernel_rfl) (by kernel_rfl) (by kernel_rfl) (fun _ _ _ h => h) (Or.inl ⟨by rfl, ?hy8⟩) (by assumption) ?_
      case hy8 => (intro w' hSw; (try dsimp only at hSw); go_simp; try (with_reducible rfl))
      simp only [Act.put, List.setIfInBounds_toArray, List.set_cons_zero, List.set_cons_succ]
      refine takeD (i := 9) (v := ?v9) (some 61) rfl rfl (by kernel_rfl) (by kernel_rfl) (by kernel_rfl) (fun _ _ _ h => h) (Or.inl ⟨by rfl, ?hy9⟩) (by assumption) ?_
      case hy9 => (intro w' hSw; (try dsimp only at hSw); go_simp; try (with_reducible rfl))
      simp only [Act.put, List.setIfInBounds_toArray, List.set_cons_zero, List.set_cons_succ]
      refine wpAnyH_ready (rs := [10]) (by kernel_rfl) (by simp) (AllReadyH.cons rfl (fun K hK => ?_) AllReadyH.nil)
      go_simp
      with_reducible refine c1.mono ?_
      rintro e V1 ⟨u1, rfl, hu1, hB1⟩
      obtain ⟨au, ku, rfl⟩ := hu1.sl
      obtain ⟨p1, p2, p3, p4⟩ := HA1.out V1 hB1
      have hS1 := Hid3.mk p1
      have HP2 := Hid3.mk p2
      have HP3 := Hid3.mk p3
      have HP4 := Hid3.mk p4
      clear hu1 hB1 p1 p2 p3 p4
      refine hK.out _ _ hS1.out (fun hHeld2 => ?_)
      clear hK K hHeld
      have hHeld := hHeld2
      clear hHeld2
      try simp only [Act.put, List.setIfInBounds_toArray, List.set_cons_zero, List.set_cons_succ]
      refine takeD (i := 11) (v := ?v11) (some 63) rfl rfl (by kernel_rfl) (by kernel_rfl) (by kernel_rfl) (fun _ _ _ h => h) (Or.inl ⟨by rfl, ?hy11⟩) (by assumption) ?_
      case hy11 => (intro w' hSw; (try dsimp only at hSw); go_simp; try (with_reducible rfl))
      simp only [Act.put, List.setIfInBounds_toArray, List.set_cons_zero, List.set_cons_succ]
      refine takeD (i := 12) (v := ?v12) (some 64) rfl rfl (by kernel_rfl) (by kernel_rfl) (by kernel_rfl) (fun _ _ _ h => h) (Or.inl ⟨by rfl, ?hy12⟩) (by assumption) ?_
      case hy12 => (intro w' hSw; (try dsimp only at hSw); go_simp; try (with_reducible rfl))
      simp only [Act.put, List.setIfInBounds_toArray, List.set_cons_zero, List.set_cons_succ]
      refine takeD (i := 13) (v := ?v13) (some 65) rfl rfl (by kernel_rfl) (by kernel_rfl) (by kernel_rfl) (fun _ _ _ h => h) (Or.inl ⟨by rfl, ?hy13⟩) (by assumption) ?_
      case hy13 => (intro w' hSw; (try dsimp only at hSw); go_simp; try (with_reducible rfl))
      simp only [Act.put, List.setIfInBounds_toArray, List.set_cons_zero, List.set_cons_succ]
      refine takeD (i := 14) (v := ?v14) (some 66) rfl rfl (by kernel_rfl) (by kernel_rfl) (by kernel_rfl) (fun _ _ _ h => h) (Or.inl ⟨by rfl, ?hy14⟩) (by assumption) ?_
      case hy14 => (intro w' hSw; (try dsimp only at hSw); go_simp; try (with_reducible rfl))
      simp only [Act.put, List.setIfInBounds_toArray, List.set_cons_zero, List.set_cons_succ]
      refine takeD (i := 15) (v := ?v15) (some 67) rfl rfl (by kernel_rfl) (by kernel_rfl) (by kernel_rfl) (fun _ _ _ h => h) (Or.inl ⟨by rfl, ?hy15⟩) (by assumption) ?_
      case hy15 => (intro w' hSw; (try dsimp only at hSw); go_simp; try (with_reducible rfl))
      simp only [Act.put, List.setIfInBounds_toArray, List.set_cons_zero, List.set_cons_succ]
      refine takeD (i := 16) (v := ?v16) (some 68) rfl rfl (by kernel_rfl) (by kernel_rfl) (by kernel_rfl) (fun _ _ _ h => h) (Or.inl ⟨by rfl, ?hy16⟩) (by assumption) ?_
      case hy16 => (intro w' hSw; (try dsimp only at hSw); go_simp; try (with_reducible rfl))
      simp only [Act.put, List.setIfInBounds_toArray, List.set_cons_zero, List.set_cons_succ]
      refine takeD (i := 17) (v := ?v17) (some 69) rfl rfl (by kernel_rfl) (by kernel_rfl) (by kernel_rfl) (fun _ _ _ h => h) (Or.inl ⟨by rfl, ?hy17⟩) (by assumption) ?_
      case hy17 => (intro w' hSw; (try dsimp only at hSw); go_simp; try (with_reducible rfl))
      simp only [Act.put, List.setIfInBounds_toArray, List.set_cons_zero, List.set_cons_succ]
      refine takeD (i := 18) (v := ?v18) (some 70) rfl rfl (by kernel_rfl) (by kernel_rfl) (by kernel_rfl) (fun _ _ _ h => h) (Or.inl ⟨by rfl, ?hy18⟩) (by assumption) ?_
      case hy18 => (intro w' hSw; (try dsimp only at hSw); go_simp; try (with_reducible rfl))
      simp only [Act.put, List.setIfInBounds_toArray, List.set_cons_zero, List.set_cons_succ]
      refine takeD (i := 21) (v := ?v21) (some 73) rfl rfl (by kernel_rfl) (by kernel_rfl) (by kernel_rfl) (fun _ _ _ h => h) (Or.inl ⟨by rfl, ?hy21⟩) (by assumption) ?_
      case hy21 => (intro w' hSw; (try dsimp only at hSw); go_simp; try (with_reducible rfl))
      simp only [Act.put, List.setIfInBounds_toArray, List.set_cons_zero, List.set_cons_succ]
      refine takeD (i := 22) (v := ?v22) (some 74) rfl rfl (by kernel_rfl) (by kernel_rfl) (by kernel_rfl) (fun _ _ _ h => h) (Or.inl ⟨by rfl, ?hy22⟩) (by assumption) ?_
      case hy22 => (intro w' hSw; (try dsimp only at hSw); go_simp; try (with_reducible rfl))
      simp only [Act.put, List.setIfInBounds_toArray, List.set_cons_zero, List.set_cons_succ]
      refine wpAnyH_ready (rs := [19]) (by kernel_rfl) (by simp) (AllReadyH.cons rfl (fun K hK => ?_) AllReadyH.nil)
      go_simp
      with_reducible refine (c2 V1 HP3.out).mono ?_
      rintro e V2 ⟨u2, rfl, hu2, hB2⟩
      obtain ⟨p1, ty, p2⟩ := HA2.out V1 V2 u2 HP2.out HP4.out hB2 hu2
      have hS2 := Hid3.mk p1
      have HB2 := Hid3.mk p2
      clear hu2 hB2 p1 p2
      refine hK.out _ _ hS2.out (fun hHeld2 => ?_)
      clear hK K hHeld
      have hHeld := hHeld2
      clear hHeld2
      try simp only [Act.put, List.setIfInBounds_toArray, List.set_cons_zero, List.set_cons_succ]
      refine wpAnyH_ready (rs := [20]) (by kernel_rfl) (by simp) (AllReadyH.cons rfl (fun K hK => ?_) AllReadyH.nil)
      go_simp
      refine hK.out _ _ hS2.out (fun hHeld2 => ?_)
      clear hK K hHeld
      have hHeld := hHeld2
      clear hHeld2
      try simp only [Act.put, List.setIfInBounds_toArray, List.set_cons_zero, List.set_cons_succ]
      refine takeD (i := 23) (v := ?v23) (some 75) rfl rfl (by kernel_rfl) (by kernel_rfl) (by kernel_rfl) (fun _ _ _ h => h) (Or.inl ⟨by rfl, ?hy23⟩) (by assumption) ?_
      case hy23 => (intro w' hSw; (try dsimp only at hSw); go_simp; try (with_reducible rfl))
      simp only [Act.put, List.setIfInBounds_toArray, List.set_cons_zero, List.set_cons_succ]
      refine takeD (i := 24) (v := ?v24) (some 76) rfl rfl (by kernel_rfl) (by kernel_rfl) (by kernel_rfl) (fun _ _ _ h => h) (Or.inl ⟨by rfl, ?hy24⟩) (by assumption) ?_
      case hy24 => (intro w' hSw; (try dsimp only at hSw); go_simp; try (with_reducible rfl))
      simp only [Act.put, List.setIfInBounds_toArray, List.set_cons_zero, List.set_cons_succ]
      refine takeD (i := 25) (v := ?v25) (some 4) rfl rfl (by kernel_rfl) (by kernel_rfl) (by kernel_rfl) (fun _ _ _ h => h) (Or.inl ⟨by rfl, ?hy25⟩) (by assumption) ?_
      case hy25 => (intro w' hSw; (try dsimp only at hSw); go_simp; try (with_reducible rfl))
      simp only [Act.put, List.setIfInBounds_toArray, List.set_cons_zero, List.set_cons_succ]
      refine wpAnyH_done (by kernel_rfl) ?_ _
      go_wp2
      go_ret
      exact ⟨rfl, HB2.out⟩
end Go.Proofs.Ytpmndhbcohjboaa
