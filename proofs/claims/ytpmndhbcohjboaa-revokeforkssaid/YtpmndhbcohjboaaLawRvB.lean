/- RevokeFew: the walk. -/
import Derived.Test.YtpmndhbcohjboaaLawRvA
namespace Go.Proofs.Ytpmndhbcohjboaa
open Go.RowKit Go.Maps
set_option linter.unusedVariables false
set_option maxRecDepth 100000
/-- A book, and a row of what is asked back. -/
structure FewI (w wr : World) (b m : Nat) (q : Rs) (r : Value) (L : List Dm) : Prop where
  out : ∃ av vs, Bk w.heap.size wr b m av vs q
  row : RowO wr w.heap.size 39 3 r L.length (aCs L)
  below : Below w.heap.size w wr
theorem FewI.post {w wr w' : World} {b m : Nat} {q : Rs} {r : Value} {L : List Dm} (h : FewI w wr b m q r L) (k : Below wr.heap.size wr w') : FewI w w' b m q r L := by
  obtain ⟨av, vs, t⟩ := h.out
  exact ⟨⟨av, vs, t.below k⟩, h.row.below k, h.below.trans (k.mono h.below.size)⟩
theorem below_drewN (w : World) (n : Nat) : Below w.heap.size w (w.drewN n) := ⟨rfl, rfl, rfl, Nat.le_refl _, fun _ _ => rfl⟩
theorem key_ne {L : List Dm} (hK : KeysD L) {i j : Nat} (hi : i < L.length) (hj : j < i) : ¬ (L[j].1 = L[i].1 ∧ L[j].2.1 = L[i].2.1) := (List.pairwise_iff_getElem.1 hK) j i (by omega) hi hj
set_option maxHeartbeats 8000000 in
theorem few_law (v : Value) (l : List Dd) (w : World) (hd : Dds w v l) (hok : ∀ d ∈ l, d.Ok) : Calls Try.prog 6 #[v] w fun e w' => e = .returned (.bool true) ∧ Below w.heap.size w w' := by
  have cP := play_any v l w hd hok
  clear hd
  go_enter Try.func6, Try.ntmps6
  go_wp2_with fail
  refine cP.mono ?_
  rintro r W1 ⟨b, m, rb, rfl, hM, hO⟩
  generalize playQ (l.take 50) q0 = q at *
  have HO := Hid3.mk hO
  have HL1 := Hid3.mk hM.liv
  have hfew := hO.few
  clear cP hM hO
  go_wp2_with fail
  refine (live_any _).mono ?_
  rintro r W2 ⟨rfl, hB⟩
  have hl := HL1.out.post hB
  obtain ⟨av, vs, hb⟩ := hl.out
  have cL := open_any w.heap.size b m av vs q 50 W2 hb HO.out
  have H2 := Hid3.mk (And.intro hb hl.below)
  clear hB HL1 hl hb
  go_wp2_with fail
  refine cL.mono ?_
  rintro e W3 ⟨r, rfl, hr, hB⟩
  obtain ⟨ar, kr, rfl⟩ := hr.sl
  have H3 : Hid3 (FewI w W3 b m q (.slice ar q.d.length kr) q.d) := ⟨⟨⟨av, vs, H2.out.1.below hB⟩, hr.base H2.out.2.size, H2.out.2.trans (hB.mono H2.out.2.size)⟩⟩
  clear cL hr hB H2
  go_wp2
  go_loopw [7, 8, 9, 10] (fun s7 _ _ _ wr => ∃ kk : Nat, kk ≤ q.d.length ∧ s7 = .int .i64 kk ∧ Hid3 (FewI w wr b m q (.slice ar q.d.length kr) q.d)) (fun s7 _ _ _ _ => q.d.length - (intOf s7).toNat)
  case atStart => exact ⟨0, Nat.zero_le _, rfl, H3⟩
  case round =>
    obtain ⟨kk, hkk, rfl, HI⟩ := hrel
    clear H3
    by_cases hlt : kk < q.d.length
    · have hltz : (kk : Int) < (q.d.length : Int) := by omega
      obtain ⟨g, off, rfl, hg, k0, k1, k2⟩ := Row3.at HI.out.row kk hlt
      obtain ⟨av, vs, hb⟩ := HI.out.out
      have cA := asked_any w.heap.size b m av vs q q.d[kk].1 q.d[kk].2.1 wr.drew (hb.below (below_drew _))
      rw [dget_mem HO.out.keys _ (List.getElem_mem hlt)] at cA
      simp only [Option.getD_some, Option.isSome_some] at cA
      have HI2 := Hid3.mk (HI.out.post (below_drew _))
      have HK : Hid3 (∀ j, j < kk → ∀ hj : j < q.d.length, ¬ (q.d[j].1 = q.d[kk].1 ∧ q.d[j].2.1 = q.d[kk].2.1)) := ⟨fun j hjk hj => key_ne HO.out.keys hlt hjk⟩
      have hS : Hid3 (wr.drew.cell? ⟨g, off + kk * 3, none⟩ = some (.int .u8 q.d[kk].1) ∧ wr.drew.cell? ⟨g, off + kk * 3 + 1, none⟩ = some (.int .u8 q.d[kk].2.1)) := ⟨⟨k0, k1⟩⟩
      clear hb HI
      generalize q.d[kk].1 = z0 at *
      generalize q.d[kk].2.1 = z1 at *
      generalize q.d[kk].2.2 = z2 at *
      go_wp2_with fail
      go_region_held3 (fun w' => w'.cell? ⟨g, off + kk * 3, none⟩ = some (.int .u8 z0) ∧ w'.cell? ⟨g, off + kk * 3 + 1, none⟩ = some (.int .u8 z1)) (with_reducible (exact hS.out)) ((go_at_call 17; refine cA.mono ?_; rintro e W4 ⟨rfl, hW4⟩; rw [hW4]; clear hW4))
      clear cA hS
      have x0 : wr.drew.cell? ⟨g, off + kk * 3, none⟩ = some (.int .u8 z0) := k0
      have x1 : wr.drew.cell? ⟨g, off + kk * 3 + 1, none⟩ = some (.int .u8 z1) := k1
      have x2 : wr.drew.cell? ⟨g, off + kk * 3 + 2, none⟩ = some (.int .i64 z2) := k2
      clear k0 k1 k2
      generalize wr.drew = W4 at *
      go_wp2
      go_loopw [10] (fun s10 wx => ∃ jj : Nat, jj ≤ kk ∧ s10 = .int .i64 jj ∧ Hid3 (FewI w wx b m q (.slice (some ⟨g, off, none⟩) q.d.length kr) q.d) ∧ Hid3 (wx.cell? ⟨g, off + kk * 3, none⟩ = some (.int .u8 z0) ∧ wx.cell? ⟨g, off + kk * 3 + 1, none⟩ = some (.int .u8 z1))) (fun s10 _ => kk - (intOf s10).toNat)
      case atStart => exact ⟨0, Nat.zero_le _, rfl, HI2, ⟨x0, x1⟩⟩
      case round =>
        obtain ⟨jj, hjj, rfl, HJ, HX⟩ := hrel
        clear HI2 x0 x1 x2
        by_cases hjl : jj < kk
        · have hjz : (jj : Int) < (kk : Int) := by omega
          have hjn : (jj : Int) < (q.d.length : Int) := by omega
          obtain ⟨g', off', he, hg', y0, y1, _⟩ := Row3.at HJ.out.row jj (by omega)
          have hge : g = g' ∧ off = off' := by
            have h1 : ((⟨g, off, none⟩ : Addr)) = ⟨g', off', none⟩ := Option.some.inj he
            injection h1 with h1 h2
            exact ⟨h1, h2⟩
          obtain ⟨rfl, rfl⟩ := hge
          have hne := HK.out jj hjl (by omega)
          have x0 := HX.out.1
          have x1 := HX.out.2
          have HJ2 := fun n => Hid3.mk (HJ.out.post (below_drewN wr n))
          have HX2 := fun n => (Hid3.mk (show (wr.drewN n).cell? ⟨g, off + kk * 3, none⟩ = some (.int .u8 z0) ∧ (wr.drewN n).cell? ⟨g, off + kk * 3 + 1, none⟩ = some (.int .u8 z1) from HX.out))
          clear he HJ HX
          generalize q.d[jj].1 = y2 at *
          generalize q.d[jj].2.1 = y3 at *
          by_cases h0 : y2 = z0
          · have h1 : ¬ y3 = z1 := fun e => hne ⟨h0, e⟩
            subst h0
            clear hne
            go_wp2_with fail
            go_quiet (fail)
            go_wp2
            go_roundw
            case rel => exact ⟨jj + 1, by omega, by go_num, HJ2 _, HX2 _⟩
            case measure => simp [intOf]; omega
          · clear hne
            go_wp2_with fail
            go_quiet (fail)
            go_wp2
            go_roundw
            case rel => exact ⟨jj + 1, by omega, by go_num, HJ2 _, HX2 _⟩
            case measure => simp [intOf]; omega
        · have hjz : ¬ (jj : Int) < (kk : Int) := by omega
          go_wp2
          go_roundw
          case rel => exact ⟨kk + 1, by omega, by go_num, HJ⟩
          case measure => simp [intOf]; omega
    · have hltz : ¬ (kk : Int) < (q.d.length : Int) := by omega
      have hle : (q.d.length : Int) ≤ 8 := by omega
      have HB := Hid3.mk HI.out.below
      clear HI
      go_wp2
      go_ret
      exact ⟨rfl, HB.out⟩
end Go.Proofs.Ytpmndhbcohjboaa
