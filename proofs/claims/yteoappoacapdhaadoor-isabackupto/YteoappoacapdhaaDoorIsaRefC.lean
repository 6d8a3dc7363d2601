/- The bytes of instructions: the document's; when instructions are the same; at most so many of them. -/
import Derived.Test.YteoappoacapdhaaDoorIsaRd
import Derived.Lib.QuietBelow
namespace Go.Proofs.YteoappoacapdhaaDoor
open Go.RowKit Go.Sort
set_option linter.unusedVariables false

set_option maxHeartbeats 4000000 in
set_option maxRecDepth 100000 in
theorem rcode_any (v : Value) (l : List (Int × Int × Int × Int)) (w : World) (hl : Inss w v l) (hL : l.length ≤ 100000) (hO : ∀ i ∈ l, InsOk4 i) :
    Calls Tryd.prog 18 #[v] w fun e w' => BytP (l.all insR4) (codeL l) e w' ∧ Below w.heap.size w w' := by
  obtain ⟨i0, hi, hz0, hz1, hz2⟩ := info_parts infoB
  obtain ⟨ao, cap, rfl, hc⟩ := hl
  have HC : Hid (∀ (j : Nat) (i : Int × Int × Int × Int), l[j]? = some i → ∃ g off, ao = some ⟨g, off, none⟩ ∧ w.cell? ⟨g, off + j * 4, none⟩ = some (.int .u8 i.1) ∧ w.cell? ⟨g, off + j * 4 + 1, none⟩ = some (.int .u8 i.2.1) ∧ w.cell? ⟨g, off + j * 4 + 2, none⟩ = some (.int .u8 i.2.2.1) ∧ w.cell? ⟨g, off + j * 4 + 3, none⟩ = some (.int .u16 i.2.2.2)) := hc
  have HO : Hid (∀ i ∈ l, InsOk4 i) := hO
  clear hc hO
  go_enter Tryd.func18, Tryd.ntmps18
  go_wp2
  go_loopw [4, 5] (fun b i wr => ∃ k : Nat, k ≤ l.length ∧ i = .int .i64 k ∧ (l.take k).all insR4 = true ∧ wr.ownsRow w.heap.size 5 1 b (4 * k) ((codeL (l.take k)).map bytV) ∧ Below w.heap.size w wr) (fun _ i _ => l.length - (intOf i).toNat)
  case atStart => exact ⟨0, by omega, rfl, rfl, World.ownsRow_nil _ _ _ _, Below.refl _ _⟩
  case round =>
    obtain ⟨k, hk, rfl, hall, hown, hB⟩ := hrel
    obtain ⟨a0, cap0, rfl⟩ : ∃ a cap, u4 = .slice a (4 * k) cap := by
      rcases hown.2 with ⟨hv, h0⟩ | ⟨g, cap, cur, hv, _⟩
      · exact ⟨none, 0, by rw [h0]; exact hv⟩
      · exact ⟨_, _, hv⟩
    have hBs := hB.size
    by_cases hlt : k < l.length
    · have hlt' : (k : Int) < (l.length : Int) := by omega
      obtain ⟨g, off, rfl, c0, c1, c2, c3⟩ := HC.out k l[k] (List.getElem?_eq_getElem hlt)
      have hg := World.block_lt_of_cell? _ _ c0
      have d0 := (hB.cell (p := ⟨g, off + k * 4, none⟩) hg).trans c0
      have d1 := (hB.cell (p := ⟨g, off + k * 4 + 1, none⟩) hg).trans c1
      have d2 := (hB.cell (p := ⟨g, off + k * 4 + 2, none⟩) hg).trans c2
      have d3 := (hB.cell (p := ⟨g, off + k * 4 + 3, none⟩) hg).trans c3
      have hok := HO.out l[k] (List.getElem_mem _)
      have HX : Hid (codeL (l.take (k + 1)) = codeL (l.take k) ++ encL l[k].1 l[k].2.1 l[k].2.2.1 l[k].2.2.2) := by
        show _ = _
        rw [List.take_succ_eq_append_getElem hlt, codeL_append]
        simp [codeL]
      have HA : Hid ((l.take (k + 1)).all insR4 = ((l.take k).all insR4 && insR l[k].1 l[k].2.1 l[k].2.2.1 l[k].2.2.2)) := by
        show _ = _
        rw [List.take_succ_eq_append_getElem hlt, List.all_append]
        simp [insR4]
      have HN : Hid (insR l[k].1 l[k].2.1 l[k].2.2.1 l[k].2.2.2 = false → l.all insR4 = false) := by
        intro h
        rw [List.all_eq_false]
        exact ⟨l[k], List.getElem_mem _, by simpa [insR4] using h⟩
      unfold InsOk4 at hok
      clear c0 c1 c2 c3
      generalize l[k] = i at *
      obtain ⟨o, a, b, m⟩ := i
      simp only at d0 d1 d2 d3 hok HX HA HN
      have cE := fun w => rencode_any o a b m w hok
      unfold BytP at cE
      cases hR : insR o a b m with
      | false =>
        rw [hR] at cE
        simp only [Bool.false_eq_true, if_false] at cE
        have HN' : Hid (l.all insR4 = false) := HN.out hR
        clear HN HX HA hown
        go_wp2_with fail
        refine (cE _).mono ?_
        rintro e W1 ⟨⟨v1, rfl, hv1⟩, hB1⟩
        go_wp2
        go_ret2
        refine ⟨?_, hB.trans (hB1.mono hBs)⟩
        rw [HN'.out]
        exact ⟨.slice none 0 0, rfl, Bts.nil _⟩
      | true =>
        rw [hR] at cE
        simp only [if_true] at cE
        have HE' : Hid ((encL o a b m).map bytV = [.int .u8 o, .int .u8 (a * 16 + b), .int .u8 (m / 256), .int .u8 (m % 256)]) := enc_cells o a b m hok hR
        have HA' : Hid ((l.take (k + 1)).all insR4 = true) := by
          show _ = _
          rw [HA.out, hall, hR]
          rfl
        clear HN HA
        go_wp2_with fail
        refine (cE _).mono ?_
        rintro e W1 ⟨⟨v1, rfl, hv1⟩, hB1⟩
        have hown1 := own_bel hown hB1 (Nat.le_refl _)
        have hb1 := hB.trans (hB1.mono hBs)
        have hs1 := hB1.size
        obtain ⟨a1, cap1, rfl, hc1, hm1, hcell⟩ := hv1
        have he4 : (encL o a b m).length = 4 := rfl
        obtain ⟨g1, off1, rfl, _⟩ := hcell 0 _ rfl
        rw [he4] at hc1 ⊢
        have hnews : ∀ j u, ((encL o a b m).map bytV)[j]? = some u → W1.cell? ((⟨g1, off1, none⟩ : Addr).add j) = some u := by
          intro j u hj
          rw [List.getElem?_map] at hj
          cases hx : (encL o a b m)[j]? with
          | none => rw [hx] at hj; cases hj
          | some x =>
            rw [hx] at hj
            injection hj with hj
            subst hj
            obtain ⟨g2, off2, e2, h2⟩ := hcell j x hx
            cases e2
            have hp : (⟨g1, off1, none⟩ : Addr).add j = ⟨g1, off1 + j, none⟩ := by unfold Addr.add; split <;> simp_all
            rw [hp]
            exact h2
        have HNW : Hid (∀ j u, ((encL o a b m).map bytV)[j]? = some u → W1.cell? ((⟨g1, off1, none⟩ : Addr).add j) = some u) := hnews
        have hone : Hid (∀ u ∈ (encL o a b m).map bytV, u.oneCell' = true) := by
          show ∀ u ∈ (encL o a b m).map bytV, u.oneCell' = true
          rw [HE'.out]
          simp [Value.oneCell']
        clear cE hown hcell hnews he4 d0 d1 d2 d3
        go_wp2_with (at_builtin; refine wpList_append_own _ rfl _ _ 27 rfl w.heap.size 5 i0 (.int .u8 0) 1 1 Tryd.underlying27 hi hz0 hz1 hz2 rfl (by decide) _ _ _ rfl hown1 ⟨g1, off1, none⟩ 4 cap1 ((encL o a b m).map bytV) rfl rfl HNW.out hone.out (by unfold maxLen; omega) (by omega) (by omega) ?_; intro v' w1 hown' hgrow _)
        have hb3 : Below w.heap.size w w1 := hb1.grown hgrow (by omega) (fun j hj => (hown1.lt j hj).1)
        go_roundw
        case rel =>
          refine ⟨k + 1, by omega, by go_num, HA'.out, ?_, hb3⟩
          rw [HX.out, List.map_append]
          exact hown'
        case measure => simp [intOf]; omega
    · have hlt' : ¬ (k : Int) < (l.length : Int) := by omega
      have hke : k = l.length := by omega
      subst hke
      rw [List.take_length] at hown hall
      have HO' : Hid (wr.ownsRow w.heap.size 5 1 (.slice a0 (4 * l.length) cap0) (4 * l.length) ((codeL l).map bytV)) := hown
      have HA : Hid (l.all insR4 = true) := hall
      clear hown hall
      go_wp2
      go_ret2
      refine ⟨?_, hB⟩
      rw [HA.out]
      exact ⟨.slice a0 (4 * l.length) cap0, rfl, Bts.of_own HO'.out⟩
set_option maxHeartbeats 4000000 in
set_option maxRecDepth 100000 in
theorem same_eq (v v' : Value) (l : List (Int × Int × Int × Int)) (w : World) (h : Inss w v l) (h' : Inss w v' l) (hL : l.length ≤ 4194304) :
    Calls Tryd.prog 21 #[v, v'] w fun e w' => e = .returned (.bool true) ∧ Below w.heap.size w w' := by
  obtain ⟨a, cap, rfl, hc⟩ := h
  obtain ⟨a', cap', rfl, hc'⟩ := h'
  have HC : Hid (∀ (j : Nat) (i : Int × Int × Int × Int), l[j]? = some i → ∃ g off, a = some ⟨g, off, none⟩ ∧ w.cell? ⟨g, off + j * 4, none⟩ = some (.int .u8 i.1) ∧ w.cell? ⟨g, off + j * 4 + 1, none⟩ = some (.int .u8 i.2.1) ∧ w.cell? ⟨g, off + j * 4 + 2, none⟩ = some (.int .u8 i.2.2.1) ∧ w.cell? ⟨g, off + j * 4 + 3, none⟩ = some (.int .u16 i.2.2.2)) := hc
  have HC' : Hid (∀ (j : Nat) (i : Int × Int × Int × Int), l[j]? = some i → ∃ g off, a' = some ⟨g, off, none⟩ ∧ w.cell? ⟨g, off + j * 4, none⟩ = some (.int .u8 i.1) ∧ w.cell? ⟨g, off + j * 4 + 1, none⟩ = some (.int .u8 i.2.1) ∧ w.cell? ⟨g, off + j * 4 + 2, none⟩ = some (.int .u8 i.2.2.1) ∧ w.cell? ⟨g, off + j * 4 + 3, none⟩ = some (.int .u16 i.2.2.2)) := hc'
  clear hc hc'
  go_enter Tryd.func21, Tryd.ntmps21
  go_wp2
  go_loopw [5] (fun i wr => ∃ k : Nat, k ≤ l.length ∧ i = .int .i64 k ∧ Below w.heap.size w wr) (fun i _ => l.length - (intOf i).toNat)
  case atStart => exact ⟨0, by omega, rfl, Below.refl _ _⟩
  case round =>
    obtain ⟨k, hk, rfl, hB⟩ := hrel
    by_cases hlt : k < l.length
    · have hlt' : (k : Int) < (l.length : Int) := by omega
      obtain ⟨g, off, rfl, c0, c1, c2, c3⟩ := HC.out k l[k] (List.getElem?_eq_getElem hlt)
      obtain ⟨g', off', rfl, c0', c1', c2', c3'⟩ := HC'.out k l[k] (List.getElem?_eq_getElem hlt)
      have hg := World.block_lt_of_cell? _ _ c0
      have hg' := World.block_lt_of_cell? _ _ c0'
      have d0 := (hB.cell (p := ⟨g, off + k * 4, none⟩) hg).trans c0
      have d1 := (hB.cell (p := ⟨g, off + k * 4 + 1, none⟩) hg).trans c1
      have d2 := (hB.cell (p := ⟨g, off + k * 4 + 2, none⟩) hg).trans c2
      have d3 := (hB.cell (p := ⟨g, off + k * 4 + 3, none⟩) hg).trans c3
      have d0' := (hB.cell (p := ⟨g', off' + k * 4, none⟩) hg').trans c0'
      have d1' := (hB.cell (p := ⟨g', off' + k * 4 + 1, none⟩) hg').trans c1'
      have d2' := (hB.cell (p := ⟨g', off' + k * 4 + 2, none⟩) hg').trans c2'
      have d3' := (hB.cell (p := ⟨g', off' + k * 4 + 3, none⟩) hg').trans c3'
      clear c0 c1 c2 c3 c0' c1' c2' c3'
      generalize l[k] = i at *
      obtain ⟨o, x, y, m⟩ := i
      simp only at d0 d1 d2 d3 d0' d1' d2' d3'
      have eI : ∀ w, (Op.equalIn 10000 26 (.agg #[.int .u8 o, .int .u8 x, .int .u8 y, .int .u16 m]) (.agg #[.int .u8 o, .int .u8 x, .int .u8 y, .int .u16 m])).run Tryd.prog w = .ok true w := fun w => by rw [eqIns]; simp
      have eG := eqGuardI
      go_wp2_with fail
      have g0 := fun d os => cell_regrown d0 d os
      have g1 := fun d os => cell_regrown d1 d os
      have g2 := fun d os => cell_regrown d2 d os
      have g3 := fun d os => cell_regrown d3 d os
      have g4 := fun d os => cell_regrown d0' d os
      have g5 := fun d os => cell_regrown d1' d os
      have g6 := fun d os => cell_regrown d2' d os
      have g7 := fun d os => cell_regrown d3' d os
      clear d0 d1 d2 d3 d0' d1' d2' d3'
      refine wp_region_quiet_below (by kernel_rfl) (by kernel_rfl) ?_
      repeat (quiet_step (fail))
      refine wpQuiet_nil ?_
      intro _ hw'
      obtain ⟨⟨dq, osq⟩, hw''⟩ := hw'
      subst hw''
      have hBq := hB.trans ((below_regrown wr dq osq).mono hB.size)
      generalize grow (redrawn wr dq) osq = W1 at *
      go_wp2
      go_roundw
      case rel => exact ⟨k + 1, by omega, by go_num, hBq⟩
      case measure => simp [intOf]; omega
    · have hlt' : ¬ (k : Int) < (l.length : Int) := by omega
      go_wp2
      go_ret
      exact ⟨rfl, hB⟩
set_option maxRecDepth 100000 in
theorem few3_any (v : Value) (l : List (Int × Int × Int × Int)) (w : World) (h : Inss w v l) (hcap : ∀ a n c, v = .slice a n c → n ≤ c) :
    Calls Tryd.prog 17 #[v] w fun e w' => (∃ v', e = .returned v' ∧ ∀ W, Inss W v l → Inss W v' (l.take 60)) ∧ w' = w := by
  obtain ⟨a, cap, rfl, hc⟩ := h
  have hlc := hcap a l.length cap rfl
  by_cases h60 : 60 < l.length
  · have h1 : (60 : Int) < (l.length : Int) := by omega
    have h2 : (60 : Int) ≤ (cap : Int) := by omega
    go_enter Tryd.func17, Tryd.ntmps17
    go_wp2
    go_ret
    refine ⟨⟨.slice a 60 cap, rfl, fun W hW => ?_⟩, rfl⟩
    obtain ⟨a1, cap1, hv, hc1⟩ := hW
    injection hv with e1 e2 e3
    subst e1
    refine ⟨a, cap, by rw [List.length_take]; congr 1; omega, fun j i hi => ?_⟩
    rw [List.getElem?_take] at hi
    split at hi
    · exact hc1 j i hi
    · cases hi
  · have h1 : ¬ (60 : Int) < (l.length : Int) := by omega
    go_enter Tryd.func17, Tryd.ntmps17
    go_wp2
    go_ret
    exact ⟨⟨.slice a l.length cap, rfl, fun W hW => by rw [List.take_of_length_le (by omega)]; exact hW⟩, rfl⟩
end Go.Proofs.YteoappoacapdhaaDoor
