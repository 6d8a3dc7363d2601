/- IsaBack: what is read of what was written is it, as bytes and as text. -/
import Derived.Test.YteoappoacapdhaaDoorLawIsaMany
import Derived.Lib.QuietBelow
namespace Go.Proofs.YteoappoacapdhaaDoor
open Go.RowKit Go.Sort
set_option linter.unusedVariables false

set_option maxHeartbeats 4000000 in
set_option maxRecDepth 100000 in
theorem icode_big (v : Value) (l : List (Int × Int × Int × Int)) (w : World) (hl : Inss w v l) (hL : l.length ≤ 4194304) (hO : ∀ i ∈ l, InsOk4 i) :
    Calls Tryd.prog 16 #[v] w fun e w' => BytP (l.all insR4) (codeL l) e w' ∧ Below w.heap.size w w' := by
  obtain ⟨i0, hi, hz0, hz1, hz2⟩ := info_parts infoB
  obtain ⟨ao, cap, rfl, hc⟩ := hl
  have HC : Hid (∀ (j : Nat) (i : Int × Int × Int × Int), l[j]? = some i → ∃ g off, ao = some ⟨g, off, none⟩ ∧ w.cell? ⟨g, off + j * 4, none⟩ = some (.int .u8 i.1) ∧ w.cell? ⟨g, off + j * 4 + 1, none⟩ = some (.int .u8 i.2.1) ∧ w.cell? ⟨g, off + j * 4 + 2, none⟩ = some (.int .u8 i.2.2.1) ∧ w.cell? ⟨g, off + j * 4 + 3, none⟩ = some (.int .u16 i.2.2.2)) := hc
  have HO : Hid (∀ i ∈ l, InsOk4 i) := hO
  clear hc hO
  go_enter Tryd.func16, Tryd.ntmps16
  go_wp2
  go_loopw [4, 10] (fun b i wr => ∃ k : Nat, k ≤ l.length ∧ i = .int .i64 k ∧ (l.take k).all insR4 = true ∧ wr.ownsRow w.heap.size 5 1 b (4 * k) ((codeL (l.take k)).map bytV) ∧ Below w.heap.size w wr) (fun _ i _ => l.length - (intOf i).toNat)
  case atStart => exact ⟨0, by omega, rfl, rfl, World.ownsRow_nil _ _ _ _, Below.refl _ _⟩
  case round =>
    obtain ⟨k, hk, rfl, hall, hown, hB⟩ := hrel
    obtain ⟨a0, cap0, rfl⟩ : ∃ a cap, u4 = .slice a (4 * k) cap := by
      rcases hown.2 with ⟨hv, h0⟩ | ⟨g, cap, cur, hv, _⟩
      · exact ⟨none, 0, by rw [h0]; exact hv⟩
      · exact ⟨_, _, hv⟩
    have hBs := hB.size
    by_cases hlt : k < l.length
    · have hlt' : (k : Int) < (l.length : Int) := by omega
      obtain ⟨g, off, rfl, c0, c1, c2, c3⟩ := HC.out k l[k] (List.getElem?_eq_getElem hlt)
      have hg := World.block_lt_of_cell? _ _ c0
      have d0 := (hB.cell (p := ⟨g, off + k * 4, none⟩) hg).trans c0
      have d1 := (hB.cell (p := ⟨g, off + k * 4 + 1, none⟩) hg).trans c1
      have d2 := (hB.cell (p := ⟨g, off + k * 4 + 2, none⟩) hg).trans c2
      have d3 := (hB.cell (p := ⟨g, off + k * 4 + 3, none⟩) hg).trans c3
      have hok := HO.out l[k] (List.getElem_mem _)
      have HX : Hid (codeL (l.take (k + 1)) = codeL (l.take k) ++ encL l[k].1 l[k].2.1 l[k].2.2.1 l[k].2.2.2) := by
        show _ = _
        rw [List.take_succ_eq_append_getElem hlt, codeL_append]
        simp [codeL]
      have HA : Hid ((l.take (k + 1)).all insR4 = ((l.take k).all insR4 && insR l[k].1 l[k].2.1 l[k].2.2.1 l[k].2.2.2)) := by
        show _ = _
        rw [List.take_succ_eq_append_getElem hlt, List.all_append]
        simp [insR4]
      have HN : Hid (insR l[k].1 l[k].2.1 l[k].2.2.1 l[k].2.2.2 = false → l.all insR4 = false) := by
        intro h
        rw [List.all_eq_false]
        exact ⟨l[k], List.getElem_mem _, by simpa [insR4] using h⟩
      unfold InsOk4 at hok
      clear c0 c1 c2 c3
      generalize l[k] = i at *
      obtain ⟨o, a, b, m⟩ := i
      simp only at d0 d1 d2 d3 hok HX HA HN
      have hok' := hok
      obtain ⟨o1, o2, a1, a2, b1, b2, m1, m2⟩ := hok'
      have cR := fun w => iright_any o a b m w o1 o2
      have cB := fun w => bytes_any m w m1 m2
      go_wp2_with fail
      refine (cR _).mono ?_
      rintro e W1 ⟨rfl, hB1⟩
      rw [World.size_alloc] at hB1
      have hF1 := (Four.new wr (.int .u8 o) (.int .u8 a) (.int .u8 b) (.int .u16 m)).below hB1 (by omega)
      have hown1 := own_bel (hown.alloc (.cells #[.int .u8 o, .int .u8 a, .int .u8 b, .int .u16 m] 26)) hB1 (by simp)
      have hb1 : Below w.heap.size w W1 := (hB.alloc hBs _).trans (hB1.mono (by omega))
      have hs1 : wr.heap.size < W1.heap.size := (Array.getElem?_eq_some_iff.1 hF1).1
      have f0 := hF1.c0
      have f1 := hF1.c1
      have f2 := hF1.c2
      have f3 := hF1.c3
      clear d0 d1 d2 d3 hown hB hB1 cR
      generalize wr.heap.size = b0 at *
      clear wr
      cases hR : insR o a b m with
      | false =>
        have HN' : Hid (l.all insR4 = false) := HN.out hR
        clear HN HX HA hown1 hF1 cB
        go_wp2
        go_ret2
        refine ⟨?_, hb1⟩
        rw [HN'.out]
        exact ⟨.slice none 0 0, rfl, Bts.nil _⟩
      | true =>
        have hab := (insR_iff o a b m).1 hR
        have hor := or_low a b a1 hab.1.2.1 b1 hab.1.2.2
        have hsh : IntKind.u8.wrap (a * 16) = a * 16 := by rw [u8w]; omega
        have HE := enc_cells o a b m hok hR
        have HE' : Hid ((encL o a b m).map bytV = [.int .u8 o, .int .u8 (a * 16 + b), .int .u8 (m / 256), .int .u8 (m % 256)]) := HE
        have HA' : Hid ((l.take (k + 1)).all insR4 = true) := by
          show _ = _
          rw [HA.out, hall, hR]
          rfl
        clear HE HN HA hab
        go_wp2_with fail
        refine (cB _).mono ?_
        rintro e W2 ⟨rfl, hB2⟩
        have hF2 := hF1.below hB2 (by omega)
        have hown2 := own_bel hown1 hB2 (Nat.le_refl _)
        have hb2 := hb1.trans (hB2.mono hb1.size)
        have g0 := hF2.c0
        have g1 := hF2.c1
        have g2 := hF2.c2
        have g3 := hF2.c3
        have hs2 := hB2.size
        have gg0 := (hF2.alloc (.cells #[.int .u8 (m / 256), .int .u8 (m % 256)] 56)).c0
        have gg1 := (hF2.alloc (.cells #[.int .u8 (m / 256), .int .u8 (m % 256)] 56)).c1
        have gg2 := (hF2.alloc (.cells #[.int .u8 (m / 256), .int .u8 (m % 256)] 56)).c2
        clear f0 f1 f2 f3 hF1 hown1 hb1 hB2 cB hF2
        go_wp2_with (at_builtin; refine wpList_append_own _ rfl _ _ 27 rfl w.heap.size 5 i0 (.int .u8 0) 1 1 Tryd.underlying27 hi hz0 hz1 hz2 rfl (by decide) _ _ _ rfl ((hown2.alloc _).alloc _) ⟨W2.heap.size + 1, 0, none⟩ 4 4 [.int .u8 o, .int .u8 (a * 16 + b), .int .u8 (m / 256), .int .u8 (m % 256)] rfl rfl (by have h := cell_four_new (W2.alloc (.cells #[.int .u8 (m / 256), .int .u8 (m % 256)] 56)) (.int .u8 o) (.int .u8 (a * 16 + b)) (.int .u8 (m / 256)) (.int .u8 (m % 256)) 5; rw [World.size_alloc] at h; exact h) (by simp [Value.oneCell']) (by unfold maxLen; omega) (by omega) (by simp; omega) ?_; intro v' w1 hown' hgrow _)
        have hb3 : Below w.heap.size w w1 := ((hb2.alloc (by omega) _).alloc (by simp; omega) _).grown hgrow (by simp; omega) (fun j hj => (hown2.lt j hj).1)
        go_roundw
        case rel =>
          refine ⟨k + 1, by omega, by go_num, HA'.out, ?_, hb3⟩
          rw [HX.out, List.map_append, HE'.out]
          exact hown'
        case measure => simp [intOf]; omega
    · have hlt' : ¬ (k : Int) < (l.length : Int) := by omega
      have hke : k = l.length := by omega
      subst hke
      rw [List.take_length] at hown hall
      have HO' : Hid (wr.ownsRow w.heap.size 5 1 (.slice a0 (4 * l.length) cap0) (4 * l.length) ((codeL l).map bytV)) := hown
      have HA : Hid (l.all insR4 = true) := hall
      clear hown hall
      go_wp2
      go_ret2
      refine ⟨?_, hB⟩
      rw [HA.out]
      exact ⟨.slice a0 (4 * l.length) cap0, rfl, Bts.of_own HO'.out⟩
theorem readF_code : ∀ (l : List (Int × Int × Int × Int)), (∀ i ∈ l, InsOk4 i) → l.all insR4 = true → readF l.length (codeL l) = some l
  | [], _, _ => rfl
  | i :: l, hO, hR => by
    have h1 : insR4 i = true := by simp only [List.all_cons, Bool.and_eq_true] at hR; exact hR.1
    have h2 : l.all insR4 = true := by simp only [List.all_cons, Bool.and_eq_true] at hR; exact hR.2
    obtain ⟨o, a, b, m⟩ := i
    have e1 : (codeL ((o, a, b, m) :: l)).take 4 = encL o a b m := by simp [codeL, encL]
    have e2 : (codeL ((o, a, b, m) :: l)).drop 4 = codeL l := by simp [codeL, encL]
    simp only [List.length_cons, readF]
    rw [e1, e2, dec_enc o a b m (hO (o, a, b, m) (by simp)) h1, readF_code l (fun i hi => hO i (by simp [hi])) h2]
    rfl
theorem readC_code (l : List (Int × Int × Int × Int)) (hO : ∀ i ∈ l, InsOk4 i) (hR : l.all insR4 = true) : readC (codeL l) = some l := by
  unfold readC
  rw [codeL_length, if_pos (by omega), show 4 * l.length / 4 = l.length by omega]
  exact readF_code l hO hR
theorem readF_ok : ∀ (n : Nat) (bs : List UInt8) (M : List (Int × Int × Int × Int)), bs.length = 4 * n → readF n bs = some M → M.all insR4 = true ∧ (∀ i ∈ M, InsOk4 i) ∧ codeL M = bs ∧ M.length = n
  | 0, bs, M, hl, h => by
    simp [readF] at h
    subst h
    have : bs = [] := List.eq_nil_of_length_eq_zero (by omega)
    subst this
    exact ⟨rfl, (fun i hi => by cases hi), rfl, rfl⟩
  | n + 1, bs, M, hl, h => by
    simp only [readF] at h
    cases hd : decO (bs.take 4) with
    | none => rw [hd] at h; cases h
    | some i =>
      rw [hd] at h
      cases hr : readF n (bs.drop 4) with
      | none => rw [hr] at h; cases h
      | some M' =>
        rw [hr] at h
        simp only [Option.map_some, Option.some.injEq] at h
        subst h
        obtain ⟨h1, h2, h3, h4⟩ := readF_ok n (bs.drop 4) M' (by rw [List.length_drop]; omega) hr
        obtain ⟨o, a, b, m⟩ := i
        obtain ⟨r1, r2, r3⟩ := enc_dec (bs.take 4) o a b m hd
        refine ⟨by simp [insR4, r1, h1], ?_, ?_, by simp [h4]⟩
        · intro j hj
          rcases List.mem_cons.1 hj with rfl | hj
          · exact r2
          · exact h2 j hj
        · simp only [codeL]
          rw [r3, h3, List.take_append_drop]
theorem readC_ok (bs : List UInt8) (M : List (Int × Int × Int × Int)) (h : readC bs = some M) : M.all insR4 = true ∧ (∀ i ∈ M, InsOk4 i) ∧ codeL M = bs ∧ M.length ≤ bs.length := by
  unfold readC at h
  split at h
  · obtain ⟨h1, h2, h3, h4⟩ := readF_ok _ bs M (by omega) h
    exact ⟨h1, h2, h3, by omega⟩
  · cases h
theorem print_len (o a b m : Int) (hO : InsOk o a b m) : (printL o a b m).length ≤ 100000 := by
  obtain ⟨o1, o2, a1, a2, b1, b2, m1, m2⟩ := hO
  unfold printL
  rw [List.length_append]
  have h1 := word_len o
  have h2 := tails_len (partsL o a b m) (fun p hp => by
    rcases parts_kinds o a b m p hp with rfl | rfl | rfl
    · exact show_len (0, a) a1 (by show a ≤ 65535; omega)
    · exact show_len (1, b) b1 (by show b ≤ 65535; omega)
    · exact show_len (2, m) m1 m2)
  have h3 := parts_len o a b m
  omega
set_option maxHeartbeats 16000000 in
set_option maxRecDepth 100000 in
theorem back_walk (v : Value) (l : List (Int × Int × Int × Int)) (vb : Value) (bs : List UInt8) (w : World) (hl : Inss w v l) (hO : ∀ i ∈ l, InsOk4 i) (hcap : ∀ a n c, v = .slice a n c → n ≤ c) (hb : Bts w vb bs) (hbl : bs.length ≤ 4194304) (hW : Wds w) (hT : Tabs w) (hP : Pow w) :
    Calls Tryd.prog 7 #[v, vb] w fun e w' => e = .returned (.bool true) ∧ Below w.heap.size w w' := by
  have cV := fun w h1 h2 h3 => ilive_any w h1 h2 h3
  have cF := fun w h => few3_any v l w h hcap
  have hlt : (l.take 60).length ≤ 60 := by rw [List.length_take]; omega
  have hOt : ∀ i ∈ l.take 60, InsOk4 i := fun i hi => hO i (List.mem_of_mem_take hi)
  have cC := fun v' w h => icode_any v' (l.take 60) w h (by omega) hOt
  have cRb := fun w h => ireadc_any vb bs w h hbl
  have HL : Hid (Inss w v l) := hl
  have HB : Hid (Bts w vb bs) := hb
  have HO : Hid (∀ i ∈ l, InsOk4 i) := hO
  have HLn : Hid ((l.take 60).length ≤ 60) := hlt
  obtain ⟨ao, cap, rfl, hc⟩ := hl
  have HC : Hid (∀ (j : Nat) (i : Int × Int × Int × Int), l[j]? = some i → ∃ g off, ao = some ⟨g, off, none⟩ ∧ w.cell? ⟨g, off + j * 4, none⟩ = some (.int .u8 i.1) ∧ w.cell? ⟨g, off + j * 4 + 1, none⟩ = some (.int .u8 i.2.1) ∧ w.cell? ⟨g, off + j * 4 + 2, none⟩ = some (.int .u8 i.2.2.1) ∧ w.cell? ⟨g, off + j * 4 + 3, none⟩ = some (.int .u16 i.2.2.2)) := hc
  unfold BytP at cC
  clear hc hb hO hcap
  cases hall : (l.take 60).all insR4 with
  | false =>
    rw [hall] at cC
    simp only [Bool.false_eq_true, if_false] at cC
    clear hOt hall hlt
    go_enter Tryd.func7, Tryd.ntmps7
    go_wp2_with fail
    refine (cF _ HL.out).mono ?_
    rintro e W0 ⟨⟨v0, rfl, hf0⟩, hw⟩
    rw [hw]
    clear hw W0
    go_wp2_with fail
    refine (cC v0 w (hf0 w HL.out)).mono ?_
    rintro e W1 ⟨⟨x1, rfl, k1⟩, BX⟩
    clear cC hf0 k1
    go_wp2_with fail
    go_loopw [9] (fun i wr => ∃ k : Nat, k ≤ (l.take 60).length ∧ i = .int .i64 k ∧ Below w.heap.size w wr) (fun i _ => 60 - (intOf i).toNat)
    case atStart => exact ⟨0, by omega, rfl, BX⟩
    case round =>
      obtain ⟨k, hk, rfl, hB⟩ := hrel
      clear BX
      go_wp2_with fail
      refine (cF _ (HL.out.below hB (Nat.le_refl _))).mono ?_
      rintro e W0 ⟨⟨vf, rfl, hf⟩, hw⟩
      rw [hw]
      clear hw W0
      obtain ⟨af, capf, rfl, hcf⟩ := hf wr (HL.out.below hB (Nat.le_refl _))
      clear hf hcf
      have hL60 := HLn.out
      by_cases hlt : k < (l.take 60).length
      · have hlt' : (k : Int) < ((l.take 60).length : Int) := by omega
        have hkl : k < l.length := by rw [List.length_take] at hlt; omega
        have hkl' : (k : Int) < (l.length : Int) := by omega
        obtain ⟨g, off, rfl, c0, c1, c2, c3⟩ := HC.out k l[k] (List.getElem?_eq_getElem hkl)
        have hg := World.block_lt_of_cell? _ _ c0
        have d0 := (hB.cell (p := ⟨g, off + k * 4, none⟩) hg).trans c0
        have d1 := (hB.cell (p := ⟨g, off + k * 4 + 1, none⟩) hg).trans c1
        have d2 := (hB.cell (p := ⟨g, off + k * 4 + 2, none⟩) hg).trans c2
        have d3 := (hB.cell (p := ⟨g, off + k * 4 + 3, none⟩) hg).trans c3
        have hok := HO.out l[k] (List.getElem_mem _)
        unfold InsOk4 at hok
        generalize l[k] = i at *
        obtain ⟨o, x, y, z⟩ := i
        simp only at c0 c1 c2 c3 d0 d1 d2 d3 hok
        have cP := fun w h1 h2 => print_any o x y z w hok h1 h2
        unfold txtEV at cP
        generalize hLL : (l.take 60).length = LL at *
        cases hR : insR o x y z with
        | false =>
          rw [hR] at cP
          simp only [Bool.false_eq_true, if_false] at cP
          clear hR
          go_wp2_with fail
          refine (cP _ (hW.later hB) (hP.later hB)).mono ?_
          rintro e W1 ⟨rfl, hB1⟩
          have b1 := hB.trans (hB1.mono hB.size)
          clear d0 d1 d2 d3 c0 c1 c2 c3 cP hB1
          go_wp2
          go_roundw
          case rel => exact ⟨k + 1, by omega, by go_num, b1⟩
          case measure => simp [intOf]; omega
        | true =>
          rw [hR] at cP
          simp only [if_true] at cP
          have hpl : (printL o x y z).length ≤ 100000 := print_len o x y z hok
          have cQ := fun w h1 h2 => iparse_any (printL o x y z) w hpl h1 h2
          rw [ins_print o x y z hok hR] at cQ
          unfold insEV insV4 insV at cQ
          simp only at cQ
          generalize printL o x y z = tx at *
          clear hR hpl
          go_wp2_with fail
          refine (cP _ (hW.later hB) (hP.later hB)).mono ?_
          rintro e W1 ⟨rfl, hB1⟩
          have b1 := hB.trans (hB1.mono hB.size)
          clear d0 d1 d2 d3 cP hB1
          go_wp2_with fail
          refine (cQ _ (hW.later b1) (hT.later b1)).mono ?_
          rintro e W2 ⟨rfl, hB2⟩
          have b2' := b1.trans (hB2.mono b1.size)
          have b2 := b2'.alloc b2'.size (.cells #[.int .u8 o, .int .u8 x, .int .u8 y, .int .u16 z] 26)
          have hF := Four.new W2 (.int .u8 o) (.int .u8 x) (.int .u8 y) (.int .u16 z)
          have e0 := (b2.cell (p := ⟨g, off + k * 4, none⟩) hg).trans c0
          have e1 := (b2.cell (p := ⟨g, off + k * 4 + 1, none⟩) hg).trans c1
          have e2 := (b2.cell (p := ⟨g, off + k * 4 + 2, none⟩) hg).trans c2
          have e3 := (b2.cell (p := ⟨g, off + k * 4 + 3, none⟩) hg).trans c3
          clear c0 c1 c2 c3 cQ hB2 b1 b2'
          go_wp2_with fail
          generalize W2.alloc (.cells #[.int .u8 o, .int .u8 x, .int .u8 y, .int .u16 z] 26) = W3 at *
          have g0 := fun d os => cell_regrown e0 d os
          have g1 := fun d os => cell_regrown e1 d os
          have g2 := fun d os => cell_regrown e2 d os
          have g3 := fun d os => cell_regrown e3 d os
          have g4 := fun d os => cell_regrown hF.c0 d os
          have g5 := fun d os => cell_regrown hF.c1 d os
          have g6 := fun d os => cell_regrown hF.c2 d os
          have g7 := fun d os => cell_regrown hF.c3 d os
          have eI : ∀ w, (Op.equalIn 10000 26 (.agg #[.int .u8 o, .int .u8 x, .int .u8 y, .int .u16 z]) (.agg #[.int .u8 o, .int .u8 x, .int .u8 y, .int .u16 z])).run Tryd.prog w = .ok true w := fun w => by rw [eqIns]; simp
          have eG := eqGuardI
          clear e0 e1 e2 e3 hF
          refine wp_region_quiet_below (by kernel_rfl) (by kernel_rfl) ?_
          repeat (quiet_step (fail))
          refine wpQuiet_nil ?_
          intro _ hw'
          obtain ⟨⟨dq, osq⟩, hw''⟩ := hw'
          subst hw''
          have b3 := b2.trans ((below_regrown W3 dq osq).mono b2.size)
          generalize grow (redrawn W3 dq) osq = W4 at *
          clear g0 g1 g2 g3 g4 g5 g6 g7
          go_wp2
          go_roundw
          case rel => exact ⟨k + 1, by omega, by go_num, b3⟩
          case measure => simp [intOf]; omega
      · have hlt' : ¬ (k : Int) < ((l.take 60).length : Int) := by omega
        generalize (l.take 60).length = LL at *
        go_wp2_with fail
        refine (cRb _ (HB.out.below hB (Nat.le_refl _))).mono ?_
        rintro e W1 ⟨hI, hB1⟩
        have b1 := hB.trans (hB1.mono hB.size)
        clear hB1 cRb
        cases hrc : readC bs with
        | none =>
          rw [hrc] at hI
          replace hI : e = .returned (.tuple #[.slice none 0 0, .int .i64 3]) := hI
          subst hI
          go_wp2_with fail
          refine (cV _ (hW.later b1) (hT.later b1) (hP.later b1)).mono ?_
          rintro e W2 ⟨rfl, hB2⟩
          go_wp2
          go_ret
          exact ⟨rfl, b1.trans (hB2.mono b1.size)⟩
        | some M =>
          rw [hrc] at hI
          obtain ⟨vm, rfl, hvm⟩ := hI
          obtain ⟨m1, m2, m3, m4⟩ := readC_ok bs M hrc
          have cM := icode_big vm M W1 hvm (by omega) m2
          unfold BytP at cM
          rw [m1, m3] at cM
          simp only [if_true] at cM
          go_wp2_with fail
          refine cM.mono ?_
          rintro e W2 ⟨⟨vc, rfl, hvc⟩, hB2⟩
          have b2 := b1.trans (hB2.mono b1.size)
          clear cM hB2 b1
          go_wp2_with fail
          refine (cV _ (hW.later b2) (hT.later b2) (hP.later b2)).mono ?_
          rintro e W3 ⟨rfl, hB3⟩
          have b3 := b2.trans (hB3.mono b2.size)
          have t1 := (hvc.below hB3 (Nat.le_refl _)).text
          have t2 := (HB.out.below b3 (Nat.le_refl _)).text
          clear hB3 b2
          go_wp2
          go_ret
          exact ⟨rfl, b3⟩
  | true =>
    rw [hall] at cC
    simp only [if_true] at cC
    have cR1 := fun v' w h => ireadc_any v' (codeL (l.take 60)) w h (by rw [codeL_length]; omega)
    rw [readC_code _ hOt hall] at cR1
    have cE := fun v1 v2 w h h' => same_eq v1 v2 (l.take 60) w h h' (by omega)
    clear hOt hall hlt
    go_enter Tryd.func7, Tryd.ntmps7
    go_wp2_with fail
    refine (cF _ HL.out).mono ?_
    rintro e W0 ⟨⟨v0, rfl, hf0⟩, hw⟩
    rw [hw]
    clear hw W0
    go_wp2_with fail
    refine (cC v0 w (hf0 w HL.out)).mono ?_
    rintro e W1 ⟨⟨x1, rfl, k1⟩, b1⟩
    clear cC hf0
    go_wp2_with fail
    refine (cR1 x1 W1 k1).mono ?_
    rintro e W2 ⟨⟨x2, rfl, k2⟩, hB2⟩
    have b2 := b1.trans (hB2.mono b1.size)
    clear cR1 k1 b1 hB2
    go_wp2_with fail
    refine (cF _ (HL.out.below b2 (Nat.le_refl _))).mono ?_
    rintro e W0 ⟨⟨v3, rfl, hf3⟩, hw⟩
    rw [hw]
    clear hw W0
    go_wp2_with fail
    refine (cE x2 v3 W2 k2 (hf3 W2 (HL.out.below b2 (Nat.le_refl _)))).mono ?_
    rintro e W3 ⟨rfl, hB3⟩
    have BX := b2.trans (hB3.mono b2.size)
    clear cE k2 hf3 b2 hB3
    go_wp2_with fail
    go_loopw [9] (fun i wr => ∃ k : Nat, k ≤ (l.take 60).length ∧ i = .int .i64 k ∧ Below w.heap.size w wr) (fun i _ => 60 - (intOf i).toNat)
    case atStart => exact ⟨0, by omega, rfl, BX⟩
    case round =>
      obtain ⟨k, hk, rfl, hB⟩ := hrel
      clear BX
      go_wp2_with fail
      refine (cF _ (HL.out.below hB (Nat.le_refl _))).mono ?_
      rintro e W0 ⟨⟨vf, rfl, hf⟩, hw⟩
      rw [hw]
      clear hw W0
      obtain ⟨af, capf, rfl, hcf⟩ := hf wr (HL.out.below hB (Nat.le_refl _))
      clear hf hcf
      have hL60 := HLn.out
      by_cases hlt : k < (l.take 60).length
      · have hlt' : (k : Int) < ((l.take 60).length : Int) := by omega
        have hkl : k < l.length := by rw [List.length_take] at hlt; omega
        have hkl' : (k : Int) < (l.length : Int) := by omega
        obtain ⟨g, off, rfl, c0, c1, c2, c3⟩ := HC.out k l[k] (List.getElem?_eq_getElem hkl)
        have hg := World.block_lt_of_cell? _ _ c0
        have d0 := (hB.cell (p := ⟨g, off + k * 4, none⟩) hg).trans c0
        have d1 := (hB.cell (p := ⟨g, off + k * 4 + 1, none⟩) hg).trans c1
        have d2 := (hB.cell (p := ⟨g, off + k * 4 + 2, none⟩) hg).trans c2
        have d3 := (hB.cell (p := ⟨g, off + k * 4 + 3, none⟩) hg).trans c3
        have hok := HO.out l[k] (List.getElem_mem _)
        unfold InsOk4 at hok
        generalize l[k] = i at *
        obtain ⟨o, x, y, z⟩ := i
        simp only at c0 c1 c2 c3 d0 d1 d2 d3 hok
        have cP := fun w h1 h2 => print_any o x y z w hok h1 h2
        unfold txtEV at cP
        generalize hLL : (l.take 60).length = LL at *
        cases hR : insR o x y z with
        | false =>
          rw [hR] at cP
          simp only [Bool.false_eq_true, if_false] at cP
          clear hR
          go_wp2_with fail
          refine (cP _ (hW.later hB) (hP.later hB)).mono ?_
          rintro e W1 ⟨rfl, hB1⟩
          have b1 := hB.trans (hB1.mono hB.size)
          clear d0 d1 d2 d3 c0 c1 c2 c3 cP hB1
          go_wp2
          go_roundw
          case rel => exact ⟨k + 1, by omega, by go_num, b1⟩
          case measure => simp [intOf]; omega
        | true =>
          rw [hR] at cP
          simp only [if_true] at cP
          have hpl : (printL o x y z).length ≤ 100000 := print_len o x y z hok
          have cQ := fun w h1 h2 => iparse_any (printL o x y z) w hpl h1 h2
          rw [ins_print o x y z hok hR] at cQ
          unfold insEV insV4 insV at cQ
          simp only at cQ
          generalize printL o x y z = tx at *
          clear hR hpl
          go_wp2_with fail
          refine (cP _ (hW.later hB) (hP.later hB)).mono ?_
          rintro e W1 ⟨rfl, hB1⟩
          have b1 := hB.trans (hB1.mono hB.size)
          clear d0 d1 d2 d3 cP hB1
          go_wp2_with fail
          refine (cQ _ (hW.later b1) (hT.later b1)).mono ?_
          rintro e W2 ⟨rfl, hB2⟩
          have b2' := b1.trans (hB2.mono b1.size)
          have b2 := b2'.alloc b2'.size (.cells #[.int .u8 o, .int .u8 x, .int .u8 y, .int .u16 z] 26)
          have hF := Four.new W2 (.int .u8 o) (.int .u8 x) (.int .u8 y) (.int .u16 z)
          have e0 := (b2.cell (p := ⟨g, off + k * 4, none⟩) hg).trans c0
          have e1 := (b2.cell (p := ⟨g, off + k * 4 + 1, none⟩) hg).trans c1
          have e2 := (b2.cell (p := ⟨g, off + k * 4 + 2, none⟩) hg).trans c2
          have e3 := (b2.cell (p := ⟨g, off + k * 4 + 3, none⟩) hg).trans c3
          clear c0 c1 c2 c3 cQ hB2 b1 b2'
          go_wp2_with fail
          generalize W2.alloc (.cells #[.int .u8 o, .int .u8 x, .int .u8 y, .int .u16 z] 26) = W3 at *
          have g0 := fun d os => cell_regrown e0 d os
          have g1 := fun d os => cell_regrown e1 d os
          have g2 := fun d os => cell_regrown e2 d os
          have g3 := fun d os => cell_regrown e3 d os
          have g4 := fun d os => cell_regrown hF.c0 d os
          have g5 := fun d os => cell_regrown hF.c1 d os
          have g6 := fun d os => cell_regrown hF.c2 d os
          have g7 := fun d os => cell_regrown hF.c3 d os
          have eI : ∀ w, (Op.equalIn 10000 26 (.agg #[.int .u8 o, .int .u8 x, .int .u8 y, .int .u16 z]) (.agg #[.int .u8 o, .int .u8 x, .int .u8 y, .int .u16 z])).run Tryd.prog w = .ok true w := fun w => by rw [eqIns]; simp
          have eG := eqGuardI
          clear e0 e1 e2 e3 hF
          refine wp_region_quiet_below (by kernel_rfl) (by kernel_rfl) ?_
          repeat (quiet_step (fail))
          refine wpQuiet_nil ?_
          intro _ hw'
          obtain ⟨⟨dq, osq⟩, hw''⟩ := hw'
          subst hw''
          have b3 := b2.trans ((below_regrown W3 dq osq).mono b2.size)
          generalize grow (redrawn W3 dq) osq = W4 at *
          clear g0 g1 g2 g3 g4 g5 g6 g7
          go_wp2
          go_roundw
          case rel => exact ⟨k + 1, by omega, by go_num, b3⟩
          case measure => simp [intOf]; omega
      · have hlt' : ¬ (k : Int) < ((l.take 60).length : Int) := by omega
        generalize (l.take 60).length = LL at *
        go_wp2_with fail
        refine (cRb _ (HB.out.below hB (Nat.le_refl _))).mono ?_
        rintro e W1 ⟨hI, hB1⟩
        have b1 := hB.trans (hB1.mono hB.size)
        clear hB1 cRb
        cases hrc : readC bs with
        | none =>
          rw [hrc] at hI
          replace hI : e = .returned (.tuple #[.slice none 0 0, .int .i64 3]) := hI
          subst hI
          go_wp2_with fail
          refine (cV _ (hW.later b1) (hT.later b1) (hP.later b1)).mono ?_
          rintro e W2 ⟨rfl, hB2⟩
          go_wp2
          go_ret
          exact ⟨rfl, b1.trans (hB2.mono b1.size)⟩
        | some M =>
          rw [hrc] at hI
          obtain ⟨vm, rfl, hvm⟩ := hI
          obtain ⟨m1, m2, m3, m4⟩ := readC_ok bs M hrc
          have cM := icode_big vm M W1 hvm (by omega) m2
          unfold BytP at cM
          rw [m1, m3] at cM
          simp only [if_true] at cM
          go_wp2_with fail
          refine cM.mono ?_
          rintro e W2 ⟨⟨vc, rfl, hvc⟩, hB2⟩
          have b2 := b1.trans (hB2.mono b1.size)
          clear cM hB2 b1
          go_wp2_with fail
          refine (cV _ (hW.later b2) (hT.later b2) (hP.later b2)).mono ?_
          rintro e W3 ⟨rfl, hB3⟩
          have b3 := b2.trans (hB3.mono b2.size)
          have t1 := (hvc.below hB3 (Nat.le_refl _)).text
          have t2 := (HB.out.below b3 (Nat.le_refl _)).text
          clear hB3 b2
          go_wp2
          go_ret
          exact ⟨rfl, b3⟩
end Go.Proofs.YteoappoacapdhaaDoor
