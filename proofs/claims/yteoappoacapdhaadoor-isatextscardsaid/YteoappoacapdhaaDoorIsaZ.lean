/- The instruction that a text says: the program. -/
import Derived.Test.YteoappoacapdhaaDoorIsaY
namespace Go.Proofs.YteoappoacapdhaaDoor
open Go.RowKit
set_option linter.unusedVariables false

/-- An instruction and an error, as they are handed back. -/
def insEV (r : Option (Int × Int × Int × Int)) : Value := match r with
  | some i => .tuple #[insV4 i, .int .i64 0]
  | none => .tuple #[insV 0 0 0 0, .int .i64 3]
set_option maxHeartbeats 1000000 in
set_option maxRecDepth 100000 in
theorem iparse_none (s f r : ByteArray) (m : Bool) (n : Int) (w : World)
    (cC : ∀ w, Calls Tryd.prog 43 #[.string s, .string ⟨#[32]⟩] w fun e w' => e = .returned (.tuple #[.string f, .string r, .bool m]) ∧ Below w.heap.size w w')
    (hW : Wds w) (cR : ∀ w, Wds w → Calls Tryd.prog 25 #[.string f] w fun e w' => e = .returned (.tuple #[.int .u8 n, .bool false]) ∧ Below w.heap.size w w') :
    Calls Tryd.prog 31 #[.string s] w fun e w' => e = .returned (insEV none) ∧ Below w.heap.size w w' := by
  go_enter Tryd.func31, Tryd.ntmps31
  go_wp2_with fail
  refine (cC _).mono ?_
  rintro e W1 ⟨rfl, hB1⟩
  rw [World.size_alloc] at hB1
  have hG := (Four.new w (.int .u8 0) (.int .u8 0) (.int .u8 0) (.int .u16 0)).below hB1 (by omega)
  have hB1' : Below w.heap.size w W1 := ((Below.refl _ w).alloc (Nat.le_refl _) _).trans (hB1.mono (by omega))
  have hW1 := hW.later hB1'
  go_wp2_with fail
  refine (cR _ hW1).mono ?_
  rintro e W2 ⟨rfl, hB2⟩
  have hs1 := hB1.size
  rw [World.size_alloc] at hs1
  have hG2 := hG.below hB2 (by omega)
  have hB2' : Below w.heap.size w W2 := hB1'.trans (hB2.mono (by omega))
  have r0 := hG2.f 0
  have s0 := hG2.c0
  have hG3 := hG2.set0 (.int .u8 0)
  have r1 := hG3.f 1
  have s1 := hG3.c1
  have hG4 := hG3.set1 (.int .u8 0)
  have r2 := hG4.f 2
  have s2 := hG4.c2
  have hG5 := hG4.set2 (.int .u8 0)
  have r3 := hG5.f 3
  have s3 := hG5.c3
  have hG6 := hG5.set3 (.int .u16 0)
  go_wp2
  have q0 := hG6.c0
  have q1 := hG6.c1
  have q2 := hG6.c2
  have q3 := hG6.c3
  exact bodyPost_ret (v := insEV none) (by simp [results, Tryd.results31, go_sem, insEV, insV, q0, q1, q2, q3]) rfl ⟨rfl, Below.set4 hB2' (by omega) _ _ _ _⟩
set_option maxHeartbeats 4000000 in
set_option maxRecDepth 100000 in
theorem iparse_some (s f : ByteArray) (r : List UInt8) (m : Bool) (o : Int) (w : World) (hr : r.length ≤ 100000) (L : List (Nat × Int)) (hL3 : L.length ≤ 3)
    (cC : ∀ w, Calls Tryd.prog 43 #[.string s, .string ⟨#[32]⟩] w fun e w' => e = .returned (.tuple #[.string f, .string ⟨r.toArray⟩, .bool m]) ∧ Below w.heap.size w w')
    (hW : Wds w) (hT : Tabs w) (cR : ∀ w, Wds w → Calls Tryd.prog 25 #[.string f] w fun e w' => e = .returned (.tuple #[.int .u8 o, .bool true]) ∧ Below w.heap.size w w')
    (cP : ∀ w, Calls Tryd.prog 36 #[.agg #[.int .u8 o, .int .u8 0, .int .u8 0, .int .u16 0]] w fun e W' => ∃ v, e = .returned v ∧ Rw w.heap.size W' v (L.map partV) ∧ Below w.heap.size w W') :
    Calls Tryd.prog 31 #[.string s] w fun e w' => e = .returned (insEV (parseP L r m (o, 0, 0, 0))) ∧ Below w.heap.size w w' := by
  go_enter Tryd.func31, Tryd.ntmps31
  go_wp2_with fail
  refine (cC _).mono ?_
  rintro e W1 ⟨rfl, hB1⟩
  rw [World.size_alloc] at hB1
  have hG := (Four.new w (.int .u8 0) (.int .u8 0) (.int .u8 0) (.int .u16 0)).below hB1 (by omega)
  have hB1' : Below w.heap.size w W1 := ((Below.refl _ w).alloc (Nat.le_refl _) _).trans (hB1.mono (by omega))
  have hs1 := hB1.size
  rw [World.size_alloc] at hs1
  go_wp2_with fail
  refine (cR _ (hW.later hB1')).mono ?_
  rintro e W2 ⟨rfl, hB2⟩
  replace hG := hG.below hB2 (by omega)
  replace hB2 : Below w.heap.size w W2 := hB1'.trans (hB2.mono (by omega))
  have hs2 : w.heap.size < W2.heap.size := (Array.getElem?_eq_some_iff.1 hG).1
  clear hB1 hB1' hs1 cR cC W1
  go_wp2_with fail
  refine (cP _).mono ?_
  rintro e W3 ⟨v, rfl, hR, hB3⟩
  rw [World.size_alloc] at hR hB3
  have hI := (Four.new W2 (.int .u8 o) (.int .u8 0) (.int .u8 0) (.int .u16 0)).below hB3 (by omega)
  replace hG := (hG.alloc (.cells #[.int .u8 o, .int .u8 0, .int .u8 0, .int .u16 0] 26)).below hB3 (by omega)
  replace hB3 : Below w.heap.size w W3 := (hB2.alloc (by omega) _).trans (hB3.mono (by omega))
  obtain ⟨a0, cap0, rfl, hc0⟩ := id hR
  clear hc0 cP
  rw [List.length_map] at hR ⊢
  generalize W2.heap.size = bi at *
  clear hB2 W2
  go_wp2_with fail
  go_loopw [5, 6, 33] (fun x5 x6 i wr => ∃ (k : Nat) (rest : List UInt8) (more : Bool) (o' a' b' m' : Int), k ≤ L.length ∧ i = .int .i64 k ∧ x5 = .string ⟨rest.toArray⟩ ∧ x6 = .bool more ∧ rest.length ≤ 100000 ∧ parseP L r m (o, 0, 0, 0) = parseP (L.drop k) rest more (o', a', b', m') ∧ Four wr w.heap.size (.int .u8 0) (.int .u8 0) (.int .u8 0) (.int .u16 0) ∧ Four wr bi (.int .u8 o') (.int .u8 a') (.int .u8 b') (.int .u16 m') ∧ Rw (bi + 1) wr (.slice a0 L.length cap0) (L.map partV) ∧ Below w.heap.size w wr) (fun _ _ i _ => L.length - (intOf i).toNat)
  case atStart => exact ⟨0, r, m, o, 0, 0, 0, by omega, rfl, rfl, rfl, hr, rfl, hG, hI, hR, hB3⟩
  case round =>
    obtain ⟨k, rest, more, o', a', b', m', hk, rfl, rfl, rfl, hrest, hpp, hGr, hIr, hRr, hBr⟩ := hrel
    clear hG hI hR hB3
    have hsz : bi < wr.heap.size := (Array.getElem?_eq_some_iff.1 hIr).1
    have g0 := hIr.c0
    have g1 := hIr.c1
    have g2 := hIr.c2
    have g3 := hIr.c3
    have HP : Hid (parseP L r m (o, 0, 0, 0) = parseP (L.drop k) rest more (o', a', b', m')) := hpp
    clear hpp
    by_cases hlt : k < L.length
    · have hlt' : (k : Int) < (L.length : Int) := by omega
      obtain ⟨ao, cap, hv, hc⟩ := id hRr
      injection hv with hv1 hv2 hv3
      clear hv2 hv3
      subst hv1
      obtain ⟨g, off, rfl, hg, hcell⟩ := hc k (partV L[k]) (by rw [List.getElem?_map, List.getElem?_eq_getElem hlt]; rfl)
      clear hc
      have HP2 : Hid (parseP (L.drop k) rest more (o', a', b', m') = match readP L[k].1 (cut3 rest).1 with | none => none | some n => parseP (L.drop (k + 1)) (cut3 rest).2.1 (cut3 rest).2.2 (layP (o', a', b', m') (L[k].1, n))) := by
        show _ = _
        rw [List.drop_eq_getElem_cons hlt]
        rfl
      have cC := fun w => cut3_any rest w hrest
      obtain ⟨l1, l2⟩ := cut3_len rest
      have cQ := fun w h => read_any L[k].1 L[k].2 (cut3 rest).1 w (by omega) h
      have cL := fun n w => lay_any (o', a', b', m') (L[k].1, n) w
      have e1 : partV (L[k].1, L[k].2) = partV L[k] := rfl
      rw [e1] at cQ
      clear e1
      generalize partV L[k] = pv at hcell cQ
      generalize L[k].2 = z2 at *
      generalize L[k].1 = kk at *
      generalize (cut3 rest).1 = f1 at *
      generalize (cut3 rest).2.1 = r1 at *
      generalize (cut3 rest).2.2 = m1 at *
      go_wp2_with fail
      refine (cC _).mono ?_
      rintro e W1 ⟨rfl, hB1⟩
      have hG1 := hGr.below hB1 (by omega)
      have hI1 := hIr.below hB1 hsz
      have hR1 := hRr.below hB1 (Nat.le_refl _)
      have hb1 := hBr.trans (hB1.mono hBr.size)
      have hz1 := hB1.size
      clear g0 g1 g2 g3 hGr hIr hRr hBr hB1 cC hcell
      go_wp2_with fail
      refine (cQ _ (hT.later hb1)).mono ?_
      rintro e W2 ⟨⟨pv2, rfl, hpv⟩, hB2⟩
      have hG2 := hG1.below hB2 (by omega)
      have hI2 := hI1.below hB2 (by omega)
      have hR2 := hR1.below hB2 (Nat.le_refl _)
      have hb2 := hb1.trans (hB2.mono hb1.size)
      have hz2 := hB2.size
      clear hG1 hI1 hR1 hb1 hB2 cQ
      cases hread : readP kk f1 with
      | none =>
        rw [hread] at HP2
        have HN : Hid (parseP L r m (o, 0, 0, 0) = none) := HP.out.trans HP2.out
        clear HP HP2 cL hpv hread
        have r0 := hG2.f 0
        have s0 := hG2.c0
        have y3 := hG2.set0 (.int .u8 0)
        have r1 := y3.f 1
        have s1 := y3.c1
        have y4 := y3.set1 (.int .u8 0)
        have r2 := y4.f 2
        have s2 := y4.c2
        have y5 := y4.set2 (.int .u8 0)
        have r3 := y5.f 3
        have s3 := y5.c3
        have y6 := y5.set3 (.int .u16 0)
        have q0 := y6.c0
        have q1 := y6.c1
        have q2 := y6.c2
        have q3 := y6.c3
        go_wp2
        exact bodyPost_ret (v := insEV none) (by simp [results, Tryd.results31, go_sem, insEV, insV, q0, q1, q2, q3]) rfl ⟨by rw [HN.out], Below.set4 hb2 (by omega) _ _ _ _⟩
      | some n =>
        rw [hread] at HP2
        have hpv' := hpv n hread
        have cL' := fun w => cL n w
        subst hpv'
        have HP3 : Hid (parseP L r m (o, 0, 0, 0) = parseP (L.drop (k + 1)) r1 m1 (layP (o', a', b', m') (kk, n))) := HP.out.trans HP2.out
        clear HP HP2 cL hpv hread
        generalize partV (kk, n) = pv3 at *
        generalize layP (o', a', b', m') (kk, n) = i2 at *
        obtain ⟨o2, a2, b2, m2⟩ := i2
        unfold insV4 insV at cL'
        simp only at cL'
        have g0 := hI2.c0
        have g1 := hI2.c1
        have g2 := hI2.c2
        have g3 := hI2.c3
        go_wp2_with fail
        refine (cL' _).mono ?_
        rintro e W4 ⟨rfl, hB4⟩
        have hI3 := hI2.below hB4 (by omega)
        have r0 := hI3.f 0
        have s0 := hI3.c0
        have y3 := hI3.set0 (.int .u8 o2)
        have r1' := y3.f 1
        have s1 := y3.c1
        have y4 := y3.set1 (.int .u8 a2)
        have r2 := y4.f 2
        have s2 := y4.c2
        have y5 := y4.set2 (.int .u8 b2)
        have r3 := y5.f 3
        have s3 := y5.c3
        have y6 := y5.set3 (.int .u16 m2)
        clear cL'
        go_wp2
        go_roundw
        case rel =>
          exact ⟨k + 1, r1, m1, o2, a2, b2, m2, by omega, by go_num, rfl, rfl, by omega, HP3.out, (hG2.below hB4 (by omega)).keep (by omega), y6, (hR2.below hB4 (Nat.le_refl _)).keep (by omega), Below.set4 (hb2.trans (hB4.mono hb2.size)) (by omega) _ _ _ _⟩
        case measure => simp [intOf]; omega
    · have hlt' : ¬ (k : Int) < (L.length : Int) := by omega
      have hke : k = L.length := by omega
      subst hke
      have HQ : Hid (parseP L r m (o, 0, 0, 0) = if more then none else some (o', a', b', m')) := by
        show _ = _
        rw [HP.out, List.drop_length]
        rfl
      clear HP hRr
      cases more with
      | true =>
        have r0 := hGr.f 0
        have s0 := hGr.c0
        have y3 := hGr.set0 (.int .u8 0)
        have r1 := y3.f 1
        have s1 := y3.c1
        have y4 := y3.set1 (.int .u8 0)
        have r2 := y4.f 2
        have s2 := y4.c2
        have y5 := y4.set2 (.int .u8 0)
        have r3 := y5.f 3
        have s3 := y5.c3
        have y6 := y5.set3 (.int .u16 0)
        have q0 := y6.c0
        have q1 := y6.c1
        have q2 := y6.c2
        have q3 := y6.c3
        go_wp2
        exact bodyPost_ret (v := insEV none) (by simp [results, Tryd.results31, go_sem, insEV, insV, q0, q1, q2, q3]) rfl ⟨by rw [HQ.out]; rfl, Below.set4 hBr (by omega) _ _ _ _⟩
      | false =>
        have r0 := hGr.f 0
        have s0 := hGr.c0
        have y3 := hGr.set0 (.int .u8 o')
        have r1' := y3.f 1
        have s1 := y3.c1
        have y4 := y3.set1 (.int .u8 a')
        have r2 := y4.f 2
        have s2 := y4.c2
        have y5 := y4.set2 (.int .u8 b')
        have r3 := y5.f 3
        have s3 := y5.c3
        have y6 := y5.set3 (.int .u16 m')
        have q0 := y6.c0
        have q1 := y6.c1
        have q2 := y6.c2
        have q3 := y6.c3
        go_wp2
        exact bodyPost_ret (v := insEV (some (o', a', b', m'))) (by simp [results, Tryd.results31, go_sem, insEV, insV, insV4, q0, q1, q2, q3]) rfl ⟨by rw [HQ.out]; rfl, Below.set4 hBr (by omega) _ _ _ _⟩
theorem iparse_any (s : List UInt8) (w : World) (hs : s.length ≤ 100000) (hW : Wds w) (hT : Tabs w) :
    Calls Tryd.prog 31 #[.string ⟨s.toArray⟩] w fun e w' => e = .returned (insEV (insO s)) ∧ Below w.heap.size w w' := by
  have cC := fun w => cut3_any s w hs
  obtain ⟨l1, l2⟩ := cut3_len s
  have cR := fun w h => readw_any ⟨(cut3 s).1.toArray⟩ w (by show (cut3 s).1.length ≤ _; omega) h
  have e1 : (⟨(cut3 s).1.toArray⟩ : ByteArray).data.toList = (cut3 s).1 := rfl
  rw [e1] at cR
  unfold insO
  cases h : opO (cut3 s).1 with
  | none =>
    rw [h] at cR
    exact iparse_none _ _ _ _ _ w cC hW cR
  | some o =>
    rw [h] at cR
    have hn : opN (cut3 s).1 = (o : Int) := by unfold opN; rw [h]
    rw [hn] at cR
    have := (op_word _ _ h).1
    exact iparse_some _ _ _ _ (o : Int) w (by omega) (partsL o 0 0 0) (parts_len o 0 0 0) cC hW hT cR (fun w => parts_any o 0 0 0 w (by omega) (by omega))
end Go.Proofs.YteoappoacapdhaaDoor
