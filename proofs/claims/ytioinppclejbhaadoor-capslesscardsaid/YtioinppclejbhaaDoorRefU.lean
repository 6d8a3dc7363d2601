/- The document's answers for capabilities. -/
import Derived.Test.YtioinppclejbhaaDoorRefT
namespace Go.Proofs.YtioinppclejbhaaDoor
open Go.RowKit Go.Shelf
set_option linter.unusedVariables false

theorem cover_and (r q : BitVec 8) : (((r &&& q).toNat : Int) == (q.toNat : Int)) = coverB r q := by
  rw [Bool.eq_iff_iff, beq_iff_eq, coverB_iff]
  constructor
  · intro h i hi
    have h1 : r &&& q = q := BitVec.eq_of_toNat_eq (by exact_mod_cast h)
    rw [← h1, BitVec.getLsbD_and, Bool.and_eq_true] at hi
    exact hi.1
  · intro h
    have h1 : r &&& q = q := by
      apply BitVec.eq_of_getLsbD_eq
      intro i hi
      rw [BitVec.getLsbD_and]
      cases hq : q.getLsbD i with
      | false => simp
      | true => rw [h i hq]; rfl
    rw [h1]

theorem rright_any (n : ByteArray) (r : Int) (w : World) (hn : n.size ≤ 1000) (hT : NTabs w) :
    Calls Tryd.prog 59 #[capV n r] w fun e W' => e = .returned (.bool (rightB n.data.toList r)) ∧ Below w.heap.size w W' := by
  unfold rightB capV
  cases h : splitO n.data.toList with
  | none =>
    have cS := fun w hT => rsplit_none n w hn hT h
    clear h
    go_enter Tryd.func59, Tryd.ntmps59
    go_wp2_with fail
    refine (cS _ (hT.later ((Below.refl _ w).alloc (Nat.le_refl _) _))).mono ?_
    rintro e W' ⟨rfl, hB⟩
    rw [World.size_alloc] at hB
    go_wp2
    go_ret
    exact ⟨rfl, ((Below.refl _ w).alloc (Nat.le_refl _) _).trans (hB.mono (by omega))⟩
  | some ls =>
    have cS := fun w hT => rsplit_some n w hn hT h
    clear h
    go_enter Tryd.func59, Tryd.ntmps59
    go_wp2_with fail
    refine (cS _ (hT.later ((Below.refl _ w).alloc (Nat.le_refl _) _))).mono ?_
    rintro e W' ⟨a, cap, rfl, hown, hB⟩
    rw [World.size_alloc] at hB
    obtain ⟨h0, h1⟩ := (CapAt.new w n r _).below hB (by omega)
    clear hown
    go_wp2
    go_ret
    exact ⟨by simp, ((Below.refl _ w).alloc (Nat.le_refl _) _).trans (hB.mono (by omega))⟩



set_option maxHeartbeats 1000000 in
theorem ropens_any (n m : ByteArray) (r q : BitVec 8) (w : World) (hn : n.size ≤ 1000) (hm : m.size ≤ 1000) (hT : NTabs w) :
    Calls Tryd.prog 37 #[capV n r.toNat, capV m q.toNat] w fun e W' => e = .returned (.bool (opensB n.data.toList r m.data.toList q)) ∧ Below w.heap.size w W' := by
  unfold opensB
  have cR := fun w hT => rright_any n r.toNat w hn hT
  have cQ := fun w hT => rright_any m q.toNat w hm hT
  have cA := fun w hT => rabove_any n m w hn hm hT
  have hbit := bits_and8 r q
  have hz : Hid ((((r &&& q).toNat : Int) == (q.toNat : Int)) = coverB r q) := cover_and r q
  unfold capV at *
  generalize rightB n.data.toList r.toNat = R at *
  generalize rightB m.data.toList q.toNat = Q at *
  generalize aboveB n.data.toList m.data.toList = U at *
  generalize coverB r q = C at *
  generalize ((r.toNat : Nat) : Int) = r' at *
  generalize ((q.toNat : Nat) : Int) = q' at *
  generalize (((r &&& q).toNat : Nat) : Int) = x' at *
  cases R with
  | false =>
    go_enter Tryd.func37, Tryd.ntmps37
    go_wp2_with fail
    refine (cR _ (hT.later (((Below.refl _ w).alloc (Nat.le_refl _) _).alloc (by simp) _))).mono ?_
    rintro e W1 ⟨rfl, hB1⟩
    simp only [World.size_alloc] at hB1
    have hB1' : Below w.heap.size w W1 := (((Below.refl _ w).alloc (Nat.le_refl _) _).alloc (by simp) _).trans (hB1.mono (by omega))
    go_wp2
    go_ret
    exact ⟨by simp, hB1'⟩
  | true =>
    cases Q with
    | false =>
      go_enter Tryd.func37, Tryd.ntmps37
      go_wp2_with fail
      refine (cR _ (hT.later (((Below.refl _ w).alloc (Nat.le_refl _) _).alloc (by simp) _))).mono ?_
      rintro e W1 ⟨rfl, hB1⟩
      simp only [World.size_alloc] at hB1
      obtain ⟨b0, b1⟩ := (CapAt.new (w.alloc (.cells #[.string n, .int .u8 r'] 31)) m q' 31).below hB1 (by simp)
      simp only [World.size_alloc] at b0 b1
      have hB1' : Below w.heap.size w W1 := (((Below.refl _ w).alloc (Nat.le_refl _) _).alloc (by simp) _).trans (hB1.mono (by omega))
      have hs1 := hB1'.size
      go_wp2_with fail
      refine (cQ _ (hT.later hB1')).mono ?_
      rintro e W2 ⟨rfl, hB2⟩
      go_wp2
      go_ret
      exact ⟨by simp, hB1'.trans (hB2.mono hs1)⟩
    | true =>
      go_enter Tryd.func37, Tryd.ntmps37
      go_wp2_with fail
      refine (cR _ (hT.later (((Below.refl _ w).alloc (Nat.le_refl _) _).alloc (by simp) _))).mono ?_
      rintro e W1 ⟨rfl, hB1⟩
      simp only [World.size_alloc] at hB1
      obtain ⟨a0, a1⟩ := (CapAt.new w n r' 31).below ((Below.refl _ _).alloc (Nat.le_refl _) (.cells #[.string m, .int .u8 q'] 31)) (by simp) |>.below hB1 (by omega)
      obtain ⟨b0, b1⟩ := (CapAt.new (w.alloc (.cells #[.string n, .int .u8 r'] 31)) m q' 31).below hB1 (by simp)
      simp only [World.size_alloc] at b0 b1
      have hB1' : Below w.heap.size w W1 := (((Below.refl _ w).alloc (Nat.le_refl _) _).alloc (by simp) _).trans (hB1.mono (by omega))
      have hs1 := hB1.size
      simp only [World.size_alloc] at hs1
      go_wp2_with fail
      refine (cQ _ (hT.later hB1')).mono ?_
      rintro e W2 ⟨rfl, hB2⟩
      obtain ⟨a0', a1'⟩ := CapAt.below ⟨a0, a1⟩ hB2 (by omega)
      obtain ⟨b0', b1'⟩ := CapAt.below ⟨b0, b1⟩ hB2 (by omega)
      have hs2 := hB2.size
      clear a0 a1 b0 b1
      go_wp2_with fail
      refine (cA _ (hT.later (hB1'.trans (hB2.mono (by omega))))).mono ?_
      rintro e W3 ⟨rfl, hB3⟩
      obtain ⟨a0, a1⟩ := CapAt.below ⟨a0', a1'⟩ hB3 (by omega)
      obtain ⟨b0, b1⟩ := CapAt.below ⟨b0', b1'⟩ hB3 (by omega)
      have hB4 : Below w.heap.size w W3 := (hB1'.trans (hB2.mono (by omega))).trans (hB3.mono (by omega))
      cases U with
      | false =>
        go_wp2
        go_ret
        exact ⟨by simp, hB4⟩
      | true =>
        go_wp2
        go_ret
        exact ⟨by rw [hz.out]; simp, hB4⟩

set_option maxHeartbeats 1000000 in
theorem rrestrict_any (n : ByteArray) (r x : BitVec 8) (w : World) (hn : n.size ≤ 1000) (hT : NTabs w) :
    Calls Tryd.prog 68 #[capV n r.toNat, .int .u8 x.toNat] w fun e W' => e = .returned (capsV (restrictO n.data.toList r x)) ∧ Below w.heap.size w W' := by
  unfold restrictO
  have cR := fun w hT => rright_any n r.toNat w hn hT
  have hbit := bits_and8 r x
  unfold capV at cR
  generalize r &&& x = Y at *
  cases hR : rightB n.data.toList r.toNat with
  | false =>
    rw [hR] at cR
    clear hR
    unfold capV
    go_enter Tryd.func68, Tryd.ntmps68
    go_wp2_with fail
    refine (cR _ (hT.later (((Below.refl _ w).alloc (Nat.le_refl _) _).alloc (by simp) _))).mono ?_
    rintro e W1 ⟨rfl, hB1⟩
    simp only [World.size_alloc] at hB1
    have hB1' : Below w.heap.size w W1 := (((Below.refl _ w).alloc (Nat.le_refl _) _).alloc (by simp) _).trans (hB1.mono (by omega))
    have hT0 := (Two.new (w.alloc (.cells #[.string n, .int .u8 r.toNat] 31)) 31 (.string ⟨#[]⟩) (.int .u8 0)).below hB1 (by simp)
    simp only [World.size_alloc] at hT0
    have g0 := hT0.c0
    have g1 := hT0.f 0
    have g2 := (hT0.set0 (.string ⟨#[]⟩)).c1
    have g3 := (hT0.set0 (.string ⟨#[]⟩)).f 1
    go_wp2
    have hT2 := (hT0.set0 (.string ⟨#[]⟩)).set1 (.int .u8 0)
    exact bodyPost_ret (v := capsV ([], 0#8, 3)) (by simp [results, Tryd.results68, go_sem, hT2.c0, hT2.c1, capsV, capV]) rfl ⟨rfl, Below.set2 hB1' (by omega) _ _⟩
  | true =>
    rw [hR] at cR
    clear hR
    by_cases hx : (x.toNat : Int) ≤ 31
    · rw [decide_eq_true hx]
      have hx' : ¬ (31 : Int) < (x.toNat : Int) := by omega
      unfold capV
      go_enter Tryd.func68, Tryd.ntmps68
      go_wp2_with fail
      refine (cR _ (hT.later (((Below.refl _ w).alloc (Nat.le_refl _) _).alloc (by simp) _))).mono ?_
      rintro e W1 ⟨rfl, hB1⟩
      simp only [World.size_alloc] at hB1
      have hB1' : Below w.heap.size w W1 := (((Below.refl _ w).alloc (Nat.le_refl _) _).alloc (by simp) _).trans (hB1.mono (by omega))
      have hT0 := (Two.new (w.alloc (.cells #[.string n, .int .u8 r.toNat] 31)) 31 (.string ⟨#[]⟩) (.int .u8 0)).below hB1 (by simp)
      have hC := ((Two.new w 31 (.string n) (.int .u8 r.toNat)).alloc (.cells #[.string ⟨#[]⟩, .int .u8 0] 31)).below hB1 (by omega)
      simp only [World.size_alloc] at hT0
      have a0 := hC.c0
      have a1 := hC.c1
      have a2 := hC.f 1
      have hC2 := hC.set1 (.int .u8 Y.toNat)
      have hT1 := hT0.other (c := w.heap.size) (by omega) 1 (.int .u8 Y.toNat)
      have b0 := hC2.c0
      have b1 := hC2.c1
      have g0 := hT1.c0
      have g1 := hT1.f 0
      have g2 := (hT1.set0 (.string n)).c1
      have g3 := (hT1.set0 (.string n)).f 1
      have hB2 := hB1'.setCell (p := ⟨w.heap.size, 1, none⟩) (Nat.le_refl _) (.int .u8 Y.toNat)
      go_wp2
      have hT2 := (hT1.set0 (.string n)).set1 (.int .u8 Y.toNat)
      exact bodyPost_ret (v := capsV (n.data.toList, Y, 0)) (by simp [results, Tryd.results68, go_sem, hT2.c0, hT2.c1, capsV, capV]) rfl ⟨rfl, Below.set2 hB2 (by omega) _ _⟩
    · rw [decide_eq_false hx]
      have hx' : (31 : Int) < (x.toNat : Int) := by omega
      unfold capV
      go_enter Tryd.func68, Tryd.ntmps68
      go_wp2_with fail
      refine (cR _ (hT.later (((Below.refl _ w).alloc (Nat.le_refl _) _).alloc (by simp) _))).mono ?_
      rintro e W1 ⟨rfl, hB1⟩
      simp only [World.size_alloc] at hB1
      have hB1' : Below w.heap.size w W1 := (((Below.refl _ w).alloc (Nat.le_refl _) _).alloc (by simp) _).trans (hB1.mono (by omega))
      have hT0 := (Two.new (w.alloc (.cells #[.string n, .int .u8 r.toNat] 31)) 31 (.string ⟨#[]⟩) (.int .u8 0)).below hB1 (by simp)
      simp only [World.size_alloc] at hT0
      have g0 := hT0.c0
      have g1 := hT0.f 0
      have g2 := (hT0.set0 (.string ⟨#[]⟩)).c1
      have g3 := (hT0.set0 (.string ⟨#[]⟩)).f 1
      go_wp2
      have hT2 := (hT0.set0 (.string ⟨#[]⟩)).set1 (.int .u8 0)
      exact bodyPost_ret (v := capsV ([], 0#8, 3)) (by simp [results, Tryd.results68, go_sem, hT2.c0, hT2.c1, capsV, capV]) rfl ⟨rfl, Below.set2 hB1' (by omega) _ _⟩


set_option maxHeartbeats 2000000 in
theorem rderive_any (n l : ByteArray) (r : BitVec 8) (w : World) (hn : n.size ≤ 1000) (hl : l.size ≤ 1000) (hT : NTabs w) :
    Calls Tryd.prog 67 #[capV n r.toNat, .string l] w fun e W' => e = .returned (capsV (deriveO n.data.toList r l.data.toList)) ∧ Below w.heap.size w W' := by
  unfold deriveO
  have cR := fun w hT => rright_any n r.toNat w hn hT
  have cL := fun w hT => rlabel_any l w (by omega) hT
  have cC := fun w hT => rchild_any n l w hn hl hT
  have hbit := bits_and8 r 8#8
  rw [show (((8#8 : BitVec 8).toNat : Nat) : Int) = 8 from rfl] at hbit
  have hz := zero8 (r &&& 8#8)
  generalize r &&& 8#8 = Y at *
  unfold capV at cR
  rw [show labB ⟨l.data.toList.toArray⟩ = labB l from rfl]
  obtain ⟨o1, o2, hO⟩ : ∃ o1 o2, childO n.data.toList l.data.toList = (o1, o2) := ⟨_, _, rfl⟩
  rw [hO] at cC ⊢
  unfold textV at cC
  clear hO
  simp only at cC ⊢
  cases hR : rightB n.data.toList r.toNat with
  | false =>
    rw [hR] at cR
    clear hR
    unfold capV
    go_enter Tryd.func67, Tryd.ntmps67
    go_wp2_with fail
    refine (cR _ (hT.later (((Below.refl _ w).alloc (Nat.le_refl _) _).alloc (by simp) _))).mono ?_
    rintro e W1 ⟨rfl, hB1⟩
    simp only [World.size_alloc] at hB1
    have hB1' : Below w.heap.size w W1 := (((Below.refl _ w).alloc (Nat.le_refl _) _).alloc (by simp) _).trans (hB1.mono (by omega))
    have hT0 := (Two.new (w.alloc (.cells #[.string n, .int .u8 r.toNat] 31)) 31 (.string ⟨#[]⟩) (.int .u8 0)).below hB1 (by simp)
    simp only [World.size_alloc] at hT0
    have g0 := hT0.c0
    have g1 := hT0.f 0
    have g2 := (hT0.set0 (.string ⟨#[]⟩)).c1
    have g3 := (hT0.set0 (.string ⟨#[]⟩)).f 1
    go_wp2
    have hT2 := (hT0.set0 (.string ⟨#[]⟩)).set1 (.int .u8 0)
    exact bodyPost_ret (v := capsV ([], 0#8, 3)) (by simp [results, Tryd.results67, go_sem, hT2.c0, hT2.c1, capsV, capV]) rfl ⟨rfl, Below.set2 hB1' (by omega) _ _⟩
  | true =>
    rw [hR] at cR
    clear hR
    cases hL : labB l with
    | false =>
      rw [hL] at cL
      clear hL
      unfold capV
      go_enter Tryd.func67, Tryd.ntmps67
      go_wp2_with fail
      refine (cR _ (hT.later (((Below.refl _ w).alloc (Nat.le_refl _) _).alloc (by simp) _))).mono ?_
      rintro e W1 ⟨rfl, hB1⟩
      simp only [World.size_alloc] at hB1
      have hs1 := hB1.size
      simp only [World.size_alloc] at hs1
      have hB1' : Below w.heap.size w W1 := (((Below.refl _ w).alloc (Nat.le_refl _) _).alloc (by simp) _).trans (hB1.mono (by omega))
      have hT0 := (Two.new (w.alloc (.cells #[.string n, .int .u8 r.toNat] 31)) 31 (.string ⟨#[]⟩) (.int .u8 0)).below hB1 (by simp)
      simp only [World.size_alloc] at hT0
      go_wp2_with fail
      refine (cL _ (hT.later hB1')).mono ?_
      rintro e W2 ⟨rfl, hBL⟩
      have hT' := hT0.below hBL (by omega)
      have hB2 : Below w.heap.size w W2 := hB1'.trans (hBL.mono (by omega))
      have g0 := hT'.c0
      have g1 := hT'.f 0
      have g2 := (hT'.set0 (.string ⟨#[]⟩)).c1
      have g3 := (hT'.set0 (.string ⟨#[]⟩)).f 1
      go_wp2
      have hT2 := (hT'.set0 (.string ⟨#[]⟩)).set1 (.int .u8 0)
      exact bodyPost_ret (v := capsV ([], 0#8, 3)) (by simp [results, Tryd.results67, go_sem, hT2.c0, hT2.c1, capsV, capV]) rfl ⟨rfl, Below.set2 hB2 (by omega) _ _⟩
    | true =>
      rw [hL] at cL
      clear hL
      simp only [Bool.and_self, if_true]
      by_cases hg : Y = 0#8
      · rw [if_pos hg]
        rw [hg] at hbit
        clear hz
        unfold capV
        go_enter Tryd.func67, Tryd.ntmps67
        go_wp2_with fail
        refine (cR _ (hT.later (((Below.refl _ w).alloc (Nat.le_refl _) _).alloc (by simp) _))).mono ?_
        rintro e W1 ⟨rfl, hB1⟩
        simp only [World.size_alloc] at hB1
        have hs1 := hB1.size
        simp only [World.size_alloc] at hs1
        have hB1' : Below w.heap.size w W1 := (((Below.refl _ w).alloc (Nat.le_refl _) _).alloc (by simp) _).trans (hB1.mono (by omega))
        have hT0 := (Two.new (w.alloc (.cells #[.string n, .int .u8 r.toNat] 31)) 31 (.string ⟨#[]⟩) (.int .u8 0)).below hB1 (by simp)
        have hC := ((Two.new w 31 (.string n) (.int .u8 r.toNat)).alloc (.cells #[.string ⟨#[]⟩, .int .u8 0] 31)).below hB1 (by omega)
        simp only [World.size_alloc] at hT0
        go_wp2_with fail
        refine (cL _ (hT.later hB1')).mono ?_
        rintro e W2 ⟨rfl, hBL⟩
        have hT' := hT0.below hBL (by omega)
        have hC' := hC.below hBL (by omega)
        have hB2 : Below w.heap.size w W2 := hB1'.trans (hBL.mono (by omega))
        have a1 := hC'.c1
        have g0 := hT'.c0
        have g1 := hT'.f 0
        have g2 := (hT'.set0 (.string ⟨#[]⟩)).c1
        have g3 := (hT'.set0 (.string ⟨#[]⟩)).f 1
        go_wp2
        have hT2 := (hT'.set0 (.string ⟨#[]⟩)).set1 (.int .u8 0)
        exact bodyPost_ret (v := capsV ([], 0#8, 7)) (by simp [results, Tryd.results67, go_sem, hT2.c0, hT2.c1, capsV, capV]) rfl ⟨rfl, Below.set2 hB2 (by omega) _ _⟩
      · rw [if_neg hg]
        rw [beq_eq_false_iff_ne.2 hg] at hz
        obtain ⟨Z, hZ⟩ : ∃ Z, (if o2 = 0 then (o1, r, (0 : Int)) else ([], 0#8, o2)) = Z := ⟨_, rfl⟩
        rw [hZ]
        have HZ : Hid ((if o2 = 0 then (o1, r, (0 : Int)) else ([], 0#8, o2)) = Z) := hZ
        clear hZ
        unfold capV
        go_enter Tryd.func67, Tryd.ntmps67
        go_wp2_with fail
        refine (cR _ (hT.later (((Below.refl _ w).alloc (Nat.le_refl _) _).alloc (by simp) _))).mono ?_
        rintro e W1 ⟨rfl, hB1⟩
        simp only [World.size_alloc] at hB1
        have hs1 := hB1.size
        simp only [World.size_alloc] at hs1
        have hB1' : Below w.heap.size w W1 := (((Below.refl _ w).alloc (Nat.le_refl _) _).alloc (by simp) _).trans (hB1.mono (by omega))
        have hT0 := (Two.new (w.alloc (.cells #[.string n, .int .u8 r.toNat] 31)) 31 (.string ⟨#[]⟩) (.int .u8 0)).below hB1 (by simp)
        have hC := ((Two.new w 31 (.string n) (.int .u8 r.toNat)).alloc (.cells #[.string ⟨#[]⟩, .int .u8 0] 31)).below hB1 (by omega)
        simp only [World.size_alloc] at hT0
        go_wp2_with fail
        refine (cL _ (hT.later hB1')).mono ?_
        rintro e W2 ⟨rfl, hBL⟩
        have hT' := hT0.below hBL (by omega)
        have hC' := hC.below hBL (by omega)
        have hB2 : Below w.heap.size w W2 := hB1'.trans (hBL.mono (by omega))
        have hs2 : w.heap.size + 1 + 1 ≤ W2.heap.size := Nat.le_trans hs1 hBL.size
        have a0 := hC'.c0
        have a1 := hC'.c1
        go_wp2_with fail
        refine (cC _ (hT.later hB2)).mono ?_
        rintro e W3 ⟨rfl, hB3⟩
        have hT3 := hT'.below hB3 (by omega)
        have hC3 := hC'.below hB3 (by omega)
        have hB4 : Below w.heap.size w W3 := hB2.trans (hB3.mono (by omega))
        clear a0 a1
        have a1 := hC3.c1
        have g0 := hT3.c0
        have g1 := hT3.f 0
        by_cases h0 : o2 = 0
        · subst h0
          have hZ := HZ.out
          rw [if_pos rfl] at hZ
          subst hZ
          have a0 := hC3.c0
          have a2 := hC3.f 0
          have hC4 := hC3.set0 (.string ⟨o1.toArray⟩)
          have hT4 := hT3.other (c := w.heap.size) (by omega) 0 (.string ⟨o1.toArray⟩)
          have b0 := hC4.c0
          have b1 := hC4.c1
          have i0 := hT4.c0
          have i1 := hT4.f 0
          have i2 := (hT4.set0 (.string ⟨o1.toArray⟩)).c1
          have i3 := (hT4.set0 (.string ⟨o1.toArray⟩)).f 1
          have hB5 := hB4.setCell (p := ⟨w.heap.size, 0, none⟩) (Nat.le_refl _) (.string ⟨o1.toArray⟩)
          go_wp2
          have hT2 := (hT4.set0 (.string ⟨o1.toArray⟩)).set1 (.int .u8 r.toNat)
          exact bodyPost_ret (v := capsV (o1, r, 0)) (by simp [results, Tryd.results67, go_sem, hT2.c0, hT2.c1, capsV, capV]) rfl ⟨rfl, Below.set2 hB5 (by omega) _ _⟩
        · have hZ := HZ.out
          rw [if_neg h0] at hZ
          subst hZ
          have h0' : (o2 == 0) = false := beq_eq_false_iff_ne.2 h0
          have g2 := (hT3.set0 (.string ⟨#[]⟩)).c1
          have g3 := (hT3.set0 (.string ⟨#[]⟩)).f 1
          go_wp2
          have hT2 := (hT3.set0 (.string ⟨#[]⟩)).set1 (.int .u8 0)
          exact bodyPost_ret (v := capsV ([], 0#8, o2)) (by simp [results, Tryd.results67, go_sem, hT2.c0, hT2.c1, capsV, capV]) rfl ⟨rfl, Below.set2 hB4 (by omega) _ _⟩
end Go.Proofs.YtioinppclejbhaaDoor
