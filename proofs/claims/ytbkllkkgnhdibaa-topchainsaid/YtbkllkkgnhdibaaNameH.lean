/- What is made of a capability. -/
import Derived.Test.YtbkllkkgnhdibaaNameG
namespace Go.Proofs.Ytbkllkkgnhdibaa
open Go.RowKit Go.Shelf
set_option linter.unusedVariables false

/-- A capability and an error. -/
def capsV (o : List UInt8 × BitVec 8 × Int) : Value := .tuple #[capV ⟨o.1.toArray⟩ o.2.1.toNat, .int .i64 o.2.2]
def restrictO (n : List UInt8) (r x : BitVec 8) : List UInt8 × BitVec 8 × Int := if rightB n r.toNat && decide ((x.toNat : Int) ≤ 31) then (n, r &&& x, 0) else ([], 0#8, 3)

set_option maxHeartbeats 1000000 in
theorem restrict_any (n : ByteArray) (r x : BitVec 8) (w : World) (hn : n.size ≤ 1000) :
    Calls Try.prog 6 #[capV n r.toNat, .int .u8 x.toNat] w fun e W' => e = .returned (capsV (restrictO n.data.toList r x)) ∧ Below w.heap.size w W' := by
  unfold restrictO
  have cR := fun w => right_any n r.toNat w hn
  have hbit := bits_and8 r x
  unfold capV at cR
  generalize r &&& x = Y at *
  cases hR : rightB n.data.toList r.toNat with
  | false =>
    rw [hR] at cR
    clear hR
    unfold capV
    go_enter Try.func6, Try.ntmps6
    go_wp2_with fail
    refine (cR _).mono ?_
    rintro e W1 ⟨rfl, hB1⟩
    simp only [World.size_alloc] at hB1
    have hB1' : Below w.heap.size w W1 := (((Below.refl _ w).alloc (Nat.le_refl _) _).alloc (by simp) _).trans (hB1.mono (by omega))
    have hT := (Two.new (w.alloc (.cells #[.string n, .int .u8 r.toNat] 24)) 24 (.string ⟨#[]⟩) (.int .u8 0)).below hB1 (by simp)
    simp only [World.size_alloc] at hT
    have g0 := hT.c0
    have g1 := hT.f 0
    have g2 := (hT.set0 (.string ⟨#[]⟩)).c1
    have g3 := (hT.set0 (.string ⟨#[]⟩)).f 1
    go_wp2
    have hT2 := (hT.set0 (.string ⟨#[]⟩)).set1 (.int .u8 0)
    exact bodyPost_ret (v := capsV ([], 0#8, 3)) (by simp [results, Try.results6, go_sem, hT2.c0, hT2.c1, capsV, capV]) rfl ⟨rfl, Below.set2 hB1' (by omega) _ _⟩
  | true =>
    rw [hR] at cR
    clear hR
    by_cases hx : (x.toNat : Int) ≤ 31
    · rw [decide_eq_true hx]
      have hx' : ¬ (31 : Int) < (x.toNat : Int) := by omega
      unfold capV
      go_enter Try.func6, Try.ntmps6
      go_wp2_with fail
      refine (cR _).mono ?_
      rintro e W1 ⟨rfl, hB1⟩
      simp only [World.size_alloc] at hB1
      have hB1' : Below w.heap.size w W1 := (((Below.refl _ w).alloc (Nat.le_refl _) _).alloc (by simp) _).trans (hB1.mono (by omega))
      have hT := (Two.new (w.alloc (.cells #[.string n, .int .u8 r.toNat] 24)) 24 (.string ⟨#[]⟩) (.int .u8 0)).below hB1 (by simp)
      have hC := ((Two.new w 24 (.string n) (.int .u8 r.toNat)).alloc (.cells #[.string ⟨#[]⟩, .int .u8 0] 24)).below hB1 (by omega)
      simp only [World.size_alloc] at hT
      have a0 := hC.c0
      have a1 := hC.c1
      have g0 := hT.c0
      have g1 := hT.f 0
      have g2 := (hT.set0 (.string n)).c1
      have g3 := (hT.set0 (.string n)).f 1
      go_wp2
      have hT2 := (hT.set0 (.string n)).set1 (.int .u8 Y.toNat)
      exact bodyPost_ret (v := capsV (n.data.toList, Y, 0)) (by simp [results, Try.results6, go_sem, hT2.c0, hT2.c1, capsV, capV]) rfl ⟨rfl, Below.set2 hB1' (by omega) _ _⟩
    · rw [decide_eq_false hx]
      have hx' : (31 : Int) < (x.toNat : Int) := by omega
      unfold capV
      go_enter Try.func6, Try.ntmps6
      go_wp2_with fail
      refine (cR _).mono ?_
      rintro e W1 ⟨rfl, hB1⟩
      simp only [World.size_alloc] at hB1
      have hB1' : Below w.heap.size w W1 := (((Below.refl _ w).alloc (Nat.le_refl _) _).alloc (by simp) _).trans (hB1.mono (by omega))
      have hT := (Two.new (w.alloc (.cells #[.string n, .int .u8 r.toNat] 24)) 24 (.string ⟨#[]⟩) (.int .u8 0)).below hB1 (by simp)
      simp only [World.size_alloc] at hT
      have g0 := hT.c0
      have g1 := hT.f 0
      have g2 := (hT.set0 (.string ⟨#[]⟩)).c1
      have g3 := (hT.set0 (.string ⟨#[]⟩)).f 1
      go_wp2
      have hT2 := (hT.set0 (.string ⟨#[]⟩)).set1 (.int .u8 0)
      exact bodyPost_ret (v := capsV ([], 0#8, 3)) (by simp [results, Try.results6, go_sem, hT2.c0, hT2.c1, capsV, capV]) rfl ⟨rfl, Below.set2 hB1' (by omega) _ _⟩

def deriveO (n : List UInt8) (r : BitVec 8) (l : List UInt8) : List UInt8 × BitVec 8 × Int :=
  if rightB n r.toNat && labB ⟨l.toArray⟩ then (if r &&& 8#8 = 0#8 then ([], 0#8, 7) else if (childO n l).2 = 0 then ((childO n l).1, r, 0) else ([], 0#8, (childO n l).2)) else ([], 0#8, 3)

set_option maxHeartbeats 2000000 in
theorem derive_any (n l : ByteArray) (r : BitVec 8) (w : World) (hn : n.size ≤ 1000) (hl : l.size ≤ 1000) :
    Calls Try.prog 4 #[capV n r.toNat, .string l] w fun e W' => e = .returned (capsV (deriveO n.data.toList r l.data.toList)) ∧ Below w.heap.size w W' := by
  unfold deriveO
  have cR := fun w => right_any n r.toNat w hn
  have cL := fun w => label_any l w
  have cC := fun w => child_any n l w hn hl
  have hbit := bits_and8 r 8#8
  rw [show (((8#8 : BitVec 8).toNat : Nat) : Int) = 8 from rfl] at hbit
  have hz := zero8 (r &&& 8#8)
  generalize r &&& 8#8 = Y at *
  unfold capV at cR
  rw [show labB ⟨l.data.toList.toArray⟩ = labB l from rfl]
  obtain ⟨o1, o2, hO⟩ : ∃ o1 o2, childO n.data.toList l.data.toList = (o1, o2) := ⟨_, _, rfl⟩
  rw [hO] at cC ⊢
  unfold textV at cC
  clear hO
  simp only at cC ⊢
  cases hR : rightB n.data.toList r.toNat with
  | false =>
    rw [hR] at cR
    clear hR
    unfold capV
    go_enter Try.func4, Try.ntmps4
    go_wp2_with fail
    refine (cR _).mono ?_
    rintro e W1 ⟨rfl, hB1⟩
    simp only [World.size_alloc] at hB1
    have hB1' : Below w.heap.size w W1 := (((Below.refl _ w).alloc (Nat.le_refl _) _).alloc (by simp) _).trans (hB1.mono (by omega))
    have hT := (Two.new (w.alloc (.cells #[.string n, .int .u8 r.toNat] 24)) 24 (.string ⟨#[]⟩) (.int .u8 0)).below hB1 (by simp)
    simp only [World.size_alloc] at hT
    have g0 := hT.c0
    have g1 := hT.f 0
    have g2 := (hT.set0 (.string ⟨#[]⟩)).c1
    have g3 := (hT.set0 (.string ⟨#[]⟩)).f 1
    go_wp2
    have hT2 := (hT.set0 (.string ⟨#[]⟩)).set1 (.int .u8 0)
    exact bodyPost_ret (v := capsV ([], 0#8, 3)) (by simp [results, Try.results4, go_sem, hT2.c0, hT2.c1, capsV, capV]) rfl ⟨rfl, Below.set2 hB1' (by omega) _ _⟩
  | true =>
    rw [hR] at cR
    clear hR
    cases hL : labB l with
    | false =>
      rw [hL] at cL
      clear hL
      unfold capV
      go_enter Try.func4, Try.ntmps4
      go_wp2_with fail
      refine (cR _).mono ?_
      rintro e W1 ⟨rfl, hB1⟩
      simp only [World.size_alloc] at hB1
      have hs1 := hB1.size
      simp only [World.size_alloc] at hs1
      have hB1' : Below w.heap.size w W1 := (((Below.refl _ w).alloc (Nat.le_refl _) _).alloc (by simp) _).trans (hB1.mono (by omega))
      have hT := (Two.new (w.alloc (.cells #[.string n, .int .u8 r.toNat] 24)) 24 (.string ⟨#[]⟩) (.int .u8 0)).below hB1 (by simp)
      simp only [World.size_alloc] at hT
      go_wp2_with fail
      refine (cL _).mono ?_
      rintro e W2 ⟨rfl, pos, rfl⟩
      have hT' : Two (W1.iter l pos) _ _ _ _ := hT.alloc _
      have hB2 : Below w.heap.size w (W1.iter l pos) := hB1'.trans ((iter_below _ _ _).mono (by omega))
      generalize W1.iter l pos = W2 at *
      have g0 := hT'.c0
      have g1 := hT'.f 0
      have g2 := (hT'.set0 (.string ⟨#[]⟩)).c1
      have g3 := (hT'.set0 (.string ⟨#[]⟩)).f 1
      go_wp2
      have hT2 := (hT'.set0 (.string ⟨#[]⟩)).set1 (.int .u8 0)
      exact bodyPost_ret (v := capsV ([], 0#8, 3)) (by simp [results, Try.results4, go_sem, hT2.c0, hT2.c1, capsV, capV]) rfl ⟨rfl, Below.set2 hB2 (by omega) _ _⟩
    | true =>
      rw [hL] at cL
      clear hL
      simp only [Bool.and_self, if_true]
      by_cases hg : Y = 0#8
      · rw [if_pos hg]
        rw [hg] at hbit
        clear hz
        unfold capV
        go_enter Try.func4, Try.ntmps4
        go_wp2_with fail
        refine (cR _).mono ?_
        rintro e W1 ⟨rfl, hB1⟩
        simp only [World.size_alloc] at hB1
        have hs1 := hB1.size
        simp only [World.size_alloc] at hs1
        have hB1' : Below w.heap.size w W1 := (((Below.refl _ w).alloc (Nat.le_refl _) _).alloc (by simp) _).trans (hB1.mono (by omega))
        have hT := (Two.new (w.alloc (.cells #[.string n, .int .u8 r.toNat] 24)) 24 (.string ⟨#[]⟩) (.int .u8 0)).below hB1 (by simp)
        have hC := ((Two.new w 24 (.string n) (.int .u8 r.toNat)).alloc (.cells #[.string ⟨#[]⟩, .int .u8 0] 24)).below hB1 (by omega)
        simp only [World.size_alloc] at hT
        go_wp2_with fail
        refine (cL _).mono ?_
        rintro e W2 ⟨rfl, pos, rfl⟩
        have hT' : Two (W1.iter l pos) _ _ _ _ := hT.alloc _
        have hC' : Two (W1.iter l pos) _ _ _ _ := hC.alloc _
        have hB2 : Below w.heap.size w (W1.iter l pos) := hB1'.trans ((iter_below _ _ _).mono (by omega))
        generalize W1.iter l pos = W2 at *
        have a1 := hC'.c1
        have g0 := hT'.c0
        have g1 := hT'.f 0
        have g2 := (hT'.set0 (.string ⟨#[]⟩)).c1
        have g3 := (hT'.set0 (.string ⟨#[]⟩)).f 1
        go_wp2
        have hT2 := (hT'.set0 (.string ⟨#[]⟩)).set1 (.int .u8 0)
        exact bodyPost_ret (v := capsV ([], 0#8, 7)) (by simp [results, Try.results4, go_sem, hT2.c0, hT2.c1, capsV, capV]) rfl ⟨rfl, Below.set2 hB2 (by omega) _ _⟩
      · rw [if_neg hg]
        rw [beq_eq_false_iff_ne.2 hg] at hz
        obtain ⟨Z, hZ⟩ : ∃ Z, (if o2 = 0 then (o1, r, (0 : Int)) else ([], 0#8, o2)) = Z := ⟨_, rfl⟩
        rw [hZ]
        have HZ : Hid ((if o2 = 0 then (o1, r, (0 : Int)) else ([], 0#8, o2)) = Z) := hZ
        clear hZ
        unfold capV
        go_enter Try.func4, Try.ntmps4
        go_wp2_with fail
        refine (cR _).mono ?_
        rintro e W1 ⟨rfl, hB1⟩
        simp only [World.size_alloc] at hB1
        have hs1 := hB1.size
        simp only [World.size_alloc] at hs1
        have hB1' : Below w.heap.size w W1 := (((Below.refl _ w).alloc (Nat.le_refl _) _).alloc (by simp) _).trans (hB1.mono (by omega))
        have hT := (Two.new (w.alloc (.cells #[.string n, .int .u8 r.toNat] 24)) 24 (.string ⟨#[]⟩) (.int .u8 0)).below hB1 (by simp)
        have hC := ((Two.new w 24 (.string n) (.int .u8 r.toNat)).alloc (.cells #[.string ⟨#[]⟩, .int .u8 0] 24)).below hB1 (by omega)
        simp only [World.size_alloc] at hT
        go_wp2_with fail
        refine (cL _).mono ?_
        rintro e W2 ⟨rfl, pos, rfl⟩
        have hT' : Two (W1.iter l pos) _ _ _ _ := hT.alloc _
        have hC' : Two (W1.iter l pos) _ _ _ _ := hC.alloc _
        have hB2 : Below w.heap.size w (W1.iter l pos) := hB1'.trans ((iter_below _ _ _).mono (by omega))
        have hs2 : w.heap.size + 1 + 1 ≤ (W1.iter l pos).heap.size := Nat.le_trans hs1 (iter_below _ _ _).size
        generalize W1.iter l pos = W2 at *
        have a0 := hC'.c0
        have a1 := hC'.c1
        go_wp2_with fail
        refine (cC _).mono ?_
        rintro e W3 ⟨rfl, hB3⟩
        have hT3 := hT'.below hB3 (by omega)
        have hC3 := hC'.below hB3 (by omega)
        have hB4 : Below w.heap.size w W3 := hB2.trans (hB3.mono (by omega))
        clear a0 a1
        have a1 := hC3.c1
        have g0 := hT3.c0
        have g1 := hT3.f 0
        by_cases h0 : o2 = 0
        · subst h0
          have hZ := HZ.out
          rw [if_pos rfl] at hZ
          subst hZ
          have g2 := (hT3.set0 (.string ⟨o1.toArray⟩)).c1
          have g3 := (hT3.set0 (.string ⟨o1.toArray⟩)).f 1
          go_wp2
          have hT2 := (hT3.set0 (.string ⟨o1.toArray⟩)).set1 (.int .u8 r.toNat)
          exact bodyPost_ret (v := capsV (o1, r, 0)) (by simp [results, Try.results4, go_sem, hT2.c0, hT2.c1, capsV, capV]) rfl ⟨rfl, Below.set2 hB4 (by omega) _ _⟩
        · have hZ := HZ.out
          rw [if_neg h0] at hZ
          subst hZ
          have h0' : (o2 == 0) = false := beq_eq_false_iff_ne.2 h0
          have g2 := (hT3.set0 (.string ⟨#[]⟩)).c1
          have g3 := (hT3.set0 (.string ⟨#[]⟩)).f 1
          go_wp2
          have hT2 := (hT3.set0 (.string ⟨#[]⟩)).set1 (.int .u8 0)
          exact bodyPost_ret (v := capsV ([], 0#8, o2)) (by simp [results, Try.results4, go_sem, hT2.c0, hT2.c1, capsV, capV]) rfl ⟨rfl, Below.set2 hB4 (by omega) _ _⟩
end Go.Proofs.Ytbkllkkgnhdibaa
