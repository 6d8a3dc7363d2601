/- Instructions, the document's: what an operation has, what is right, bytes. -/
import Derived.Test.YtfdkkkjelalbjaaDoorIsaD
namespace Go.Proofs.YtfdkkkjelalbjaaDoor
open Go.RowKit
set_option linter.unusedVariables false

set_option maxHeartbeats 1000000 in
theorem ruses_any (o : Int) (w : World) (h0 : 0 ≤ o) (h1 : o ≤ 255) :
    Calls Tryd.prog 33 #[.int .u8 o] w fun e w' => e = .returned (.tuple #[.bool (useA o), .bool (useB o), .bool (useM o)]) ∧ w' = w := by
  have hc : (3 ≤ o ∧ o ≤ 12) ∨ (13 ≤ o ∧ o ≤ 16) ∨ o = 20 ∨ o = 2 ∨ o = 18 ∨ o = 19 ∨ o = 17 ∨ o = 21 ∨ o = 23 ∨ o = 0 ∨ o = 1 ∨ o = 22 ∨ 24 ≤ o := by omega
  rcases hc with ⟨c1, c2⟩ | ⟨c1, c2⟩ | rfl | rfl | rfl | rfl | rfl | rfl | rfl | rfl | rfl | rfl | c1
  · have ea : useA o = true := by unfold useA; exact decide_eq_true (by omega)
    have eb : useB o = true := by unfold useB; exact decide_eq_true (by omega)
    have em : useM o = false := by unfold useM; exact decide_eq_false (by omega)
    rw [ea, eb, em]
    have e1 : (o == 20) = false := by rw [beq_eq_false_iff_ne]; omega
    have e2 : (o == 2) = false := by rw [beq_eq_false_iff_ne]; omega
    have e3 : (o == 18) = false := by rw [beq_eq_false_iff_ne]; omega
    have e4 : (o == 19) = false := by rw [beq_eq_false_iff_ne]; omega
    go_enter Tryd.func33, Tryd.ntmps33
    go_wp2
    go_ret3
    exact ⟨rfl, rfl⟩
  · have ea : useA o = true := by unfold useA; exact decide_eq_true (by omega)
    have eb : useB o = true := by unfold useB; exact decide_eq_true (by omega)
    have em : useM o = true := by unfold useM; exact decide_eq_true (by omega)
    rw [ea, eb, em]
    have e1 : (o == 20) = false := by rw [beq_eq_false_iff_ne]; omega
    have e2 : (o == 2) = false := by rw [beq_eq_false_iff_ne]; omega
    have e3 : (o == 18) = false := by rw [beq_eq_false_iff_ne]; omega
    have e4 : (o == 19) = false := by rw [beq_eq_false_iff_ne]; omega
    have d1 : 3 ≤ o := by omega
    have d2 : ¬ o ≤ 12 := by omega
    go_enter Tryd.func33, Tryd.ntmps33
    go_wp2
    go_ret3
    exact ⟨rfl, rfl⟩
  all_goals first
    | (go_enter Tryd.func33, Tryd.ntmps33
       go_wp2
       go_ret3
       exact ⟨rfl, rfl⟩)
    | skip
  have ea : useA o = false := by unfold useA; exact decide_eq_false (by omega)
  have eb : useB o = false := by unfold useB; exact decide_eq_false (by omega)
  have em : useM o = false := by unfold useM; exact decide_eq_false (by omega)
  rw [ea, eb, em]
  have d1 : 3 ≤ o := by omega
  have d2 : ¬ o ≤ 12 := by omega
  have d3 : 13 ≤ o := by omega
  have d4 : ¬ o ≤ 16 := by omega
  have e1 : (o == 20) = false := by rw [beq_eq_false_iff_ne]; omega
  have e2 : (o == 2) = false := by rw [beq_eq_false_iff_ne]; omega
  have e3 : (o == 18) = false := by rw [beq_eq_false_iff_ne]; omega
  have e4 : (o == 19) = false := by rw [beq_eq_false_iff_ne]; omega
  have e5 : (o == 17) = false := by rw [beq_eq_false_iff_ne]; omega
  have e6 : (o == 21) = false := by rw [beq_eq_false_iff_ne]; omega
  have e7 : (o == 23) = false := by rw [beq_eq_false_iff_ne]; omega
  go_enter Tryd.func33, Tryd.ntmps33
  go_wp2
  go_ret3
  exact ⟨rfl, rfl⟩
def rightF (o a b m : Int) (ua ub um : Bool) : Bool := decide (o ≤ 23) && (decide (a < 8) && (decide (b < 8) && ((ua || (a == 0)) && ((ub || (b == 0)) && (um || (m == 0))))))
set_option maxHeartbeats 4000000 in
set_option maxRecDepth 100000 in
theorem rright_of (o a b m : Int) (w : World) (ua ub um : Bool) (cU : ∀ w, Calls Tryd.prog 33 #[.int .u8 o] w fun e w' => e = .returned (.tuple #[.bool ua, .bool ub, .bool um]) ∧ w' = w) :
    Calls Tryd.prog 20 #[.agg #[.int .u8 o, .int .u8 a, .int .u8 b, .int .u16 m]] w fun e W' => e = .returned (.bool (rightF o a b m ua ub um)) ∧ Below w.heap.size w W' := by
  by_cases h1 : o ≤ 23
  · by_cases h2 : a < 8
    · by_cases h3 : b < 8
      · have ha : ua = true ∨ (ua = false ∧ (a == 0) = true) ∨ (ua = false ∧ (a == 0) = false) := by cases ua <;> cases (a == 0) <;> simp
        have hb : ub = true ∨ (ub = false ∧ (b == 0) = true) ∨ (ub = false ∧ (b == 0) = false) := by cases ub <;> cases (b == 0) <;> simp
        have hm : um = true ∨ (um = false ∧ (m == 0) = true) ∨ (um = false ∧ (m == 0) = false) := by cases um <;> cases (m == 0) <;> simp
        rcases ha with rfl | ⟨rfl, ha⟩ | ⟨rfl, ha⟩
        · rcases hb with rfl | ⟨rfl, hb⟩ | ⟨rfl, hb⟩
          · rcases hm with rfl | ⟨rfl, hm⟩ | ⟨rfl, hm⟩
            · rw [show rightF _ _ _ _ _ _ _ = true by simp [rightF, *]]
              go_enter Tryd.func20, Tryd.ntmps20
              go_wp2_with (go_at_call 33; refine (cU _).mono ?_; rintro e w' ⟨rfl, rfl⟩)
              go_ret
              exact ⟨rfl, (Below.refl _ w).alloc (Nat.le_refl _) _⟩
            · rw [show rightF _ _ _ _ _ _ _ = true by simp [rightF, *]]
              go_enter Tryd.func20, Tryd.ntmps20
              go_wp2_with (go_at_call 33; refine (cU _).mono ?_; rintro e w' ⟨rfl, rfl⟩)
              go_ret
              exact ⟨rfl, (Below.refl _ w).alloc (Nat.le_refl _) _⟩
            · rw [show rightF _ _ _ _ _ _ _ = false by simp [rightF, *]]
              go_enter Tryd.func20, Tryd.ntmps20
              go_wp2_with (go_at_call 33; refine (cU _).mono ?_; rintro e w' ⟨rfl, rfl⟩)
              go_ret
              exact ⟨rfl, (Below.refl _ w).alloc (Nat.le_refl _) _⟩
          · rcases hm with rfl | ⟨rfl, hm⟩ | ⟨rfl, hm⟩
            · rw [show rightF _ _ _ _ _ _ _ = true by simp [rightF, *]]
              go_enter Tryd.func20, Tryd.ntmps20
              go_wp2_with (go_at_call 33; refine (cU _).mono ?_; rintro e w' ⟨rfl, rfl⟩)
              go_ret
              exact ⟨rfl, (Below.refl _ w).alloc (Nat.le_refl _) _⟩
            · rw [show rightF _ _ _ _ _ _ _ = true by simp [rightF, *]]
              go_enter Tryd.func20, Tryd.ntmps20
              go_wp2_with (go_at_call 33; refine (cU _).mono ?_; rintro e w' ⟨rfl, rfl⟩)
              go_ret
              exact ⟨rfl, (Below.refl _ w).alloc (Nat.le_refl _) _⟩
            · rw [show rightF _ _ _ _ _ _ _ = false by simp [rightF, *]]
              go_enter Tryd.func20, Tryd.ntmps20
              go_wp2_with (go_at_call 33; refine (cU _).mono ?_; rintro e w' ⟨rfl, rfl⟩)
              go_ret
              exact ⟨rfl, (Below.refl _ w).alloc (Nat.le_refl _) _⟩
          · rw [show rightF _ _ _ _ _ _ _ = false by simp [rightF, *]]
            go_enter Tryd.func20, Tryd.ntmps20
            go_wp2_with (go_at_call 33; refine (cU _).mono ?_; rintro e w' ⟨rfl, rfl⟩)
            go_ret
            exact ⟨rfl, (Below.refl _ w).alloc (Nat.le_refl _) _⟩
        · rcases hb with rfl | ⟨rfl, hb⟩ | ⟨rfl, hb⟩
          · rcases hm with rfl | ⟨rfl, hm⟩ | ⟨rfl, hm⟩
            · rw [show rightF _ _ _ _ _ _ _ = true by simp [rightF, *]]
              go_enter Tryd.func20, Tryd.ntmps20
              go_wp2_with (go_at_call 33; refine (cU _).mono ?_; rintro e w' ⟨rfl, rfl⟩)
              go_ret
              exact ⟨rfl, (Below.refl _ w).alloc (Nat.le_refl _) _⟩
            · rw [show rightF _ _ _ _ _ _ _ = true by simp [rightF, *]]
              go_enter Tryd.func20, Tryd.ntmps20
              go_wp2_with (go_at_call 33; refine (cU _).mono ?_; rintro e w' ⟨rfl, rfl⟩)
              go_ret
              exact ⟨rfl, (Below.refl _ w).alloc (Nat.le_refl _) _⟩
            · rw [show rightF _ _ _ _ _ _ _ = false by simp [rightF, *]]
              go_enter Tryd.func20, Tryd.ntmps20
              go_wp2_with (go_at_call 33; refine (cU _).mono ?_; rintro e w' ⟨rfl, rfl⟩)
              go_ret
              exact ⟨rfl, (Below.refl _ w).alloc (Nat.le_refl _) _⟩
          · rcases hm with rfl | ⟨rfl, hm⟩ | ⟨rfl, hm⟩
            · rw [show rightF _ _ _ _ _ _ _ = true by simp [rightF, *]]
              go_enter Tryd.func20, Tryd.ntmps20
              go_wp2_with (go_at_call 33; refine (cU _).mono ?_; rintro e w' ⟨rfl, rfl⟩)
              go_ret
              exact ⟨rfl, (Below.refl _ w).alloc (Nat.le_refl _) _⟩
            · rw [show rightF _ _ _ _ _ _ _ = true by simp [rightF, *]]
              go_enter Tryd.func20, Tryd.ntmps20
              go_wp2_with (go_at_call 33; refine (cU _).mono ?_; rintro e w' ⟨rfl, rfl⟩)
              go_ret
              exact ⟨rfl, (Below.refl _ w).alloc (Nat.le_refl _) _⟩
            · rw [show rightF _ _ _ _ _ _ _ = false by simp [rightF, *]]
              go_enter Tryd.func20, Tryd.ntmps20
              go_wp2_with (go_at_call 33; refine (cU _).mono ?_; rintro e w' ⟨rfl, rfl⟩)
              go_ret
              exact ⟨rfl, (Below.refl _ w).alloc (Nat.le_refl _) _⟩
          · rw [show rightF _ _ _ _ _ _ _ = false by simp [rightF, *]]
            go_enter Tryd.func20, Tryd.ntmps20
            go_wp2_with (go_at_call 33; refine (cU _).mono ?_; rintro e w' ⟨rfl, rfl⟩)
            go_ret
            exact ⟨rfl, (Below.refl _ w).alloc (Nat.le_refl _) _⟩
        · rw [show rightF _ _ _ _ _ _ _ = false by simp [rightF, *]]
          go_enter Tryd.func20, Tryd.ntmps20
          go_wp2_with (go_at_call 33; refine (cU _).mono ?_; rintro e w' ⟨rfl, rfl⟩)
          go_ret
          exact ⟨rfl, (Below.refl _ w).alloc (Nat.le_refl _) _⟩
      · rw [show rightF _ _ _ _ _ _ _ = false by simp [rightF, h3]]
        go_enter Tryd.func20, Tryd.ntmps20
        go_wp2_with (go_at_call 33; refine (cU _).mono ?_; rintro e w' ⟨rfl, rfl⟩)
        go_ret
        exact ⟨rfl, (Below.refl _ w).alloc (Nat.le_refl _) _⟩
    · rw [show rightF _ _ _ _ _ _ _ = false by simp [rightF, h2]]
      go_enter Tryd.func20, Tryd.ntmps20
      go_wp2_with (go_at_call 33; refine (cU _).mono ?_; rintro e w' ⟨rfl, rfl⟩)
      go_ret
      exact ⟨rfl, (Below.refl _ w).alloc (Nat.le_refl _) _⟩
  · rw [show rightF _ _ _ _ _ _ _ = false by simp [rightF, h1]]
    go_enter Tryd.func20, Tryd.ntmps20
    go_wp2_with (go_at_call 33; refine (cU _).mono ?_; rintro e w' ⟨rfl, rfl⟩)
    go_ret
    exact ⟨rfl, (Below.refl _ w).alloc (Nat.le_refl _) _⟩
theorem rightF_eq (o a b m : Int) : rightF o a b m (useA o) (useB o) (useM o) = insR o a b m := by
  apply Bool.eq_iff_iff.2
  rw [insR_iff]
  simp [rightF]
  constructor
  · rintro ⟨h1, h2, h3, h4, h5, h6⟩; exact ⟨⟨h1, h2, h3⟩, h4, h5, h6⟩
  · rintro ⟨⟨h1, h2, h3⟩, h4, h5, h6⟩; exact ⟨h1, h2, h3, h4, h5, h6⟩
theorem rright_any (o a b m : Int) (w : World) (h0 : 0 ≤ o) (h1 : o ≤ 255) :
    Calls Tryd.prog 20 #[.agg #[.int .u8 o, .int .u8 a, .int .u8 b, .int .u16 m]] w fun e W' => e = .returned (.bool (insR o a b m)) ∧ Below w.heap.size w W' := by
  rw [← rightF_eq]
  exact rright_of o a b m w _ _ _ (fun w => ruses_any o w h0 h1)
end Go.Proofs.YtfdkkkjelalbjaaDoor
