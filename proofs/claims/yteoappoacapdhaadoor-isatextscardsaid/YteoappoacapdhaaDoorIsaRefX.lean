/- The instruction that a text says: the document. -/
import Derived.Test.YteoappoacapdhaaDoorIsaRefVa
import Derived.Test.YteoappoacapdhaaDoorIsaRefVb
import Derived.Test.YteoappoacapdhaaDoorIsaRefVc
namespace Go.Proofs.YteoappoacapdhaaDoor
open Go.RowKit
set_option linter.unusedVariables false

theorem use_class (o : Nat) (h : o ≤ 23) : (useA o = false ∧ useB o = false ∧ useM o = false) ∨ (useA o = true ∧ useB o = false ∧ useM o = true) ∨ (useA o = true ∧ useB o = true ∧ useM o = false) ∨ (useA o = true ∧ useB o = true ∧ useM o = true) ∨ (useA o = false ∧ useB o = false ∧ useM o = true) := by
  have key : ∀ k : Nat, k < 24 → (useA k = false ∧ useB k = false ∧ useM k = false) ∨ (useA k = true ∧ useB k = false ∧ useM k = true) ∨ (useA k = true ∧ useB k = true ∧ useM k = false) ∨ (useA k = true ∧ useB k = true ∧ useM k = true) ∨ (useA k = false ∧ useB k = false ∧ useM k = true) := by decide +kernel
  exact key o (by omega)
theorem reg_good (x : List UInt8) (n : Int) (h : regO x = some n) (w : World) :
    Calls Tryd.prog 46 #[.string ⟨x.toArray⟩] w fun e w' => e = .returned (.tuple #[.int .u8 n, .bool true]) ∧ Below w.heap.size w w' := by
  have := rregister_any x w
  rw [h] at this
  exact this
theorem reg_bad (x : List UInt8) (h : regO x = none) (w : World) :
    Calls Tryd.prog 46 #[.string ⟨x.toArray⟩] w fun e w' => e = .returned (.tuple #[.int .u8 0, .bool false]) ∧ Below w.heap.size w w' := by
  have := rregister_any x w
  rw [h] at this
  exact this
theorem err_cases (o : Option Int) : errO o = 0 ∨ errO o = 3 := by
  cases o with
  | none => exact .inr rfl
  | some n =>
    simp only [errO]
    split
    · exact .inl rfl
    · exact .inr rfl
theorem imp_good (x : List UInt8) (n : Int) (h : impO x = some n) (hx : x.length ≤ 100000) (w : World) (hT : Tabs w) :
    Calls Tryd.prog 47 #[.string ⟨x.toArray⟩] w fun e w' => e = .returned (.tuple #[.int .u16 n, .int .i64 0]) ∧ Below w.heap.size w w' := by
  have c := rparse_any ⟨x.toArray⟩ w (by show x.length ≤ _; omega) hT
  unfold impO at h
  split at h
  · rename_i he
    injection h with h
    have e1 : (⟨x.toArray⟩ : ByteArray).data.toList = x := rfl
    rw [e1, he, h] at c
    exact c
  · cases h
theorem imp_bad (x : List UInt8) (h : impO x = none) (hx : x.length ≤ 100000) (w : World) (hT : Tabs w) :
    Calls Tryd.prog 47 #[.string ⟨x.toArray⟩] w fun e w' => e = .returned (.tuple #[.int .u16 (wordO (numO x)), .int .i64 3]) ∧ Below w.heap.size w w' := by
  have c := rparse_any ⟨x.toArray⟩ w (by show x.length ≤ _; omega) hT
  unfold impO at h
  split at h
  · cases h
  · rename_i he
    have e3 : errO (numO x) = 3 := by
      rcases err_cases (numO x) with g | g
      · exact absurd g he
      · exact g
    have e1 : (⟨x.toArray⟩ : ByteArray).data.toList = x := rfl
    rw [e1, e3] at c
    exact c
theorem words_len (s : List UInt8) (n : Nat) (h : s.length ≤ n) : ∀ x ∈ splitW s, x.length ≤ n := by
  induction s generalizing n with
  | nil => intro x hx; simp [splitW] at hx; subst hx; simp
  | cons b t ih =>
    intro x hx
    simp only [splitW] at hx
    simp only [List.length_cons] at h
    split at hx
    · rcases List.mem_cons.1 hx with rfl | hx
      · simp
      · exact Nat.le_trans (ih t.length (Nat.le_refl _) x hx) (by omega)
    · cases hs : splitW t with
      | nil => rw [hs] at hx; simp at hx; subst hx; simp; omega
      | cons y ys =>
        rw [hs] at hx ih
        rcases List.mem_cons.1 hx with rfl | hx
        · have := ih t.length (Nat.le_refl _) y (by simp)
          simp
          omega
        · have := ih t.length (Nat.le_refl _) x (by simp [hx])
          omega
set_option maxHeartbeats 2000000 in
theorem irparse_any (l : List UInt8) (w : World) (hl : l.length ≤ 1000) (hT : Tabs w) (hM : Mx w) :
    Calls Tryd.prog 32 #[.string ⟨l.toArray⟩] w fun e w' => e = .returned (decEV (insO l)) ∧ Below w.heap.size w w' := by
  have cS := fun w h => split_any l w (by omega) h
  have hwl := words_len l 1000 hl
  rw [ins_words]
  rw [split_head] at cS hwl
  have c0 := fun w => rreadw_any (headW l) w
  generalize headW l = x0 at *
  generalize restW l = xs at *
  cases hop : opO x0 with
  | none =>
    rw [hop] at c0
    have hN : opN x0 = 0 := by unfold opN; rw [hop]
    rw [hN] at c0
    exact rp_x_nook _ (x0 :: xs) x0 0 w (by simp) hT hM cS rfl c0 (fun w => ruses_any 0 w (by omega) (by omega))
  | some o =>
    rw [hop] at c0
    have hN : opN x0 = (o : Int) := by unfold opN; rw [hop]
    rw [hN] at c0
    have ho := (op_word x0 o hop).1
    have cU := fun w => ruses_any (o : Int) w (by omega) (by omega)
    rcases use_class o ho with ⟨u1, u2, u3⟩ | ⟨u1, u2, u3⟩ | ⟨u1, u2, u3⟩ | ⟨u1, u2, u3⟩ | ⟨u1, u2, u3⟩
    · rw [u1, u2, u3] at cU
      have hp : partsL (o : Int) 0 0 0 = [] := by unfold partsL; rw [u1, u2, u3]; rfl
      show Calls _ _ _ _ fun e w' => e = .returned (decEV (parseW (partsL o 0 0 0) xs ((o : Int), 0, 0, 0))) ∧ _
      rw [hp]
      cases xs with
      | nil =>
        simp only [parseW]
        exact rp_n_ok _ (x0 :: []) x0  o  w rfl hT hM cS rfl c0 cU
      | cons y ys =>
        simp only [parseW]
        exact rp_n_more _ (x0 :: y :: ys) x0  o  w (by simp) hT hM cS rfl c0 cU
    · rw [u1, u2, u3] at cU
      have hp : partsL (o : Int) 0 0 0 = [(0, 0), (2, 0)] := by unfold partsL; rw [u1, u2, u3]; rfl
      show Calls _ _ _ _ fun e w' => e = .returned (decEV (parseW (partsL o 0 0 0) xs ((o : Int), 0, 0, 0))) ∧ _
      rw [hp]
      cases xs with
      | nil =>
        simp only [parseW]
        exact rp_am_short1 _ (x0 :: []) x0  o  w rfl hT hM cS rfl c0 cU
      | cons x1 xs =>
        cases e1 : regO x1 with
        | none =>
          simp only [parseW, readP, e1]
          exact rp_am_bad1 _ (x0 :: x1 :: xs) x0 x1 o 0 w (by simp) hT hM cS rfl c0 cU rfl (reg_bad x1 e1)
        | some n1 =>
          cases xs with
          | nil =>
            simp only [parseW, readP, e1]
            exact rp_am_short2 _ (x0 :: x1 :: []) x0 x1 o n1 w rfl hT hM cS rfl c0 cU rfl (reg_good x1 n1 e1)
          | cons x2 xs =>
            cases e2 : impO x2 with
            | none =>
              simp only [parseW, readP, e1, e2]
              exact rp_am_bad2 _ (x0 :: x1 :: x2 :: xs) x0 x1 x2 o n1 (wordO (numO x2)) w (by simp) hT hM cS rfl c0 cU rfl (reg_good x1 n1 e1) rfl (imp_bad x2 e2 (by have := hwl x2 (by simp); omega))
            | some n2 =>
              cases xs with
              | nil =>
                simp only [parseW, readP, layP, e1, e2]
                exact rp_am_ok _ (x0 :: x1 :: x2 :: []) x0 x1 x2 o n1 n2 w rfl hT hM cS rfl c0 cU rfl (reg_good x1 n1 e1) rfl (imp_good x2 n2 e2 (by have := hwl x2 (by simp); omega))
              | cons y ys =>
                simp only [parseW, readP, e1, e2]
                exact rp_am_more _ (x0 :: x1 :: x2 :: y :: ys) x0 x1 x2 o n1 n2 w (by simp) hT hM cS rfl c0 cU rfl (reg_good x1 n1 e1) rfl (imp_good x2 n2 e2 (by have := hwl x2 (by simp); omega))
    · rw [u1, u2, u3] at cU
      have hp : partsL (o : Int) 0 0 0 = [(0, 0), (1, 0)] := by unfold partsL; rw [u1, u2, u3]; rfl
      show Calls _ _ _ _ fun e w' => e = .returned (decEV (parseW (partsL o 0 0 0) xs ((o : Int), 0, 0, 0))) ∧ _
      rw [hp]
      cases xs with
      | nil =>
        simp only [parseW]
        exact rp_ab_short1 _ (x0 :: []) x0  o  w rfl hT hM cS rfl c0 cU
      | cons x1 xs =>
        cases e1 : regO x1 with
        | none =>
          simp only [parseW, readP, e1]
          exact rp_ab_bad1 _ (x0 :: x1 :: xs) x0 x1 o 0 w (by simp) hT hM cS rfl c0 cU rfl (reg_bad x1 e1)
        | some n1 =>
          cases xs with
          | nil =>
            simp only [parseW, readP, e1]
            exact rp_ab_short2 _ (x0 :: x1 :: []) x0 x1 o n1 w rfl hT hM cS rfl c0 cU rfl (reg_good x1 n1 e1)
          | cons x2 xs =>
            cases e2 : regO x2 with
            | none =>
              simp only [parseW, readP, e1, e2]
              exact rp_ab_bad2 _ (x0 :: x1 :: x2 :: xs) x0 x1 x2 o n1 0 w (by simp) hT hM cS rfl c0 cU rfl (reg_good x1 n1 e1) rfl (reg_bad x2 e2)
            | some n2 =>
              cases xs with
              | nil =>
                simp only [parseW, readP, layP, e1, e2]
                exact rp_ab_ok _ (x0 :: x1 :: x2 :: []) x0 x1 x2 o n1 n2 w rfl hT hM cS rfl c0 cU rfl (reg_good x1 n1 e1) rfl (reg_good x2 n2 e2)
              | cons y ys =>
                simp only [parseW, readP, e1, e2]
                exact rp_ab_more _ (x0 :: x1 :: x2 :: y :: ys) x0 x1 x2 o n1 n2 w (by simp) hT hM cS rfl c0 cU rfl (reg_good x1 n1 e1) rfl (reg_good x2 n2 e2)
    · rw [u1, u2, u3] at cU
      have hp : partsL (o : Int) 0 0 0 = [(0, 0), (1, 0), (2, 0)] := by unfold partsL; rw [u1, u2, u3]; rfl
      show Calls _ _ _ _ fun e w' => e = .returned (decEV (parseW (partsL o 0 0 0) xs ((o : Int), 0, 0, 0))) ∧ _
      rw [hp]
      cases xs with
      | nil =>
        simp only [parseW]
        exact rp_abm_short1 _ (x0 :: []) x0  o  w rfl hT hM cS rfl c0 cU
      | cons x1 xs =>
        cases e1 : regO x1 with
        | none =>
          simp only [parseW, readP, e1]
          exact rp_abm_bad1 _ (x0 :: x1 :: xs) x0 x1 o 0 w (by simp) hT hM cS rfl c0 cU rfl (reg_bad x1 e1)
        | some n1 =>
          cases xs with
          | nil =>
            simp only [parseW, readP, e1]
            exact rp_abm_short2 _ (x0 :: x1 :: []) x0 x1 o n1 w rfl hT hM cS rfl c0 cU rfl (reg_good x1 n1 e1)
          | cons x2 xs =>
            cases e2 : regO x2 with
            | none =>
              simp only [parseW, readP, e1, e2]
              exact rp_abm_bad2 _ (x0 :: x1 :: x2 :: xs) x0 x1 x2 o n1 0 w (by simp) hT hM cS rfl c0 cU rfl (reg_good x1 n1 e1) rfl (reg_bad x2 e2)
            | some n2 =>
              cases xs with
              | nil =>
                simp only [parseW, readP, e1, e2]
                exact rp_abm_short3 _ (x0 :: x1 :: x2 :: []) x0 x1 x2 o n1 n2 w rfl hT hM cS rfl c0 cU rfl (reg_good x1 n1 e1) rfl (reg_good x2 n2 e2)
              | cons x3 xs =>
                cases e3 : impO x3 with
                | none =>
                  simp only [parseW, readP, e1, e2, e3]
                  exact rp_abm_bad3 _ (x0 :: x1 :: x2 :: x3 :: xs) x0 x1 x2 x3 o n1 n2 (wordO (numO x3)) w (by simp) hT hM cS rfl c0 cU rfl (reg_good x1 n1 e1) rfl (reg_good x2 n2 e2) rfl (imp_bad x3 e3 (by have := hwl x3 (by simp); omega))
                | some n3 =>
                  cases xs with
                  | nil =>
                    simp only [parseW, readP, layP, e1, e2, e3]
                    exact rp_abm_ok _ (x0 :: x1 :: x2 :: x3 :: []) x0 x1 x2 x3 o n1 n2 n3 w rfl hT hM cS rfl c0 cU rfl (reg_good x1 n1 e1) rfl (reg_good x2 n2 e2) rfl (imp_good x3 n3 e3 (by have := hwl x3 (by simp); omega))
                  | cons y ys =>
                    simp only [parseW, readP, e1, e2, e3]
                    exact rp_abm_more _ (x0 :: x1 :: x2 :: x3 :: y :: ys) x0 x1 x2 x3 o n1 n2 n3 w (by simp) hT hM cS rfl c0 cU rfl (reg_good x1 n1 e1) rfl (reg_good x2 n2 e2) rfl (imp_good x3 n3 e3 (by have := hwl x3 (by simp); omega))
    · rw [u1, u2, u3] at cU
      have hp : partsL (o : Int) 0 0 0 = [(2, 0)] := by unfold partsL; rw [u1, u2, u3]; rfl
      show Calls _ _ _ _ fun e w' => e = .returned (decEV (parseW (partsL o 0 0 0) xs ((o : Int), 0, 0, 0))) ∧ _
      rw [hp]
      cases xs with
      | nil =>
        simp only [parseW]
        exact rp_m_short1 _ (x0 :: []) x0  o  w rfl hT hM cS rfl c0 cU
      | cons x1 xs =>
        cases e1 : impO x1 with
        | none =>
          simp only [parseW, readP, e1]
          exact rp_m_bad1 _ (x0 :: x1 :: xs) x0 x1 o (wordO (numO x1)) w (by simp) hT hM cS rfl c0 cU rfl (imp_bad x1 e1 (by have := hwl x1 (by simp); omega))
        | some n1 =>
          cases xs with
          | nil =>
            simp only [parseW, readP, layP, e1]
            exact rp_m_ok _ (x0 :: x1 :: []) x0 x1 o n1 w rfl hT hM cS rfl c0 cU rfl (imp_good x1 n1 e1 (by have := hwl x1 (by simp); omega))
          | cons y ys =>
            simp only [parseW, readP, e1]
            exact rp_m_more _ (x0 :: x1 :: y :: ys) x0 x1 o n1 w (by simp) hT hM cS rfl c0 cU rfl (imp_good x1 n1 e1 (by have := hwl x1 (by simp); omega))
end Go.Proofs.YteoappoacapdhaaDoor
