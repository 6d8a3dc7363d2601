/- Run: the program. -/
import Derived.Test.YtbjklpdloglniaaDoorCpuH
namespace Go.Proofs.YtbjklpdloglniaaDoor
open Go.RowKit
set_option linter.unusedVariables false
set_option maxRecDepth 100000

/-- So many instructions of a code, until one asks for something: the registers, what is asked for, how many were done. -/
def runF (bs : List UInt8) : Nat → Int → (Nat → Int) → Int → (Int × (Nat → Int)) × Acc × Int
  | 0, pc, r, n => ((pc, r), (0, 0, 0, 0, 0), n)
  | k + 1, pc, r, n => match nextP bs pc with
    | .error e => ((pc, r), (7, 0, 0, 0, e), n)
    | .ok i => if (execP pc r i.1 i.2.1 i.2.2.1 i.2.2.2).2.1 = 0 then runF bs k (execP pc r i.1 i.2.1 i.2.2.1 i.2.2.2).1.1 (execP pc r i.1 i.2.1 i.2.2.1 i.2.2.2).1.2 (n + 1)
      else ((execP pc r i.1 i.2.1 i.2.2.1 i.2.2.2).1, (execP pc r i.1 i.2.1 i.2.2.1 i.2.2.2).2, if (execP pc r i.1 i.2.1 i.2.2.1 i.2.2.2).2.1 = 7 then n else n + 1)
def runV (x : (Int × (Nat → Int)) × Acc × Int) : Value := .tuple #[rgV x.1.1 x.1.2, accV x.2.1, .int .i64 x.2.2]
theorem add_wd (a b : Int) : Wd (addV a b) := by unfold addV Wd; omega
theorem upd_wd {r : Nat → Int} (hr : ∀ k, Wd (r k)) (j : Nat) {v : Int} (hv : Wd v) : ∀ k, Wd (upd r j v k) := fun k => by
  unfold upd
  split
  · exact hv
  · exact hr k
theorem wrap_wd (x : Int) : Wd (IntKind.u16.wrap x) := by rw [u16w]; unfold Wd; omega
theorem div_wd {a b : Int} (ha : Wd a) (hb : 0 ≤ b) : Wd (a / b) := ⟨Int.ediv_nonneg ha.1 hb, Int.le_trans (Int.ediv_le_self b ha.1) ha.2⟩
theorem rec_wd (o a b : Int) (ha : Wd a) (hb : Wd b) : Wd (recV o a b) := by
  unfold recV
  split
  · exact add_wd a b
  split
  · unfold subV Wd; omega
  split
  · unfold loV Wd; omega
  split
  · exact wrap_wd _
  split
  · exact wrap_wd _
  split
  · exact wrap_wd _
  split
  · unfold shlV Wd; omega
  split
  · unfold shrV
    exact div_wd ha (Int.le_of_lt (Int.pow_pos (by decide)))
  exact ha
theorem ite_wd {c : Prop} [Decidable c] {a b : Int} (ha : Wd a) (hb : Wd b) : Wd (if c then a else b) := by
  by_cases h : c
  · rw [if_pos h]; exact ha
  · rw [if_neg h]; exact hb
theorem does_wd (pc : Int) (r : Nat → Int) (o a b m : Int) (hp : Wd pc) (hr : ∀ k, Wd (r k)) (hm : Wd m) : Wd (doesP pc r o a b m).1.1 ∧ ∀ k, Wd ((doesP pc r o a b m).1.2 k) := by
  have h4 := add_wd pc 4
  unfold doesP
  by_cases c2 : o = 2
  · rw [if_pos c2]; exact ⟨h4, upd_wd hr _ hm⟩
  rw [if_neg c2]
  by_cases c3 : o = 3
  · rw [if_pos c3]; exact ⟨h4, upd_wd hr _ (hr _)⟩
  rw [if_neg c3]
  by_cases c7 : o = 7
  · rw [if_pos c7]; exact ⟨h4, upd_wd hr _ (div_wd (hr _) (hr _).1)⟩
  rw [if_neg c7]
  by_cases c13 : o = 13
  · rw [if_pos c13]; exact ⟨h4, hr⟩
  rw [if_neg c13]
  by_cases c14 : o = 14
  · rw [if_pos c14]; exact ⟨h4, hr⟩
  rw [if_neg c14]
  by_cases c15 : o = 15
  · rw [if_pos c15]; exact ⟨h4, hr⟩
  rw [if_neg c15]
  by_cases c16 : o = 16
  · rw [if_pos c16]; exact ⟨h4, hr⟩
  rw [if_neg c16]
  by_cases c17 : o = 17
  · rw [if_pos c17]; exact ⟨hm, hr⟩
  rw [if_neg c17]
  by_cases c18 : o = 18
  · rw [if_pos c18]; exact ⟨ite_wd hm h4, hr⟩
  rw [if_neg c18]
  by_cases c19 : o = 19
  · rw [if_pos c19]; exact ⟨ite_wd h4 hm, hr⟩
  rw [if_neg c19]
  by_cases c20 : o = 20
  · rw [if_pos c20]; exact ⟨ite_wd hm h4, hr⟩
  rw [if_neg c20]
  by_cases c21 : o = 21
  · rw [if_pos c21]; exact ⟨hm, upd_wd hr _ h4⟩
  rw [if_neg c21]
  by_cases c22 : o = 22
  · rw [if_pos c22]; exact ⟨hr 7, hr⟩
  rw [if_neg c22]
  by_cases c23 : o = 23
  · rw [if_pos c23]; exact ⟨h4, hr⟩
  rw [if_neg c23]
  by_cases c0 : o = 0
  · rw [if_pos c0]; exact ⟨h4, hr⟩
  rw [if_neg c0]
  exact ⟨h4, upd_wd hr _ (rec_wd _ _ _ (hr _) (hr _))⟩
theorem exec_wd (pc : Int) (r : Nat → Int) (o a b m : Int) (hp : Wd pc) (hr : ∀ k, Wd (r k)) (hm : Wd m) : Wd (execP pc r o a b m).1.1 ∧ ∀ k, Wd ((execP pc r o a b m).1.2 k) := by
  unfold execP
  split
  · exact ⟨hp, hr⟩
  split
  · exact ⟨hp, hr⟩
  split
  · exact ⟨hp, hr⟩
  exact does_wd pc r o a b m hp hr hm
theorem next_ok (bs : List UInt8) (pc : Int) (i : Int × Int × Int × Int) (h : nextP bs pc = .ok i) : InsOk i.1 i.2.1 i.2.2.1 i.2.2.2 ∧ insR i.1 i.2.1 i.2.2.1 i.2.2.2 = true := by
  unfold nextP at h
  split at h
  · cases h
  · split at h
    · rename_i j hj
      injection h with h
      subst h
      have := enc_dec _ _ _ _ _ hj
      exact ⟨this.2.1, this.1⟩
    · cases h
theorem next_err (bs : List UInt8) (pc e : Int) (h : nextP bs pc = .error e) : e = 10 ∨ e = 3 := by
  unfold nextP at h
  split at h
  · injection h with h
    exact .inl h.symm
  · split at h
    · cases h
    · injection h with h
      exact .inr h.symm
theorem Cel.drew {W : World} {b : Nat} {xs : Array Value} {t : TypeId} (h : Cel W b xs t) : Cel W.drew b xs t := h
theorem Cel.set {W : World} {b : Nat} {xs : Array Value} {t : TypeId} (h : Cel W b xs t) (k : Nat) (v : Value) : Cel (W.setCell ⟨b, k, none⟩ v) b (xs.setIfInBounds k v) t := by
  unfold Cel World.setCell at *
  simp only [Array.getElem?_modify, if_true, h]
  rfl
theorem Cel.other {W : World} {b c : Nat} {xs : Array Value} {t : TypeId} (h : Cel W b xs t) (hne : b ≠ c) (k : Nat) (v : Value) : Cel (W.setCell ⟨c, k, none⟩ v) b xs t := (Below.heap_setCell W ⟨c, k, none⟩ v b hne).trans h
theorem Cel.set9 {W : World} {b : Nat} {c0 c1 c2 c3 c4 c5 c6 c7 c8 : Value} {t : TypeId} (h : Cel W b #[c0, c1, c2, c3, c4, c5, c6, c7, c8] t) (v0 v1 v2 v3 v4 v5 v6 v7 v8 : Value) : Cel ((((((((((W).setCell ⟨b, 0, none⟩ v0).setCell ⟨b, 1, none⟩ v1).setCell ⟨b, 2, none⟩ v2).setCell ⟨b, 3, none⟩ v3).setCell ⟨b, 4, none⟩ v4).setCell ⟨b, 5, none⟩ v5).setCell ⟨b, 6, none⟩ v6).setCell ⟨b, 7, none⟩ v7).setCell ⟨b, 8, none⟩ v8) b #[v0, v1, v2, v3, v4, v5, v6, v7, v8] t :=
  by
  have h' : W.heap[b]? = some (.cells #[c0, c1, c2, c3, c4, c5, c6, c7, c8] t (0, 0)) := h
  simp [Cel, World.setCell, Array.getElem?_modify, h']
theorem Cel.set5 {W : World} {b : Nat} {c0 c1 c2 c3 c4 : Value} {t : TypeId} (h : Cel W b #[c0, c1, c2, c3, c4] t) (v0 v1 v2 v3 v4 : Value) : Cel ((((((W).setCell ⟨b, 0, none⟩ v0).setCell ⟨b, 1, none⟩ v1).setCell ⟨b, 2, none⟩ v2).setCell ⟨b, 3, none⟩ v3).setCell ⟨b, 4, none⟩ v4) b #[v0, v1, v2, v3, v4] t := by
  have h' : W.heap[b]? = some (.cells #[c0, c1, c2, c3, c4] t (0, 0)) := h
  simp [Cel, World.setCell, Array.getElem?_modify, h']
theorem Cel.set9o {W : World} {b c : Nat} {xs : Array Value} {t : TypeId} (h : Cel W b xs t) (hne : b ≠ c) (v0 v1 v2 v3 v4 v5 v6 v7 v8 : Value) : Cel ((((((((((W).setCell ⟨c, 0, none⟩ v0).setCell ⟨c, 1, none⟩ v1).setCell ⟨c, 2, none⟩ v2).setCell ⟨c, 3, none⟩ v3).setCell ⟨c, 4, none⟩ v4).setCell ⟨c, 5, none⟩ v5).setCell ⟨c, 6, none⟩ v6).setCell ⟨c, 7, none⟩ v7).setCell ⟨c, 8, none⟩ v8) b xs t :=
  (((((((((h.other hne 0 v0).other hne 1 v1).other hne 2 v2).other hne 3 v3).other hne 4 v4).other hne 5 v5).other hne 6 v6).other hne 7 v7).other hne 8 v8)
theorem Cel.set5o {W : World} {b c : Nat} {xs : Array Value} {t : TypeId} (h : Cel W b xs t) (hne : b ≠ c) (v0 v1 v2 v3 v4 : Value) : Cel ((((((W).setCell ⟨c, 0, none⟩ v0).setCell ⟨c, 1, none⟩ v1).setCell ⟨c, 2, none⟩ v2).setCell ⟨c, 3, none⟩ v3).setCell ⟨c, 4, none⟩ v4) b xs t :=
  (((((h.other hne 0 v0).other hne 1 v1).other hne 2 v2).other hne 3 v3).other hne 4 v4)
end Go.Proofs.YtbjklpdloglniaaDoor
