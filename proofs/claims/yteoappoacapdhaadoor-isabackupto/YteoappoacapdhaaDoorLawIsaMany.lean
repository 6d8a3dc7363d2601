/- IsaMany: the bytes of instructions, those that bytes say, or the errors: as the document says. -/
import Derived.Test.YteoappoacapdhaaDoorIsaL
import Derived.Test.YteoappoacapdhaaDoorIsaRefC
namespace Go.Proofs.YteoappoacapdhaaDoor
open Go.RowKit Go.Sort
set_option linter.unusedVariables false

theorem InsP.form {r : Option (List (Int × Int × Int × Int))} {e : Ending} {w : World} (h : InsP r e w) : ∃ v, e = .returned (.tuple #[v, .int .i64 (if r.isSome then 0 else 3)]) ∧ Inss w v (r.getD []) := by
  cases r with
  | none =>
    have h' : e = .returned (.tuple #[.slice none 0 0, .int .i64 3]) := h
    exact ⟨_, h', none, 0, rfl, fun j i h => by cases h⟩
  | some l =>
    obtain ⟨v, h1, h2⟩ := h
    exact ⟨v, h1, h2⟩
theorem readF_len : ∀ (n : Nat) (bs : List UInt8) (l : List (Int × Int × Int × Int)), readF n bs = some l → l.length = n
  | 0, bs, l, h => by
    simp [readF] at h
    subst h
    rfl
  | n + 1, bs, l, h => by
    simp only [readF] at h
    split at h
    · cases h
    · rename_i i _
      cases hr : readF n (bs.drop 4) with
      | none => rw [hr] at h; cases h
      | some r =>
        rw [hr] at h
        simp at h
        subst h
        simp [readF_len n _ r hr]
theorem readC_len (bs : List UInt8) : ((readC bs).getD []).length ≤ bs.length := by
  unfold readC
  split
  · cases h : readF (bs.length / 4) bs with
    | none => simp
    | some l =>
      have := readF_len _ _ _ h
      simp
      omega
  · simp
theorem Bts.take400 {w : World} {a : Option Addr} {n cap : Nat} {bs : List UInt8} (h : Bts w (.slice a n cap) bs) (k : Nat) (hk : k ≤ n) : Bts w (.slice a k cap) (bs.take k) := by
  obtain ⟨a', cap', hv, hc, hm, h⟩ := h
  injection hv with e1 e2 e3
  subst e1 e2 e3
  refine ⟨a, cap, by rw [List.length_take, Nat.min_eq_left hk], by rw [List.length_take]; omega, hm, fun j x hx => ?_⟩
  rw [List.getElem?_take] at hx
  split at hx
  · exact h j x hx
  · cases hx
set_option maxHeartbeats 8000000 in
set_option maxRecDepth 100000 in
theorem many_of (v : Value) (l : List (Int × Int × Int × Int)) (ao : Option Addr) (n m cap : Nat) (cs : List UInt8) (w : World) (hl : Inss w v l) (hO : ∀ i ∈ l, InsOk4 i) (hcap : ∀ a n c, v = .slice a n c → n ≤ c)
    (hn : (400 < n ∧ m = 400 ∧ n ≤ cap) ∨ (¬ 400 < n ∧ m = n)) (hb : Bts w (.slice ao m cap) cs) (hc4 : cs.length ≤ 400) (hW : Wds w) (hT : Tabs w) (hP : Pow w) :
    Calls Tryd.prog 4 #[v, .slice ao n cap] w fun e w' => e = .returned (.bool true) ∧ Below w.heap.size w w' := by
  have cV := fun w h1 h2 h3 => ilive_any w h1 h2 h3
  have cF := fun w h => few3_any v l w h hcap
  have hlt : (l.take 60).length ≤ 100000 := by rw [List.length_take]; omega
  have hOt : ∀ i ∈ l.take 60, InsOk4 i := fun i hi => hO i (List.mem_of_mem_take hi)
  have cC := fun v' w h => icode_any v' (l.take 60) w h hlt hOt
  have cD := fun v' w h => rcode_any v' (l.take 60) w h hlt hOt
  have cR := fun w h => ireadc_any (.slice ao m cap) cs w h (by omega)
  have cS := fun w h => rreadc_any (.slice ao m cap) cs w h (by omega)
  have hrl := readC_len cs
  have cE := fun v1 v2 w h h' => same_eq v1 v2 ((readC cs).getD []) w h h' (by omega)
  unfold BytP at cC cD
  generalize (if (l.take 60).all insR4 then codeL (l.take 60) else []) = X at *
  generalize (if (l.take 60).all insR4 then (0 : Int) else 3) = er at *
  have cR' := fun w h => (cR w h).mono fun e w' ⟨h1, h2⟩ => (⟨h1.form, h2⟩ : _ ∧ Below w.heap.size w w')
  have cS' := fun w h => (cS w h).mono fun e w' ⟨h1, h2⟩ => (⟨h1.form, h2⟩ : _ ∧ Below w.heap.size w w')
  clear cR cS
  generalize (if (readC cs).isSome then (0 : Int) else 3) = ed at *
  generalize (readC cs).getD [] = R at *
  clear hO hOt hlt hcap hrl
  have HL : Hid (Inss w v l) := hl
  have HB : Hid (Bts w (.slice ao m cap) cs) := hb
  clear hl hb hc4
  rcases hn with ⟨h1, rfl, h2⟩ | ⟨h1, rfl⟩
  · have h1' : (400 : Int) < (n : Int) := by omega
    have h2' : (400 : Int) ≤ (cap : Int) := by omega
    go_enter Tryd.func4, Tryd.ntmps4
    go_wp2_with fail
    refine (cF _ HL.out).mono ?_
    rintro e W0 ⟨⟨v0, rfl, hf0⟩, hw⟩
    rw [hw]
    clear hw W0
    go_wp2_with fail
    refine (cC v0 w (hf0 w HL.out)).mono ?_
    rintro e W1 ⟨⟨x1, rfl, k1⟩, hB1⟩
    have hs1 := hB1.size
    go_wp2_with fail
    refine (cF _ (HL.out.below hB1 (Nat.le_refl _))).mono ?_
    rintro e W0 ⟨⟨v2, rfl, hf2⟩, hw⟩
    rw [hw]
    clear hw W0
    go_wp2_with fail
    refine (cD v2 W1 (hf2 W1 (HL.out.below hB1 (Nat.le_refl _)))).mono ?_
    rintro e W2 ⟨⟨x2, rfl, k2⟩, hB2⟩
    replace k1 := k1.below hB2 (Nat.le_refl _)
    have b2 := hB1.trans (hB2.mono hs1)
    go_wp2_with fail
    refine (cR' _ (HB.out.below b2 (Nat.le_refl _))).mono ?_
    rintro e W3 ⟨⟨x3, rfl, k3⟩, hB3⟩
    replace k1 := k1.below hB3 (Nat.le_refl _)
    replace k2 := k2.below hB3 (Nat.le_refl _)
    have b3 := b2.trans (hB3.mono b2.size)
    go_wp2_with fail
    refine (cS' _ (HB.out.below b3 (Nat.le_refl _))).mono ?_
    rintro e W4 ⟨⟨x4, rfl, k4⟩, hB4⟩
    replace k1 := k1.below hB4 (Nat.le_refl _)
    replace k2 := k2.below hB4 (Nat.le_refl _)
    replace k3 := k3.below hB4 (Nat.le_refl _)
    have b4 := b3.trans (hB4.mono b3.size)
    clear cF cC cD cR' cS' hB1 hB2 hB3 hB4 b2 b3 hf0 hf2
    go_wp2_with fail
    refine (cV _ (hW.later b4) (hT.later b4) (hP.later b4)).mono ?_
    rintro e W5 ⟨rfl, hB5⟩
    have t1 := (k1.below hB5 (Nat.le_refl _)).text
    have t2 := (k2.below hB5 (Nat.le_refl _)).text
    replace k3 := k3.below hB5 (Nat.le_refl _)
    replace k4 := k4.below hB5 (Nat.le_refl _)
    have b5 := b4.trans (hB5.mono b4.size)
    clear k1 k2 cV hB5 b4
    go_wp2_with fail
    refine (cE x3 x4 _ k3 k4).mono ?_
    rintro e W6 ⟨rfl, hB6⟩
    go_wp2
    go_ret
    exact ⟨rfl, b5.trans (hB6.mono b5.size)⟩
  · have h1' : ¬ (400 : Int) < (m : Int) := by omega
    go_enter Tryd.func4, Tryd.ntmps4
    go_wp2_with fail
    refine (cF _ HL.out).mono ?_
    rintro e W0 ⟨⟨v0, rfl, hf0⟩, hw⟩
    rw [hw]
    clear hw W0
    go_wp2_with fail
    refine (cC v0 w (hf0 w HL.out)).mono ?_
    rintro e W1 ⟨⟨x1, rfl, k1⟩, hB1⟩
    have hs1 := hB1.size
    go_wp2_with fail
    refine (cF _ (HL.out.below hB1 (Nat.le_refl _))).mono ?_
    rintro e W0 ⟨⟨v2, rfl, hf2⟩, hw⟩
    rw [hw]
    clear hw W0
    go_wp2_with fail
    refine (cD v2 W1 (hf2 W1 (HL.out.below hB1 (Nat.le_refl _)))).mono ?_
    rintro e W2 ⟨⟨x2, rfl, k2⟩, hB2⟩
    replace k1 := k1.below hB2 (Nat.le_refl _)
    have b2 := hB1.trans (hB2.mono hs1)
    go_wp2_with fail
    refine (cR' _ (HB.out.below b2 (Nat.le_refl _))).mono ?_
    rintro e W3 ⟨⟨x3, rfl, k3⟩, hB3⟩
    replace k1 := k1.below hB3 (Nat.le_refl _)
    replace k2 := k2.below hB3 (Nat.le_refl _)
    have b3 := b2.trans (hB3.mono b2.size)
    go_wp2_with fail
    refine (cS' _ (HB.out.below b3 (Nat.le_refl _))).mono ?_
    rintro e W4 ⟨⟨x4, rfl, k4⟩, hB4⟩
    replace k1 := k1.below hB4 (Nat.le_refl _)
    replace k2 := k2.below hB4 (Nat.le_refl _)
    replace k3 := k3.below hB4 (Nat.le_refl _)
    have b4 := b3.trans (hB4.mono b3.size)
    clear cF cC cD cR' cS' hB1 hB2 hB3 hB4 b2 b3 hf0 hf2
    go_wp2_with fail
    refine (cV _ (hW.later b4) (hT.later b4) (hP.later b4)).mono ?_
    rintro e W5 ⟨rfl, hB5⟩
    have t1 := (k1.below hB5 (Nat.le_refl _)).text
    have t2 := (k2.below hB5 (Nat.le_refl _)).text
    replace k3 := k3.below hB5 (Nat.le_refl _)
    replace k4 := k4.below hB5 (Nat.le_refl _)
    have b5 := b4.trans (hB5.mono b4.size)
    clear k1 k2 cV hB5 b4
    go_wp2_with fail
    refine (cE x3 x4 _ k3 k4).mono ?_
    rintro e W6 ⟨rfl, hB6⟩
    go_wp2
    go_ret
    exact ⟨rfl, b5.trans (hB6.mono b5.size)⟩
theorem many_walk (v : Value) (l : List (Int × Int × Int × Int)) (vb : Value) (bs : List UInt8) (w : World) (hl : Inss w v l) (hO : ∀ i ∈ l, InsOk4 i) (hcap : ∀ a n c, v = .slice a n c → n ≤ c) (hb : Bts w vb bs) (hW : Wds w) (hT : Tabs w) (hP : Pow w) :
    Calls Tryd.prog 4 #[v, vb] w fun e w' => e = .returned (.bool true) ∧ Below w.heap.size w w' := by
  obtain ⟨a, cap, rfl, hc, hm, _⟩ := id hb
  by_cases h : 400 < bs.length
  · exact many_of v l a bs.length 400 cap (bs.take 400) w hl hO hcap (.inl ⟨h, rfl, hc⟩) (hb.take400 400 (by omega)) (by rw [List.length_take]; omega) hW hT hP
  · exact many_of v l a bs.length bs.length cap bs w hl hO hcap (.inr ⟨h, rfl⟩) hb (by omega) hW hT hP
end Go.Proofs.YteoappoacapdhaaDoor
