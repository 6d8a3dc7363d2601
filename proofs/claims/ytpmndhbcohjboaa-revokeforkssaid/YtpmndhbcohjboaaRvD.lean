/- The program's part: a row in two. -/
import Derived.Test.YtpmndhbcohjboaaRvC
namespace Go.Proofs.Ytpmndhbcohjboaa
open Go.RowKit Go.Maps
set_option linter.unusedVariables false
set_option maxRecDepth 100000
theorem RowO.ne_cl {w : World} {B : Nat} {e t : TypeId} {size n b : Nat} {v : Value} {xs c : List Value} (h : RowO w B e size v n xs) (k : Cl w b t c) (ht : e ≠ t) : v.ownBlock ≠ some b := fun hb => by
  obtain ⟨cur, hc⟩ := h.kind b hb
  have := hc.symm.trans k
  injection this with this
  injection this with _ this
  exact ht this
theorem RowO.ne_row {w : World} {B C : Nat} {e t : TypeId} {s s' n n' g : Nat} {v v' : Value} {xs xs' : List Value} (h : RowO w B e s v n xs) (k : RowO w C t s' v' n' xs') (ht : e ≠ t) (hg : v.ownBlock = some g) : v'.ownBlock ≠ some g := fun hb => by
  obtain ⟨cur, hc⟩ := h.kind g hg
  obtain ⟨cur', hc'⟩ := k.kind g hb
  have := hc.symm.trans hc'
  injection this with this
  injection this with _ this
  exact ht this
theorem dCs_len (L : List Dm) : (dCs L).length = L.length * 2 := by
  induction L with
  | nil => rfl
  | cons d L ih =>
    show (dC d ++ dCs L).length = _
    rw [List.length_append, ih, List.length_cons]
    simp only [dC, List.length_cons, List.length_nil]
    omega
theorem dCs_at : ∀ (L : List Dm) (k : Nat) (d : Dm), L[k]? = some d → (dCs L)[k * 2]? = some (.int .u8 d.1) ∧ (dCs L)[k * 2 + 1]? = some (.int .u8 d.2.1)
  | [], k, d, h => by cases h
  | e :: L, 0, d, h => by
    simp only [List.getElem?_cons_zero, Option.some.injEq] at h
    subst h
    exact ⟨rfl, rfl⟩
  | e :: L, k + 1, d, h => by
    have := dCs_at L k d (by simpa using h)
    have e1 : (k + 1) * 2 = k * 2 + 1 + 1 := by omega
    rw [e1]
    exact this
theorem dCs_one (L : List Dm) : ∀ u ∈ dCs L, u.oneCell' = true := fun u hu => by
  obtain ⟨d, _, hd⟩ := List.mem_flatMap.1 hu
  simp only [dC, List.mem_cons, List.not_mem_nil, or_false] at hd
  rcases hd with rfl | rfl <;> rfl
theorem filter_take {p : Dm → Bool} {L : List Dm} {k : Nat} (h : k < L.length) : (L.take (k + 1)).filter p = (L.take k).filter p ++ (if p L[k] then [L[k]] else []) := by
  rw [List.take_succ_eq_append_getElem h, List.filter_append]
  congr 1
  by_cases hp : p L[k] <;> simp [hp]
/-- A function value tells of each frame that is asked back whether it is so. -/
def PredD (g : Nat) (cs : Array Value) (p : Dm → Bool) (L : List Dm) (w : World) : Prop :=
  ∀ (W : World) (d : Dm), d ∈ L → Below w.heap.size w W → Calls Try.prog g (#[dkV d.1 d.2.1] ++ cs) W fun e w' => e = .returned (.bool (p d)) ∧ Below W.heap.size W w'
structure PartI (w wr : World) (L : List Dm) (p : Dm → Bool) (kk : Nat) : Prop where
  out : ∃ v1 v2, Cl wr w.heap.size 56 [v1] ∧ Cl wr (w.heap.size + 1) 56 [v2] ∧
    RowO wr w.heap.size 63 2 v1 ((L.take kk).filter p).length (dCs ((L.take kk).filter p)) ∧ RowO wr w.heap.size 63 2 v2 ((L.take kk).filter (fun d => !p d)).length (dCs ((L.take kk).filter (fun d => !p d))) ∧
    (∀ g, v1.ownBlock = some g → v2.ownBlock ≠ some g) ∧ Below w.heap.size w wr
theorem PartI.below {w wr W : World} {L : List Dm} {p : Dm → Bool} {kk : Nat} (h : PartI w wr L p kk) (k : Below wr.heap.size wr W) : PartI w W L p kk := by
  obtain ⟨v1, v2, h1, h2, h3, h4, h5, h6⟩ := h.out
  exact ⟨v1, v2, h1.below k, h2.below k, h3.below k, h4.below k, h5, h6.trans (k.mono h6.size)⟩
theorem PartI.size {w wr : World} {L : List Dm} {p : Dm → Bool} {kk : Nat} (h : PartI w wr L p kk) : w.heap.size + 1 < wr.heap.size := by
  obtain ⟨v1, v2, h1, h2, h3, h4, h5, h6⟩ := h.out
  exact h2.lt
theorem PartI.start (w : World) (L : List Dm) (p : Dm → Bool) : PartI w ((w.alloc (.cells #[.slice none 0 0] 56)).alloc (.cells #[.slice none 0 0] 56)) L p 0 := by
  have e2 := Cl.new (w.alloc (.cells #[.slice none 0 0] 56)) 56 [.slice none 0 0]
  rw [World.size_alloc] at e2
  exact ⟨.slice none 0 0, .slice none 0 0, (Cl.new w _ [.slice none 0 0]).alloc _, e2, RowO.nil _ _ _ _, RowO.nil _ _ _ _, (fun g h => by cases h), (below_new w _).trans ((below_new _ _).mono (below_new w _).size)⟩
theorem PartI.yes {w wr : World} {L : List Dm} {p : Dm → Bool} {kk : Nat} (h : PartI w wr L p kk) (hk : kk < L.length) (hp : p L[kk] = true) (hl : L.length ≤ 100) : Calls Try.prog 31 #[.pointer (some ⟨w.heap.size, 0, none⟩), dkV L[kk].1 L[kk].2.1] wr fun e w' => e = .returned (.tuple #[]) ∧ PartI w w' L p (kk + 1) := by
  obtain ⟨v1, v2, h1, h2, h3, h4, h5, h6⟩ := h.out
  have n1 := h3.ne_cl h1 (by decide)
  have n2 := h3.ne_cl h2 (by decide)
  have hlen : ((L.take kk).filter p).length ≤ kk := Nat.le_trans (List.length_filter_le _ _) (by rw [List.length_take]; omega)
  refine (add_d w.heap.size w.heap.size 0 _ [v1] v1 _ _ L[kk].1 L[kk].2.1 wr h1 rfl h3 n1 (by omega) h6.size).mono ?_
  rintro e W ⟨he, hR⟩
  refine ⟨he, ?_⟩
  obtain ⟨v', g1, g2, g3, g4⟩ := hR.out
  have hX : ∀ g, v2.ownBlock = some g → ¬ (g = w.heap.size ∨ some g = v1.ownBlock) := fun g hg e => by
    rcases e with e | e
    · subst e
      exact h4.ne_cl h1 (by decide) hg
    · exact h5 g e.symm hg
  refine ⟨v', v2, g1, h2.stay g3 (fun e => by rcases e with e | e; · omega
                                              · exact n2 e.symm), ?_, ?_, ?_, ?_⟩
  · rw [filter_take hk, if_pos hp, dCs_append, List.length_append]
    exact g2
  · rw [filter_take hk, if_neg (by simp [hp]), List.append_nil]
    exact h4.stay g3 hX
  · intro g hg hg2
    rcases g4 with e | ⟨g', hg', e⟩
    · exact h5 g (e.symm.trans hg) hg2
    · rw [e] at hg
      have := Option.some.inj hg
      have := (h4.lt g hg2).2
      omega
  · exact h6.trans (g3.below w.heap.size (fun k e => by
      rcases e with e | e
      · omega
      · exact (h3.lt k e.symm).1) h6.size)
theorem PartI.no {w wr : World} {L : List Dm} {p : Dm → Bool} {kk : Nat} (h : PartI w wr L p kk) (hk : kk < L.length) (hp : p L[kk] = false) (hl : L.length ≤ 100) : Calls Try.prog 31 #[.pointer (some ⟨w.heap.size + 1, 0, none⟩), dkV L[kk].1 L[kk].2.1] wr fun e w' => e = .returned (.tuple #[]) ∧ PartI w w' L p (kk + 1) := by
  obtain ⟨v1, v2, h1, h2, h3, h4, h5, h6⟩ := h.out
  have n1 := h4.ne_cl h1 (by decide)
  have n2 := h4.ne_cl h2 (by decide)
  have hlen : ((L.take kk).filter (fun d => !p d)).length ≤ kk := Nat.le_trans (List.length_filter_le _ _) (by rw [List.length_take]; omega)
  refine (add_d w.heap.size (w.heap.size + 1) 0 _ [v2] v2 _ _ L[kk].1 L[kk].2.1 wr h2 rfl h4 n2 (by omega) h6.size).mono ?_
  rintro e W ⟨he, hR⟩
  refine ⟨he, ?_⟩
  obtain ⟨v', g1, g2, g3, g4⟩ := hR.out
  have hX : ∀ g, v1.ownBlock = some g → ¬ (g = w.heap.size + 1 ∨ some g = v2.ownBlock) := fun g hg e => by
    rcases e with e | e
    · subst e
      exact h3.ne_cl h2 (by decide) hg
    · exact h5 g hg e.symm
  refine ⟨v1, v', h1.stay g3 (fun e => by rcases e with e | e; · omega
                                          · exact n1 e.symm), g1, ?_, ?_, ?_, ?_⟩
  · rw [filter_take hk, if_neg (by simp [hp]), List.append_nil]
    exact h3.stay g3 hX
  · rw [filter_take hk, if_pos (by simp [hp]), dCs_append, List.length_append]
    exact g2
  · intro g hg hg2
    rcases g4 with e | ⟨g', hg', e⟩
    · exact h5 g hg (e.symm.trans hg2)
    · rw [e] at hg2
      have := Option.some.inj hg2
      have := (h3.lt g hg).2
      omega
  · exact h6.trans (g3.below w.heap.size (fun k e => by
      rcases e with e | e
      · omega
      · exact (h4.lt k e.symm).1) h6.size)
theorem PartI.cells {w wr : World} {L : List Dm} {p : Dm → Bool} (h : PartI w wr L p L.length) : ∃ v1 v2 a1 c1 a2 c2, v1 = .slice a1 (L.filter p).length c1 ∧ v2 = .slice a2 (L.filter (fun d => !p d)).length c2 ∧ Cl wr w.heap.size 56 [v1] ∧ Cl wr (w.heap.size + 1) 56 [v2] ∧ RowO wr w.heap.size 63 2 v1 (L.filter p).length (dCs (L.filter p)) ∧ RowO wr w.heap.size 63 2 v2 (L.filter (fun d => !p d)).length (dCs (L.filter (fun d => !p d))) ∧ (∀ g, v1.ownBlock = some g → v2.ownBlock ≠ some g) ∧ Below w.heap.size w wr := by
  obtain ⟨v1, v2, h1, h2, h3, h4, h5, h6⟩ := h.out
  rw [List.take_length] at h3 h4
  obtain ⟨a1, c1, e1⟩ := h3.sl
  obtain ⟨a2, c2, e2⟩ := h4.sl
  exact ⟨v1, v2, a1, c1, a2, c2, e1, e2, h1, h2, h3, h4, h5, h6⟩
/-- What part comes to. -/
structure PartR (w W : World) (L : List Dm) (p : Dm → Bool) (v1 v2 : Value) : Prop where
  a : RowO W w.heap.size 63 2 v1 (L.filter p).length (dCs (L.filter p))
  b : RowO W w.heap.size 63 2 v2 (L.filter (fun d => !p d)).length (dCs (L.filter (fun d => !p d)))
  c : Below w.heap.size w W
theorem PartI.fin {w wr : World} {L : List Dm} {p : Dm → Bool} {v1 v2 : Value} (h1 : Cl wr w.heap.size 56 [v1]) (h2 : Cl wr (w.heap.size + 1) 56 [v2]) (h3 : RowO wr w.heap.size 63 2 v1 (L.filter p).length (dCs (L.filter p))) (h4 : RowO wr w.heap.size 63 2 v2 (L.filter (fun d => !p d)).length (dCs (L.filter (fun d => !p d)))) (h6 : Below w.heap.size w wr) :
    PartR w ((wr.setCell ⟨w.heap.size, 0, none⟩ v1).setCell ⟨w.heap.size + 1, 0, none⟩ v2) L p v1 v2 := by
  have hA : Apart (fun k => k = w.heap.size ∨ k = w.heap.size + 1) wr ((wr.setCell ⟨w.heap.size, 0, none⟩ v1).setCell ⟨w.heap.size + 1, 0, none⟩ v2) := (Apart.at wr _ 0 v1 (.inl rfl)).trans (Apart.at _ _ 0 v2 (.inr rfl))
  refine ⟨h3.stay hA ?_, h4.stay hA ?_, h6.trans (hA.below _ (fun k e => by omega) h6.size)⟩
  · intro g hg e
    rcases e with e | e
    · subst e; exact h3.ne_cl h1 (by decide) hg
    · subst e; exact h3.ne_cl h2 (by decide) hg
  · intro g hg e
    rcases e with e | e
    · subst e; exact h4.ne_cl h1 (by decide) hg
    · subst e; exact h4.ne_cl h2 (by decide) hg
set_option maxHeartbeats 4000000 in
theorem part_any (F : Nat) (cs : Array Value) (p : Dm → Bool) (eF : ∀ args w, (callFunc F args).run Try.prog w = .ok (.enter F args) w) (B : Nat) (v : Value) (L : List Dm) (w : World) (hR : RowO w B 63 2 v L.length (dCs L)) (hP : PredD F cs p L w) (hl : L.length ≤ 100) :
    Calls Try.prog 49 #[v, .func (.func F) #[] cs] w fun e w' => ∃ v1 v2, e = .returned (.tuple #[v1, v2]) ∧ PartR w w' L p v1 v2 := by
  obtain ⟨a0, cap0, rfl⟩ := hR.sl
  have HR := Hid3.mk hR
  have HP : Hid3 (PredD F cs p L w) := ⟨hP⟩
  have HL := Hid3.mk hl
  have H0 := Hid3.mk (PartI.start w L p)
  have hsm : ((w.heap.size : Nat) : Int) = w.heap.size := rfl
  clear hR hP
  go_enter Try.func49, Try.ntmps49
  go_wp2
  go_loopw [7, 10] (fun _ s10 wr => ∃ kk : Nat, kk ≤ L.length ∧ s10 = .int .i64 kk ∧ Hid3 (PartI w wr L p kk)) (fun _ s10 _ => L.length - (intOf s10).toNat)
  case atStart => exact ⟨0, Nat.zero_le _, rfl, H0⟩
  case round =>
    obtain ⟨kk, hkk, rfl, HI⟩ := hrel
    clear H0
    by_cases hlt : kk < L.length
    · have hltz : (kk : Int) < (L.length : Int) := by omega
      obtain ⟨g, off, rfl, c0, c1⟩ : ∃ g off, a0 = some ⟨g, off, none⟩ ∧ wr.cell? ⟨g, off + kk * 2, none⟩ = some (.int .u8 L[kk].1) ∧ wr.cell? ⟨g, off + kk * 2 + 1, none⟩ = some (.int .u8 L[kk].2.1) := by
        rcases HR.out.form with ⟨_, h, _⟩ | ⟨g, off, cap, h, _, _, hg, hc⟩
        · omega
        · injection h with h _ _
          obtain ⟨_, _, _, _, _, _, _, hB⟩ := HI.out.out
          obtain ⟨d1, d2⟩ := dCs_at L kk L[kk] (List.getElem?_eq_getElem hlt)
          exact ⟨g, off, h, (hB.cell hg).trans (hc _ _ d1), (hB.cell hg).trans (hc _ _ d2)⟩
      have hgl : g < wr.heap.size := World.block_lt_of_cell? wr _ c0
      have hws := HI.out.size
      have HB2 : Below wr.heap.size wr (wr.alloc (.cells #[.int .u8 L[kk].1, .int .u8 L[kk].2.1] 63)) := below_new _ _
      have hcl := Cl.new wr 63 [.int .u8 L[kk].1, .int .u8 L[kk].2.1]
      have HI2 := Hid3.mk (HI.out.below HB2)
      have hcall := HP.out (wr.alloc (.cells #[.int .u8 L[kk].1, .int .u8 L[kk].2.1] 63)) L[kk] (List.getElem_mem hlt) (by obtain ⟨_, _, _, _, _, _, _, hB⟩ := HI2.out.out; exact hB)
      have HC := Hid3.mk hcl
      have hY := fun W (hW : PartI w W L p kk) (hp : p L[kk] = true) => hW.yes hlt hp HL.out
      have hN := fun W (hW : PartI w W L p kk) (hp : p L[kk] = false) => hW.no hlt hp HL.out
      unfold dkV at hcall hY hN
      have hlt2 : wr.heap.size < (wr.alloc (.cells #[.int .u8 L[kk].1, .int .u8 L[kk].2.1] 63)).heap.size := by simp
      generalize L[kk].1 = x at *
      generalize L[kk].2.1 = y at *
      clear hcl HB2
      cases hq : p L[kk] with
      | true =>
        rw [hq] at hcall
        have hY2 := fun W hW => hY W hW hq
        clear hY hN hq
        go_wp2_with (go_at_fn F; refine hcall.mono ?_; rintro e W2 ⟨rfl, hb'⟩; have HI3 := Hid3.mk (HI2.out.below hb'); have hc3 := HC.out.below hb'; have u0 : W2.cell? ⟨wr.heap.size, 0, none⟩ = some (.int .u8 x) := hc3.cell 0; have u1 : W2.cell? ⟨wr.heap.size, 1, none⟩ = some (.int .u8 y) := hc3.cell 1; have hY3 := hY2 W2 HI3.out; clear hb' hc3 hcall hY2)
        refine hY3.mono ?_
        rintro e W3 ⟨rfl, hI⟩
        have HI4 := Hid3.mk hI
        clear hI hY3
        go_wp2
        go_roundw
        case rel => exact ⟨kk + 1, by omega, by go_num, HI4⟩
        case measure => simp [intOf]; omega
      | false =>
        rw [hq] at hcall
        have hN2 := fun W hW => hN W hW hq
        clear hY hN hq
        go_wp2_with (go_at_fn F; refine hcall.mono ?_; rintro e W2 ⟨rfl, hb'⟩; have HI3 := Hid3.mk (HI2.out.below hb'); have hc3 := HC.out.below hb'; have u0 : W2.cell? ⟨wr.heap.size, 0, none⟩ = some (.int .u8 x) := hc3.cell 0; have u1 : W2.cell? ⟨wr.heap.size, 1, none⟩ = some (.int .u8 y) := hc3.cell 1; have hN3 := hN2 W2 HI3.out; clear hb' hc3 hcall hN2)
        refine hN3.mono ?_
        rintro e W3 ⟨rfl, hI⟩
        have HI4 := Hid3.mk hI
        clear hI hN3
        go_wp2
        go_roundw
        case rel => exact ⟨kk + 1, by omega, by go_num, HI4⟩
        case measure => simp [intOf]; omega
    · have hltz : ¬ (kk : Int) < (L.length : Int) := by omega
      obtain rfl : kk = L.length := by omega
      obtain ⟨v1, v2, a1, c1, a2, c2, rfl, rfl, g1, g2, g3, g4, g5, g6⟩ := HI.out.cells
      have HF := Hid3.mk (PartI.fin g1 g2 g3 g4 g6)
      have u0 : wr.cell? ⟨w.heap.size, 0, none⟩ = some (.slice a1 (L.filter p).length c1) := g1.cell 0
      have u1 : wr.cell? ⟨w.heap.size + 1, 0, none⟩ = some (.slice a2 (L.filter (fun d => !p d)).length c2) := g2.cell 0
      have f0 := g1.thaw 0
      have f1 := g2.thaw 0
      have k1 := g1.lt
      have k2 := g2.lt
      have E0 : ((wr.setCell ⟨w.heap.size, 0, none⟩ (.slice a1 (L.filter p).length c1)).setCell ⟨w.heap.size + 1, 0, none⟩ (.slice a2 (L.filter (fun d => !p d)).length c2)).cell? ⟨w.heap.size, 0, none⟩ = some (.slice a1 (L.filter p).length c1) := ((g1.set 0 _).other (by omega) 0 _).cell 0
      have E1 : ((wr.setCell ⟨w.heap.size, 0, none⟩ (.slice a1 (L.filter p).length c1)).setCell ⟨w.heap.size + 1, 0, none⟩ (.slice a2 (L.filter (fun d => !p d)).length c2)).cell? ⟨w.heap.size + 1, 0, none⟩ = some (.slice a2 (L.filter (fun d => !p d)).length c2) := ((g2.other (by omega) 0 _).set 0 _).cell 0
      clear g1 g2 g3 g4 g5 g6 HI
      generalize (L.filter p).length = n1 at *
      generalize (L.filter (fun d => !p d)).length = n2 at *
      go_wp2
      refine bodyPost_ret (v := .tuple #[.slice a1 n1 c1, .slice a2 n2 c2]) (by simp [results, Try.results49, go_sem, E0, E1]) rfl ⟨_, _, rfl, HF.out⟩
end Go.Proofs.Ytpmndhbcohjboaa
