/- The program's registry alone: what is kept, Clear, Frames, how many are held. -/
import Derived.Test.YtknmbecabgencaaRgG
namespace Go.Proofs.Ytknmbecabgencaa
open Go.RowKit Go.Maps
set_option linter.unusedVariables false
set_option maxRecDepth 100000
theorem natOf {f : Int} (h0 : 0 ≤ f) : ∃ i : Nat, f = i := ⟨f.toNat, by omega⟩
theorem ct_some {q : St} {f : Int} (hq : q.Ok) (h : ctE q.C f = 0) : f < 64 ∧ ∃ c, q.C f = some c ∧ ctC q.C f = c ∧ 0 ≤ c.1 ∧ c.1 < 64 := by
  unfold ctE at h
  unfold ctC
  by_cases h6 : 64 ≤ f
  · rw [if_pos h6] at h
    omega
  · rw [if_neg h6] at h
    rw [if_neg h6]
    cases e : q.C f with
    | none => rw [e] at h; simp at h
    | some c =>
      obtain ⟨_, _, h3, h4, _⟩ := hq.c f c.1 c.2 e
      exact ⟨by omega, c, rfl, rfl, h3, h4⟩
theorem ok0 : q0.Ok := ⟨fun f s b h => (by cases h), fun s f h => (by cases h)⟩
theorem St.Ok.holds {q : St} (hq : q.Ok) (f : Int) (c : Int × Bool) (f0 : 0 ≤ f) (f1 : f < 64) (c0 : 0 ≤ c.1) (c1 : c.1 < 64) (h1 : ∀ c', q.C f = some c' → c'.1 = c.1) (h2 : ∀ g, q.F c.1 = some g → g = f) : (q.hold f c).Ok := by
  refine ⟨fun f' s b h => ?_, fun s f' h => ?_⟩
  · change upI q.C f (some c) f' = _ at h
    show _ ∧ _ ∧ _ ∧ _ ∧ upI q.F c.1 (some f) s = some f'
    unfold upI at h ⊢
    by_cases e : f' = f
    · subst e
      rw [if_pos rfl] at h
      cases h
      exact ⟨f0, f1, c0, c1, if_pos rfl⟩
    · rw [if_neg e] at h
      obtain ⟨a1, a2, a3, a4, a5⟩ := hq.c f' s b h
      refine ⟨a1, a2, a3, a4, ?_⟩
      rw [if_neg (fun es => e (h2 f' (by rw [← es]; exact a5)))]
      exact a5
  · change upI q.F c.1 (some f) s = _ at h
    show ∃ b, upI q.C f (some c) f' = _
    unfold upI at h ⊢
    by_cases e : s = c.1
    · subst e
      rw [if_pos rfl] at h
      cases h
      exact ⟨c.2, if_pos rfl⟩
    · rw [if_neg e] at h
      obtain ⟨b, hb⟩ := hq.f s f' h
      refine ⟨b, ?_⟩
      rw [if_neg (fun es => e (h1 (s, b) (by rw [← es]; exact hb)))]
      exact hb
theorem St.Ok.leaves {q : St} (hq : q.Ok) (f : Int) (c : Int × Bool) (h : q.C f = some c) : (q.leave f c).Ok := by
  obtain ⟨_, _, _, _, hF⟩ := hq.c f c.1 c.2 h
  refine ⟨fun f' s b k => ?_, fun s f' k => ?_⟩
  · change upI q.C f none f' = _ at k
    show _ ∧ _ ∧ _ ∧ _ ∧ upI q.F c.1 none s = some f'
    unfold upI at k ⊢
    by_cases e : f' = f
    · rw [if_pos e] at k
      cases k
    · rw [if_neg e] at k
      obtain ⟨a1, a2, a3, a4, a5⟩ := hq.c f' s b k
      refine ⟨a1, a2, a3, a4, ?_⟩
      rw [if_neg (fun es => by rw [es, hF] at a5; cases a5; exact e rfl)]
      exact a5
  · change upI q.F c.1 none s = _ at k
    show ∃ b, upI q.C f none f' = _
    unfold upI at k ⊢
    by_cases e : s = c.1
    · rw [if_pos e] at k
      cases k
    · rw [if_neg e] at k
      obtain ⟨b, hb⟩ := hq.f s f' k
      refine ⟨b, ?_⟩
      rw [if_neg (fun es => by rw [es, h] at hb; cases hb; exact e rfl)]
      exact hb
theorem bind_ok {q : St} (hq : q.Ok) (f s : Int) (h0 : 0 ≤ f) : (bindQ f s q).Ok := by
  unfold bindQ
  by_cases e : bindE f s q = 0
  · rw [if_pos e]
    unfold bindE at e
    by_cases h6 : 64 ≤ f
    · rw [if_pos h6] at e; omega
    rw [if_neg h6] at e
    by_cases hs : s < 0 ∨ 64 ≤ s
    · rw [if_pos hs] at e; omega
    rw [if_neg hs] at e
    by_cases hx : (q.C f).isSome = true ∨ (q.F s).isSome = true
    · rw [if_pos hx] at e; omega
    refine hq.holds f (s, false) h0 (by omega) (by show 0 ≤ s; omega) (by show s < 64; omega) (fun c' hc => (hx (.inl (by rw [hc]; rfl))).elim) (fun g hg => (hx (.inr ?_)).elim)
    have hg : q.F s = some g := hg
    rw [hg]
    rfl
  · rw [if_neg e]
    exact hq
theorem ct_none {q : St} {f : Int} (h6 : f < 64) (h : ctE q.C f ≠ 0) : q.C f = none := by
  unfold ctE at h
  rw [if_neg (by omega)] at h
  cases e : q.C f with
  | none => rfl
  | some c => rw [e] at h; exact (h rfl).elim
theorem mo_ok {q : St} (hq : q.Ok) (f t : Int) (h0 : 0 ≤ f) (h1 : 0 ≤ t) : (moQ f t q).Ok := by
  unfold moQ
  by_cases e : moE f t q = 0
  · rw [if_pos e]
    unfold moE at e
    by_cases h6 : 64 ≤ t
    · rw [if_pos h6] at e; omega
    rw [if_neg h6] at e
    by_cases hf : ctE q.C f = 0
    · rw [if_pos hf] at e
      by_cases ht : ctE q.C t = 0
      · rw [if_pos ht] at e; omega
      obtain ⟨_, c, hc, hcc, c0, c1⟩ := ct_some hq hf
      rw [hcc]
      have hn := ct_none (q := q) (f := t) (by omega) ht
      refine (hq.leaves f c hc).holds t c h1 (by omega) c0 c1 (fun c' hc' => ?_) (fun g hg => ?_)
      · change upI q.C f none t = _ at hc'
        unfold upI at hc'
        rw [hn] at hc'
        split at hc' <;> cases hc'
      · change upI q.F c.1 none c.1 = _ at hg
        unfold upI at hg
        rw [if_pos rfl] at hg
        cases hg
    · rw [if_neg hf] at e
      exact (hf e).elim
  · rw [if_neg e]
    exact hq
def clQ (f : Int) (q : St) : St := if ctE q.C f = 0 then q.leave f (ctC q.C f) else q
def clN (f : Int) (q : St) : Int := if ctE q.C f = 0 then 1 else 0
def fx (f g : Int) : Nat → Int
  | 0 => f
  | _ => g
def cq (f g : Int) (q : St) : Nat → St
  | 0 => q
  | k + 1 => clQ (fx f g k) (cq f g q k)
def cn (f g : Int) (q : St) : Nat → Int
  | 0 => 0
  | k + 1 => cn f g q k + clN (fx f g k) (cq f g q k)
theorem cl_ok {q : St} (hq : q.Ok) (f : Int) : (clQ f q).Ok := by
  unfold clQ
  by_cases h : ctE q.C f = 0
  · obtain ⟨_, c, hc, hcc, _⟩ := ct_some hq h
    rw [if_pos h, hcc]
    exact hq.leaves f c hc
  · rw [if_neg h]
    exact hq
theorem cq_ok {q : St} (hq : q.Ok) (f g : Int) : ∀ k, (cq f g q k).Ok
  | 0 => hq
  | k + 1 => cl_ok (cq_ok hq f g k) _
theorem cn_le (f g : Int) (q : St) : ∀ k : Nat, 0 ≤ cn f g q k ∧ cn f g q k ≤ k
  | 0 => ⟨Int.le_refl _, Int.le_refl _⟩
  | k + 1 => by
    have := cn_le f g q k
    show 0 ≤ cn f g q k + clN (fx f g k) (cq f g q k) ∧ cn f g q k + clN (fx f g k) (cq f g q k) ≤ ((k + 1 : Nat) : Int)
    unfold clN
    split <;> omega
set_option maxHeartbeats 4000000 in
theorem clear_any (B b rc rf x : Nat) (q : St) (f g : Int) (w : World) (h : RgS B w b rc rf q) (hx : ¬ XR rc rf x) (c0 : w.cell? ⟨x, 0, none⟩ = some (.int .u8 f)) (c1 : w.cell? ⟨x, 1, none⟩ = some (.int .u8 g)) : Calls Try.prog 7 #[.pointer (some ⟨b, 0, none⟩), .slice (some ⟨x, 0, none⟩) 2 2] w fun r w' => r = .returned (.int .i64 (cn f g q 2)) ∧ StpS B w w' b rc rf (cq f g q 2) := by
  have H0 := Hid3.mk h
  have HC0 := Hid3.mk c0
  have HC1 := Hid3.mk c1
  clear h c0 c1
  go_enter Try.func7, Try.ntmps7
  go_wp2_with fail
  go_loopw [5, 12] (fun s5 s12 wr => ∃ k : Nat, k ≤ 2 ∧ s12 = .int .i64 k ∧ s5 = .int .i64 (cn f g q k) ∧ Hid3 (StpS B w wr b rc rf (cq f g q k))) (fun _ s _ => 2 - (intOf s).toNat)
  case atStart => exact ⟨0, by omega, rfl, rfl, ⟨RStp.same H0.out (Below.refl _ _)⟩⟩
  case round =>
    obtain ⟨k, hk, rfl, rfl, HS⟩ := hrel
    by_cases e0 : k = 0
    · subst e0
      have hcr : wr.cell? ⟨x, 0, none⟩ = some (.int .u8 f) := by
        rw [World.cell?_of_block (w := w) (HS.out.ap.block x (World.block_lt_of_cell? w _ HC0.out) hx)]
        exact HC0.out
      have cC := content_any B b rc rf _ _ f wr HS.out.a
      have cL := fun W (hW : RgS B W b rc rf (cq f g q 0)) => leave_any B b rc rf _ _ f (ctC (cq f g q 0).C f) W hW
      have hn := cn_le f g q 0
      have EQ : cq f g q 1 = if ctE (cq f g q 0).C f = 0 then (cq f g q 0).leave f (ctC (cq f g q 0).C f) else cq f g q 0 := rfl
      have EN : cn f g q 1 = cn f g q 0 + (if ctE (cq f g q 0).C f = 0 then 1 else 0) := rfl
      generalize cq f g q 0 = p at *
      generalize cn f g q 0 = n at *
      generalize ctC p.C f = cc at *
      generalize ctE p.C f = ce at *
      obtain ⟨cs, cb⟩ := cc
      have hwn : IntKind.i64.wrap (n + 1) = n + 1 := by rw [IntKind.wrap_i64]; omega
      by_cases h0 : ce = 0
      · subst h0
        rw [if_pos rfl] at EQ EN
        have hEQ := Hid3.mk EQ
        have hEN := Hid3.mk EN
        unfold cV at cC cL
        simp only at cL
        clear EQ EN
        go_wp2_with fail
        refine cC.mono ?_
        rintro r W ⟨rfl, hB⟩
        have hX := hB.trans ((below_new W (.cells #[.int .i64 cs, .bool cb] 44)).mono hB.size)
        have hS2 := RStp.trans HS.out (RStp.same HS.out.a hX)
        have cL2 := cL _ hS2.a
        have HS2 := Hid3.mk hS2
        have HC := Cl.new W 44 [.int .i64 cs, .bool cb]
        have y0 := HC.cell 0
        have y1 := HC.cell 1
        have yl := HC.lt
        simp only [List.getElem?_cons_zero, List.getElem?_cons_succ] at y0 y1
        clear hB cC cL hX hS2 HC
        go_wp2_with fail
        refine cL2.mono ?_
        rintro r W2 ⟨rfl, hS3⟩
        have HS3 : Hid3 (StpS B w W2 b rc rf (cq f g q 1)) := ⟨by rw [hEQ.out]; exact RStp.trans HS2.out hS3⟩
        clear cL2 hS3 HS2 y0 y1 yl
        go_wp2
        go_roundw
        case rel => exact ⟨1, by omega, by go_num, by rw [hEN.out], HS3⟩
        case measure => simp [intOf]
      · rw [if_neg h0] at EQ EN
        have hEQ := Hid3.mk EQ
        have hEN := Hid3.mk EN
        have hce : (ce == 0) = false := by simpa using h0
        unfold cV at cC
        clear EQ EN cL
        go_wp2_with fail
        refine cC.mono ?_
        rintro r W ⟨rfl, hB⟩
        have hX := hB.trans ((below_new W (.cells #[.int .i64 cs, .bool cb] 44)).mono hB.size)
        have HS3 : Hid3 (StpS B w (W.alloc (.cells #[.int .i64 cs, .bool cb] 44)) b rc rf (cq f g q 1)) := ⟨by rw [hEQ.out]; exact RStp.trans HS.out (RStp.same HS.out.a hX)⟩
        clear hB cC hX
        go_wp2
        go_roundw
        case rel => exact ⟨1, by omega, by go_num, by rw [hEN.out, Int.add_zero], HS3⟩
        case measure => simp [intOf]
    by_cases e1 : k = 1
    · subst e1
      have hcr : wr.cell? ⟨x, 1, none⟩ = some (.int .u8 g) := by
        rw [World.cell?_of_block (w := w) (HS.out.ap.block x (World.block_lt_of_cell? w _ HC1.out) hx)]
        exact HC1.out
      have cC := content_any B b rc rf _ _ g wr HS.out.a
      have cL := fun W (hW : RgS B W b rc rf (cq f g q 1)) => leave_any B b rc rf _ _ g (ctC (cq f g q 1).C g) W hW
      have hn := cn_le f g q 1
      have EQ : cq f g q 2 = if ctE (cq f g q 1).C g = 0 then (cq f g q 1).leave g (ctC (cq f g q 1).C g) else cq f g q 1 := rfl
      have EN : cn f g q 2 = cn f g q 1 + (if ctE (cq f g q 1).C g = 0 then 1 else 0) := rfl
      generalize cq f g q 1 = p at *
      generalize cn f g q 1 = n at *
      generalize ctC p.C g = cc at *
      generalize ctE p.C g = ce at *
      obtain ⟨cs, cb⟩ := cc
      have hwn : IntKind.i64.wrap (n + 1) = n + 1 := by rw [IntKind.wrap_i64]; omega
      by_cases h0 : ce = 0
      · subst h0
        rw [if_pos rfl] at EQ EN
        have hEQ := Hid3.mk EQ
        have hEN := Hid3.mk EN
        unfold cV at cC cL
        simp only at cL
        clear EQ EN
        go_wp2_with fail
        refine cC.mono ?_
        rintro r W ⟨rfl, hB⟩
        have hX := hB.trans ((below_new W (.cells #[.int .i64 cs, .bool cb] 44)).mono hB.size)
        have hS2 := RStp.trans HS.out (RStp.same HS.out.a hX)
        have cL2 := cL _ hS2.a
        have HS2 := Hid3.mk hS2
        have HC := Cl.new W 44 [.int .i64 cs, .bool cb]
        have y0 := HC.cell 0
        have y1 := HC.cell 1
        have yl := HC.lt
        simp only [List.getElem?_cons_zero, List.getElem?_cons_succ] at y0 y1
        clear hB cC cL hX hS2 HC
        go_wp2_with fail
        refine cL2.mono ?_
        rintro r W2 ⟨rfl, hS3⟩
        have HS3 : Hid3 (StpS B w W2 b rc rf (cq f g q 2)) := ⟨by rw [hEQ.out]; exact RStp.trans HS2.out hS3⟩
        clear cL2 hS3 HS2 y0 y1 yl
        go_wp2
        go_roundw
        case rel => exact ⟨2, by omega, by go_num, by rw [hEN.out], HS3⟩
        case measure => simp [intOf]
      · rw [if_neg h0] at EQ EN
        have hEQ := Hid3.mk EQ
        have hEN := Hid3.mk EN
        have hce : (ce == 0) = false := by simpa using h0
        unfold cV at cC
        clear EQ EN cL
        go_wp2_with fail
        refine cC.mono ?_
        rintro r W ⟨rfl, hB⟩
        have hX := hB.trans ((below_new W (.cells #[.int .i64 cs, .bool cb] 44)).mono hB.size)
        have HS3 : Hid3 (StpS B w (W.alloc (.cells #[.int .i64 cs, .bool cb] 44)) b rc rf (cq f g q 2)) := ⟨by rw [hEQ.out]; exact RStp.trans HS.out (RStp.same HS.out.a hX)⟩
        clear hB cC hX
        go_wp2
        go_roundw
        case rel => exact ⟨2, by omega, by go_num, by rw [hEN.out, Int.add_zero], HS3⟩
        case measure => simp [intOf]
    obtain rfl : k = 2 := by omega
    go_wp2
    go_ret
    exact ⟨rfl, HS.out⟩
/-- The frames below k that hold one. -/
def frL (q : St) : Nat → List Int
  | 0 => []
  | k + 1 => frL q k ++ (if (q.C (k : Nat)).isSome then [(k : Int)] else [])
theorem frL_mem (q : St) : ∀ (k : Nat) (f : Int), f ∈ frL q k ↔ ∃ i : Nat, i < k ∧ f = i ∧ (q.C i).isSome = true
  | 0, f => by simp [frL]
  | k + 1, f => by
    unfold frL
    rw [List.mem_append, frL_mem q k f]
    constructor
    · rintro (⟨i, h1, h2, h3⟩ | h)
      · exact ⟨i, by omega, h2, h3⟩
      · split at h
        · rename_i hs
          exact ⟨k, by omega, by simpa using h, hs⟩
        · cases h
    · rintro ⟨i, h1, rfl, h3⟩
      by_cases e : i = k
      · subst e
        right
        rw [if_pos h3]
        simp
      · exact .inl ⟨i, by omega, rfl, h3⟩
theorem frL_lt (q : St) : ∀ k : Nat, (frL q k).Pairwise (· < ·)
  | 0 => List.Pairwise.nil
  | k + 1 => by
    unfold frL
    rw [List.pairwise_append]
    refine ⟨frL_lt q k, by split <;> simp, fun x hx y hy => ?_⟩
    obtain ⟨i, h1, h2, _⟩ := (frL_mem q k x).1 hx
    split at hy
    · have : y = (k : Int) := by simpa using hy
      omega
    · cases hy
theorem frL_len (q : St) : ∀ k : Nat, (frL q k).length ≤ k
  | 0 => Nat.le_refl _
  | k + 1 => by
    have := frL_len q k
    unfold frL
    rw [List.length_append]
    split <;> simp <;> omega
theorem frL_eq {q : St} (hq : q.Ok) {ys : List Int} (h1 : ∀ f, f ∈ ys ↔ (q.C f).isSome = true) (h2 : ys.Nodup) (h3 : ys.Pairwise (· ≤ ·)) : ys = frL q 64 := by
  have hp : ys.Perm (frL q 64) := (List.perm_ext_iff_of_nodup h2 ((frL_lt q 64).imp (fun h => by omega))).2 fun f => by
    rw [h1, frL_mem]
    constructor
    · intro h
      cases e : q.C f with
      | none => rw [e] at h; cases h
      | some c =>
        obtain ⟨a1, a2, _⟩ := hq.c f c.1 c.2 e
        refine ⟨f.toNat, by omega, by omega, ?_⟩
        rw [show ((f.toNat : Nat) : Int) = f by omega, e]
        rfl
    · rintro ⟨i, _, rfl, h⟩
      exact h
  exact hp.eq_of_pairwise (fun a b _ _ x y => by omega) h3 ((frL_lt q 64).imp (fun h => by omega))
theorem frames_any (B b rc rf : Nat) (q : St) (w : World) (h : RgS B w b rc rf q) (hq : q.Ok) : Calls Try.prog 10 #[.pointer (some ⟨b, 0, none⟩)] w fun r w' => ∃ v, r = .returned v ∧ Rd w' w.heap.size v (frL q 64) ∧ Below w.heap.size w w' := by
  refine (frames_of B b rc rf q w h hq).mono ?_
  rintro r w' ⟨v, ys, rfl, h1, h2, h3, h4, h5⟩
  have e := frL_eq hq h1 h2 h3
  generalize frL q 64 = L at e ⊢
  subst e
  refine ⟨v, rfl, ?_, h5⟩
  rcases h4 with h4 | ⟨g, cap, k1, k2, k3⟩
  · exact .inl h4
  · exact .inr ⟨g, cap, k1, by omega, k3⟩
theorem Rd.below {w w' : World} {base : Nat} {v : Value} {ys : List Int} (h : Rd w base v ys) (k : Below w.heap.size w w') : Rd w' base v ys := by
  rcases h with h | ⟨g, cap, h1, h2, h3⟩
  · exact .inl h
  · exact .inr ⟨g, cap, h1, h2, h3.below k⟩
/-- The program's registry, and the world below it as it was. -/
structure Kp (w W : World) (b rc rf : Nat) (q : St) : Prop where
  r : RgS w.heap.size W b rc rf q
  bl : Below w.heap.size w W
theorem Kp.below {w W W' : World} {b rc rf : Nat} {q : St} (h : Kp w W b rc rf q) (k : Below W.heap.size W W') : Kp w W' b rc rf q := ⟨h.r.below k, h.bl.trans (k.mono h.bl.size)⟩
theorem Kp.step {w W W' : World} {b rc rf : Nat} {q q' : St} (h : Kp w W b rc rf q) (k : StpS w.heap.size W W' b rc rf q') : Kp w W' b rc rf q' := ⟨k.a, h.bl.trans (k.belowB h.bl.size)⟩
/-- The sectors that are held, as if they were frames. -/
def qS (q : St) : St := ⟨fun s => (q.F s).map fun f => (f, false), q.F⟩
theorem qS_some (q : St) (s : Int) : ((qS q).C s).isSome = (q.F s).isSome := by
  unfold qS
  simp
theorem count_eq {q : St} (hq : q.Ok) : (frL (qS q) 64).length = (frL q 64).length := by
  have hg : ∀ f ∈ frL q 64, ∃ s b, q.C f = some (s, b) ∧ 0 ≤ f ∧ f < 64 ∧ 0 ≤ s ∧ s < 64 ∧ q.F s = some f := fun f hf => by
    obtain ⟨i, _, rfl, h3⟩ := (frL_mem q 64 f).1 hf
    cases e : q.C (i : Int) with
    | none => rw [e] at h3; cases h3
    | some c => exact ⟨c.1, c.2, rfl, hq.c _ c.1 c.2 e⟩
  have hp : ((frL q 64).map fun f => ((q.C f).getD (0, false)).1).Perm (frL (qS q) 64) := by
    refine (List.perm_ext_iff_of_nodup ?_ ((frL_lt (qS q) 64).imp (fun h => by omega))).2 fun s => ?_
    · rw [List.Nodup, List.pairwise_map]
      refine List.Pairwise.imp_of_mem ?_ (frL_lt q 64)
      intro x y hx hy hlt e
      obtain ⟨s1, b1, k1, _, _, _, _, f1⟩ := hg x hx
      obtain ⟨s2, b2, k2, _, _, _, _, f2⟩ := hg y hy
      rw [k1, k2] at e
      have e' : s1 = s2 := e
      rw [← e', f1] at f2
      have : x = y := by simpa using f2
      omega
    · rw [List.mem_map, frL_mem]
      constructor
      · rintro ⟨f, hf, rfl⟩
        obtain ⟨s1, b1, k1, _, _, a3, a4, f1⟩ := hg f hf
        rw [k1]
        refine ⟨s1.toNat, by show s1.toNat < 64; omega, by show s1 = _; omega, ?_⟩
        rw [qS_some, show ((s1.toNat : Nat) : Int) = s1 by omega, f1]
        rfl
      · rintro ⟨i, h1, rfl, h3⟩
        rw [qS_some] at h3
        cases e : q.F (i : Int) with
        | none => rw [e] at h3; cases h3
        | some f =>
          obtain ⟨b1, hb⟩ := hq.f i f e
          obtain ⟨a1, a2, _⟩ := hq.c f i b1 hb
          refine ⟨f, (frL_mem q 64 f).2 ⟨f.toNat, by omega, by omega, ?_⟩, by rw [hb]; rfl⟩
          rw [show ((f.toNat : Nat) : Int) = f by omega, hb]
          rfl
  have := hp.length_eq
  rw [List.length_map] at this
  exact this.symm
theorem frL_step (q : St) (k : Nat) : (frL q (k + 1)).length = (frL q k).length + (if (q.C (k : Nat)).isSome then 1 else 0) := by
  show (frL q k ++ _).length = _
  rw [List.length_append]
  split <;> rfl
theorem Rd.form {w : World} {base : Nat} {v : Value} {ys : List Int} (h : Rd w base v ys) : ∃ a cap, v = .slice a ys.length cap := by
  rcases h with ⟨rfl, rfl⟩ | ⟨g, cap, rfl, _⟩
  · exact ⟨none, 0, rfl⟩
  · exact ⟨_, _, rfl⟩
end Go.Proofs.Ytknmbecabgencaa
