/- The program's Insert. -/
import Derived.Test.YtdmahmolhdbegaaPgTlbI
import Derived.Deep.RegionLaw
namespace Go.Proofs.Ytdmahmolhdbegaa.Tb
open Go.RowKit Go.Maps
set_option linter.unusedVariables false
set_option maxRecDepth 100000
theorem Stp.trans {B : Nat} {t : TypeId} {w W w' : World} {b : Nat} {v v1 v2 : Value} {L1 L2 : List Mp} (h : Stp B t w W b v v1 L1) (k : Stp B t W w' b v1 v2 L2) : Stp B t w w' b v v2 L2 := by
  have hs := h.ap.size
  refine ⟨k.ob, h.ap.then k.ap (fun i hi e => ?_), ?_⟩
  · rcases e with e | e
    · exact .inl e
    · rcases h.own with o | ⟨g, hg, o⟩
      · exact .inr (e.trans o)
      · rw [o] at e
        injection e with e
        omega
  · rcases k.own with e | ⟨g, hg, e⟩
    · rw [e]
      exact h.own
    · exact .inr ⟨g, Nat.le_trans hs hg, e⟩
theorem Stp.same {B : Nat} {t : TypeId} {w W : World} {b : Nat} {v : Value} {L : List Mp} (h : Ob B t w b v L) (k : Below w.heap.size w W) : Stp B t w W b v v L := ⟨h.below k, Apart.of_below k, .inl rfl⟩
theorem Stp.far {B : Nat} {t : TypeId} {w W W' : World} {b : Nat} {v v' : Value} {L : List Mp} (h : Stp B t w W b v v' L) (k : Nat) (hk : w.heap.size ≤ k) (hb : b < w.heap.size) (hne : v'.ownBlock ≠ some k) (hA : Apart (fun i => i = k) W W') : Stp B t w W' b v v' L :=
  ⟨h.ob.stay hA (by omega) (fun g hg e => hne (by rw [hg, e])), h.ap.then hA (fun i hi e => by omega), h.own⟩
theorem app_keep {W3 X W4 : World} {row : Option Nat} (hx : Below W3.heap.size W3 X) (hg : X.grownBy W4 row) (k : Nat) (hk : k < W3.heap.size) (hne : row ≠ some k) : W4.heap[k]? = W3.heap[k]? :=
  (hg.block k (by have := hx.size; omega) (fun e => hne e.symm)).trans (hx.block k hk)
theorem apart_set4 (w : World) (b : Nat) (x0 x1 x2 x3 : Value) : Apart (fun i => i = b) w ((((w.setCell ⟨b, 0, none⟩ x0).setCell ⟨b, 1, none⟩ x1).setCell ⟨b, 2, none⟩ x2).setCell ⟨b, 3, none⟩ x3) :=
  (((Apart.set w ⟨b, 0, none⟩ _).trans (Apart.set _ ⟨b, 1, none⟩ _)).trans (Apart.set _ ⟨b, 2, none⟩ _)).trans (Apart.set _ ⟨b, 3, none⟩ _)
/-- What is known behind the append of a mapping, ahead of the store of the new slice. -/
theorem ins_facts {B tb s ob : Nat} {w W3 X W4 : World} {v v1 v' : Value} {L1 : List Mp} {m o : Mp} (hx : Below W3.heap.size W3 X) (hS : Stp B 80 w W3 tb v v1 L1) (htb : tb < w.heap.size) (hown1 : v1.ownBlock = v.ownBlock) (hown : ∀ k, v.ownBlock = some k → k < w.heap.size) (hs : w.heap.size ≤ s) (hob : w.heap.size ≤ ob)
    (hY : W3.heap[s]? = some (.cells #[.int .u8 0, .int .u8 0, .int .u8 0, .bool false] 39)) (hZ : W3.heap[ob]? = some (.cells #[.int .u8 o.1, .int .u8 o.2.1, .int .u8 o.2.2.1, .bool o.2.2.2] 39))
    (hr : W4.ownsRow B 39 4 v' (L1 ++ [m]).length (mpsCs (L1 ++ [m]))) (hg : X.grownBy W4 v1.ownBlock) (hat : v'.ownBlock = v1.ownBlock ∨ v'.ownBlock = some X.heap.size) :
    Hid (Stp B 80 w (W4.setCell ⟨tb, 0, none⟩ v') tb v v' (L1 ++ [m])) ∧ Hid (v'.ownBlock ≠ some s) ∧ W4.cell? ⟨tb, 0, none⟩ = some v1 ∧ W4.frozen? ⟨tb, 0, none⟩ = false ∧
    ((W4.cell? ⟨s, 0, none⟩ = some (.int .u8 0) ∧ W4.cell? ⟨s, 1, none⟩ = some (.int .u8 0) ∧ W4.cell? ⟨s, 2, none⟩ = some (.int .u8 0) ∧ W4.cell? ⟨s, 3, none⟩ = some (.bool false)) ∧ (W4.frozen? ⟨s, 0, none⟩ = false ∧ W4.frozen? ⟨s, 1, none⟩ = false ∧ W4.frozen? ⟨s, 2, none⟩ = false ∧ W4.frozen? ⟨s, 3, none⟩ = false)) ∧
    (W4.cell? ⟨ob, 0, none⟩ = some (.int .u8 o.1) ∧ W4.cell? ⟨ob, 1, none⟩ = some (.int .u8 o.2.1) ∧ W4.cell? ⟨ob, 2, none⟩ = some (.int .u8 o.2.2.1) ∧ W4.cell? ⟨ob, 3, none⟩ = some (.bool o.2.2.2)) := by
  have hs3 := hS.ap.size
  have hn : ∀ k, w.heap.size ≤ k → v1.ownBlock ≠ some k := fun k hk e => by have := hown k (hown1 ▸ e); omega
  have hyl := (Array.getElem?_eq_some_iff.1 hY).1
  have ht4 := app_keep hx hg tb (by omega) (fun e => hS.ob.ne tT tb e rfl)
  have hy4 := app_keep hx hg s hyl (hn s hs)
  have hz4 := app_keep hx hg ob (Array.getElem?_eq_some_iff.1 hZ).1 (hn ob hob)
  refine ⟨hS.trans (Stp.of_set hS.ob tT ((Apart.of_below hx).then (Apart.of_grown hg (fun k _ e => e)) (fun _ _ e => e)) hr (hat.imp id (fun e => ⟨_, hx.size, e⟩))), ?_, (World.cell?_of_block (w := W3) ht4).trans hS.ob.cell, (World.frozen?_of_block (w := W3) ht4).trans hS.ob.thaw, b4 (hy4.trans hY), (b4 (hz4.trans hZ)).1⟩
  intro e
  rcases hat with k | k
  · exact hn s hs (k ▸ e)
  · rw [e] at k
    injection k with k
    have := hx.size
    omega
set_option maxHeartbeats 4000000 in
theorem insert_none (B tb : Nat) (v : Value) (L : List Mp) (m : Mp) (w : World) (h : Ob B 80 w tb v L) (hL : L.length ≤ 100) (hm : MpOk m) (hr : rngB m = true) (hB : B ≤ w.heap.size) (hk : L.findIdx? (ofB m.1 m.2.1) = none) (h8 : L.length ≠ 8) :
    Calls Try.prog 11 #[.pointer (some ⟨tb, 0, none⟩), mpV m] w fun e w' => e = .returned (.tuple #[mpV zM, .bool false, .int .i64 0]) ∧ ∃ v', Stp B 80 w w' tb v v' (L ++ [m]) := by
  obtain ⟨m0, m1, m2, m3⟩ := m
  have hr' : m1 < 16 ∧ m2 < 64 := by simpa [rngB] using hr
  obtain ⟨r1, r2⟩ := hr'
  obtain ⟨o0, o1, o2, o3, o4, o5⟩ := hm
  simp only at o0 o1 o2 o3 o4 o5 hk
  have q1 : ¬ 16 ≤ m1 := by omega
  have q2 : ¬ 64 ≤ m2 := by omega
  have hlt := h.lt
  have hw0 : Below w.heap.size w ((w.alloc (.cells #[.int .u8 m0, .int .u8 m1, .int .u8 m2, .bool m3] 39)).alloc (.cells #[.int .u8 0, .int .u8 0, .int .u8 0, .bool false] 39)) := ((Below.refl _ w).alloc (Nat.le_refl _) _).alloc (by simp) _
  have b1 : ((w.alloc (.cells #[.int .u8 m0, .int .u8 m1, .int .u8 m2, .bool m3] 39)).alloc (.cells #[.int .u8 0, .int .u8 0, .int .u8 0, .bool false] 39)).heap[w.heap.size]? = some (.cells #[.int .u8 m0, .int .u8 m1, .int .u8 m2, .bool m3] 39) := (Below.heap_alloc _ _ _ (by simp)).trans (heap_alloc_new w _)
  have b2 : ((w.alloc (.cells #[.int .u8 m0, .int .u8 m1, .int .u8 m2, .bool m3] 39)).alloc (.cells #[.int .u8 0, .int .u8 0, .int .u8 0, .bool false] 39)).heap[w.heap.size + 1]? = some (.cells #[.int .u8 0, .int .u8 0, .int .u8 0, .bool false] 39) := by
    have := heap_alloc_new (w.alloc (.cells #[.int .u8 m0, .int .u8 m1, .int .u8 m2, .bool m3] 39)) (.cells #[.int .u8 0, .int .u8 0, .int .u8 0, .bool false] 39)
    rw [World.size_alloc] at this
    exact this
  have hcon := find_any B tb v L m0 m1 _ (h.below hw0) (by omega)
  have e2 : fdM m0 m1 L = zM := by unfold fdM; rw [hk]
  have e3 : fdB m0 m1 L = false := by unfold fdB; rw [hk]; rfl
  rw [e2, e3] at hcon
  unfold mpV zM at hcon
  simp only at hcon
  obtain ⟨a, cap, rfl⟩ := h.form
  have hcell := h.cell
  have h8' : ((L.length : Int) == 8) = false := by rw [beq_eq_false_iff_ne]; omega
  have HO : Hid (Ob B 80 w tb (.slice a L.length cap) L) := h
  clear h hk e2 e3
  unfold mpV
  go_enter Try.func11, Try.ntmps11
  go_wp2_with fail
  refine hcon.mono ?_
  rintro e W1 ⟨rfl, hB1⟩
  have hb1 : Below w.heap.size w W1 := hw0.trans (hB1.mono hw0.size)
  have hs1 := hB1.size
  simp only [World.size_alloc] at hs1
  rw [← hb1.cell (p := ⟨tb, 0, none⟩) hlt] at hcell
  obtain ⟨⟨x0, x1, x2, x3⟩, _⟩ := b4 ((hB1.block w.heap.size (by simp only [World.size_alloc]; omega)).trans b1)
  obtain ⟨⟨y0, y1, y2, y3⟩, _⟩ := b4 ((hB1.block (w.heap.size + 1) (by simp only [World.size_alloc]; omega)).trans b2)
  have n1 : tb ≠ W1.heap.size := by omega
  have n2 : w.heap.size ≠ W1.heap.size := by omega
  have n3 : w.heap.size + 1 ≠ W1.heap.size := by omega
  have g0 : (W1.alloc (.cells #[.int .u8 0, .int .u8 0, .int .u8 0, .bool false] 39)).cell? ⟨tb, 0, none⟩ = some (.slice a L.length cap) := Lib.cell?_alloc_some _ hcell
  have hb2 : Below w.heap.size w (W1.alloc (.cells #[.int .u8 0, .int .u8 0, .int .u8 0, .bool false] 39)) := hb1.alloc hb1.size _
  have HS0 : Hid (Stp B 80 w (W1.alloc (.cells #[.int .u8 0, .int .u8 0, .int .u8 0, .bool false] 39)) tb (.slice a L.length cap) (.slice a L.length cap) L) := Stp.same HO.out hb2
  have HX : Hid ((W1.alloc (.cells #[.int .u8 0, .int .u8 0, .int .u8 0, .bool false] 39)).heap[w.heap.size]? = some (.cells #[.int .u8 m0, .int .u8 m1, .int .u8 m2, .bool m3] 39)) := (Below.heap_alloc _ _ _ (by omega)).trans ((hB1.block w.heap.size (by simp only [World.size_alloc]; omega)).trans b1)
  have HY : Hid ((W1.alloc (.cells #[.int .u8 0, .int .u8 0, .int .u8 0, .bool false] 39)).heap[w.heap.size + 1]? = some (.cells #[.int .u8 0, .int .u8 0, .int .u8 0, .bool false] 39)) := (Below.heap_alloc _ _ _ (by omega)).trans ((hB1.block (w.heap.size + 1) (by simp only [World.size_alloc]; omega)).trans b2)
  have HZ : Hid ((W1.alloc (.cells #[.int .u8 0, .int .u8 0, .int .u8 0, .bool false] 39)).heap[W1.heap.size]? = some (.cells #[.int .u8 0, .int .u8 0, .int .u8 0, .bool false] 39)) := heap_alloc_new W1 _
  have HW : Hid (∀ k, Value.ownBlock (.slice a L.length cap) = some k → k < w.heap.size) := fun k e => (HO.out.row.lt k e).2
  have HN : Hid (w.heap.size ≤ W1.heap.size) := hb1.size
  clear b1 b2 hcon hB1 hb1 hw0 HO
  go_wp2_with fail
  generalize (W1.alloc (.cells #[.int .u8 0, .int .u8 0, .int .u8 0, .bool false] 39)) = W2 at *
  generalize W1.heap.size = ob at *
  have HS := HS0
  have HE1 : Hid (Value.ownBlock (.slice a L.length cap) = Value.ownBlock (.slice a L.length cap)) := rfl
  clear x0 x1 x2 x3 y0 y1 y2 y3 hcell hb2 HS0
  obtain ⟨⟨x0, x1, x2, x3⟩, _⟩ := b4 HX.out
  have hs2 := HS.out.ap.size
  have hxl : w.heap.size < W2.heap.size := (Array.getElem?_eq_some_iff.1 HX.out).1
  have n4 : tb ≠ W2.heap.size := by omega
  have n5 : ob ≠ tb := by have := HN.out; omega
  have n6 : w.heap.size + 1 ≠ tb := by omega
  have n7 : w.heap.size ≠ W2.heap.size := by omega
  have hX : Below W2.heap.size W2 (W2.alloc (.cells #[.int .u8 m0, .int .u8 m1, .int .u8 m2, .bool m3] 39)).drew := ((Below.refl _ W2).alloc (Nat.le_refl _) _).drew
  have hBs : Hid (B ≤ (W2.alloc (.cells #[.int .u8 m0, .int .u8 m1, .int .u8 m2, .bool m3] 39)).drew.heap.size) := Nat.le_trans hB (Nat.le_trans hs2 hX.size)
  have HR : Hid ((W2.alloc (.cells #[.int .u8 m0, .int .u8 m1, .int .u8 m2, .bool m3] 39)).drew.ownsRow B 39 4 (.slice a L.length cap) L.length (mpsCs L)) := HS.out.ob.row.alloc _
  have HM : Hid (Mps (W2.alloc (.cells #[.int .u8 m0, .int .u8 m1, .int .u8 m2, .bool m3] 39)).drew (.slice (some ⟨W2.heap.size, 0, none⟩) 1 1) [(m0, m1, m2, m3)]) := (mps_one W2 m0 m1 m2 m3).below (Below.refl _ _).drew
  have HF : Hid (∀ v' W4, _) := fun v' W4 => @ins_facts B tb (w.heap.size + 1) ob w W2 _ W4 (.slice a L.length cap) (.slice a L.length cap) v' L (m0, m1, m2, m3) (0, 0, 0, false) hX HS.out hlt HE1.out HW.out (by omega) HN.out HY.out HZ.out
  have g1 : (W2.alloc (.cells #[.int .u8 m0, .int .u8 m1, .int .u8 m2, .bool m3] 39)).cell? ⟨tb, 0, none⟩ = some (.slice a L.length cap) := Lib.cell?_alloc_some _ g0
  clear HX HY HZ HS hX
  go_region_law ((refine step_app (by rfl) _ _ (by rfl) B _ L _ [(m0, m1, m2, m3)] (by rfl) (by rfl) (by exact HR.out) (by exact HM.out) (by simp only [List.length_cons, List.length_nil]; omega) (by exact hBs.out) ?_; intro v' W4 hown4 hgrow hat; obtain ⟨HS4, HN4, c4, f4, ⟨⟨u0, u1, u2, u3⟩, k0, k1, k2, k3⟩, z0, z1, z2, z3⟩ := HF.out v' W4 hown4 hgrow hat; obtain ⟨a', cap', e'⟩ := HS4.out.ob.form; have e'' : v' = .slice a' (L.length + 1) cap' := by { rw [e']; simp }; clear e'; subst e''; clear hown4 hgrow hat))
  all_goals
    simp only at z0 z1 z2 z3
    clear HF HR HM hBs
    go_wp2
    refine bodyPost_ret (v := .tuple #[.agg #[.int .u8 0, .int .u8 0, .int .u8 0, .bool false], .bool false, .int .i64 0]) (by simp [results, Try.results11, go_sem, u0, u1, u2, u3]) rfl ⟨rfl, .slice a' (L.length + 1) cap', ?_⟩
    exact HS4.out.far (w.heap.size + 1) (by omega) hlt HN4.out (apart_set4 _ _ _ _ _ _)
set_option maxHeartbeats 4000000 in
theorem insert_found (B tb : Nat) (v : Value) (L : List Mp) (m : Mp) (w : World) (h : Ob B 80 w tb v L) (hL : L.length ≤ 100) (hm : MpOk m) (hr : rngB m = true) (hB : B ≤ w.heap.size) (k : Nat) (hkl : k < L.length) (hk : L.findIdx? (ofB m.1 m.2.1) = some k) :
    Calls Try.prog 11 #[.pointer (some ⟨tb, 0, none⟩), mpV m] w fun e w' => e = .returned (.tuple #[mpV L[k], .bool true, .int .i64 0]) ∧ ∃ v', Stp B 80 w w' tb v v' (L.filter (fun x => !eqB L[k] x) ++ [m]) := by
  obtain ⟨m0, m1, m2, m3⟩ := m
  have hr' : m1 < 16 ∧ m2 < 64 := by simpa [rngB] using hr
  obtain ⟨r1, r2⟩ := hr'
  obtain ⟨o0, o1, o2, o3, o4, o5⟩ := hm
  simp only at o0 o1 o2 o3 o4 o5 hk
  have q1 : ¬ 16 ≤ m1 := by omega
  have q2 : ¬ 64 ≤ m2 := by omega
  have hlt := h.lt
  have hw0 : Below w.heap.size w ((w.alloc (.cells #[.int .u8 m0, .int .u8 m1, .int .u8 m2, .bool m3] 39)).alloc (.cells #[.int .u8 0, .int .u8 0, .int .u8 0, .bool false] 39)) := ((Below.refl _ w).alloc (Nat.le_refl _) _).alloc (by simp) _
  have b1 : ((w.alloc (.cells #[.int .u8 m0, .int .u8 m1, .int .u8 m2, .bool m3] 39)).alloc (.cells #[.int .u8 0, .int .u8 0, .int .u8 0, .bool false] 39)).heap[w.heap.size]? = some (.cells #[.int .u8 m0, .int .u8 m1, .int .u8 m2, .bool m3] 39) := (Below.heap_alloc _ _ _ (by simp)).trans (heap_alloc_new w _)
  have b2 : ((w.alloc (.cells #[.int .u8 m0, .int .u8 m1, .int .u8 m2, .bool m3] 39)).alloc (.cells #[.int .u8 0, .int .u8 0, .int .u8 0, .bool false] 39)).heap[w.heap.size + 1]? = some (.cells #[.int .u8 0, .int .u8 0, .int .u8 0, .bool false] 39) := by
    have := heap_alloc_new (w.alloc (.cells #[.int .u8 m0, .int .u8 m1, .int .u8 m2, .bool m3] 39)) (.cells #[.int .u8 0, .int .u8 0, .int .u8 0, .bool false] 39)
    rw [World.size_alloc] at this
    exact this
  have hcon := find_any B tb v L m0 m1 _ (h.below hw0) (by omega)
  have e2 : fdM m0 m1 L = L[k] := by unfold fdM; rw [hk]; simp [List.getElem?_eq_getElem hkl]
  have e3 : fdB m0 m1 L = true := by unfold fdB; rw [hk]; rfl
  rw [e2, e3] at hcon
  clear e2 e3 hk
  generalize L[k] = y at *
  obtain ⟨y0, y1, y2, y3⟩ := y
  unfold mpV at hcon
  simp only at hcon
  obtain ⟨a, cap, rfl⟩ := h.form
  have hcell := h.cell
  have HO : Hid (Ob B 80 w tb (.slice a L.length cap) L) := h
  clear h
  unfold mpV
  go_enter Try.func11, Try.ntmps11
  go_wp2_with fail
  refine hcon.mono ?_
  rintro e W1 ⟨rfl, hB1⟩
  have hb1 : Below w.heap.size w W1 := hw0.trans (hB1.mono hw0.size)
  have hs1 := hB1.size
  simp only [World.size_alloc] at hs1
  rw [← hb1.cell (p := ⟨tb, 0, none⟩) hlt] at hcell
  obtain ⟨⟨x0, x1, x2, x3⟩, _⟩ := b4 ((hB1.block w.heap.size (by simp only [World.size_alloc]; omega)).trans b1)
  obtain ⟨_, _⟩ := b4 ((hB1.block (w.heap.size + 1) (by simp only [World.size_alloc]; omega)).trans b2)
  have n1 : tb ≠ W1.heap.size := by omega
  have n2 : w.heap.size ≠ W1.heap.size := by omega
  have n3 : w.heap.size + 1 ≠ W1.heap.size := by omega
  have g0 : (W1.alloc (.cells #[.int .u8 y0, .int .u8 y1, .int .u8 y2, .bool y3] 39)).cell? ⟨tb, 0, none⟩ = some (.slice a L.length cap) := Lib.cell?_alloc_some _ hcell
  have hb2 : Below w.heap.size w (W1.alloc (.cells #[.int .u8 y0, .int .u8 y1, .int .u8 y2, .bool y3] 39)) := hb1.alloc hb1.size _
  have HS0 : Hid (Stp B 80 w (W1.alloc (.cells #[.int .u8 y0, .int .u8 y1, .int .u8 y2, .bool y3] 39)) tb (.slice a L.length cap) (.slice a L.length cap) L) := Stp.same HO.out hb2
  have HX : Hid ((W1.alloc (.cells #[.int .u8 y0, .int .u8 y1, .int .u8 y2, .bool y3] 39)).heap[w.heap.size]? = some (.cells #[.int .u8 m0, .int .u8 m1, .int .u8 m2, .bool m3] 39)) := (Below.heap_alloc _ _ _ (by omega)).trans ((hB1.block w.heap.size (by simp only [World.size_alloc]; omega)).trans b1)
  have HY : Hid ((W1.alloc (.cells #[.int .u8 y0, .int .u8 y1, .int .u8 y2, .bool y3] 39)).heap[w.heap.size + 1]? = some (.cells #[.int .u8 0, .int .u8 0, .int .u8 0, .bool false] 39)) := (Below.heap_alloc _ _ _ (by omega)).trans ((hB1.block (w.heap.size + 1) (by simp only [World.size_alloc]; omega)).trans b2)
  have HZ : Hid ((W1.alloc (.cells #[.int .u8 y0, .int .u8 y1, .int .u8 y2, .bool y3] 39)).heap[W1.heap.size]? = some (.cells #[.int .u8 y0, .int .u8 y1, .int .u8 y2, .bool y3] 39)) := heap_alloc_new W1 _
  have HW : Hid (∀ k, Value.ownBlock (.slice a L.length cap) = some k → k < w.heap.size) := fun k e => (HO.out.row.lt k e).2
  have HN : Hid (w.heap.size ≤ W1.heap.size) := hb1.size
  clear b1 b2 hcon hB1 hb1 hw0 HO
  have hout := out_any 28 #[.pointer (some ⟨W1.heap.size, 0, none⟩)] (eqB (y0, y1, y2, y3)) W1.heap.size _ (old_pred (y0, y1, y2, y3) W1.heap.size) (enters_of Try.func28 (by kernel_rfl) rfl) B tb (.slice a L.length cap) L (W1.alloc (.cells #[.int .u8 y0, .int .u8 y1, .int .u8 y2, .bool y3] 39)) HS0.out.ob (by omega) HZ.out (fun e => by have := HW.out _ e; have := HN.out; omega)
  have hfl : (L.filter (fun x => !eqB (y0, y1, y2, y3) x)).length ≤ L.length := List.length_filter_le _ _
  generalize hL1 : L.filter (fun x => !eqB (y0, y1, y2, y3) x) = L1 at *
  have HL1 : Hid (L.filter (fun x => !eqB (y0, y1, y2, y3) x) = L1) := hL1
  clear hL1
  go_wp2_with fail
  refine hout.mono ?_
  rintro e W2 ⟨rfl, v1, hS, hE1⟩
  have hkeep : ∀ k, w.heap.size ≤ k → k < (W1.alloc (.cells #[.int .u8 y0, .int .u8 y1, .int .u8 y2, .bool y3] 39)).heap.size → W2.heap[k]? = (W1.alloc (.cells #[.int .u8 y0, .int .u8 y1, .int .u8 y2, .bool y3] 39)).heap[k]? := fun k hk1 hk2 => hS.ap.block k hk2 (fun e => by
    rcases e with e | e
    · omega
    · have := HW.out k e.symm
      omega)
  have HS : Hid (Stp B 80 w W2 tb (.slice a L.length cap) v1 L1) := HS0.out.trans hS
  replace HX : Hid (W2.heap[w.heap.size]? = some (.cells #[.int .u8 m0, .int .u8 m1, .int .u8 m2, .bool m3] 39)) := (hkeep _ (Nat.le_refl _) (Array.getElem?_eq_some_iff.1 HX.out).1).trans HX.out
  replace HY : Hid (W2.heap[w.heap.size + 1]? = some (.cells #[.int .u8 0, .int .u8 0, .int .u8 0, .bool false] 39)) := (hkeep _ (by omega) (Array.getElem?_eq_some_iff.1 HY.out).1).trans HY.out
  replace HZ : Hid (W2.heap[W1.heap.size]? = some (.cells #[.int .u8 y0, .int .u8 y1, .int .u8 y2, .bool y3] 39)) := (hkeep _ HN.out (Array.getElem?_eq_some_iff.1 HZ.out).1).trans HZ.out
  obtain ⟨a1, cap1, e1⟩ := HS.out.ob.form
  subst e1
  have HE1 : Hid (Value.ownBlock (.slice a1 L1.length cap1) = Value.ownBlock (.slice a L.length cap)) := hE1
  clear g0
  have g0 : W2.cell? ⟨tb, 0, none⟩ = some (.slice a1 L1.length cap1) := HS.out.ob.cell
  clear hout hS hE1 hkeep HS0 hb2
  generalize W1.heap.size = ob at *
  clear x0 x1 x2 x3 n1 n2 n3
  go_wp2_with fail
  obtain ⟨⟨x0, x1, x2, x3⟩, _⟩ := b4 HX.out
  have hs2 := HS.out.ap.size
  have hxl : w.heap.size < W2.heap.size := (Array.getElem?_eq_some_iff.1 HX.out).1
  have n4 : tb ≠ W2.heap.size := by omega
  have n5 : ob ≠ tb := by have := HN.out; omega
  have n6 : w.heap.size + 1 ≠ tb := by omega
  have n7 : w.heap.size ≠ W2.heap.size := by omega
  have hX : Below W2.heap.size W2 (W2.alloc (.cells #[.int .u8 m0, .int .u8 m1, .int .u8 m2, .bool m3] 39)).drew := ((Below.refl _ W2).alloc (Nat.le_refl _) _).drew
  have hBs : Hid (B ≤ (W2.alloc (.cells #[.int .u8 m0, .int .u8 m1, .int .u8 m2, .bool m3] 39)).drew.heap.size) := Nat.le_trans hB (Nat.le_trans hs2 hX.size)
  have HR : Hid ((W2.alloc (.cells #[.int .u8 m0, .int .u8 m1, .int .u8 m2, .bool m3] 39)).drew.ownsRow B 39 4 (.slice a1 L1.length cap1) L1.length (mpsCs L1)) := HS.out.ob.row.alloc _
  have HM : Hid (Mps (W2.alloc (.cells #[.int .u8 m0, .int .u8 m1, .int .u8 m2, .bool m3] 39)).drew (.slice (some ⟨W2.heap.size, 0, none⟩) 1 1) [(m0, m1, m2, m3)]) := (mps_one W2 m0 m1 m2 m3).below (Below.refl _ _).drew
  have HF : Hid (∀ v' W4, _) := fun v' W4 => @ins_facts B tb (w.heap.size + 1) ob w W2 _ W4 (.slice a L.length cap) (.slice a1 L1.length cap1) v' L1 (m0, m1, m2, m3) (y0, y1, y2, y3) hX HS.out hlt HE1.out HW.out (by omega) HN.out HY.out HZ.out
  have g1 : (W2.alloc (.cells #[.int .u8 m0, .int .u8 m1, .int .u8 m2, .bool m3] 39)).cell? ⟨tb, 0, none⟩ = some (.slice a1 L1.length cap1) := Lib.cell?_alloc_some _ g0
  clear HX HY HZ HS hX
  go_region_law ((refine step_app (by rfl) _ _ (by rfl) B _ L1 _ [(m0, m1, m2, m3)] (by rfl) (by rfl) (by exact HR.out) (by exact HM.out) (by simp only [List.length_cons, List.length_nil]; omega) (by exact hBs.out) ?_; intro v' W4 hown4 hgrow hat; obtain ⟨HS4, HN4, c4, f4, ⟨⟨u0, u1, u2, u3⟩, k0, k1, k2, k3⟩, z0, z1, z2, z3⟩ := HF.out v' W4 hown4 hgrow hat; obtain ⟨a', cap', e'⟩ := HS4.out.ob.form; have e'' : v' = .slice a' (L1.length + 1) cap' := by { rw [e']; simp }; clear e'; subst e''; clear hown4 hgrow hat))
  all_goals
    simp only at z0 z1 z2 z3
    clear HF HR HM hBs
    go_wp2
    refine bodyPost_ret (v := .tuple #[.agg #[.int .u8 y0, .int .u8 y1, .int .u8 y2, .bool y3], .bool true, .int .i64 0]) (by simp [results, Try.results11, go_sem, u0, u1, u2, u3]) rfl ⟨rfl, .slice a' (L1.length + 1) cap', ?_⟩
    rw [HL1.out]
    exact HS4.out.far (w.heap.size + 1) (by omega) hlt HN4.out (apart_set4 _ _ _ _ _ _)
set_option maxHeartbeats 4000000 in
theorem insert_full (B tb : Nat) (v : Value) (L : List Mp) (m : Mp) (w : World) (h : Ob B 80 w tb v L) (hL : L.length ≤ 100) (hm : MpOk m) (hr : rngB m = true) (hB : B ≤ w.heap.size) (hk : L.findIdx? (ofB m.1 m.2.1) = none) (h8 : L.length = 8) (h0 : 0 < L.length) :
    Calls Try.prog 11 #[.pointer (some ⟨tb, 0, none⟩), mpV m] w fun e w' => e = .returned (.tuple #[mpV L[0], .bool true, .int .i64 0]) ∧ ∃ v', Stp B 80 w w' tb v v' (L.filter (fun x => !eqB L[0] x) ++ [m]) := by
  obtain ⟨m0, m1, m2, m3⟩ := m
  have hr' : m1 < 16 ∧ m2 < 64 := by simpa [rngB] using hr
  obtain ⟨r1, r2⟩ := hr'
  obtain ⟨o0, o1, o2, o3, o4, o5⟩ := hm
  simp only at o0 o1 o2 o3 o4 o5 hk
  have q1 : ¬ 16 ≤ m1 := by omega
  have q2 : ¬ 64 ≤ m2 := by omega
  have hlt := h.lt
  have hw0 : Below w.heap.size w ((w.alloc (.cells #[.int .u8 m0, .int .u8 m1, .int .u8 m2, .bool m3] 39)).alloc (.cells #[.int .u8 0, .int .u8 0, .int .u8 0, .bool false] 39)) := ((Below.refl _ w).alloc (Nat.le_refl _) _).alloc (by simp) _
  have b1 : ((w.alloc (.cells #[.int .u8 m0, .int .u8 m1, .int .u8 m2, .bool m3] 39)).alloc (.cells #[.int .u8 0, .int .u8 0, .int .u8 0, .bool false] 39)).heap[w.heap.size]? = some (.cells #[.int .u8 m0, .int .u8 m1, .int .u8 m2, .bool m3] 39) := (Below.heap_alloc _ _ _ (by simp)).trans (heap_alloc_new w _)
  have b2 : ((w.alloc (.cells #[.int .u8 m0, .int .u8 m1, .int .u8 m2, .bool m3] 39)).alloc (.cells #[.int .u8 0, .int .u8 0, .int .u8 0, .bool false] 39)).heap[w.heap.size + 1]? = some (.cells #[.int .u8 0, .int .u8 0, .int .u8 0, .bool false] 39) := by
    have := heap_alloc_new (w.alloc (.cells #[.int .u8 m0, .int .u8 m1, .int .u8 m2, .bool m3] 39)) (.cells #[.int .u8 0, .int .u8 0, .int .u8 0, .bool false] 39)
    rw [World.size_alloc] at this
    exact this
  have hcon := find_any B tb v L m0 m1 _ (h.below hw0) (by omega)
  have e2 : fdM m0 m1 L = zM := by unfold fdM; rw [hk]
  have e3 : fdB m0 m1 L = false := by unfold fdB; rw [hk]; rfl
  rw [e2, e3] at hcon
  unfold mpV zM at hcon
  simp only at hcon
  obtain ⟨g, cap, rfl, hBg, hR⟩ := own_row h.row (by intro e; subst e; cases h0)
  obtain ⟨c0, c1, c2, c3⟩ := hR.at 0 _ (List.getElem?_eq_getElem h0)
  have hgl := hR.lt
  have hcell := h.cell
  have h8' : ((L.length : Int) == 8) = true := by rw [beq_iff_eq]; omega
  have h0' : (0 : Int) < (L.length : Int) := by omega
  clear e2 e3 hk hR
  generalize L[0] = y at *
  obtain ⟨y0, y1, y2, y3⟩ := y
  simp only [Nat.zero_mul, Nat.zero_add] at c0 c1 c2 c3
  have HO : Hid (Ob B 80 w tb (.slice (some ⟨g, 0, none⟩) L.length cap) L) := h
  clear h
  unfold mpV
  go_enter Try.func11, Try.ntmps11
  go_wp2_with fail
  refine hcon.mono ?_
  rintro e W1 ⟨rfl, hB1⟩
  have hb1 : Below w.heap.size w W1 := hw0.trans (hB1.mono hw0.size)
  have hs1 := hB1.size
  simp only [World.size_alloc] at hs1
  rw [← hb1.cell (p := ⟨tb, 0, none⟩) hlt] at hcell
  obtain ⟨⟨x0, x1, x2, x3⟩, _⟩ := b4 ((hB1.block w.heap.size (by simp only [World.size_alloc]; omega)).trans b1)
  obtain ⟨_, _⟩ := b4 ((hB1.block (w.heap.size + 1) (by simp only [World.size_alloc]; omega)).trans b2)
  have n1 : tb ≠ W1.heap.size := by omega
  have n2 : w.heap.size ≠ W1.heap.size := by omega
  have n3 : w.heap.size + 1 ≠ W1.heap.size := by omega
  have g0 : (W1.alloc (.cells #[.int .u8 y0, .int .u8 y1, .int .u8 y2, .bool y3] 39)).cell? ⟨tb, 0, none⟩ = some (.slice (some ⟨g, 0, none⟩) L.length cap) := Lib.cell?_alloc_some _ hcell
  have g0z : (W1.alloc (.cells #[.int .u8 0, .int .u8 0, .int .u8 0, .bool false] 39)).cell? ⟨tb, 0, none⟩ = some (.slice (some ⟨g, 0, none⟩) L.length cap) := Lib.cell?_alloc_some _ hcell
  have j0 : (W1.alloc (.cells #[.int .u8 0, .int .u8 0, .int .u8 0, .bool false] 39)).cell? ⟨g, 0, none⟩ = some (.int .u8 y0) := Lib.cell?_alloc_some _ ((hb1.cell (p := ⟨g, 0, none⟩) hgl).trans c0)
  have j1 : (W1.alloc (.cells #[.int .u8 0, .int .u8 0, .int .u8 0, .bool false] 39)).cell? ⟨g, 1, none⟩ = some (.int .u8 y1) := Lib.cell?_alloc_some _ ((hb1.cell (p := ⟨g, 1, none⟩) hgl).trans c1)
  have j2 : (W1.alloc (.cells #[.int .u8 0, .int .u8 0, .int .u8 0, .bool false] 39)).cell? ⟨g, 2, none⟩ = some (.int .u8 y2) := Lib.cell?_alloc_some _ ((hb1.cell (p := ⟨g, 2, none⟩) hgl).trans c2)
  have j3 : (W1.alloc (.cells #[.int .u8 0, .int .u8 0, .int .u8 0, .bool false] 39)).cell? ⟨g, 3, none⟩ = some (.bool y3) := Lib.cell?_alloc_some _ ((hb1.cell (p := ⟨g, 3, none⟩) hgl).trans c3)
  clear c0 c1 c2 c3
  have hb2 : Below w.heap.size w (W1.alloc (.cells #[.int .u8 y0, .int .u8 y1, .int .u8 y2, .bool y3] 39)) := hb1.alloc hb1.size _
  have HS0 : Hid (Stp B 80 w (W1.alloc (.cells #[.int .u8 y0, .int .u8 y1, .int .u8 y2, .bool y3] 39)) tb (.slice (some ⟨g, 0, none⟩) L.length cap) (.slice (some ⟨g, 0, none⟩) L.length cap) L) := Stp.same HO.out hb2
  have HX : Hid ((W1.alloc (.cells #[.int .u8 y0, .int .u8 y1, .int .u8 y2, .bool y3] 39)).heap[w.heap.size]? = some (.cells #[.int .u8 m0, .int .u8 m1, .int .u8 m2, .bool m3] 39)) := (Below.heap_alloc _ _ _ (by omega)).trans ((hB1.block w.heap.size (by simp only [World.size_alloc]; omega)).trans b1)
  have HY : Hid ((W1.alloc (.cells #[.int .u8 y0, .int .u8 y1, .int .u8 y2, .bool y3] 39)).heap[w.heap.size + 1]? = some (.cells #[.int .u8 0, .int .u8 0, .int .u8 0, .bool false] 39)) := (Below.heap_alloc _ _ _ (by omega)).trans ((hB1.block (w.heap.size + 1) (by simp only [World.size_alloc]; omega)).trans b2)
  have HZ : Hid ((W1.alloc (.cells #[.int .u8 y0, .int .u8 y1, .int .u8 y2, .bool y3] 39)).heap[W1.heap.size]? = some (.cells #[.int .u8 y0, .int .u8 y1, .int .u8 y2, .bool y3] 39)) := heap_alloc_new W1 _
  have HW : Hid (∀ k, Value.ownBlock (.slice (some ⟨g, 0, none⟩) L.length cap) = some k → k < w.heap.size) := fun k e => (HO.out.row.lt k e).2
  have HN : Hid (w.heap.size ≤ W1.heap.size) := hb1.size
  clear b1 b2 hcon hB1 hb1 hw0 HO
  have hout := out_any 28 #[.pointer (some ⟨W1.heap.size, 0, none⟩)] (eqB (y0, y1, y2, y3)) W1.heap.size _ (old_pred (y0, y1, y2, y3) W1.heap.size) (enters_of Try.func28 (by kernel_rfl) rfl) B tb (.slice (some ⟨g, 0, none⟩) L.length cap) L (W1.alloc (.cells #[.int .u8 y0, .int .u8 y1, .int .u8 y2, .bool y3] 39)) HS0.out.ob (by omega) HZ.out (fun e => by have := HW.out _ e; have := HN.out; omega)
  have hfl : (L.filter (fun x => !eqB (y0, y1, y2, y3) x)).length ≤ L.length := List.length_filter_le _ _
  generalize hL1 : L.filter (fun x => !eqB (y0, y1, y2, y3) x) = L1 at *
  have HL1 : Hid (L.filter (fun x => !eqB (y0, y1, y2, y3) x) = L1) := hL1
  clear hL1
  go_wp2_with fail
  refine hout.mono ?_
  rintro e W2 ⟨rfl, v1, hS, hE1⟩
  have hkeep : ∀ k, w.heap.size ≤ k → k < (W1.alloc (.cells #[.int .u8 y0, .int .u8 y1, .int .u8 y2, .bool y3] 39)).heap.size → W2.heap[k]? = (W1.alloc (.cells #[.int .u8 y0, .int .u8 y1, .int .u8 y2, .bool y3] 39)).heap[k]? := fun k hk1 hk2 => hS.ap.block k hk2 (fun e => by
    rcases e with e | e
    · omega
    · have := HW.out k e.symm
      omega)
  have HS : Hid (Stp B 80 w W2 tb (.slice (some ⟨g, 0, none⟩) L.length cap) v1 L1) := HS0.out.trans hS
  replace HX : Hid (W2.heap[w.heap.size]? = some (.cells #[.int .u8 m0, .int .u8 m1, .int .u8 m2, .bool m3] 39)) := (hkeep _ (Nat.le_refl _) (Array.getElem?_eq_some_iff.1 HX.out).1).trans HX.out
  replace HY : Hid (W2.heap[w.heap.size + 1]? = some (.cells #[.int .u8 0, .int .u8 0, .int .u8 0, .bool false] 39)) := (hkeep _ (by omega) (Array.getElem?_eq_some_iff.1 HY.out).1).trans HY.out
  replace HZ : Hid (W2.heap[W1.heap.size]? = some (.cells #[.int .u8 y0, .int .u8 y1, .int .u8 y2, .bool y3] 39)) := (hkeep _ HN.out (Array.getElem?_eq_some_iff.1 HZ.out).1).trans HZ.out
  obtain ⟨a1, cap1, e1⟩ := HS.out.ob.form
  subst e1
  have HE1 : Hid (Value.ownBlock (.slice a1 L1.length cap1) = Value.ownBlock (.slice (some ⟨g, 0, none⟩) L.length cap)) := hE1
  clear g0
  have g0 : W2.cell? ⟨tb, 0, none⟩ = some (.slice a1 L1.length cap1) := HS.out.ob.cell
  clear hout hS hE1 hkeep HS0 hb2
  generalize W1.heap.size = ob at *
  clear x0 x1 x2 x3 n1 n2 n3
  go_wp2_with fail
  obtain ⟨⟨x0, x1, x2, x3⟩, _⟩ := b4 HX.out
  have hs2 := HS.out.ap.size
  have hxl : w.heap.size < W2.heap.size := (Array.getElem?_eq_some_iff.1 HX.out).1
  have n4 : tb ≠ W2.heap.size := by omega
  have n5 : ob ≠ tb := by have := HN.out; omega
  have n6 : w.heap.size + 1 ≠ tb := by omega
  have n7 : w.heap.size ≠ W2.heap.size := by omega
  have hX : Below W2.heap.size W2 (W2.alloc (.cells #[.int .u8 m0, .int .u8 m1, .int .u8 m2, .bool m3] 39)).drew := ((Below.refl _ W2).alloc (Nat.le_refl _) _).drew
  have hBs : Hid (B ≤ (W2.alloc (.cells #[.int .u8 m0, .int .u8 m1, .int .u8 m2, .bool m3] 39)).drew.heap.size) := Nat.le_trans hB (Nat.le_trans hs2 hX.size)
  have HR : Hid ((W2.alloc (.cells #[.int .u8 m0, .int .u8 m1, .int .u8 m2, .bool m3] 39)).drew.ownsRow B 39 4 (.slice a1 L1.length cap1) L1.length (mpsCs L1)) := HS.out.ob.row.alloc _
  have HM : Hid (Mps (W2.alloc (.cells #[.int .u8 m0, .int .u8 m1, .int .u8 m2, .bool m3] 39)).drew (.slice (some ⟨W2.heap.size, 0, none⟩) 1 1) [(m0, m1, m2, m3)]) := (mps_one W2 m0 m1 m2 m3).below (Below.refl _ _).drew
  have HF : Hid (∀ v' W4, _) := fun v' W4 => @ins_facts B tb (w.heap.size + 1) ob w W2 _ W4 (.slice (some ⟨g, 0, none⟩) L.length cap) (.slice a1 L1.length cap1) v' L1 (m0, m1, m2, m3) (y0, y1, y2, y3) hX HS.out hlt HE1.out HW.out (by omega) HN.out HY.out HZ.out
  have g1 : (W2.alloc (.cells #[.int .u8 m0, .int .u8 m1, .int .u8 m2, .bool m3] 39)).cell? ⟨tb, 0, none⟩ = some (.slice a1 L1.length cap1) := Lib.cell?_alloc_some _ g0
  clear HX HY HZ HS hX
  go_region_law ((refine step_app (by rfl) _ _ (by rfl) B _ L1 _ [(m0, m1, m2, m3)] (by rfl) (by rfl) (by exact HR.out) (by exact HM.out) (by simp only [List.length_cons, List.length_nil]; omega) (by exact hBs.out) ?_; intro v' W4 hown4 hgrow hat; obtain ⟨HS4, HN4, c4, f4, ⟨⟨u0, u1, u2, u3⟩, k0, k1, k2, k3⟩, z0, z1, z2, z3⟩ := HF.out v' W4 hown4 hgrow hat; obtain ⟨a', cap', e'⟩ := HS4.out.ob.form; have e'' : v' = .slice a' (L1.length + 1) cap' := by { rw [e']; simp }; clear e'; subst e''; clear hown4 hgrow hat))
  all_goals
    simp only at z0 z1 z2 z3
    clear HF HR HM hBs
    go_wp2
    refine bodyPost_ret (v := .tuple #[.agg #[.int .u8 y0, .int .u8 y1, .int .u8 y2, .bool y3], .bool true, .int .i64 0]) (by simp [results, Try.results11, go_sem, u0, u1, u2, u3]) rfl ⟨rfl, .slice a' (L1.length + 1) cap', ?_⟩
    rw [HL1.out]
    exact HS4.out.far (w.heap.size + 1) (by omega) hlt HN4.out (apart_set4 _ _ _ _ _ _)
end Go.Proofs.Ytdmahmolhdbegaa.Tb
