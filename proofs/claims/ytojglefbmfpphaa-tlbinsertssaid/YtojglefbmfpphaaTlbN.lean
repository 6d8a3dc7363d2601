/- The document's Insert. -/
import Derived.Test.YtojglefbmfpphaaTlbM
import Derived.Deep.DeepCutAuto
namespace Go.Proofs.Ytojglefbmfpphaa
open Go.RowKit Go.Maps
set_option linter.unusedVariables false
set_option maxRecDepth 100000

theorem heap_set4 {w : World} {b : Nat} {c0 c1 c2 c3 x0 x1 x2 x3 : Value} {t : TypeId} (h : w.heap[b]? = some (.cells #[c0, c1, c2, c3] t)) : ((((w.setCell ⟨b, 0, none⟩ x0).setCell ⟨b, 1, none⟩ x1).setCell ⟨b, 2, none⟩ x2).setCell ⟨b, 3, none⟩ x3).heap[b]? = some (.cells #[x0, x1, x2, x3] t) := by
  simp [World.setCell, Array.getElem?_modify, h]
/-- What is known where the document's Insert makes its new row. -/
structure RIn (B : Nat) (w W : World) (tb : Nat) (v v1 : Value) (L1 : List Mp) (m o : Mp) : Prop where
  st : Stp B 57 w W tb v v1 L1
  lt : tb < w.heap.size
  x : W.heap[w.heap.size]? = some (.cells #[.int .u8 m.1, .int .u8 m.2.1, .int .u8 m.2.2.1, .bool m.2.2.2] 33)
  y : W.heap[w.heap.size + 1]? = some (.cells #[.int .u8 0, .int .u8 0, .int .u8 0, .bool false] 33)
  z : W.heap[w.heap.size + 2]? = some (.cells #[.int .u8 o.1, .int .u8 o.2.1, .int .u8 o.2.2.1, .bool o.2.2.2] 33)
  hB : B ≤ w.heap.size
theorem RIn.size {B : Nat} {w W : World} {tb : Nat} {v v1 : Value} {L1 : List Mp} {m o : Mp} (h : RIn B w W tb v v1 L1 m o) : w.heap.size + 2 < W.heap.size := (Array.getElem?_eq_some_iff.1 h.z).1
/-- What holds behind the first append. -/
structure RA (B : Nat) (W Wa : World) (va : Value) (T1 : List Mp) : Prop where
  below : Below W.heap.size W Wa
  own : Wa.ownsRow B 33 4 va ([] ++ T1).length (mpsCs ([] ++ T1))
  far : ∃ g, W.heap.size ≤ g ∧ va.ownBlock = some g
theorem RA.mk' {B : Nat} {W X Wa : World} {va : Value} {T1 : List Mp} {q c : Nat} (hX : Below W.heap.size W X) (hq : W.heap.size ≤ q) (own : Wa.ownsRow B 33 4 va ([] ++ T1).length (mpsCs ([] ++ T1))) (grow : X.grownBy Wa (Value.ownBlock (.slice (some ⟨q, 0, none⟩) 0 c))) (at' : va.ownBlock = Value.ownBlock (.slice (some ⟨q, 0, none⟩) 0 c) ∨ va.ownBlock = some X.heap.size) : RA B W Wa va T1 :=
  ⟨grow_below hX hX.size grow (fun g e => by have e' : q = g := Option.some.inj e; omega), own, at'.elim (fun e => ⟨q, hq, e⟩) (fun e => ⟨_, hX.size, e⟩)⟩
theorem mps_far {X Wa : World} {q c b : Nat} {l : List Mp} (h : Mps X (.slice (some ⟨b, 0, none⟩) 1 1) l) (hne : b ≠ q) (grow : X.grownBy Wa (Value.ownBlock (.slice (some ⟨q, 0, none⟩) 0 c))) : Mps Wa (.slice (some ⟨b, 0, none⟩) 1 1) l :=
  h.stay (Apart.of_grown (X := fun k => k = q) grow (fun k _ e => Option.some.inj e)) (fun g hg e => by have e' : b = g := Option.some.inj hg; omega)
/-- What holds behind the second append. -/
structure RB (B : Nat) (w W Wb : World) (tb : Nat) (v v1 vb : Value) (L2 : List Mp) (o : Mp) : Prop where
  st : Stp B 57 w (Wb.setCell ⟨tb, 0, none⟩ vb) tb v vb L2
  ne : vb.ownBlock ≠ some (w.heap.size + 1)
  c : Wb.cell? ⟨tb, 0, none⟩ = some v1
  f : Wb.frozen? ⟨tb, 0, none⟩ = false
  y : Wb.heap[w.heap.size + 1]? = some (.cells #[.int .u8 0, .int .u8 0, .int .u8 0, .bool false] 33)
  z : Wb.heap[w.heap.size + 2]? = some (.cells #[.int .u8 o.1, .int .u8 o.2.1, .int .u8 o.2.2.1, .bool o.2.2.2] 33)
theorem RB.mk' {B : Nat} {w W Wa X Wb : World} {tb : Nat} {v v1 va vb : Value} {L1 L2 : List Mp} {m o : Mp} (h : RIn B w W tb v v1 L1 m o) (hA : RA B W Wa va L1) (hX : Below Wa.heap.size Wa X) (own : Wb.ownsRow B 33 4 vb L2.length (mpsCs L2)) (grow : X.grownBy Wb va.ownBlock) (at' : vb.ownBlock = va.ownBlock ∨ vb.ownBlock = some X.heap.size) : RB B w W Wb tb v v1 vb L2 o := by
  have hs := h.size
  have hlt := h.lt
  have hsa := hA.below.size
  have hsx := hX.size
  have hWX : Below W.heap.size W X := hA.below.trans (hX.mono hsa)
  have hfar : ∃ g, W.heap.size ≤ g ∧ vb.ownBlock = some g := by
    obtain ⟨g, h1, h2⟩ := hA.far
    exact at'.elim (fun e => ⟨g, h1, e.trans h2⟩) (fun e => ⟨_, by omega, e⟩)
  have hWb : Below W.heap.size W Wb := grow_below hWX (by omega) grow (fun g e => by
    obtain ⟨g', h1, h2⟩ := hA.far
    rw [h2] at e
    have := Option.some.inj e
    omega)
  refine ⟨h.st.trans (Stp.of_set h.st.ob tR (Apart.of_below hWb) own (.inr hfar)), fun e => ?_, (hWb.cell (p := ⟨tb, 0, none⟩) (by show tb < _; omega)).trans h.st.ob.cell, (hWb.frozen (p := ⟨tb, 0, none⟩) (by show tb < _; omega)).trans h.st.ob.thaw, (hWb.block _ (by omega)).trans h.y, (hWb.block _ (by omega)).trans h.z⟩
  obtain ⟨g, h1, h2⟩ := hfar
  rw [h2] at e
  have := Option.some.inj e
  omega
theorem step_appf {w : World} {ops : Array Oper} {o : Oper} {a : Act} {K : Act → World → Prop} {Q : Exit → Act → World → Prop} {E : Prop} (fl : Operand) (fv : Value) (hfl : a.eval fl = fv) (hgd : o.guard = none) (s x : Operand)
    (ho : o.op = .call { callee := .builtin .append, args := #[s, x], argTypes := #[29, 29] })
    (B : Nat) (v : Value) (M : List Mp) (u : Value) (L : List Mp) (hs : a.eval s = v) (hx : a.eval x = u) (hown : w.ownsRow B 33 4 v M.length (mpsCs M)) (hu : Mps w u L) (hl : M.length + L.length ≤ 1000) (hB : B ≤ w.heap.size)
    (h : ∀ v' w', w'.ownsRow B 33 4 v' (M ++ L).length (mpsCs (M ++ L)) → w.grownBy w' v.ownBlock → (v'.ownBlock = v.ownBlock ∨ v'.ownBlock = some w.heap.size) → K (a.put o.dst v') w') :
    if Region.wanted o (yielded ops a.tmps) = true then Oper.wp Try.prog o a w K Q else E := step_app hgd s x ho B v M u L hs hx hown hu hl hB h
set_option maxHeartbeats 2000000 in
theorem rinsert_bad (tb : Nat) (m : Mp) (w : World) (hm : MpOk m) (hr : rngB m = false) :
    Calls Try.prog 33 #[.pointer (some ⟨tb, 0, none⟩), mpV m] w fun e w' => e = .returned (.tuple #[mpV zM, .bool false, .int .i64 2]) ∧ Below w.heap.size w w' := by
  obtain ⟨m0, m1, m2, m3⟩ := m
  obtain ⟨o0, o1, o2, o3, o4, o5⟩ := hm
  simp only at o0 o1 o2 o3 o4 o5
  have hr' : ¬ (m1 < 16 ∧ m2 < 64) := by simpa [rngB] using hr
  clear hr
  unfold mpV
  by_cases h1 : 16 ≤ m1
  · clear hr'
    go_enter Try.func33, Try.ntmps33
    go_wp2
    refine bodyPost_ret (v := .tuple #[.agg #[.int .u8 0, .int .u8 0, .int .u8 0, .bool false], .bool false, .int .i64 2]) (by simp [results, Try.results33, go_sem]) rfl ⟨rfl, ?_⟩
    exact ((Below.refl _ w).alloc (Nat.le_refl _) _).alloc (by simp) _
  · have h2 : 64 ≤ m2 := by omega
    clear hr'
    go_enter Try.func33, Try.ntmps33
    go_wp2
    refine bodyPost_ret (v := .tuple #[.agg #[.int .u8 0, .int .u8 0, .int .u8 0, .bool false], .bool false, .int .i64 2]) (by simp [results, Try.results33, go_sem]) rfl ⟨rfl, ?_⟩
    exact ((Below.refl _ w).alloc (Nat.le_refl _) _).alloc (by simp) _
theorem rin0 (B tb : Nat) (v : Value) (L : List Mp) (m0 m1 m2 : Int) (m3 : Bool) (w : World) (h : Ob B 57 w tb v L) (hB : B ≤ w.heap.size) : RIn B w (((w.alloc (.cells #[.int .u8 m0, .int .u8 m1, .int .u8 m2, .bool m3] 33)).alloc (.cells #[.int .u8 0, .int .u8 0, .int .u8 0, .bool false] 33)).alloc (.cells #[.int .u8 0, .int .u8 0, .int .u8 0, .bool false] 33)) tb v v L (m0, m1, m2, m3) (0, 0, 0, false) := by
  have b2 := heap_alloc_new (w.alloc (.cells #[.int .u8 m0, .int .u8 m1, .int .u8 m2, .bool m3] 33)) (.cells #[.int .u8 0, .int .u8 0, .int .u8 0, .bool false] 33)
  have b3 := heap_alloc_new ((w.alloc (.cells #[.int .u8 m0, .int .u8 m1, .int .u8 m2, .bool m3] 33)).alloc (.cells #[.int .u8 0, .int .u8 0, .int .u8 0, .bool false] 33)) (.cells #[.int .u8 0, .int .u8 0, .int .u8 0, .bool false] 33)
  rw [World.size_alloc] at b2
  rw [World.size_alloc, World.size_alloc] at b3
  exact ⟨Stp.same h ((((Below.refl _ w).alloc (Nat.le_refl _) _).alloc (by simp only [World.size_alloc]; omega) _).alloc (by simp only [World.size_alloc]; omega) _), h.lt, (Below.heap_alloc _ _ _ (by simp only [World.size_alloc]; omega)).trans ((Below.heap_alloc _ _ _ (by simp only [World.size_alloc]; omega)).trans (heap_alloc_new w _)), (Below.heap_alloc _ _ _ (by simp only [World.size_alloc]; omega)).trans b2, b3, hB⟩
set_option maxHeartbeats 8000000 in
theorem rinsert_none (B tb : Nat) (v : Value) (L : List Mp) (m : Mp) (w : World) (h : Ob B 57 w tb v L) (hL : L.length ≤ 100) (hm : MpOk m) (hr : rngB m = true) (hB : B ≤ w.heap.size) (hk : L.findIdx? (ofB m.1 m.2.1) = none) (h8 : L.length ≠ 8) :
    Calls Try.prog 33 #[.pointer (some ⟨tb, 0, none⟩), mpV m] w fun e w' => e = .returned (.tuple #[mpV zM, .bool false, .int .i64 0]) ∧ ∃ v', Stp B 57 w w' tb v v' (L ++ [m]) := by
  obtain ⟨m0, m1, m2, m3⟩ := m
  have hr' : m1 < 16 ∧ m2 < 64 := by simpa [rngB] using hr
  obtain ⟨r1, r2⟩ := hr'
  obtain ⟨o0, o1, o2, o3, o4, o5⟩ := hm
  simp only at o0 o1 o2 o3 o4 o5 hk
  have q1 : ¬ 16 ≤ m1 := by omega
  have q2 : ¬ 64 ≤ m2 := by omega
  have hlt := h.lt
  have hw0 : Below w.heap.size w ((w.alloc (.cells #[.int .u8 m0, .int .u8 m1, .int .u8 m2, .bool m3] 33)).alloc (.cells #[.int .u8 0, .int .u8 0, .int .u8 0, .bool false] 33)) := ((Below.refl _ w).alloc (Nat.le_refl _) _).alloc (by simp) _
  have hcon := rat_any B tb v L m0 m1 _ (h.below hw0) (by omega)
  have HR0 : Hid (RIn B w (((w.alloc (.cells #[.int .u8 m0, .int .u8 m1, .int .u8 m2, .bool m3] 33)).alloc (.cells #[.int .u8 0, .int .u8 0, .int .u8 0, .bool false] 33)).alloc (.cells #[.int .u8 0, .int .u8 0, .int .u8 0, .bool false] 33)) tb v v L (m0, m1, m2, m3) (0, 0, 0, false)) := rin0 B tb v L m0 m1 m2 m3 w h hB
  have hcell := h.cell
  have n1 : tb ≠ w.heap.size := by omega
  have n2 : tb ≠ w.heap.size + 1 := by omega
  have n3 : tb ≠ w.heap.size + 1 + 1 := by omega
  have gA : ((w.alloc (.cells #[.int .u8 m0, .int .u8 m1, .int .u8 m2, .bool m3] 33)).alloc (.cells #[.int .u8 0, .int .u8 0, .int .u8 0, .bool false] 33)).cell? ⟨tb, 0, none⟩ = some v := Lib.cell?_alloc_some _ (Lib.cell?_alloc_some _ hcell)
  have e1 : idxI (ofB m0 m1) L = -1 := by unfold idxI; rw [hk]
  rw [e1] at hcon
  obtain ⟨a1, cap1, rfl⟩ := h.form
  have h8' : ((L.length : Int) == 8) = false := by rw [beq_eq_false_iff_ne]; omega
  clear h hk e1
  unfold mpV zM
  go_enter Try.func33, Try.ntmps33
  go_wp2_with fail
  refine hcon.mono ?_
  rintro e W1 ⟨rfl, rfl⟩
  clear hcon hw0
  go_wp2_with fail
  generalize (((w.alloc (.cells #[.int .u8 m0, .int .u8 m1, .int .u8 m2, .bool m3] 33)).alloc (.cells #[.int .u8 0, .int .u8 0, .int .u8 0, .bool false] 33)).alloc (.cells #[.int .u8 0, .int .u8 0, .int .u8 0, .bool false] 33)) = W1 at *
  have HR : Hid (RIn B w W1 tb (.slice a1 L.length cap1) (.slice a1 L.length cap1) L (m0, m1, m2, m3) (0, 0, 0, false)) := HR0
  clear HR0 gA hcell
  have hs1 := HR.out.size
  have hlt := HR.out.lt
  have g0 : W1.cell? ⟨tb, 0, none⟩ = some (.slice a1 L.length cap1) := HR.out.st.ob.cell
  obtain ⟨⟨x0, x1, x2, x3⟩, _⟩ := b4 HR.out.x
  have g1 : (W1.alloc (.cells #[] 33)).cell? ⟨tb, 0, none⟩ = some (.slice a1 L.length cap1) := Lib.cell?_alloc_some _ g0
  have g2 : (W1.alloc (.cells #[.int .u8 m0, .int .u8 m1, .int .u8 m2, .bool m3] 33)).cell? ⟨tb, 0, none⟩ = some (.slice a1 L.length cap1) := Lib.cell?_alloc_some _ g0
  have g3 : ((W1.alloc (.cells #[] 33)).alloc (.cells #[.int .u8 m0, .int .u8 m1, .int .u8 m2, .bool m3] 33)).cell? ⟨tb, 0, none⟩ = some (.slice a1 L.length cap1) := Lib.cell?_alloc_some _ g1
  have g4 : ((W1.alloc (.cells #[.int .u8 m0, .int .u8 m1, .int .u8 m2, .bool m3] 33)).alloc (.cells #[] 33)).cell? ⟨tb, 0, none⟩ = some (.slice a1 L.length cap1) := Lib.cell?_alloc_some _ g2
  have p0 : (W1.alloc (.cells #[] 33)).cell? ⟨w.heap.size, 0, none⟩ = some (.int .u8 m0) := Lib.cell?_alloc_some _ x0
  have p1 : (W1.alloc (.cells #[] 33)).cell? ⟨w.heap.size, 1, none⟩ = some (.int .u8 m1) := Lib.cell?_alloc_some _ x1
  have p2 : (W1.alloc (.cells #[] 33)).cell? ⟨w.heap.size, 2, none⟩ = some (.int .u8 m2) := Lib.cell?_alloc_some _ x2
  have p3 : (W1.alloc (.cells #[] 33)).cell? ⟨w.heap.size, 3, none⟩ = some (.bool m3) := Lib.cell?_alloc_some _ x3
  have hX1 : Below W1.heap.size W1 (W1.alloc (.cells #[] 33)).drew := ((Below.refl _ W1).alloc (Nat.le_refl _) _).drew
  have hX2 : Below W1.heap.size W1 ((W1.alloc (.cells #[] 33)).alloc (.cells #[.int .u8 m0, .int .u8 m1, .int .u8 m2, .bool m3] 33)).drew := (((Below.refl _ W1).alloc (Nat.le_refl _) _).alloc (by simp) _).drew
  have hX3 : Below W1.heap.size W1 ((W1.alloc (.cells #[.int .u8 m0, .int .u8 m1, .int .u8 m2, .bool m3] 33)).alloc (.cells #[] 33)).drew := (((Below.refl _ W1).alloc (Nat.le_refl _) _).alloc (by simp) _).drew
  have HX1 : Hid (Below W1.heap.size W1 (W1.alloc (.cells #[] 33)).drew) := hX1
  have HX2 : Hid (Below W1.heap.size W1 ((W1.alloc (.cells #[] 33)).alloc (.cells #[.int .u8 m0, .int .u8 m1, .int .u8 m2, .bool m3] 33)).drew) := hX2
  have HX3 : Hid (Below W1.heap.size W1 ((W1.alloc (.cells #[.int .u8 m0, .int .u8 m1, .int .u8 m2, .bool m3] 33)).alloc (.cells #[] 33)).drew) := hX3
  have HX1s : Hid (B ≤ (W1.alloc (.cells #[] 33)).drew.heap.size) := Nat.le_trans HR.out.hB (Nat.le_trans HR.out.st.ap.size hX1.size)
  have HX2s : Hid (B ≤ ((W1.alloc (.cells #[] 33)).alloc (.cells #[.int .u8 m0, .int .u8 m1, .int .u8 m2, .bool m3] 33)).drew.heap.size) := Nat.le_trans HR.out.hB (Nat.le_trans HR.out.st.ap.size hX2.size)
  have HX3s : Hid (B ≤ ((W1.alloc (.cells #[.int .u8 m0, .int .u8 m1, .int .u8 m2, .bool m3] 33)).alloc (.cells #[] 33)).drew.heap.size) := Nat.le_trans HR.out.hB (Nat.le_trans HR.out.st.ap.size hX3.size)
  have hBW : B ≤ W1.heap.size := Nat.le_trans HR.out.hB HR.out.st.ap.size
  have H01 : Hid ((W1.alloc (.cells #[] 33)).drew.ownsRow B 33 4 (.slice (some ⟨W1.heap.size, 0, none⟩) 0 0) ([] : List Mp).length (mpsCs [])) := own_none W1 B hBW
  have H02 : Hid (((W1.alloc (.cells #[] 33)).alloc (.cells #[.int .u8 m0, .int .u8 m1, .int .u8 m2, .bool m3] 33)).drew.ownsRow B 33 4 (.slice (some ⟨W1.heap.size, 0, none⟩) 0 0) ([] : List Mp).length (mpsCs [])) := (own_none W1 B hBW).alloc _
  have H03 : Hid (((W1.alloc (.cells #[.int .u8 m0, .int .u8 m1, .int .u8 m2, .bool m3] 33)).alloc (.cells #[] 33)).drew.ownsRow B 33 4 (.slice (some ⟨W1.heap.size + 1, 0, none⟩) 0 0) ([] : List Mp).length (mpsCs [])) := by
    have := own_none (W1.alloc (.cells #[.int .u8 m0, .int .u8 m1, .int .u8 m2, .bool m3] 33)) B (by rw [World.size_alloc]; omega)
    rw [World.size_alloc] at this
    exact this
  have hM1 := Mps.of_own HR.out.st.ob.row
  have H11 : Hid (Mps (W1.alloc (.cells #[] 33)).drew (.slice a1 L.length cap1) L) := hM1.below hX1
  have H12 : Hid (Mps ((W1.alloc (.cells #[] 33)).alloc (.cells #[.int .u8 m0, .int .u8 m1, .int .u8 m2, .bool m3] 33)).drew (.slice a1 L.length cap1) L) := hM1.below hX2
  have H13 : Hid (Mps ((W1.alloc (.cells #[.int .u8 m0, .int .u8 m1, .int .u8 m2, .bool m3] 33)).alloc (.cells #[] 33)).drew (.slice a1 L.length cap1) L) := hM1.below hX3
  have HM2 : Hid (Mps ((W1.alloc (.cells #[] 33)).alloc (.cells #[.int .u8 m0, .int .u8 m1, .int .u8 m2, .bool m3] 33)).drew (.slice (some ⟨W1.heap.size + 1, 0, none⟩) 1 1) [(m0, m1, m2, m3)]) := by
    have := mps_one (W1.alloc (.cells #[] 33)) m0 m1 m2 m3
    rw [World.size_alloc] at this
    exact this.below (Below.refl _ _).drew
  have HM3 : Hid (Mps ((W1.alloc (.cells #[.int .u8 m0, .int .u8 m1, .int .u8 m2, .bool m3] 33)).alloc (.cells #[] 33)).drew (.slice (some ⟨W1.heap.size, 0, none⟩) 1 1) [(m0, m1, m2, m3)]) := (mps_one W1 m0 m1 m2 m3).below ((Below.refl _ _).alloc (by simp) _).drew
  clear hX1 hX2 hX3 hM1
  go_cut [] (fun wx => ∃ a' cap' Wb, wx = Wb.setCell ⟨tb, 0, none⟩ (.slice a' (L.length + 1) cap') ∧ Hid (RB B w W1 Wb tb (.slice a1 L.length cap1) (.slice a1 L.length cap1) (.slice a' (L.length + 1) cap') (L ++ [(m0, m1, m2, m3)]) (0, 0, 0, false)))
  case first =>
   go_region_law ((first
    | (refine step_appf (.tmp 52) undef (by rfl) (by rfl) _ _ (by rfl) B (.slice (some ⟨W1.heap.size, 0, none⟩) 0 0) [] (.slice a1 L.length cap1) L (by rfl) (by rfl) (by exact H01.out) (by exact H11.out) (by simp only [List.length_nil]; omega) (by exact HX1s.out) ?_; intro va Wa owna growa ata; have HA : Hid (RA B W1 Wa va L) := RA.mk' HX1.out (Nat.le_refl _) owna growa ata; have ga : Wa.cell? ⟨tb, 0, none⟩ = some (.slice a1 L.length cap1) := (HA.out.below.cell (p := ⟨tb, 0, none⟩) (by show tb < _; omega)).trans g0; obtain ⟨⟨qa, qb, qc, qd⟩, _⟩ := b4 ((HA.out.below.block w.heap.size (by omega)).trans HR.out.x); clear owna growa ata)
    | (refine step_appf (.tmp 52) (.slice (some ⟨W1.heap.size + 1, 0, none⟩) 1 1) (by rfl) (by rfl) _ _ (by rfl) B (.slice (some ⟨W1.heap.size, 0, none⟩) 0 0) [] (.slice a1 L.length cap1) L (by rfl) (by rfl) (by exact H02.out) (by exact H12.out) (by simp only [List.length_nil]; omega) (by exact HX2s.out) ?_; intro va Wa owna growa ata; have HA : Hid (RA B W1 Wa va L) := RA.mk' HX2.out (Nat.le_refl _) owna growa ata; have ga : Wa.cell? ⟨tb, 0, none⟩ = some (.slice a1 L.length cap1) := (HA.out.below.cell (p := ⟨tb, 0, none⟩) (by show tb < _; omega)).trans g0; obtain ⟨⟨qa, qb, qc, qd⟩, _⟩ := b4 ((HA.out.below.block w.heap.size (by omega)).trans HR.out.x); have HMa : Hid (Mps Wa (.slice (some ⟨W1.heap.size + 1, 0, none⟩) 1 1) [(m0, m1, m2, m3)]) := mps_far HM2.out (by omega) growa; clear owna growa ata)
    | (refine step_appf (.tmp 52) (.slice (some ⟨W1.heap.size, 0, none⟩) 1 1) (by rfl) (by rfl) _ _ (by rfl) B (.slice (some ⟨W1.heap.size + 1, 0, none⟩) 0 0) [] (.slice a1 L.length cap1) L (by rfl) (by rfl) (by exact H03.out) (by exact H13.out) (by simp only [List.length_nil]; omega) (by exact HX3s.out) ?_; intro va Wa owna growa ata; have HA : Hid (RA B W1 Wa va L) := RA.mk' HX3.out (Nat.le_succ _) owna growa ata; have ga : Wa.cell? ⟨tb, 0, none⟩ = some (.slice a1 L.length cap1) := (HA.out.below.cell (p := ⟨tb, 0, none⟩) (by show tb < _; omega)).trans g0; obtain ⟨⟨qa, qb, qc, qd⟩, _⟩ := b4 ((HA.out.below.block w.heap.size (by omega)).trans HR.out.x); have HMa : Hid (Mps Wa (.slice (some ⟨W1.heap.size, 0, none⟩) 1 1) [(m0, m1, m2, m3)]) := mps_far HM3.out (by omega) growa; clear owna growa ata)
    | (refine step_app (by rfl) _ _ (by rfl) B va ([] ++ L) _ [(m0, m1, m2, m3)] (by rfl) (by rfl) (by exact HA.out.own) (by exact HMa.out) (by simp only [List.nil_append, List.length_cons, List.length_nil]; omega) (by have := HA.out.below.size; omega) ?_; intro vb Wb ownb growb atb; have HQ : Hid (RB B w W1 Wb tb (.slice a1 L.length cap1) (.slice a1 L.length cap1) vb (L ++ [(m0, m1, m2, m3)]) (0, 0, 0, false)) := RB.mk' HR.out HA.out (Below.refl _ _) ownb growb atb; have c4 := HQ.out.c; have f4 := HQ.out.f; obtain ⟨a', cap', e'⟩ := HQ.out.st.ob.form; have e'' : vb = .slice a' (L.length + 1) cap' := by { rw [e']; simp }; clear e'; subst e''; clear ownb growb atb)
    | (refine step_appf (.tmp 52) (.slice (some ⟨Wa.heap.size, 0, none⟩) 1 1) (by rfl) (by rfl) _ _ (by rfl) B va ([] ++ L) _ [(m0, m1, m2, m3)] (by rfl) (by rfl) (by exact HA.out.own.alloc _) (by exact mps_one Wa m0 m1 m2 m3) (by simp only [List.nil_append, List.length_cons, List.length_nil]; omega) (by rw [World.size_alloc]; have := HA.out.below.size; omega) ?_; intro vb Wb ownb growb atb; have HQ : Hid (RB B w W1 Wb tb (.slice a1 L.length cap1) (.slice a1 L.length cap1) vb (L ++ [(m0, m1, m2, m3)]) (0, 0, 0, false)) := RB.mk' HR.out HA.out ((Below.refl _ _).alloc (Nat.le_refl _) _) ownb growb atb; have c4 := HQ.out.c; have f4 := HQ.out.f; obtain ⟨a', cap', e'⟩ := HQ.out.st.ob.form; have e'' : vb = .slice a' (L.length + 1) cap' := by { rw [e']; simp }; clear e'; subst e''; clear ownb growb atb)))
   all_goals
     go_wp2_with fail
     go_meet
     case rel => exact ⟨a', cap', Wb, rfl, HQ.out⟩
  case rest =>
    obtain ⟨a', cap', Wb, rfl, HQ⟩ := hcut
    clear H01 H02 H03 H11 H12 H13 HX1 HX2 HX3 HX1s HX2s HX3s HM2 HM3 g0 g1 g2 g3 g4 p0 p1 p2 p3 x0 x1 x2 x3
    have c4 := HQ.out.c
    have f4 := HQ.out.f
    obtain ⟨⟨ya, yb, yc, yd⟩, k0, k1, k2, k3⟩ := b4 HQ.out.y
    obtain ⟨⟨z0, z1, z2, z3⟩, _⟩ := b4 HQ.out.z
    simp only at z0 z1 z2 z3
    have n6 : w.heap.size + 1 ≠ tb := by omega
    have n7 : w.heap.size + 2 ≠ tb := by omega
    have n8 : w.heap.size + 2 ≠ w.heap.size + 1 := by omega
    go_wp2
    refine bodyPost_ret (v := .tuple #[.agg #[.int .u8 0, .int .u8 0, .int .u8 0, .bool false], .bool false, .int .i64 0]) (by simp [results, Try.results33, go_sem, ya, yb, yc, yd]) rfl ⟨rfl, .slice a' (L.length + 1) cap', ?_⟩
    exact HQ.out.st.far (w.heap.size + 1) (by omega) hlt HQ.out.ne (apart_set4 _ _ _ _ _ _)
end Go.Proofs.Ytojglefbmfpphaa
