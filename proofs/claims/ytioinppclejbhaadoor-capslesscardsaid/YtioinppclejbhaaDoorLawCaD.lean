/- CapsLess: the walk. -/
import Derived.Test.YtioinppclejbhaaDoorCaN
import Derived.Deep.DeepCutAuto
namespace Go.Proofs.YtioinppclejbhaaDoor
open Go.RowKit Go.Maps
set_option linter.unusedVariables false
set_option maxRecDepth 100000
theorem firstO_some (q : Fin 12 → Bool) (we : Int) (hw : (we == 0) = false) : ((firstO q we).2 == 0) = (thL q 12).isEmpty.not := by
  unfold firstO
  cases h : thL q 12 with
  | nil => simpa using hw
  | cons x rest => rfl
theorem opened_iff (s : Sl) (g : Cp) : ((findO s g).2 == 0) = true ↔ ∃ (k : Fin 12) (c : Rc), s k = some c ∧ opensB c.1.1.data.toList c.1.2 g.1.data.toList g.2 = true := by
  unfold findO
  rw [firstO_some _ 7 rfl]
  constructor
  · intro h
    cases hl : thL (fun k => opensB (slF s k).1.data.toList (slF s k).2 g.1.data.toList g.2) 12 with
    | nil => rw [hl] at h; cases h
    | cons k rest =>
      have hm : k ∈ thL (fun k => opensB (slF s k).1.data.toList (slF s k).2 g.1.data.toList g.2) 12 := by rw [hl]; exact List.mem_cons_self
      have hq := ((thL_mem _ 12 (Nat.le_refl _) k).1 hm).2
      cases hs : s k with
      | none =>
        have hq' : opensB (slotC (s k)).1.data.toList (slotC (s k)).2 g.1.data.toList g.2 = true := hq
        rw [hs, opens_split] at hq'
        exact absurd hq'.1 (by unfold rightB; simp [slotC, zC, splitO])
      | some c =>
        have hq' : opensB (slotC (s k)).1.data.toList (slotC (s k)).2 g.1.data.toList g.2 = true := hq
        rw [hs] at hq'
        exact ⟨k, c, hs, hq'⟩
  · rintro ⟨k, c, hs, hq⟩
    have hm := (thL_mem (fun k => opensB (slF s k).1.data.toList (slF s k).2 g.1.data.toList g.2) 12 (Nat.le_refl _) k).2 ⟨k.2, by show opensB (slotC (s k)).1.data.toList (slotC (s k)).2 g.1.data.toList g.2 = true; rw [hs]; exact hq⟩
    cases hl : thL (fun k => opensB (slF s k).1.data.toList (slF s k).2 g.1.data.toList g.2) 12 with
    | nil => rw [hl] at hm; cases hm
    | cons x rest => rfl
theorem thL_cnt2 {q q2 q3 : Fin 12 → Bool} (h : ∀ k, (q k = true → q2 k = false ∧ q3 k = true) ∧ (q k = false → q2 k = q3 k)) : ∀ n, n ≤ 12 → (thL q n).length + (thL q2 n).length = (thL q3 n).length
  | 0, _ => rfl
  | n + 1, hn => by
    have ih := thL_cnt2 h n (by omega)
    rw [thL_snoc q n (by omega), thL_snoc q2 n (by omega), thL_snoc q3 n (by omega), List.length_append, List.length_append, List.length_append]
    have hk := h ⟨n, by omega⟩
    cases hq : q ⟨n, by omega⟩ with
    | true =>
      obtain ⟨h2, h3⟩ := hk.1 hq
      rw [h2, h3]
      simp
      omega
    | false =>
      rw [hk.2 hq]
      simp
      omega
theorem thL_one : ∀ k : Fin 12, (thL (fun i => decide (i = k)) 12).length = 1 := by decide
/-- What is laid opens no more; there is one more. -/
theorem less_laid {s s' : Sl} {k : Fin 12} {d : Rc} (hl : Less s d) (hk : s k = none) (hs : s' = upd s k (some d)) (g : Cp) : ((findO s' g).2 == 0) = ((findO s g).2 == 0) ∧ (slotsL s').length = (slotsL s).length + 1 := by
  subst hs
  constructor
  · rw [Bool.eq_iff_iff, opened_iff, opened_iff]
    constructor
    · rintro ⟨k', c, h1, h2⟩
      by_cases e : k' = k
      · subst e
        have h1' : some d = some c := by
          have : upd s k' (some d) k' = some c := h1
          unfold upd at this
          rw [if_pos rfl] at this
          exact this
        injection h1' with h1'
        subst h1'
        obtain ⟨k2, c2, h3, h4⟩ := hl
        exact ⟨k2, c2, h3, h4 _ _ h2⟩
      · have : s k' = some c := by
          have h1' : upd s k (some d) k' = some c := h1
          unfold upd at h1'
          rw [if_neg e] at h1'
          exact h1'
        exact ⟨k', c, this, h2⟩
    · rintro ⟨k', c, h1, h2⟩
      have e : k' ≠ k := fun e => by rw [e, hk] at h1; cases h1
      exact ⟨k', c, by show upd s k (some d) k' = some c; unfold upd; rw [if_neg e]; exact h1, h2⟩
  · have : (thL (fun i => decide (i = k)) 12).length + (thL (fun i => (s i).isSome) 12).length = (thL (fun i => (upd s k (some d) i).isSome) 12).length := thL_cnt2 (fun i => ⟨fun hi => ?_, fun hi => ?_⟩) 12 (Nat.le_refl _)
    · rw [thL_one k] at this
      unfold slotsL
      omega
    · have e : i = k := of_decide_eq_true hi
      subst e
      exact ⟨by show (s i).isSome = false; rw [hk]; rfl, by show (upd s i (some d) i).isSome = true; unfold upd; rw [if_pos rfl]; rfl⟩
    · have e : i ≠ k := of_decide_eq_false hi
      show (s i).isSome = (upd s k (some d) i).isSome
      unfold upd
      rw [if_neg e]
theorem two_nb {W : World} {b : Nat} {x y : Value} {t : TypeId} (h : W.heap.size = b) : Two (W.alloc (.cells #[x, y] t)) b t x y := h ▸ Two.new W t x y
theorem two_lt {W : World} {b : Nat} {x y : Value} {t : TypeId} (h : Two W b t x y) : b < W.heap.size := (Array.getElem?_eq_some_iff.1 h).1
theorem bl_al {B : Nat} {w W : World} (h : Below B w W) (hB : B ≤ w.heap.size) (o : Obj) : Below B w (W.alloc o) := h.alloc (Nat.le_trans hB h.size) o
theorem bl_set {B : Nat} {w W : World} (h : Below B w W) (b j : Nat) (hb : B ≤ b) (v : Value) : Below B w (W.setCell ⟨b, j, none⟩ v) := ⟨h.os, h.tape, h.output, by rw [size_setCell]; exact h.size, fun k hk => (Below.heap_setCell W ⟨b, j, none⟩ v k (show k ≠ b by omega)).trans (h.block k hk)⟩
/-- The boxes of the deed and of the guard, both tables. -/
structure Kl (w W : World) (b rb : Nat) (s : Sl) (k f t : Int) (n : ByteArray) (r : Int) (gn : ByteArray) (gr : Int) : Prop where
  two : Tw (w.heap.size + 1 + 1) W b rb s
  d : Cl W w.heap.size 39 [.int .i64 k, .int .i64 f, .int .i64 t, .string n, .int .u8 r]
  g : Two W (w.heap.size + 1) 31 (.string gn) (.int .u8 gr)
  bl : Below w.heap.size w W
theorem Kl.low {w W W' : World} {b rb : Nat} {s : Sl} {k f t : Int} {n : ByteArray} {r : Int} {gn : ByteArray} {gr : Int} (h : Kl w W b rb s k f t n r gn gr) (q : Below W.heap.size W W') : Kl w W' b rb s k f t n r gn gr := ⟨h.two.low q, h.d.below q, h.g.below q (two_lt h.g), h.bl.trans (q.mono h.bl.size)⟩
/-- And the two short ones. -/
structure Km (w W : World) (b y z : Nat) (s : Sl) (k f t : Int) (n : ByteArray) (r : Int) (m1 m2 : ByteArray) (gr : Int) : Prop where
  tb : Tb 71 (w.heap.size + 1 + 1) W b s
  dc : Cl W w.heap.size 39 [.int .i64 k, .int .i64 f, .int .i64 t, .string n, .int .u8 r]
  ty : Two W y 31 (.string m1) (.int .u8 gr)
  tz : Two W z 31 (.string m2) (.int .u8 r)
  bl : Below w.heap.size w W
  ny : ¬ y = b
  nz : ¬ z = b
theorem Km.low {w W W' : World} {b y z : Nat} {s : Sl} {k f t : Int} {n : ByteArray} {r : Int} {m1 m2 : ByteArray} {gr : Int} (h : Km w W b y z s k f t n r m1 m2 gr) (q : Below W.heap.size W W') : Km w W' b y z s k f t n r m1 m2 gr := ⟨h.tb.below q, h.dc.below q, h.ty.below q (two_lt h.ty), h.tz.below q (two_lt h.tz), h.bl.trans (q.mono h.bl.size), h.ny, h.nz⟩
theorem Km.step {w W W' : World} {b y z : Nat} {s s' : Sl} {k f t : Int} {n : ByteArray} {r : Int} {m1 m2 : ByteArray} {gr : Int} (h : Km w W b y z s k f t n r m1 m2 gr) (q : TStp 71 (w.heap.size + 1 + 1) W W' b s') : Km w W' b y z s' k f t n r m1 m2 gr :=
  ⟨q.tb, h.dc.stay q.ap (fun e => by have := h.tb.g; have e' : w.heap.size = b := e; omega), (q.ap.block y (two_lt h.ty) h.ny).trans h.ty, (q.ap.block z (two_lt h.tz) h.nz).trans h.tz, h.bl.trans (q.ap.below _ (fun i e => by have := h.tb.g; have e' : i = b := e; omega) h.bl.size), h.ny, h.nz⟩
set_option maxHeartbeats 16000000 in
theorem less_law (v : Value) (l : List Dd) (dd : Dd) (gn : ByteArray) (gr : BitVec 8) (w : World) (hd : Dds w v l) (hn : NTabs w) : Calls Tryd.prog 5 #[v, dd.V, .agg #[.string gn, .int .u8 gr.toNat]] w fun e w' => e = .returned (.bool true) ∧ Below w.heap.size w w' := by
  obtain ⟨kk, f, t, n, r⟩ := dd
  unfold Dd.V Dd.vs
  have hX1 := below_new w (.cells #[.int .i64 kk, .int .i64 f, .int .i64 t, .string n, .int .u8 r.toNat] 39)
  have hX2 := below_new (w.alloc (.cells #[.int .i64 kk, .int .i64 f, .int .i64 t, .string n, .int .u8 r.toNat] 39)) (.cells #[.string gn, .int .u8 gr.toNat] 31)
  have hX := hX1.trans (hX2.mono hX1.size)
  have cP := play_any v l _ (hd.below hX) (hn.later hX)
  have HK0 : Hid3 (∀ W1 b rb s, Tw (w.heap.size + 1 + 1) W1 b rb s → Below (w.heap.size + 1 + 1) ((w.alloc (.cells #[.int .i64 kk, .int .i64 f, .int .i64 t, .string n, .int .u8 r.toNat] 39)).alloc (.cells #[.string gn, .int .u8 gr.toNat] 31)) W1 → Kl w W1 b rb s kk f t n r.toNat gn gr.toNat) := ⟨fun W1 b rb s hT hB => by
    have c1 := (Cl.new w 39 [.int .i64 kk, .int .i64 f, .int .i64 t, .string n, .int .u8 r.toNat]).below hX2
    have g1 := Two.new (w.alloc (.cells #[.int .i64 kk, .int .i64 f, .int .i64 t, .string n, .int .u8 r.toNat] 39)) 31 (.string gn) (.int .u8 gr.toNat)
    simp only [World.size_alloc] at g1
    exact ⟨hT, (hB.block _ (by omega)).trans c1, g1.below hB (by omega), hX.trans (hB.mono (by omega))⟩⟩
  simp only [World.size_alloc] at cP
  have cS1 := fun W => cshort_any gn gr.toNat W
  have cS2 := fun W => cshort_any n r.toNat W
  have hm1 := shortS_size gn
  have hm2 := shortS_size n
  generalize shortS gn = m1 at *
  generalize shortS n = m2 at *
  clear hd hn hX1 hX2 hX
  go_enter Tryd.func5, Tryd.ntmps5
  go_wp2_with fail
  refine cP.mono ?_
  rintro o W1 ⟨b, rb, s, rfl, hT, hB⟩
  have HK1 := Hid3.mk (HK0.out W1 b rb s hT hB)
  clear cP hT hB HK0
  go_wp2_with fail
  refine (live_any _).mono ?_
  rintro o V ⟨rfl, hB⟩
  have HK := Hid3.mk (HK1.out.low hB)
  clear hB HK1
  go_wp2_with fail
  go_cut [10, 11] (fun s10 s11 wx => ∃ y z, s10 = .pointer (some ⟨y, 0, none⟩) ∧ s11 = .pointer (some ⟨z, 0, none⟩) ∧ Below V.heap.size V wx ∧ V.heap.size ≤ y ∧ V.heap.size ≤ z ∧ Two wx y 31 (.string m1) (.int .u8 gr.toNat) ∧ Two wx z 31 (.string m2) (.int .u8 r.toNat))
  case first =>
    have hS : Hid3 (∀ W', Below V.heap.size V W' → W'.cell? ⟨w.heap.size + 1, 0, none⟩ = some (.string gn) ∧ W'.cell? ⟨w.heap.size + 1, 1, none⟩ = some (.int .u8 gr.toNat) ∧ W'.cell? ⟨w.heap.size, 3, none⟩ = some (.string n) ∧ W'.cell? ⟨w.heap.size, 4, none⟩ = some (.int .u8 r.toNat)) := ⟨fun W' hB => ⟨(HK.out.low hB).g.c0, (HK.out.low hB).g.c1, (HK.out.low hB).d.cell 3, (HK.out.low hB).d.cell 4⟩⟩
    have hlx : w.heap.size + 1 < V.heap.size := two_lt HK.out.g
    have z1 : w.heap.size ≠ V.heap.size := by omega
    have z2 : w.heap.size + 1 ≠ V.heap.size := by omega
    have F0 : Hid3 (Below V.heap.size V V.drew) := ⟨(Below.refl _ V).drew⟩
    have F1 : Hid3 (Below V.heap.size V (V.alloc (.cells #[.string ⟨#[]⟩, .int .u8 0] 31)).drew) := ⟨(bl_al (Below.refl _ V) (Nat.le_refl _) _).drew⟩
    have F2 : Hid3 (Below V.heap.size V ((V.alloc (.cells #[.string ⟨#[]⟩, .int .u8 0] 31)).alloc (.cells #[.string ⟨#[]⟩, .int .u8 0] 31)).drew) := ⟨(bl_al (bl_al (Below.refl _ V) (Nat.le_refl _) _) (Nat.le_refl _) _).drew⟩
    have T1 : Hid3 (Two (V.alloc (.cells #[.string ⟨#[]⟩, .int .u8 0] 31)).drew V.heap.size 31 (.string ⟨#[]⟩) (.int .u8 0)) := ⟨Two.new V _ _ _⟩
    have T2 : Hid3 (Two ((V.alloc (.cells #[.string ⟨#[]⟩, .int .u8 0] 31)).alloc (.cells #[.string ⟨#[]⟩, .int .u8 0] 31)).drew V.heap.size 31 (.string ⟨#[]⟩) (.int .u8 0) ∧ Two ((V.alloc (.cells #[.string ⟨#[]⟩, .int .u8 0] 31)).alloc (.cells #[.string ⟨#[]⟩, .int .u8 0] 31)).drew (V.heap.size + 1) 31 (.string ⟨#[]⟩) (.int .u8 0)) := ⟨(Two.new V _ _ _).alloc _, two_nb (by simp)⟩
    go_region_held3 (fun w' => w'.cell? ⟨w.heap.size + 1, 0, none⟩ = some (.string gn) ∧ w'.cell? ⟨w.heap.size + 1, 1, none⟩ = some (.int .u8 gr.toNat) ∧ w'.cell? ⟨w.heap.size, 3, none⟩ = some (.string n) ∧ w'.cell? ⟨w.heap.size, 4, none⟩ = some (.int .u8 r.toNat)) (with_reducible (refine hS.out _ ?_; repeat (first | exact F0.out | exact F1.out | exact F2.out | exact HB1.out | exact HB2.out | (refine bl_set ?_ _ _ (by first | omega | (simp; omega)) _) | (refine bl_al ?_ (Nat.le_refl _) _)))) ((first
      | (go_at_call 13; first
        | ((with_reducible refine (cS1 V.drew).mono ?_); rintro e W1 ⟨rfl, hB1⟩; have HB1 : Hid3 (Below V.heap.size V W1) := ⟨F0.out.trans hB1⟩; have hz1 := HB1.out.size; clear hB1)
        | ((with_reducible refine (cS1 (V.alloc (.cells #[.string ⟨#[]⟩, .int .u8 0] 31)).drew).mono ?_); rintro e W1 ⟨rfl, hB1⟩; have HB1 : Hid3 (Below V.heap.size V W1) := ⟨F1.out.trans (hB1.mono F1.out.size)⟩; have hz1 := HB1.out.size; have TA := Hid3.mk (T1.out.below hB1 (two_lt T1.out)); have hva := two_lt TA.out; clear hB1)
        | ((with_reducible refine (cS1 ((V.alloc (.cells #[.string ⟨#[]⟩, .int .u8 0] 31)).alloc (.cells #[.string ⟨#[]⟩, .int .u8 0] 31)).drew).mono ?_); rintro e W1 ⟨rfl, hB1⟩; have HB1 : Hid3 (Below V.heap.size V W1) := ⟨F2.out.trans (hB1.mono F2.out.size)⟩; have hz1 := HB1.out.size; have TA := Hid3.mk (T2.out.1.below hB1 (two_lt T2.out.1)); have TB := Hid3.mk (T2.out.2.below hB1 (two_lt T2.out.2)); have hva := two_lt TA.out; have hvb := two_lt TB.out; clear hB1)
        | ((with_reducible refine (cS2 W1).mono ?_); rintro e W2 ⟨rfl, hB2⟩; have HB2 : Hid3 (Below V.heap.size V W2) := ⟨HB1.out.trans (hB2.mono HB1.out.size)⟩; have hz2 := HB2.out.size; (try have TA2 := Hid3.mk (TA.out.below hB2 (two_lt TA.out))); (try have TB2 := Hid3.mk (TB.out.below hB2 (two_lt TB.out))); (try (have nac : V.heap.size ≠ W1.heap.size := Nat.ne_of_lt hva; have nca : W1.heap.size ≠ V.heap.size := fun e => nac e.symm)); (try (have ya0 := TA2.out.c0; have ya1 := TA2.out.c1; have yaf := TA2.out.f 0; have yag := TA2.out.f 1; have yal := two_lt TA2.out)); (try (have yb0 := TB2.out.c0; have yb1 := TB2.out.c1; have ybf := TB2.out.f 0; have ybg := TB2.out.f 1; have ybl := two_lt TB2.out)); (try (have yc0 := TC2.out.c0; have yc1 := TC2.out.c1; have ycf := TC2.out.f 0; have ycg := TC2.out.f 1; have ycl := two_lt TC2.out)); (try (have yd0 := TD2.out.c0; have yd1 := TD2.out.c1; have ydf := TD2.out.f 0; have ydg := TD2.out.f 1; have ydl := two_lt TD2.out)); clear hB2)
        | ((with_reducible refine (cS2 (W1.alloc (.cells #[.string ⟨#[]⟩, .int .u8 0] 31))).mono ?_); rintro e W2 ⟨rfl, hB2⟩; have hBx := (bl_al (Below.refl _ W1) (Nat.le_refl _) (.cells #[.string ⟨#[]⟩, .int .u8 0] 31)); have hB3 := hBx.trans (hB2.mono hBx.size); have HB2 : Hid3 (Below V.heap.size V W2) := ⟨HB1.out.trans (hB3.mono HB1.out.size)⟩; have hz2 := HB2.out.size; (try have TA2 := Hid3.mk (TA.out.below hB3 (two_lt TA.out))); have TC2 := Hid3.mk ((Two.new W1 31 (.string ⟨#[]⟩) (.int .u8 0)).below hB2 (by simp)); have hnw := HB1.out.size; have hlw1 : W1.heap.size < W2.heap.size := two_lt TC2.out; (try (have nac : V.heap.size ≠ W1.heap.size := Nat.ne_of_lt hva; have nca : W1.heap.size ≠ V.heap.size := fun e => nac e.symm)); (try (have ya0 := TA2.out.c0; have ya1 := TA2.out.c1; have yaf := TA2.out.f 0; have yag := TA2.out.f 1; have yal := two_lt TA2.out)); (try (have yb0 := TB2.out.c0; have yb1 := TB2.out.c1; have ybf := TB2.out.f 0; have ybg := TB2.out.f 1; have ybl := two_lt TB2.out)); (try (have yc0 := TC2.out.c0; have yc1 := TC2.out.c1; have ycf := TC2.out.f 0; have ycg := TC2.out.f 1; have ycl := two_lt TC2.out)); (try (have yd0 := TD2.out.c0; have yd1 := TD2.out.c1; have ydf := TD2.out.f 0; have ydg := TD2.out.f 1; have ydl := two_lt TD2.out)); clear hB2 hBx hB3)
        | ((with_reducible refine (cS2 ((W1.alloc (.cells #[.string ⟨#[]⟩, .int .u8 0] 31)).alloc (.cells #[.string ⟨#[]⟩, .int .u8 0] 31))).mono ?_); rintro e W2 ⟨rfl, hB2⟩; have hBx := (bl_al (bl_al (Below.refl _ W1) (Nat.le_refl _) (.cells #[.string ⟨#[]⟩, .int .u8 0] 31)) (Nat.le_refl _) (.cells #[.string ⟨#[]⟩, .int .u8 0] 31)); have hB3 := hBx.trans (hB2.mono hBx.size); have HB2 : Hid3 (Below V.heap.size V W2) := ⟨HB1.out.trans (hB3.mono HB1.out.size)⟩; have hz2 := HB2.out.size; have TC2 := Hid3.mk (((Two.new W1 31 (.string ⟨#[]⟩) (.int .u8 0)).alloc (.cells #[.string ⟨#[]⟩, .int .u8 0] 31)).below hB2 (by simp; omega)); have TD2 := Hid3.mk ((two_nb (W := W1.alloc (.cells #[.string ⟨#[]⟩, .int .u8 0] 31)) (b := W1.heap.size + 1) (t := 31) (x := .string ⟨#[]⟩) (y := .int .u8 0) (by simp)).below hB2 (by simp)); have hnw := HB1.out.size; have hlw1 : W1.heap.size + 1 < W2.heap.size := two_lt TD2.out; (try (have nac : V.heap.size ≠ W1.heap.size := Nat.ne_of_lt hva; have nca : W1.heap.size ≠ V.heap.size := fun e => nac e.symm)); (try (have ya0 := TA2.out.c0; have ya1 := TA2.out.c1; have yaf := TA2.out.f 0; have yag := TA2.out.f 1; have yal := two_lt TA2.out)); (try (have yb0 := TB2.out.c0; have yb1 := TB2.out.c1; have ybf := TB2.out.f 0; have ybg := TB2.out.f 1; have ybl := two_lt TB2.out)); (try (have yc0 := TC2.out.c0; have yc1 := TC2.out.c1; have ycf := TC2.out.f 0; have ycg := TC2.out.f 1; have ycl := two_lt TC2.out)); (try (have yd0 := TD2.out.c0; have yd1 := TD2.out.c1; have ydf := TD2.out.f 0; have ydg := TD2.out.f 1; have ydl := two_lt TD2.out)); clear hB2 hBx hB3))))
    all_goals (go_wp2_with fail)
    all_goals go_meet
    all_goals (refine ⟨_, _, rfl, rfl, ?_, ?_, ?_, ?_, ?_⟩)
    all_goals first | omega | (with_reducible (repeat (first | exact HB2.out | (refine bl_set ?_ _ _ (by omega) _) | (refine bl_al ?_ (Nat.le_refl _) _))); done) | (with_reducible exact Two.alloc (Two.set1 (Two.set0 TA2.out _) _) _) | (with_reducible exact Two.other (Two.other (Two.set1 (Two.set0 TA2.out _) _) (by omega) _ _) (by omega) _ _) | (with_reducible exact Two.set1 (Two.set0 (Two.other (Two.other TA2.out (by omega) _ _) (by omega) _ _) _) _) | (with_reducible exact Two.alloc (Two.set1 (Two.set0 TB2.out _) _) _) | (with_reducible exact Two.other (Two.other (Two.set1 (Two.set0 TB2.out _) _) (by omega) _ _) (by omega) _ _) | (with_reducible exact Two.set1 (Two.set0 (Two.other (Two.other TB2.out (by omega) _ _) (by omega) _ _) _) _) | (with_reducible exact Two.alloc (Two.set1 (Two.set0 TC2.out _) _) _) | (with_reducible exact Two.other (Two.other (Two.set1 (Two.set0 TC2.out _) _) (by omega) _ _) (by omega) _ _) | (with_reducible exact Two.set1 (Two.set0 (Two.other (Two.other TC2.out (by omega) _ _) (by omega) _ _) _) _) | (with_reducible exact Two.alloc (Two.set1 (Two.set0 TD2.out _) _) _) | (with_reducible exact Two.other (Two.other (Two.set1 (Two.set0 TD2.out _) _) (by omega) _ _) (by omega) _ _) | (with_reducible exact Two.set1 (Two.set0 (Two.other (Two.other TD2.out (by omega) _ _) (by omega) _ _) _) _) | (with_reducible exact two_nb (by first | rfl | (simp; done) | (rw [size_setCell, size_setCell]))) | (with_reducible exact Two.alloc (two_nb (by first | rfl | (simp; done))) _)
  case rest =>
  obtain ⟨y, z, rfl, rfl, hB, hy, hz, tY, tZ⟩ := hcut
  obtain ⟨W3, hW⟩ : ∃ W, W = wc := ⟨_, rfl⟩
  subst hW
  have HM3 : Hid3 (Km w W3 b y z s kk f t n r.toNat m1 m2 gr.toNat) := ⟨by
    have h := HK.out.low hB
    have hl := HK.out.two.t.c.lt
    exact ⟨h.two.t, h.d, tY, tZ, h.bl, by omega, by omega⟩⟩
  clear hB hy hz tY tZ HK cS1 cS2
  obtain ⟨e1, s1, hL1, hp1, _⟩ := restrict_both s f t r
  obtain ⟨e2, s2, hL2, hp2, _⟩ := derive_both s f t m2 (Nat.le_trans hm2 (by omega))
  have hlen : (slotsL s).length ≤ 12 := thL_len _ 12
  have cO1 := fun W (hW : Km w W b y z s kk f t n r.toNat m1 m2 gr.toNat) => topens_any (w.heap.size + 1 + 1) b s (m1, gr) (Nat.le_trans hm1 (by omega)) W hW.tb
  have cL1 := fun W (hW : Km w W b y z s kk f t n r.toNat m1 m2 gr.toNat) => slots_any (w.heap.size + 1 + 1) b s W hW.tb
  have y0 := HM3.out.ty.c0
  have y1 := HM3.out.ty.c1
  go_wp2_with fail
  refine (cO1 _ HM3.out).mono ?_
  rintro o W4 ⟨rfl, hB4⟩
  have HM4 := Hid3.mk (HM3.out.low hB4)
  clear cO1 hB4 HM3 y0 y1
  go_wp2_with fail
  refine (cL1 _ HM4.out).mono ?_
  rintro o W5 ⟨v5, rfl, hr5, hB5⟩
  obtain ⟨a5, cap5, hv5, _⟩ := (slots_ints hr5).1
  rw [List.length_map] at hv5
  subst hv5
  have HM5 := Hid3.mk (HM4.out.low hB5)
  clear cL1 hr5 hB5 HM4
  have c1 : W5.cell? ⟨w.heap.size, 1, none⟩ = some (.int .i64 f) := HM5.out.dc.cell 1
  have c2 : W5.cell? ⟨w.heap.size, 2, none⟩ = some (.int .i64 t) := HM5.out.dc.cell 2
  have c3 := HM5.out.tz.c1
  have cR := hp1 (w.heap.size + 1 + 1) b W5 HM5.out.tb
  have cD := fun W (hW : Km w W b y z s kk f t n r.toNat m1 m2 gr.toNat) => hp2 (w.heap.size + 1 + 1) b W hW.tb
  clear hp1 hp2
  go_wp2_with fail
  refine cR.mono ?_
  rintro o W6 ⟨rfl, hS6⟩
  have HM6 := Hid3.mk (HM5.out.step hS6)
  clear cR hS6 HM5 c1 c2 c3
  rcases hL1 with ⟨he1, hs1⟩ | ⟨k1, d1, hd1, hk1, rfl, hs1⟩
  · have hs1' := hs1.symm
    subst hs1'
    have ne1 : (e1 != 0) = true := by simpa using he1
    have c1 : W6.cell? ⟨w.heap.size, 1, none⟩ = some (.int .i64 f) := HM6.out.dc.cell 1
    have c2 : W6.cell? ⟨w.heap.size, 2, none⟩ = some (.int .i64 t) := HM6.out.dc.cell 2
    have c3 := HM6.out.tz.c0
    go_wp2_with fail
    refine (cD _ HM6.out).mono ?_
    rintro o W7 ⟨rfl, hS7⟩
    have HKe := Hid3.mk (HM6.out.step hS7)
    clear cD hS7 HM6 c1 c2 c3
    rcases hL2 with ⟨he2, hs2⟩ | ⟨k2, d2, hd2, hk2, rfl, hs2⟩
    · have hs2' := hs2.symm
      subst hs2'
      have ne2 : (e2 != 0) = true := by simpa using he2
      have hfin : ((findO s (m1, gr)).2 == 0) = ((findO s (m1, gr)).2 == 0) ∧ (slotsL s).length = (slotsL s).length := ⟨rfl, rfl⟩
      obtain ⟨hO, hN⟩ := hfin
      have HN := Hid3.mk hN
      clear hN
      have cO := fun W (hW : Km w W b y z s kk f t n r.toNat m1 m2 gr.toNat) => topens_any (w.heap.size + 1 + 1) b s (m1, gr) (Nat.le_trans hm1 (by omega)) W hW.tb
      have cL := fun W (hW : Km w W b y z s kk f t n r.toNat m1 m2 gr.toNat) => slots_any (w.heap.size + 1 + 1) b s W hW.tb
      rw [hO] at cO
      generalize ((findO s (m1, gr)).2 == 0) = op at *
      have hoo : (op == op) = true := by simp
      have y0 := HKe.out.ty.c0
      have y1 := HKe.out.ty.c1
      clear hO
      go_wp2_with fail
      refine (cO _ HKe.out).mono ?_
      rintro o W8 ⟨rfl, hB8⟩
      have HK8 := Hid3.mk (HKe.out.low hB8)
      clear cO hB8 HKe y0 y1
      go_wp2_with fail
      refine (cL _ HK8.out).mono ?_
      rintro o W9 ⟨v9, rfl, hr9, hB9⟩
      obtain ⟨a9, cap9, hv9, _⟩ := (slots_ints hr9).1
      rw [List.length_map] at hv9
      subst hv9
      have HK9 := Hid3.mk (HK8.out.low hB9)
      clear cL hr9 hB9 HK8 HN
      generalize (slotsL s).length = N at *
      go_wp2
      go_ret
      exact ⟨by simp, HK9.out.bl⟩
    · have hfin := less_laid hd2 hk2 hs2 (m1, gr)
      clear hs2 hd2 hk2
      obtain ⟨hO, hN⟩ := hfin
      have HN := Hid3.mk hN
      clear hN
      have cO := fun W (hW : Km w W b y z s2 kk f t n r.toNat m1 m2 gr.toNat) => topens_any (w.heap.size + 1 + 1) b s2 (m1, gr) (Nat.le_trans hm1 (by omega)) W hW.tb
      have cL := fun W (hW : Km w W b y z s2 kk f t n r.toNat m1 m2 gr.toNat) => slots_any (w.heap.size + 1 + 1) b s2 W hW.tb
      rw [hO] at cO
      generalize ((findO s (m1, gr)).2 == 0) = op at *
      have hoo : (op == op) = true := by simp
      have y0 := HKe.out.ty.c0
      have y1 := HKe.out.ty.c1
      clear hO
      go_wp2_with fail
      refine (cO _ HKe.out).mono ?_
      rintro o W8 ⟨rfl, hB8⟩
      have HK8 := Hid3.mk (HKe.out.low hB8)
      clear cO hB8 HKe y0 y1
      go_wp2_with fail
      refine (cL _ HK8.out).mono ?_
      rintro o W9 ⟨v9, rfl, hr9, hB9⟩
      obtain ⟨a9, cap9, hv9, _⟩ := (slots_ints hr9).1
      rw [List.length_map, HN.out] at hv9
      subst hv9
      have HK9 := Hid3.mk (HK8.out.low hB9)
      clear cL hr9 hB9 HK8 HN
      generalize (slotsL s).length = N at *
      have hwN : IntKind.i64.wrap ((N : Int) + 1) = (((N + 1 : Nat)) : Int) := by rw [IntKind.wrap_i64]; omega
      go_wp2
      go_ret
      exact ⟨by simp, HK9.out.bl⟩
  · have hfin := less_laid hd1 hk1 hs1 (m1, gr)
    clear hs1 hd1 hk1 cD hL2
    have HKe := HM6
    clear HM6
    obtain ⟨hO, hN⟩ := hfin
    have HN := Hid3.mk hN
    clear hN
    have cO := fun W (hW : Km w W b y z s1 kk f t n r.toNat m1 m2 gr.toNat) => topens_any (w.heap.size + 1 + 1) b s1 (m1, gr) (Nat.le_trans hm1 (by omega)) W hW.tb
    have cL := fun W (hW : Km w W b y z s1 kk f t n r.toNat m1 m2 gr.toNat) => slots_any (w.heap.size + 1 + 1) b s1 W hW.tb
    rw [hO] at cO
    generalize ((findO s (m1, gr)).2 == 0) = op at *
    have hoo : (op == op) = true := by simp
    have y0 := HKe.out.ty.c0
    have y1 := HKe.out.ty.c1
    clear hO
    go_wp2_with fail
    refine (cO _ HKe.out).mono ?_
    rintro o W8 ⟨rfl, hB8⟩
    have HK8 := Hid3.mk (HKe.out.low hB8)
    clear cO hB8 HKe y0 y1
    go_wp2_with fail
    refine (cL _ HK8.out).mono ?_
    rintro o W9 ⟨v9, rfl, hr9, hB9⟩
    obtain ⟨a9, cap9, hv9, _⟩ := (slots_ints hr9).1
    rw [List.length_map, HN.out] at hv9
    subst hv9
    have HK9 := Hid3.mk (HK8.out.low hB9)
    clear cL hr9 hB9 HK8 HN
    generalize (slotsL s).length = N at *
    have hwN : IntKind.i64.wrap ((N : Int) + 1) = (((N + 1 : Nat)) : Int) := by rw [IntKind.wrap_i64]; omega
    go_wp2
    go_ret
    exact ⟨by simp, HK9.out.bl⟩
end Go.Proofs.YtioinppclejbhaaDoor
