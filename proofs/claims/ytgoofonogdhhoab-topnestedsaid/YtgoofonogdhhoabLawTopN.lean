/- TopNested: the walk. -/
import Derived.Test.YtgoofonogdhhoabArTN
namespace Go.Proofs.Ytgoofonogdhhoab
open Go.RowKit Go.Maps Go.Sort
set_option linter.unusedVariables false
set_option maxRecDepth 100000
theorem rgs_at : ∀ (A : List Rg) (i : Nat) (s : Rg), A[i]? = some s → ((rgsCs A).drop (i * 9)).take 9 = s.vs
  | [], i, s, h => by cases h
  | a :: r, 0, s, h => by
    simp only [List.getElem?_cons_zero, Option.some.injEq] at h
    subst h
    rfl
  | a :: r, i + 1, s, h => by
    rw [List.getElem?_cons_succ] at h
    have := rgs_at r i s h
    rw [← this, rgsCs, show (i + 1) * 9 = 9 + i * 9 by omega, List.drop_append]
    have e : a.vs.drop (9 + i * 9) = [] := List.drop_eq_nil_of_le (by show 9 ≤ _; omega)
    rw [e, List.nil_append]
    congr 2
    show 9 + i * 9 - 9 = _
    omega
theorem own_kind {w : World} {B n : Nat} {v : Value} {xs : List Value} (h : w.ownsRow B 26 9 v n xs) (g : Nat) (hg : v.ownBlock = some g) : B ≤ g ∧ ∃ cur, w.heap[g]? = some (.cells cur 26 (0, 0)) := by
  rcases h.2 with ⟨rfl, _⟩ | ⟨g', cap, cur, rfl, h2, h3, _⟩
  · cases hg
  · injection hg with hg
    subst hg
    exact ⟨h2, cur, h3⟩
theorem Ac.grown {B B' n : Nat} {W w1 : World} {b : Nat} {q : Ar} {v : Value} {xs : List Value} (h : Ac B W b q) (ho : W.ownsRow B' 26 9 v n xs) (hg : W.grownBy w1 v.ownBlock) : Ac B w1 b q :=
  ⟨h.g, (hg.block b h.lt (fun e => by
    obtain ⟨_, cur, hc⟩ := own_kind ho b e.symm
    have := h.c.typ hc
    revert this
    decide)).trans h.c, h.ok⟩
theorem Cl.grown {B' n : Nat} {W w1 : World} {b : Nat} {t : TypeId} {c : List Value} {v : Value} {xs : List Value} (h : Cl W b t c) (ho : W.ownsRow B' 26 9 v n xs) (hb : b < B') (hg : W.grownBy w1 v.ownBlock) : Cl w1 b t c :=
  (hg.block b h.lt (fun e => by
    obtain ⟨h1, _⟩ := own_kind ho b e.symm
    omega)).trans h
theorem own_ac {B B' n : Nat} {w w' : World} {b : Nat} {q : Ar} {v : Value} {xs : List Value} (h : w.ownsRow B' 26 9 v n xs) (k : Ac B w b q) (ap : Apart (XB b) w w') : w'.ownsRow B' 26 9 v n xs :=
  own_stay h ap (fun g hg e => by
    obtain ⟨cur, hg⟩ := hg
    have e : g = b := e
    subst e
    have := k.c.typ hg
    revert this
    decide)
theorem box_ac {B : Nat} {w w' : World} {b x : Nat} {q : Ar} {c : List Value} (h : Cl w x 26 c) (k : Ac B w b q) (ap : Apart (XB b) w w') : Cl w' x 26 c := h.stay ap (fun e => by
  have e : x = b := e
  subst e
  exact h.ne k.c (by decide) rfl)
theorem form9 {w : World} {B n : Nat} {t : TypeId} {v : Value} {xs : List Value} (h : w.ownsRow B t 9 v n xs) : ∃ a cap, v = .slice a n cap := by
  rcases h.2 with ⟨hv, h0⟩ | ⟨g, cap, cur, hv, _⟩
  · exact ⟨none, 0, by rw [h0]; exact hv⟩
  · exact ⟨_, _, hv⟩
theorem own_one (w : World) (B : Nat) (s : Rg) (hB : B ≤ w.heap.size) : (w.alloc (.cells s.vs.toArray 26)).ownsRow B 26 9 (.slice (some ⟨w.heap.size, 0, none⟩) 1 1) [s].length (rgsCs [s]) :=
  ⟨rfl, .inr ⟨w.heap.size, 1, s.vs.toArray, rfl, hB, heap_alloc_new w _, Nat.le_refl _, by unfold maxLen; omega, rfl, by simp [rgsCs, Rg.vs]⟩⟩
abbrev SJ (g j : Nat) (pc a0 a1 a2 a3 a4 a5 a6 a7 : Int) (W : World) : Prop := W.cell? ⟨g, j * 9, none⟩ = some (.int .u16 pc) ∧ W.cell? ⟨g, j * 9 + 1, none⟩ = some (.int .u16 a0) ∧ W.cell? ⟨g, j * 9 + 2, none⟩ = some (.int .u16 a1) ∧ W.cell? ⟨g, j * 9 + 3, none⟩ = some (.int .u16 a2) ∧ W.cell? ⟨g, j * 9 + 4, none⟩ = some (.int .u16 a3) ∧ W.cell? ⟨g, j * 9 + 5, none⟩ = some (.int .u16 a4) ∧ W.cell? ⟨g, j * 9 + 6, none⟩ = some (.int .u16 a5) ∧ W.cell? ⟨g, j * 9 + 7, none⟩ = some (.int .u16 a6) ∧ W.cell? ⟨g, j * 9 + 8, none⟩ = some (.int .u16 a7)
theorem SJ.of {B n : Nat} {W : World} {g cap j : Nat} {A : List Rg} {pc a0 a1 a2 a3 a4 a5 a6 a7 : Int} (h : W.ownsRow B 26 9 (.slice (some ⟨g, 0, none⟩) n cap) A.length (rgsCs A)) (hj : A[j]? = some ⟨pc, a0, a1, a2, a3, a4, a5, a6, a7⟩) : SJ g j pc a0 a1 a2 a3 a4 a5 a6 a7 W := by
  have hc := h.cells rfl
  have e := rgs_at A j _ hj
  have k : ∀ i x, (Rg.vs ⟨pc, a0, a1, a2, a3, a4, a5, a6, a7⟩)[i]? = some x → W.cell? ⟨g, j * 9 + i, none⟩ = some x := fun i x hi => by
    rw [← e, List.getElem?_take] at hi
    split at hi
    · rw [List.getElem?_drop] at hi
      have := hc _ _ hi
      rw [Addr.add_mid, Nat.zero_add] at this
      exact this
    · cases hi
  exact ⟨k 0 _ rfl, k 1 _ rfl, k 2 _ rfl, k 3 _ rfl, k 4 _ rfl, k 5 _ rfl, k 6 _ rfl, k 7 _ rfl, k 8 _ rfl⟩
/-- What stands while upcalls go deeper, and while they come back. -/
structure Ne (B : Nat) (W : World) (ab bx : Nat) (v : Value) (q : Ar) (A : List Rg) (s : Rg) : Prop where
  a : Ac B W ab q
  row : W.ownsRow (bx + 1) 26 9 v A.length (rgsCs A)
  box : Cl W bx 26 s.vs
  hd : A.head? = some s
  pre : q.kp ++ [q.s] <+: A
theorem Ne.below {B : Nat} {W W' : World} {ab bx : Nat} {v : Value} {q : Ar} {A : List Rg} {s : Rg} (h : Ne B W ab bx v q A s) (k : Below W.heap.size W W') : Ne B W' ab bx v q A s := ⟨h.a.below k, own_below h.row k, h.box.below k, h.hd, h.pre⟩
theorem Ne.step {B : Nat} {W W' : World} {ab bx : Nat} {v : Value} {q q' : Ar} {A : List Rg} {s : Rg} (h : Ne B W ab bx v q A s) (k : AStp B W W' ab q') (hp : q'.kp ++ [q'.s] <+: A) : Ne B W' ab bx v q' A s := ⟨k.a, own_ac h.row h.a k.ap, box_ac h.box h.a k.ap, h.hd, hp⟩
set_option maxHeartbeats 4000000 in
theorem nested_law (s : Rg) (dp : Int) (w : World) (hdp : 0 ≤ dp) (hdp2 : dp ≤ 255) : Calls Try.prog 3 #[s.V, .int .u8 dp] w fun e w' => e = .returned (.bool true) ∧ Below w.heap.size w w' := by
  obtain ⟨s0, s1, s2, s3, s4, s5, s6, s7, s8⟩ := s
  have hX := below_new w (.cells #[.int .u16 s0, .int .u16 s1, .int .u16 s2, .int .u16 s3, .int .u16 s4, .int .u16 s5, .int .u16 s6, .int .u16 s7, .int .u16 s8] 26)
  have HX := Hid3.mk hX
  have cN := new_ex ⟨s0, s1, s2, s3, s4, s5, s6, s7, s8⟩ (w.alloc (.cells #[.int .u16 s0, .int .u16 s1, .int .u16 s2, .int .u16 s3, .int .u16 s4, .int .u16 s5, .int .u16 s6, .int .u16 s7, .int .u16 s8] 26)) w.heap.size hX.size
  change Calls _ _ #[.agg #[.int .u16 s0, .int .u16 s1, .int .u16 s2, .int .u16 s3, .int .u16 s4, .int .u16 s5, .int .u16 s6, .int .u16 s7, .int .u16 s8]] _ _ at cN
  have HC := Hid3.mk (Cl.new w 26 [.int .u16 s0, .int .u16 s1, .int .u16 s2, .int .u16 s3, .int .u16 s4, .int .u16 s5, .int .u16 s6, .int .u16 s7, .int .u16 s8])
  obtain ⟨N, hN, hN4⟩ : ∃ N : Nat, dp % 4 = N ∧ N < 4 := ⟨(dp % 4).toNat, by omega, by omega⟩
  have hN1 : IntKind.i64.wrap ((N : Int) + 1) = (N : Int) + 1 := by rw [IntKind.wrap_i64]; omega
  have eN : wrap64 ((wrap64 dp).tmod 4 + 1) = (N : Int) + 1 := by
    have h1 : wrap64 dp = dp := by unfold wrap64; omega
    have h2 : dp.tmod 4 = N := by rw [Int.tmod_eq_emod_of_nonneg hdp]; exact hN
    rw [h1, h2]
    unfold wrap64
    omega
  clear hX
  change Calls _ _ #[.agg #[.int .u16 s0, .int .u16 s1, .int .u16 s2, .int .u16 s3, .int .u16 s4, .int .u16 s5, .int .u16 s6, .int .u16 s7, .int .u16 s8], _] _ _
  go_enter Try.func3, Try.ntmps3
  go_wp2_with fail
  refine cN.mono ?_
  rintro e W1 ⟨ab, rfl, hA, hB1⟩
  have hC1 := HC.out.below hB1
  have HA1 := Hid3.mk hA
  have HC1 := Hid3.mk hC1
  have HB1 := Hid3.mk (HX.out.trans (hB1.mono HX.out.size))
  have y0 : W1.cell? ⟨w.heap.size, 0, none⟩ = some (.int .u16 s0) := hC1.cell 0
  have y1 : W1.cell? ⟨w.heap.size, 1, none⟩ = some (.int .u16 s1) := hC1.cell 1
  have y2 : W1.cell? ⟨w.heap.size, 2, none⟩ = some (.int .u16 s2) := hC1.cell 2
  have y3 : W1.cell? ⟨w.heap.size, 3, none⟩ = some (.int .u16 s3) := hC1.cell 3
  have y4 : W1.cell? ⟨w.heap.size, 4, none⟩ = some (.int .u16 s4) := hC1.cell 4
  have y5 : W1.cell? ⟨w.heap.size, 5, none⟩ = some (.int .u16 s5) := hC1.cell 5
  have y6 : W1.cell? ⟨w.heap.size, 6, none⟩ = some (.int .u16 s6) := hC1.cell 6
  have y7 : W1.cell? ⟨w.heap.size, 7, none⟩ = some (.int .u16 s7) := hC1.cell 7
  have y8 : W1.cell? ⟨w.heap.size, 8, none⟩ = some (.int .u16 s8) := hC1.cell 8
  have hlt1 : w.heap.size < W1.heap.size := hC1.lt
  clear cN hA hB1 hC1 HC HX
  go_wp2_with fail
  try rw [eN]
  try rw [hN]
  clear eN hN1 hN
  have hX2 := below_new W1 (.cells #[.int .u16 s0, .int .u16 s1, .int .u16 s2, .int .u16 s3, .int .u16 s4, .int .u16 s5, .int .u16 s6, .int .u16 s7, .int .u16 s8] 26)
  have HB2 := Hid3.mk (HB1.out.trans (hX2.mono HB1.out.size))
  have HN2 : Hid3 (Ne w.heap.size (W1.alloc (.cells #[.int .u16 s0, .int .u16 s1, .int .u16 s2, .int .u16 s3, .int .u16 s4, .int .u16 s5, .int .u16 s6, .int .u16 s7, .int .u16 s8] 26)) ab w.heap.size (.slice (some ⟨W1.heap.size, 0, none⟩) 1 1) (ar0 ⟨s0, s1, s2, s3, s4, s5, s6, s7, s8⟩) [⟨s0, s1, s2, s3, s4, s5, s6, s7, s8⟩] ⟨s0, s1, s2, s3, s4, s5, s6, s7, s8⟩) := ⟨⟨HA1.out.below hX2, own_one W1 (w.heap.size + 1) ⟨s0, s1, s2, s3, s4, s5, s6, s7, s8⟩ (by omega), HC1.out.below hX2, rfl, List.prefix_refl _⟩⟩
  clear hX2 HA1 HC1 HB1 y0 y1 y2 y3 y4 y5 y6 y7 y8
  go_loopw [7, 8] (fun sv sx wr => ∃ (i : Nat) (q : Ar), i ≤ N + 1 ∧ sx = .int .i64 i ∧ Hid3 (Ne w.heap.size wr ab w.heap.size sv q (q.kp ++ [q.s]) ⟨s0, s1, s2, s3, s4, s5, s6, s7, s8⟩ ∧ q.kp.length = i ∧ q.al = true) ∧ Hid3 (Below w.heap.size w wr)) (fun _ sx _ => N + 1 - (intOf sx).toNat)
  case atStart => exact ⟨0, ar0 ⟨s0, s1, s2, s3, s4, s5, s6, s7, s8⟩, Nat.zero_le _, rfl, ⟨HN2.out, rfl, rfl⟩, HB2⟩
  case round =>
    obtain ⟨i, q, hi1, rfl, HN, HB⟩ := hrel
    have hsz := HB.out.size
    generalize hAA : q.kp ++ [q.s] = LA at *
    have HAA := Hid3.mk hAA
    clear hAA
    obtain ⟨av, capv, hvf⟩ := form9 HN.out.1.row
    subst hvf
    by_cases hlt : i < N + 1
    · have hltz : (i : Int) < (N : Int) + 1 := by omega
      have hi5 : i < 5 := by omega
      have m5 : (i : Int) % 5 = i := by omega
      have m5t : (i : Int).tmod 5 = i := by rw [Int.tmod_eq_emod_of_nonneg (by omega)]; omega
      have w1 : IntKind.u8.wrap (i : Int) = i := by rw [IntKind.wrap_u8]; omega
      have w2 : IntKind.i64.wrap (100 + (i : Int)) = 100 + (i : Int) := by rw [IntKind.wrap_i64]; omega
      have w3 : IntKind.u16.wrap (100 + (i : Int)) = 100 + (i : Int) := by rw [IntKind.wrap_u16]; omega
      have w4 : IntKind.u16.wrap (i : Int) = i := by rw [IntKind.wrap_u16]; omega
      have cE := entry_ok w.heap.size ab q ⟨i, hi5⟩ (100 + i) wr HN.out.1.a
      have cU := fun W (hW : Ac w.heap.size W ab (entQ ⟨i, hi5⟩ (100 + i) q)) => upcall_go w.heap.size ab (entQ ⟨i, hi5⟩ (100 + i) q) ⟨i, hi5⟩ i W hW HN.out.2.2 (by simp [entQ, upd]) (by show q.kp.length < 4; rw [HN.out.2.1]; omega)
      simp only at cE cU
      have HQ : Hid3 ((upQ ⟨i, hi5⟩ i (entQ ⟨i, hi5⟩ (100 + i) q)).kp = LA ∧ (upQ ⟨i, hi5⟩ i (entQ ⟨i, hi5⟩ (100 + i) q)).al = true) := ⟨HAA.out, HN.out.2.2⟩
      have hbn : ab < wr.heap.size := HN.out.1.a.lt
      have hlen : Hid3 (LA.length = i + 1) := ⟨by rw [← HAA.out, List.length_append, HN.out.2.1]; rfl⟩
      clear HN2 HB2
      go_wp2_with fail
      refine cE.mono ?_
      rintro e W2 ⟨rfl, hS2⟩
      have HB2 := Hid3.mk (HB.out.trans (hS2.belowB hsz))
      have HR2 := Hid3.mk (own_ac HN.out.1.row HN.out.1.a hS2.ap)
      have HX2 := Hid3.mk (box_ac HN.out.1.box HN.out.1.a hS2.ap)
      have HA2 := Hid3.mk hS2.a
      have cU2 := cU W2 hS2.a
      clear cE cU hS2
      go_wp2_with fail
      refine cU2.mono ?_
      rintro e W3 ⟨rfl, hS3⟩
      have HB3 := Hid3.mk (HB2.out.trans (hS3.belowB HB2.out.size))
      have HR3 := Hid3.mk (own_ac HR2.out HA2.out hS3.ap)
      have HX3 := Hid3.mk (box_ac HX2.out HA2.out hS3.ap)
      have HA3 := Hid3.mk hS3.a
      clear cU2 hS3 HR2 HX2 HA2 HB2
      generalize upQ ⟨i, hi5⟩ i (entQ ⟨i, hi5⟩ (100 + i) q) = q2 at *
      have cG := regs_any w.heap.size ab q2 W3 HA3.out
      obtain ⟨al2, ⟨pc, a0, a1, a2, a3, a4, a5, a6, a7⟩, kp2, en2⟩ := q2
      change Calls _ _ _ _ (fun r w' => r = .returned (.agg #[.int .u16 pc, .int .u16 a0, .int .u16 a1, .int .u16 a2, .int .u16 a3, .int .u16 a4, .int .u16 a5, .int .u16 a6, .int .u16 a7]) ∧ _) at cG
      go_wp2_with fail
      refine cG.mono ?_
      rintro e W4 ⟨rfl, hB4⟩
      have hX5 := below_new W4 (.cells (Rg.vs ⟨pc, a0, a1, a2, a3, a4, a5, a6, a7⟩).toArray 26)
      have hB5 := hB4.trans (hX5.mono hB4.size)
      have HB5 := Hid3.mk (HB3.out.trans (hB5.mono HB3.out.size))
      have HR5 := Hid3.mk (own_below HR3.out hB5)
      have HX5 := Hid3.mk (HX3.out.below hB5)
      have HA5 := Hid3.mk (HA3.out.below hB5)
      have HO5 := Hid3.mk (rgs_one W4 ⟨pc, a0, a1, a2, a3, a4, a5, a6, a7⟩)
      have hs5 : Hid3 (w.heap.size + 1 ≤ (W4.alloc (.cells (Rg.vs ⟨pc, a0, a1, a2, a3, a4, a5, a6, a7⟩).toArray 26)).heap.size) := ⟨HX5.out.lt⟩
      have hl5 : LA.length + [(⟨pc, a0, a1, a2, a3, a4, a5, a6, a7⟩ : Rg)].length ≤ 1000 := by have := hlen.out; simp only [List.length_cons, List.length_nil]; omega
      have HF : Hid3 (∀ v' w1, w1.ownsRow (w.heap.size + 1) 26 9 v' (LA ++ [(⟨pc, a0, a1, a2, a3, a4, a5, a6, a7⟩ : Rg)]).length (rgsCs (LA ++ [(⟨pc, a0, a1, a2, a3, a4, a5, a6, a7⟩ : Rg)])) → (W4.alloc (.cells (Rg.vs ⟨pc, a0, a1, a2, a3, a4, a5, a6, a7⟩).toArray 26)).grownBy w1 (Value.ownBlock (.slice av LA.length capv)) →
          Ne w.heap.size w1 ab w.heap.size v' ⟨al2, ⟨pc, a0, a1, a2, a3, a4, a5, a6, a7⟩, kp2, en2⟩ (kp2 ++ [(⟨pc, a0, a1, a2, a3, a4, a5, a6, a7⟩ : Rg)]) ⟨s0, s1, s2, s3, s4, s5, s6, s7, s8⟩ ∧ Below w.heap.size w w1) := ⟨fun v' w1 ho hg => by
        have hkp : kp2 = LA := HQ.out.1
        refine ⟨⟨HA5.out.grown HR5.out hg, by rw [hkp]; exact ho, HX5.out.grown HR5.out (Nat.lt_succ_self _) hg, ?_, List.prefix_refl _⟩, HB5.out.grown hg HB5.out.size (fun k e => by have := (own_kind HR5.out k e).1; omega)⟩
        rw [hkp, List.head?_append, HN.out.1.hd]
        rfl⟩
      clear hB4 hX5 hB5 cG HR3 HX3 HA3 HB3
      go_wp2_with (at_builtin; refine wpList_app rfl _ _ rfl (w.heap.size + 1) (.slice av LA.length capv) LA (.slice (some ⟨W4.heap.size, 0, none⟩) 1 1) [(⟨pc, a0, a1, a2, a3, a4, a5, a6, a7⟩ : Rg)] rfl rfl HR5.out HO5.out hl5 hs5.out ?_; intro v' w1 ho hg _; have HE := Hid3.mk (HF.out v' w1 ho hg); clear ho hg)
      go_roundw
      case rel => exact ⟨i + 1, ⟨al2, ⟨pc, a0, a1, a2, a3, a4, a5, a6, a7⟩, kp2, en2⟩, by omega, by go_num, ⟨HE.out.1, by show kp2.length = _; rw [show kp2 = LA from HQ.out.1]; exact hlen.out, HQ.out.2⟩, ⟨HE.out.2⟩⟩
      case measure => simp [intOf]; omega
    · obtain rfl : i = N + 1 := by omega
      obtain ⟨g, rfl⟩ : ∃ g, av = some ⟨g, 0, none⟩ := by
        rcases HN.out.1.row.2 with ⟨_, h0⟩ | ⟨g, cap, cur, hv, _⟩
        · rw [← HAA.out] at h0
          simp at h0
        · injection hv with hv _ _
          exact ⟨g, hv⟩
      have hLen : LA.length = N + 2 := by rw [← HAA.out, List.length_append, HN.out.2.1]; rfl
      have HLen := Hid3.mk hLen
      have hlz : (LA.length : Int) = (N : Int) + 2 := by omega
      have HLz := Hid3.mk hlz
      clear hLen hlz HN2 HB2
      have hnlt : ¬ (((N + 1 : Nat) : Int) < (N : Int) + 1) := by omega
      go_wp2_with fail
      go_loopw [10] (fun sx wq => ∃ (j : Nat) (q' : Ar), j ≤ N + 1 ∧ sx = .int .i64 j ∧ Hid3 (Ne w.heap.size wq ab w.heap.size (.slice (some ⟨g, 0, none⟩) LA.length capv) q' LA ⟨s0, s1, s2, s3, s4, s5, s6, s7, s8⟩ ∧ q'.kp.length = j) ∧ Hid3 (Below w.heap.size w wq)) (fun sx _ => (intOf sx).toNat)
      case atStart => exact ⟨N + 1, q, Nat.le_refl _, by first | rfl | (congr 1; omega), ⟨HN.out.1, HN.out.2.1⟩, HB⟩
      case round =>
        obtain ⟨j, q', hj1, rfl, HM, HB3⟩ := hrel
        rename World => wq
        have hsz3 := HB3.out.size
        by_cases hj0 : j = 0
        · subst hj0
          have hk0 : q'.kp = [] := List.eq_nil_of_length_eq_zero HM.out.2
          have hs0 : q'.s = ⟨s0, s1, s2, s3, s4, s5, s6, s7, s8⟩ := by
            obtain ⟨rest, hrest⟩ := HM.out.1.pre
            have := HM.out.1.hd
            rw [← hrest, hk0] at this
            simpa using this
          have dG := fun d os => Calls.regrown_of (regs_any w.heap.size ab q' (grow (redrawn wq d) os) (HM.out.1.a.below (below_regrown wq d os)))
          have dD := fun d os => Calls.regrown_of ((depth_any w.heap.size ab q' (grow (redrawn wq d) os) (HM.out.1.a.below (below_regrown wq d os))).mono (fun r w' ⟨h1, h2⟩ => ⟨h1, (by subst h2; exact Below.refl _ _ : Below (grow (redrawn wq d) os).heap.size (grow (redrawn wq d) os) w')⟩))
          rw [hs0] at dG
          rw [hk0] at dD
          change ∀ d os, Calls _ _ _ _ (fun r w' => r = .returned (.agg #[.int .u16 s0, .int .u16 s1, .int .u16 s2, .int .u16 s3, .int .u16 s4, .int .u16 s5, .int .u16 s6, .int .u16 s7, .int .u16 s8]) ∧ _) at dG
          change ∀ d os, Calls _ _ _ _ (fun r w' => r = .returned (.int .i64 0) ∧ _) at dD
          have eG := eqGuardR
          have eM : ∀ w, (Op.equalIn 10000 26 (.agg #[.int .u16 s0, .int .u16 s1, .int .u16 s2, .int .u16 s3, .int .u16 s4, .int .u16 s5, .int .u16 s6, .int .u16 s7, .int .u16 s8]) (.agg #[.int .u16 s0, .int .u16 s1, .int .u16 s2, .int .u16 s3, .int .u16 s4, .int .u16 s5, .int .u16 s6, .int .u16 s7, .int .u16 s8])).run Try.prog w = .ok true w := fun w => eqRgs w ⟨s0, s1, s2, s3, s4, s5, s6, s7, s8⟩
          have g0 := fun d os => cell_regrown (show wq.cell? ⟨w.heap.size, 0, none⟩ = some (.int .u16 s0) from HM.out.1.box.cell 0) d os
          have g1 := fun d os => cell_regrown (show wq.cell? ⟨w.heap.size, 1, none⟩ = some (.int .u16 s1) from HM.out.1.box.cell 1) d os
          have g2 := fun d os => cell_regrown (show wq.cell? ⟨w.heap.size, 2, none⟩ = some (.int .u16 s2) from HM.out.1.box.cell 2) d os
          have g3 := fun d os => cell_regrown (show wq.cell? ⟨w.heap.size, 3, none⟩ = some (.int .u16 s3) from HM.out.1.box.cell 3) d os
          have g4 := fun d os => cell_regrown (show wq.cell? ⟨w.heap.size, 4, none⟩ = some (.int .u16 s4) from HM.out.1.box.cell 4) d os
          have g5 := fun d os => cell_regrown (show wq.cell? ⟨w.heap.size, 5, none⟩ = some (.int .u16 s5) from HM.out.1.box.cell 5) d os
          have g6 := fun d os => cell_regrown (show wq.cell? ⟨w.heap.size, 6, none⟩ = some (.int .u16 s6) from HM.out.1.box.cell 6) d os
          have g7 := fun d os => cell_regrown (show wq.cell? ⟨w.heap.size, 7, none⟩ = some (.int .u16 s7) from HM.out.1.box.cell 7) d os
          have g8 := fun d os => cell_regrown (show wq.cell? ⟨w.heap.size, 8, none⟩ = some (.int .u16 s8) from HM.out.1.box.cell 8) d os
          clear hk0 hs0
          go_wp2_with fail
          refine wp_region_quiet_below (by kernel_rfl) (by kernel_rfl) ?_
          repeat (quiet_step (first | exact dG _ _ | exact dD _ _))
          refine wpQuiet_nil ?_
          intro _ hw'
          obtain ⟨⟨dq, osq⟩, hw''⟩ := hw'
          subst hw''
          have hR := Hid3.mk (HB3.out.trans ((below_regrown wq dq osq).mono HB3.out.size))
          clear g0 g1 g2 g3 g4 g5 g6 g7 g8 dG dD eG eM
          go_wp2
          go_ret
          exact ⟨rfl, hR.out⟩
        · have hjz : (j : Int) > 0 := by omega
          have hjl : (j : Int) < (LA.length : Int) := by have := HLen.out; omega
          rcases List.eq_nil_or_concat q'.kp with hk | ⟨r, t, hk⟩
          · have := HM.out.2
            rw [hk] at this
            simp at this
            omega
          rw [List.concat_eq_append] at hk
          have hrl : r.length + 1 = j := by have := HM.out.2; rw [hk] at this; simpa using this
          have HRt : Hid3 (q'.kp = r ++ [t] ∧ (popQ r t q').kp.length = j - 1 ∧ (popQ r t q').kp ++ [(popQ r t q').s] <+: LA) := ⟨hk, by show r.length = _; omega, by
            show r ++ [t] <+: LA
            rw [← hk]
            exact List.IsPrefix.trans (List.prefix_append _ _) HM.out.1.pre⟩
          have hat : LA[j]? = some q'.s := by
            obtain ⟨rest, hrest⟩ := HM.out.1.pre
            rw [← hrest, List.append_assoc, List.getElem?_append_right (by rw [HM.out.2]; exact Nat.le_refl _), HM.out.2]
            simp
          have cD := depth_any w.heap.size ab q' wq.drew (HM.out.1.a.below (below_drew wq))
          rw [HM.out.2] at cD
          have cG := regs_any w.heap.size ab q' wq.drew (HM.out.1.a.below (below_drew wq))
          have cR := fun W (hW : Ac w.heap.size W ab q') => ret_some w.heap.size ab q' r t W hW HRt.out.1
          have HM2 := Hid3.mk (HM.out.1.below (below_drew wq))
          have HB4 := Hid3.mk (HB3.out.trans ((below_drew wq).mono hsz3))
          have hjj : ((j : Int) != (j : Int)) = false := by simp
          clear hk hrl HM
          generalize popQ r t q' = q3 at *
          obtain ⟨al1, ⟨pc, a0, a1, a2, a3, a4, a5, a6, a7⟩, kp1, en1⟩ := q'
          change Calls _ _ _ _ (fun r w' => r = .returned (.agg #[.int .u16 pc, .int .u16 a0, .int .u16 a1, .int .u16 a2, .int .u16 a3, .int .u16 a4, .int .u16 a5, .int .u16 a6, .int .u16 a7]) ∧ _) at cG
          have hSa : Hid3 (SJ g j pc a0 a1 a2 a3 a4 a5 a6 a7 wq.drew) := ⟨SJ.of HM2.out.row hat⟩
          have Hat := Hid3.mk hat
          have eG := eqGuardR
          have eM : ∀ w, (Op.equalIn 10000 26 (.agg #[.int .u16 pc, .int .u16 a0, .int .u16 a1, .int .u16 a2, .int .u16 a3, .int .u16 a4, .int .u16 a5, .int .u16 a6, .int .u16 a7]) (.agg #[.int .u16 pc, .int .u16 a0, .int .u16 a1, .int .u16 a2, .int .u16 a3, .int .u16 a4, .int .u16 a5, .int .u16 a6, .int .u16 a7])).run Try.prog w = .ok true w := fun w => eqRgs w ⟨pc, a0, a1, a2, a3, a4, a5, a6, a7⟩
          clear hat
          go_wp2_with fail
          go_region_held3 (fun w' => w'.cell? ⟨g, j * 9, none⟩ = some (.int .u16 pc) ∧ w'.cell? ⟨g, j * 9 + 1, none⟩ = some (.int .u16 a0) ∧ w'.cell? ⟨g, j * 9 + 2, none⟩ = some (.int .u16 a1) ∧ w'.cell? ⟨g, j * 9 + 3, none⟩ = some (.int .u16 a2) ∧ w'.cell? ⟨g, j * 9 + 4, none⟩ = some (.int .u16 a3) ∧ w'.cell? ⟨g, j * 9 + 5, none⟩ = some (.int .u16 a4) ∧ w'.cell? ⟨g, j * 9 + 6, none⟩ = some (.int .u16 a5) ∧ w'.cell? ⟨g, j * 9 + 7, none⟩ = some (.int .u16 a6) ∧ w'.cell? ⟨g, j * 9 + 8, none⟩ = some (.int .u16 a7)) (with_reducible (first | exact hSa.out | exact hSb.out | exact hSc.out)) ((first
            | (go_at_call 8; refine cD.mono ?_; rintro r Wd ⟨rfl, hw4⟩; subst hw4)
            | (go_at_call 7; refine cG.mono ?_; rintro r Wa ⟨rfl, hb⟩; have HMa := Hid3.mk (HM2.out.below hb); have hSb : Hid3 (SJ g j pc a0 a1 a2 a3 a4 a5 a6 a7 Wa) := ⟨SJ.of HMa.out.row Hat.out⟩; have HBa := Hid3.mk (HB4.out.trans (hb.mono HB4.out.size)); clear hb)
            | (go_at_call 9; refine (cR Wa HMa.out.a).mono ?_; rintro e Wb ⟨rfl, hs2⟩; have HMb := Hid3.mk (HMa.out.step hs2 HRt.out.2.2); have hSc : Hid3 (SJ g j pc a0 a1 a2 a3 a4 a5 a6 a7 Wb) := ⟨SJ.of HMb.out.row Hat.out⟩; have HBb := Hid3.mk (HBa.out.trans (hs2.belowB HBa.out.size)); clear hs2)))
          all_goals (
            go_wp2
            go_roundw
            case rel => exact ⟨j - 1, q3, by omega, by go_num, ⟨HMb.out, HRt.out.2.1⟩, HBb⟩
            case measure => simp [intOf]; omega)
end Go.Proofs.Ytgoofonogdhhoab
