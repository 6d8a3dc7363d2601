/- AreaReturns: the walk. -/
import Derived.Test.YtgoofonogdhhoaaLawArA
namespace Go.Proofs.Ytgoofonogdhhoaa
open Go.RowKit Go.Maps Go.Sort
set_option linter.unusedVariables false
set_option maxRecDepth 100000
def whE (u : Int) (q : Ar) : Int := match fk u with
  | none => 0
  | some k => (q.en k).getD 0
def whB (u : Int) (q : Ar) : Bool := match fk u with
  | none => false
  | some k => (q.en k).isSome
theorem dwhere_any (B b : Nat) (q : Ar) (u : Int) (w : World) (h : Ac B w b q) (h0 : 0 ≤ u) : Calls Try.prog 14 #[.pointer (some ⟨b, 0, none⟩), .int .u8 u] w fun r w' => r = .returned (.tuple #[.int .u16 (whE u q), .bool (whB u q)]) ∧ Below w.heap.size w w' := by
  unfold whE whB
  rcases fk_cases u h0 with ⟨k, rfl, he⟩ | ⟨hb, he⟩
  · rw [he]
    exact where_ok B b q k w h
  · rw [he]
    exact (where_bad b u w hb).mono (fun r w' ⟨h1, h2⟩ => ⟨h1, below_eq h2⟩)
/-- An upcall that is refused: why. -/
theorem up_no {u v : Int} {q : Ar} (h0 : 0 ≤ u) (h : upE u q ≠ 0) : uQ u v q = q ∧ (whB u q = false ∨ (whB u q = true ∧ q.al = false) ∨ (whB u q = true ∧ q.al = true ∧ q.kp.length = 4)) := by
  unfold upE at h
  unfold uQ whB
  rcases fk_cases u h0 with ⟨k, rfl, he⟩ | ⟨hb, he⟩
  · rw [he] at h ⊢
    simp only at h ⊢
    refine ⟨if_neg h, ?_⟩
    unfold readyE at h
    cases h1 : (q.en k).isSome with
    | false => exact .inl rfl
    | true =>
      refine .inr ?_
      cases h2 : q.al with
      | false => exact .inl ⟨rfl, rfl⟩
      | true =>
        refine .inr ⟨rfl, rfl, ?_⟩
        rw [h1, h2] at h
        simpa using h
  · rw [he]
    exact ⟨rfl, .inl rfl⟩
theorem up_yes {u v : Int} {q : Ar} (h0 : 0 ≤ u) (ok : q.Ok) (h : upE u q = 0) : ∃ k : Fin 5, u = (k.1 : Int) ∧ uQ u v q = upQ k v q ∧ whE u q = (q.en k).getD 0 ∧ whB u q = true ∧ q.al = true := by
  unfold upE at h
  unfold uQ whE whB
  rcases fk_cases u h0 with ⟨k, rfl, he⟩ | ⟨hb, he⟩
  · rw [he] at h ⊢
    simp only at h ⊢
    obtain ⟨h1, h2, _⟩ := ready0 ok h
    exact ⟨k, rfl, if_pos h, rfl, h2, h1⟩
  · rw [he] at h
    simp at h
abbrev SS (b1 b2 : Nat) (t0 t1 t2 t3 t4 t5 t6 t7 t8 pc a0 a1 a2 a3 a4 a5 a6 a7 : Int) (W : World) : Prop := W.cell? ⟨b1, 0, none⟩ = some (.int .u16 t0) ∧ W.cell? ⟨b1, 1, none⟩ = some (.int .u16 t1) ∧ W.cell? ⟨b1, 2, none⟩ = some (.int .u16 t2) ∧ W.cell? ⟨b1, 3, none⟩ = some (.int .u16 t3) ∧ W.cell? ⟨b1, 4, none⟩ = some (.int .u16 t4) ∧ W.cell? ⟨b1, 5, none⟩ = some (.int .u16 t5) ∧ W.cell? ⟨b1, 6, none⟩ = some (.int .u16 t6) ∧ W.cell? ⟨b1, 7, none⟩ = some (.int .u16 t7) ∧ W.cell? ⟨b1, 8, none⟩ = some (.int .u16 t8) ∧ W.cell? ⟨b2, 0, none⟩ = some (.int .u16 pc) ∧ W.cell? ⟨b2, 1, none⟩ = some (.int .u16 a0) ∧ W.cell? ⟨b2, 2, none⟩ = some (.int .u16 a1) ∧ W.cell? ⟨b2, 3, none⟩ = some (.int .u16 a2) ∧ W.cell? ⟨b2, 4, none⟩ = some (.int .u16 a3) ∧ W.cell? ⟨b2, 5, none⟩ = some (.int .u16 a4) ∧ W.cell? ⟨b2, 6, none⟩ = some (.int .u16 a5) ∧ W.cell? ⟨b2, 7, none⟩ = some (.int .u16 a6) ∧ W.cell? ⟨b2, 8, none⟩ = some (.int .u16 a7)
theorem SS.mk' {b1 b2 : Nat} {t0 t1 t2 t3 t4 t5 t6 t7 t8 pc a0 a1 a2 a3 a4 a5 a6 a7 : Int} {W : World} (h1 : Cl W b1 26 [.int .u16 t0, .int .u16 t1, .int .u16 t2, .int .u16 t3, .int .u16 t4, .int .u16 t5, .int .u16 t6, .int .u16 t7, .int .u16 t8]) (h2 : Cl W b2 26 [.int .u16 pc, .int .u16 a0, .int .u16 a1, .int .u16 a2, .int .u16 a3, .int .u16 a4, .int .u16 a5, .int .u16 a6, .int .u16 a7]) : SS b1 b2 t0 t1 t2 t3 t4 t5 t6 t7 t8 pc a0 a1 a2 a3 a4 a5 a6 a7 W :=
  ⟨h1.cell 0, h1.cell 1, h1.cell 2, h1.cell 3, h1.cell 4, h1.cell 5, h1.cell 6, h1.cell 7, h1.cell 8, h2.cell 0, h2.cell 1, h2.cell 2, h2.cell 3, h2.cell 4, h2.cell 5, h2.cell 6, h2.cell 7, h2.cell 8⟩
set_option maxHeartbeats 4000000 in
theorem returns_law (v : Value) (l : List Dd) (x : Dd) (s : Rg) (w : World) (hd : Dds w v l) (hok : ∀ d ∈ l, d.Ok) (hx : x.Ok) : Calls Try.prog 4 #[v, x.V, s.V] w fun e w' => e = .returned (.bool true) ∧ Below w.heap.size w w' := by
  obtain ⟨kk, uu, wd, ⟨s0, s1, s2, s3, s4, s5, s6, s7, s8⟩⟩ := x
  obtain ⟨t0, t1, t2, t3, t4, t5, t6, t7, t8⟩ := s
  have hu0 : 0 ≤ uu := hx
  have hX : Below w.heap.size w ((w.alloc (.cells #[.int .i64 kk, .int .u8 uu, .int .u16 wd, .int .u16 s0, .int .u16 s1, .int .u16 s2, .int .u16 s3, .int .u16 s4, .int .u16 s5, .int .u16 s6, .int .u16 s7, .int .u16 s8] 37)).alloc (.cells #[.int .u16 t0, .int .u16 t1, .int .u16 t2, .int .u16 t3, .int .u16 t4, .int .u16 t5, .int .u16 t6, .int .u16 t7, .int .u16 t8] 26)) := (below_new w _).alloc (by simp) _
  have HX := Hid3.mk hX
  have cP := play_any rg0 v l _ (hd.below hX) hok
  change Calls _ _ #[.agg #[.int .u16 0, .int .u16 0, .int .u16 0, .int .u16 0, .int .u16 0, .int .u16 0, .int .u16 0, .int .u16 0, .int .u16 0], _] _ _ at cP
  have HD0 : Hid3 (Cl ((w.alloc (.cells #[.int .i64 kk, .int .u8 uu, .int .u16 wd, .int .u16 s0, .int .u16 s1, .int .u16 s2, .int .u16 s3, .int .u16 s4, .int .u16 s5, .int .u16 s6, .int .u16 s7, .int .u16 s8] 37)).alloc (.cells #[.int .u16 t0, .int .u16 t1, .int .u16 t2, .int .u16 t3, .int .u16 t4, .int .u16 t5, .int .u16 t6, .int .u16 t7, .int .u16 t8] 26)) w.heap.size 37 [.int .i64 kk, .int .u8 uu, .int .u16 wd, .int .u16 s0, .int .u16 s1, .int .u16 s2, .int .u16 s3, .int .u16 s4, .int .u16 s5, .int .u16 s6, .int .u16 s7, .int .u16 s8]) := ⟨(Cl.new w _ _).alloc _⟩
  have HT0 : Hid3 (Cl ((w.alloc (.cells #[.int .i64 kk, .int .u8 uu, .int .u16 wd, .int .u16 s0, .int .u16 s1, .int .u16 s2, .int .u16 s3, .int .u16 s4, .int .u16 s5, .int .u16 s6, .int .u16 s7, .int .u16 s8] 37)).alloc (.cells #[.int .u16 t0, .int .u16 t1, .int .u16 t2, .int .u16 t3, .int .u16 t4, .int .u16 t5, .int .u16 t6, .int .u16 t7, .int .u16 t8] 26)) (w.heap.size + 1) 26 [.int .u16 t0, .int .u16 t1, .int .u16 t2, .int .u16 t3, .int .u16 t4, .int .u16 t5, .int .u16 t6, .int .u16 t7, .int .u16 t8]) := ⟨by
    have := Cl.new (w.alloc (.cells #[.int .i64 kk, .int .u8 uu, .int .u16 wd, .int .u16 s0, .int .u16 s1, .int .u16 s2, .int .u16 s3, .int .u16 s4, .int .u16 s5, .int .u16 s6, .int .u16 s7, .int .u16 s8] 37)) 26 [.int .u16 t0, .int .u16 t1, .int .u16 t2, .int .u16 t3, .int .u16 t4, .int .u16 t5, .int .u16 t6, .int .u16 t7, .int .u16 t8]
    rw [World.size_alloc] at this
    exact this⟩
  generalize playQ (l.take 40) (ar0 rg0) = q at *
  clear hd hok hx hX
  change Calls _ _ #[_, .agg #[.int .i64 kk, .int .u8 uu, .int .u16 wd, .int .u16 s0, .int .u16 s1, .int .u16 s2, .int .u16 s3, .int .u16 s4, .int .u16 s5, .int .u16 s6, .int .u16 s7, .int .u16 s8], .agg #[.int .u16 t0, .int .u16 t1, .int .u16 t2, .int .u16 t3, .int .u16 t4, .int .u16 t5, .int .u16 t6, .int .u16 t7, .int .u16 t8]] _ _
  go_enter Try.func4, Try.ntmps4
  go_wp2_with fail
  refine cP.mono ?_
  rintro e W1 ⟨ab, rb, rfl, hT, hB1⟩
  have hA1 := hT.t
  have hg1 := hA1.g
  have HD1 := Hid3.mk (HD0.out.below hB1)
  have HT1 := Hid3.mk (HT0.out.below hB1)
  have HB1 := Hid3.mk (HX.out.trans (hB1.mono HX.out.size))
  have hgab : w.heap.size + 2 ≤ ab := by simpa using hg1
  clear hT hB1 cP HD0 HT0 hg1
  have hA1' : Ac w.heap.size W1 ab q := ⟨by omega, hA1.c, hA1.ok⟩
  clear hA1
  have cL := live_any W1
  go_wp2_with fail
  refine cL.mono ?_
  rintro e W2 ⟨rfl, hB2⟩
  have hA2 := hA1'.below hB2
  have HD2 := Hid3.mk (HD1.out.below hB2)
  have HT2 := Hid3.mk (HT1.out.below hB2)
  have HB2 := Hid3.mk (HB1.out.trans (hB2.mono HB1.out.size))
  clear cL hB2 HD1 HT1 HB1 hA1' HX
  have cG := regs_any _ ab q W2 hA2
  have hok := hA2.ok
  obtain ⟨qal, ⟨pc, a0, a1, a2, a3, a4, a5, a6, a7⟩, kp, en⟩ := q
  change Calls _ _ _ _ (fun r w' => r = .returned (.agg #[.int .u16 pc, .int .u16 a0, .int .u16 a1, .int .u16 a2, .int .u16 a3, .int .u16 a4, .int .u16 a5, .int .u16 a6, .int .u16 a7]) ∧ _) at cG
  have HA2 := Hid3.mk hA2
  have Hok := Hid3.mk hok
  clear hA2 hok
  go_wp2_with fail
  refine cG.mono ?_
  rintro e W3 ⟨rfl, hB3⟩
  have hA3 := HA2.out.below hB3
  have HD3 := Hid3.mk (HD2.out.below hB3)
  have HT3 := Hid3.mk (HT2.out.below hB3)
  have HB3 := Hid3.mk (HB2.out.trans (hB3.mono HB2.out.size))
  have cD := depth_any _ ab _ W3 hA3
  have HA3 := Hid3.mk hA3
  clear cG hB3 HD2 HT2 HB2 HA2 hA3
  go_wp2_with fail
  refine cD.mono ?_
  rintro e W3' ⟨rfl, hW⟩
  rw [hW]
  clear cD hW
  have hX := below_new W3 (.cells #[.int .u16 pc, .int .u16 a0, .int .u16 a1, .int .u16 a2, .int .u16 a3, .int .u16 a4, .int .u16 a5, .int .u16 a6, .int .u16 a7] 26)
  have HA4 := Hid3.mk (HA3.out.below hX)
  have HD4 := Hid3.mk (HD3.out.below hX)
  have HT4 := Hid3.mk (HT3.out.below hX)
  have HQ4 := Hid3.mk (Cl.new W3 26 [.int .u16 pc, .int .u16 a0, .int .u16 a1, .int .u16 a2, .int .u16 a3, .int .u16 a4, .int .u16 a5, .int .u16 a6, .int .u16 a7])
  have HB4 := Hid3.mk (HB3.out.trans (hX.mono HB3.out.size))
  have hqb : w.heap.size < W3.heap.size := HD3.out.lt
  have hqa : ab < W3.heap.size := HA3.out.lt
  have x1 : W3.cell? ⟨w.heap.size, 1, none⟩ = some (.int .u8 uu) := HD3.out.cell 1
  have cW := dwhere_any _ ab _ uu _ HA4.out hu0
  clear hX HA3 HD3 HT3 HB3
  go_wp2_with fail
  refine cW.mono ?_
  rintro e W5 ⟨rfl, hB5⟩
  have HA5 := Hid3.mk (HA4.out.below hB5)
  have HD5 := Hid3.mk (HD4.out.below hB5)
  have HT5 := Hid3.mk (HT4.out.below hB5)
  have HQ5 := Hid3.mk (HQ4.out.below hB5)
  have HB5 := Hid3.mk (HB4.out.trans (hB5.mono HB4.out.size))
  clear cW hB5 HA4 HD4 HT4 HQ4 HB4 x1
  have x1 : W5.cell? ⟨w.heap.size, 1, none⟩ = some (.int .u8 uu) := HD5.out.cell 1
  have x2 : W5.cell? ⟨w.heap.size, 2, none⟩ = some (.int .u16 wd) := HD5.out.cell 2
  have cU := dup_any _ ab _ uu wd W5 HA5.out hu0
  have hqw : w.heap.size ≠ ab := by omega
  have hqt : w.heap.size + 1 ≠ ab := by omega
  have hqq : W3.heap.size ≠ ab := by omega
  clear hqb hqa hgab
  generalize W3.heap.size = xq at *
  by_cases hup : upE uu ⟨qal, ⟨pc, a0, a1, a2, a3, a4, a5, a6, a7⟩, kp, en⟩ = 0
  · obtain ⟨k, rfl, u1, u2, u3, u4⟩ := up_yes (v := wd) hu0 Hok.out hup
    rw [hup, u1] at cU
    rw [u2, u3]
    simp only at u4
    subst u4
    have hat : upS k wd ⟨true, ⟨pc, a0, a1, a2, a3, a4, a5, a6, a7⟩, kp, en⟩ = ⟨(en k).getD 0, a0, wd, k.1, a3, a4, a5, a6, a7⟩ := rfl
    have hk4 : kp.length < 5 := by have := Hok.out.1; simp only at this; omega
    go_wp2_with fail
    refine cU.mono ?_
    rintro e W6 ⟨rfl, hS⟩
    have HA6 := Hid3.mk hS.a
    have HD6 := Hid3.mk (HD5.out.stay hS.ap hqw)
    have HT6 := Hid3.mk (HT5.out.stay hS.ap hqt)
    have HQ6 := Hid3.mk (HQ5.out.stay hS.ap hqq)
    have HB6 := Hid3.mk (HB5.out.trans (hS.belowB HB5.out.size))
    clear cU hS HA5 HD5 HT5 HQ5 HB5 x1 x2 hup u1 u2 u3
    have cG := regs_any _ ab _ W6 HA6.out
    rw [show (upQ k wd ⟨true, ⟨pc, a0, a1, a2, a3, a4, a5, a6, a7⟩, kp, en⟩).s = ⟨(en k).getD 0, a0, wd, k.1, a3, a4, a5, a6, a7⟩ from rfl] at cG
    generalize hat0 : (en k).getD 0 = at0 at *
    change Calls _ _ _ _ (fun r w' => r = .returned (.agg #[.int .u16 at0, .int .u16 a0, .int .u16 wd, .int .u16 k.1, .int .u16 a3, .int .u16 a4, .int .u16 a5, .int .u16 a6, .int .u16 a7]) ∧ _) at cG
    go_wp2_with fail
    refine cG.mono ?_
    rintro e W7 ⟨rfl, hB7⟩
    have hX := below_new W7 (.cells #[.int .u16 at0, .int .u16 a0, .int .u16 wd, .int .u16 k.1, .int .u16 a3, .int .u16 a4, .int .u16 a5, .int .u16 a6, .int .u16 a7] 26)
    have hBx := hB7.trans (hX.mono hB7.size)
    have HA8 := Hid3.mk (HA6.out.below hBx)
    have HD8 := Hid3.mk (HD6.out.below hBx)
    have HT8 := Hid3.mk (HT6.out.below hBx)
    have HQ8 := Hid3.mk (HQ6.out.below hBx)
    have HB8 := Hid3.mk (HB6.out.trans (hBx.mono HB6.out.size))
    have y1 : W7.cell? ⟨w.heap.size, 1, none⟩ = some (.int .u8 k.1) := (HD6.out.below hB7).cell 1
    have y2 : W7.cell? ⟨w.heap.size, 2, none⟩ = some (.int .u16 wd) := (HD6.out.below hB7).cell 2
    have y4 : W7.cell? ⟨xq, 4, none⟩ = some (.int .u16 a3) := (HQ6.out.below hB7).cell 4
    have l1 := (HD6.out.below hB7).lt
    have l2 := (HQ6.out.below hB7).lt
    have cD := depth_any _ ab _ _ HA8.out
    rw [show (upQ k wd ⟨true, ⟨pc, a0, a1, a2, a3, a4, a5, a6, a7⟩, kp, en⟩).kp = kp ++ [⟨pc, a0, a1, a2, a3, a4, a5, a6, a7⟩] from rfl, show (kp ++ [(⟨pc, a0, a1, a2, a3, a4, a5, a6, a7⟩ : Rg)]).length = kp.length + 1 by simp] at cD
    change Calls _ _ _ _ (fun r w' => r = .returned (.int .i64 ((kp.length + 1 : Nat) : Int)) ∧ _) at cD
    rw [show ((kp.length + 1 : Nat) : Int) = (kp.length : Int) + 1 by omega] at cD
    have e1 : (at0 != at0) = false := by simp
    have e2 : (wd != wd) = false := by simp
    have e3 : (a3 != a3) = false := by simp
    have hwk : IntKind.u16.wrap (k.1 : Int) = k.1 := by have := k.2; rw [IntKind.wrap_u16]; omega
    have e4 : ((k.1 : Int) != (k.1 : Int)) = false := by simp
    have hwn : IntKind.i64.wrap ((kp.length : Int) + 1) = (kp.length : Int) + 1 := by rw [IntKind.wrap_i64]; omega
    have e5 : (((kp.length : Int) + 1) != ((kp.length : Int) + 1)) = false := by simp
    clear hX hBx hB7 HA6 HD6 HT6 HQ6 HB6 cG
    go_wp2_with fail
    refine cD.mono ?_
    rintro e W8' ⟨rfl, hW⟩
    rw [hW]
    clear cD hW y1 y2 y4 l1 l2 e1 e2 e3 e4 hwk
    have hXd := below_drew (W7.alloc (.cells #[.int .u16 at0, .int .u16 a0, .int .u16 wd, .int .u16 k.1, .int .u16 a3, .int .u16 a4, .int .u16 a5, .int .u16 a6, .int .u16 a7] 26))
    have HA9 := Hid3.mk (HA8.out.below hXd)
    have HT9 := Hid3.mk (HT8.out.below hXd)
    have HQ9 := Hid3.mk (HQ8.out.below hXd)
    have HB9 := Hid3.mk (HB8.out.trans (hXd.mono HB8.out.size))
    have hSa : Hid3 (SS (w.heap.size + 1) xq t0 t1 t2 t3 t4 t5 t6 t7 t8 pc a0 a1 a2 a3 a4 a5 a6 a7 (W7.alloc (.cells #[.int .u16 at0, .int .u16 a0, .int .u16 wd, .int .u16 k.1, .int .u16 a3, .int .u16 a4, .int .u16 a5, .int .u16 a6, .int .u16 a7] 26)).drew) := ⟨SS.mk' HT9.out HQ9.out⟩
    clear hXd HA8 HT8 HQ8 HB8 HD8
    generalize W7.alloc (.cells #[.int .u16 at0, .int .u16 a0, .int .u16 wd, .int .u16 k.1, .int .u16 a3, .int .u16 a4, .int .u16 a5, .int .u16 a6, .int .u16 a7] 26) = W8 at *
    have cS := set_any w.heap.size ab (upQ k wd ⟨true, ⟨pc, a0, a1, a2, a3, a4, a5, a6, a7⟩, kp, en⟩) ⟨t0, t1, t2, t3, t4, t5, t6, t7, t8⟩ W8.drew HA9.out
    rw [show setE (upQ k wd ⟨true, ⟨pc, a0, a1, a2, a3, a4, a5, a6, a7⟩, kp, en⟩) = 0 from rfl] at cS
    change Calls _ _ #[_, .agg #[.int .u16 t0, .int .u16 t1, .int .u16 t2, .int .u16 t3, .int .u16 t4, .int .u16 t5, .int .u16 t6, .int .u16 t7, .int .u16 t8]] _ _ at cS
    have cR := fun W (hW : Ac w.heap.size W ab (setQ ⟨t0, t1, t2, t3, t4, t5, t6, t7, t8⟩ (upQ k wd ⟨true, ⟨pc, a0, a1, a2, a3, a4, a5, a6, a7⟩, kp, en⟩))) => ret_some w.heap.size ab _ kp ⟨pc, a0, a1, a2, a3, a4, a5, a6, a7⟩ W hW rfl
    have cG := fun W (hW : Ac w.heap.size W ab (popQ kp ⟨pc, a0, a1, a2, a3, a4, a5, a6, a7⟩ (setQ ⟨t0, t1, t2, t3, t4, t5, t6, t7, t8⟩ (upQ k wd ⟨true, ⟨pc, a0, a1, a2, a3, a4, a5, a6, a7⟩, kp, en⟩)))) => regs_any w.heap.size ab _ W hW
    have cD := fun W (hW : Ac w.heap.size W ab (popQ kp ⟨pc, a0, a1, a2, a3, a4, a5, a6, a7⟩ (setQ ⟨t0, t1, t2, t3, t4, t5, t6, t7, t8⟩ (upQ k wd ⟨true, ⟨pc, a0, a1, a2, a3, a4, a5, a6, a7⟩, kp, en⟩)))) => depth_any w.heap.size ab _ W hW
    change ∀ W, Ac w.heap.size W ab _ → Calls _ _ _ _ (fun r w' => r = .returned (.agg #[.int .u16 pc, .int .u16 a0, .int .u16 a1, .int .u16 a2, .int .u16 a3, .int .u16 a4, .int .u16 a5, .int .u16 a6, .int .u16 a7]) ∧ Below W.heap.size W w') at cG
    change ∀ W, Ac w.heap.size W ab _ → Calls _ _ _ _ (fun r w' => r = .returned (.int .i64 kp.length) ∧ w' = W) at cD
    generalize popQ kp ⟨pc, a0, a1, a2, a3, a4, a5, a6, a7⟩ (setQ ⟨t0, t1, t2, t3, t4, t5, t6, t7, t8⟩ (upQ k wd ⟨true, ⟨pc, a0, a1, a2, a3, a4, a5, a6, a7⟩, kp, en⟩)) = q3 at *
    generalize setQ ⟨t0, t1, t2, t3, t4, t5, t6, t7, t8⟩ (upQ k wd ⟨true, ⟨pc, a0, a1, a2, a3, a4, a5, a6, a7⟩, kp, en⟩) = q2 at *
    have eG := eqGuardR
    have eM : ∀ w, (Op.equalIn 10000 26 (.agg #[.int .u16 pc, .int .u16 a0, .int .u16 a1, .int .u16 a2, .int .u16 a3, .int .u16 a4, .int .u16 a5, .int .u16 a6, .int .u16 a7]) (.agg #[.int .u16 pc, .int .u16 a0, .int .u16 a1, .int .u16 a2, .int .u16 a3, .int .u16 a4, .int .u16 a5, .int .u16 a6, .int .u16 a7])).run Try.prog w = .ok true w := fun w => eqRgs w ⟨pc, a0, a1, a2, a3, a4, a5, a6, a7⟩
    have e6 : ((kp.length : Int) == (kp.length : Int)) = true := by simp
    clear Hok hat0 hk4 hu0
    go_wp2_with fail
    clear hwn e5
    go_region_held3 (fun w' => w'.cell? ⟨w.heap.size + 1, 0, none⟩ = some (.int .u16 t0) ∧ w'.cell? ⟨w.heap.size + 1, 1, none⟩ = some (.int .u16 t1) ∧ w'.cell? ⟨w.heap.size + 1, 2, none⟩ = some (.int .u16 t2) ∧ w'.cell? ⟨w.heap.size + 1, 3, none⟩ = some (.int .u16 t3) ∧ w'.cell? ⟨w.heap.size + 1, 4, none⟩ = some (.int .u16 t4) ∧ w'.cell? ⟨w.heap.size + 1, 5, none⟩ = some (.int .u16 t5) ∧ w'.cell? ⟨w.heap.size + 1, 6, none⟩ = some (.int .u16 t6) ∧ w'.cell? ⟨w.heap.size + 1, 7, none⟩ = some (.int .u16 t7) ∧ w'.cell? ⟨w.heap.size + 1, 8, none⟩ = some (.int .u16 t8) ∧ w'.cell? ⟨xq, 0, none⟩ = some (.int .u16 pc) ∧ w'.cell? ⟨xq, 1, none⟩ = some (.int .u16 a0) ∧ w'.cell? ⟨xq, 2, none⟩ = some (.int .u16 a1) ∧ w'.cell? ⟨xq, 3, none⟩ = some (.int .u16 a2) ∧ w'.cell? ⟨xq, 4, none⟩ = some (.int .u16 a3) ∧ w'.cell? ⟨xq, 5, none⟩ = some (.int .u16 a4) ∧ w'.cell? ⟨xq, 6, none⟩ = some (.int .u16 a5) ∧ w'.cell? ⟨xq, 7, none⟩ = some (.int .u16 a6) ∧ w'.cell? ⟨xq, 8, none⟩ = some (.int .u16 a7)) (with_reducible (first | exact hSa.out | exact hSb.out | exact hSc.out | exact hSd.out)) ((first
      | (go_at_call 17; refine cS.mono ?_; rintro r Wa ⟨rfl, hs1⟩; have HTa := Hid3.mk (HT9.out.stay hs1.ap hqt); have HQa := Hid3.mk (HQ9.out.stay hs1.ap hqq); have hSb : Hid3 (SS (w.heap.size + 1) xq t0 t1 t2 t3 t4 t5 t6 t7 t8 pc a0 a1 a2 a3 a4 a5 a6 a7 Wa) := ⟨SS.mk' HTa.out HQa.out⟩; have HAa := Hid3.mk hs1.a; have HBa := Hid3.mk (HB9.out.trans (hs1.belowB HB9.out.size)); clear hs1)
      | (go_at_call 18; refine (cR Wa HAa.out).mono ?_; rintro r Wb ⟨rfl, hs2⟩; have HTb := Hid3.mk (HTa.out.stay hs2.ap hqt); have HQb := Hid3.mk (HQa.out.stay hs2.ap hqq); have hSc : Hid3 (SS (w.heap.size + 1) xq t0 t1 t2 t3 t4 t5 t6 t7 t8 pc a0 a1 a2 a3 a4 a5 a6 a7 Wb) := ⟨SS.mk' HTb.out HQb.out⟩; have HAb := Hid3.mk hs2.a; have HBb := Hid3.mk (HBa.out.trans (hs2.belowB HBa.out.size)); clear hs2)
      | (go_at_call 12; refine (cG Wb HAb.out).mono ?_; rintro r Wc ⟨rfl, hb3⟩; have HTc := Hid3.mk (HTb.out.below hb3); have HQc := Hid3.mk (HQb.out.below hb3); have hSd : Hid3 (SS (w.heap.size + 1) xq t0 t1 t2 t3 t4 t5 t6 t7 t8 pc a0 a1 a2 a3 a4 a5 a6 a7 Wc) := ⟨SS.mk' HTc.out HQc.out⟩; have HAc := Hid3.mk (HAb.out.below hb3); have HBc := Hid3.mk (HBb.out.trans (hb3.mono HBb.out.size)); clear hb3)
      | (go_at_call 13; refine (cD Wc HAc.out).mono ?_; rintro r Wd ⟨rfl, hw4⟩; subst hw4)))
    all_goals (
      go_wp2
      go_ret
      exact ⟨rfl, HBc.out⟩)
  · obtain ⟨u1, hwhy⟩ := up_no (v := wd) hu0 hup
    rw [u1] at cU
    have hup' : ¬ (upE uu ⟨qal, ⟨pc, a0, a1, a2, a3, a4, a5, a6, a7⟩, kp, en⟩ = 0) := hup
    generalize upE uu ⟨qal, ⟨pc, a0, a1, a2, a3, a4, a5, a6, a7⟩, kp, en⟩ = ue at *
    have Hwhy := Hid3.mk hwhy
    clear hwhy
    go_wp2_with fail
    refine cU.mono ?_
    rintro e W6 ⟨rfl, hS⟩
    have HA6 := Hid3.mk hS.a
    have HQ6 := Hid3.mk (HQ5.out.stay hS.ap hqq)
    have HB6 := Hid3.mk (HB5.out.trans (hS.belowB HB5.out.size))
    clear cU hS HA5 HD5 HT5 HQ5 HB5 x1 x2 u1 hup
    have g0 := fun d os => cell_regrown (show W6.cell? ⟨xq, 0, none⟩ = some (.int .u16 pc) from HQ6.out.cell 0) d os
    have g1 := fun d os => cell_regrown (show W6.cell? ⟨xq, 1, none⟩ = some (.int .u16 a0) from HQ6.out.cell 1) d os
    have g2 := fun d os => cell_regrown (show W6.cell? ⟨xq, 2, none⟩ = some (.int .u16 a1) from HQ6.out.cell 2) d os
    have g3 := fun d os => cell_regrown (show W6.cell? ⟨xq, 3, none⟩ = some (.int .u16 a2) from HQ6.out.cell 3) d os
    have g4 := fun d os => cell_regrown (show W6.cell? ⟨xq, 4, none⟩ = some (.int .u16 a3) from HQ6.out.cell 4) d os
    have g5 := fun d os => cell_regrown (show W6.cell? ⟨xq, 5, none⟩ = some (.int .u16 a4) from HQ6.out.cell 5) d os
    have g6 := fun d os => cell_regrown (show W6.cell? ⟨xq, 6, none⟩ = some (.int .u16 a5) from HQ6.out.cell 6) d os
    have g7 := fun d os => cell_regrown (show W6.cell? ⟨xq, 7, none⟩ = some (.int .u16 a6) from HQ6.out.cell 7) d os
    have g8 := fun d os => cell_regrown (show W6.cell? ⟨xq, 8, none⟩ = some (.int .u16 a7) from HQ6.out.cell 8) d os
    have dG := fun d os => Calls.regrown_of (regs_any w.heap.size ab ⟨qal, ⟨pc, a0, a1, a2, a3, a4, a5, a6, a7⟩, kp, en⟩ (grow (redrawn W6 d) os) (HA6.out.below (below_regrown W6 d os)))
    have dD := fun d os => Calls.regrown_of ((depth_any w.heap.size ab ⟨qal, ⟨pc, a0, a1, a2, a3, a4, a5, a6, a7⟩, kp, en⟩ (grow (redrawn W6 d) os) (HA6.out.below (below_regrown W6 d os))).mono (fun r w' ⟨h1, h2⟩ => ⟨h1, below_eq h2⟩))
    have dA := fun d os => Calls.regrown_of (alive_any w.heap.size ab ⟨qal, ⟨pc, a0, a1, a2, a3, a4, a5, a6, a7⟩, kp, en⟩ (grow (redrawn W6 d) os) (HA6.out.below (below_regrown W6 d os)))
    change ∀ d os, Calls _ _ _ _ (fun r w' => r = .returned (.agg #[.int .u16 pc, .int .u16 a0, .int .u16 a1, .int .u16 a2, .int .u16 a3, .int .u16 a4, .int .u16 a5, .int .u16 a6, .int .u16 a7]) ∧ _) at dG
    simp only at dD dA
    have eG := eqGuardR
    have eM : ∀ w, (Op.equalIn 10000 26 (.agg #[.int .u16 pc, .int .u16 a0, .int .u16 a1, .int .u16 a2, .int .u16 a3, .int .u16 a4, .int .u16 a5, .int .u16 a6, .int .u16 a7]) (.agg #[.int .u16 pc, .int .u16 a0, .int .u16 a1, .int .u16 a2, .int .u16 a3, .int .u16 a4, .int .u16 a5, .int .u16 a6, .int .u16 a7])).run Try.prog w = .ok true w := fun w => eqRgs w ⟨pc, a0, a1, a2, a3, a4, a5, a6, a7⟩
    have e6 : ((kp.length : Int) == (kp.length : Int)) = true := by simp
    generalize whB uu ⟨qal, ⟨pc, a0, a1, a2, a3, a4, a5, a6, a7⟩, kp, en⟩ = wb at *
    generalize whE uu ⟨qal, ⟨pc, a0, a1, a2, a3, a4, a5, a6, a7⟩, kp, en⟩ = we at *
    rcases Hwhy.out with rfl | ⟨rfl, hal⟩ | ⟨rfl, hal, h4⟩
    · skip
      go_wp2_with fail
      refine wp_region_quiet_below (by kernel_rfl) (by kernel_rfl) ?_
      repeat (quiet_step (first | exact dG _ _ | exact dD _ _ | exact dA _ _))
      refine wpQuiet_nil ?_
      intro _ hw'
      obtain ⟨⟨dq, osq⟩, hw''⟩ := hw'
      subst hw''
      have hR := Hid3.mk (HB6.out.trans ((below_regrown W6 dq osq).mono HB6.out.size))
      clear g0 g1 g2 g3 g4 g5 g6 g7 g8 dG dD dA eG eM
      go_wp2
      go_ret
      exact ⟨rfl, hR.out⟩
    · have hal : qal = false := hal
      subst hal
      go_wp2_with fail
      refine wp_region_quiet_below (by kernel_rfl) (by kernel_rfl) ?_
      repeat (quiet_step (first | exact dG _ _ | exact dD _ _ | exact dA _ _))
      refine wpQuiet_nil ?_
      intro _ hw'
      obtain ⟨⟨dq, osq⟩, hw''⟩ := hw'
      subst hw''
      have hR := Hid3.mk (HB6.out.trans ((below_regrown W6 dq osq).mono HB6.out.size))
      clear g0 g1 g2 g3 g4 g5 g6 g7 g8 dG dD dA eG eM
      go_wp2
      go_ret
      exact ⟨rfl, hR.out⟩
    · have hal : qal = true := hal
      have h4 : kp.length = 4 := h4
      subst hal
      have h4z : ((kp.length : Int) == 4) = true := by rw [beq_iff_eq]; omega
      have h4y : (kp.length : Int) = 4 := by omega
      go_wp2_with fail
      refine wp_region_quiet_below (by kernel_rfl) (by kernel_rfl) ?_
      repeat (quiet_step (first | exact dG _ _ | exact dD _ _ | exact dA _ _))
      refine wpQuiet_nil ?_
      intro _ hw'
      obtain ⟨⟨dq, osq⟩, hw''⟩ := hw'
      subst hw''
      have hR := Hid3.mk (HB6.out.trans ((below_regrown W6 dq osq).mono HB6.out.size))
      clear g0 g1 g2 g3 g4 g5 g6 g7 g8 dG dD dA eG eM
      go_wp2
      go_ret
      exact ⟨rfl, hR.out⟩
end Go.Proofs.Ytgoofonogdhhoaa
