/- VmAlone: the walk. -/
import Derived.Test.YtlnpdpfbnbjebaaVmU
namespace Go.Proofs.Ytlnpdpfbnbjebaa
open Go.RowKit Go.Maps
set_option linter.unusedVariables false
set_option maxRecDepth 100000
def Bys (w : World) (v : Value) (l : List Nat) : Prop := ∃ a cap, v = .slice a l.length cap ∧ (∀ x ∈ l, x ≤ 255) ∧ ∀ (j x : Nat), l[j]? = some x → ∃ g off, a = some ⟨g, off, none⟩ ∧ w.cell? ⟨g, off + j, none⟩ = some (.int .u8 x)
/-- A vm as it stands, and the marks beside it. -/
structure Al8 (w W : World) (l : Lo) (sb N : Nat) (seen : List Bool) (used : Nat) : Prop where
  v : ∃ s, Vb w.heap.size W l s ∧ Aln N s seen used ∧ ¬ XV l s sb
  c : Cl W sb 43 (seen.map Value.bool)
  k : Below w.heap.size w W
  b : w.heap.size ≤ sb
theorem al8_poke (w W : World) (l : Lo) (sb N : Nat) (seen : List Bool) (used : Nat) (h : Al8 w W l sb N seen used) (a c : Nat) (ha : a < 256) : Calls Try.prog 17 #[.pointer (some ⟨l.b, 0, none⟩), .int .i64 2, .int .i64 a, .int .u8 c] W fun r w' => r = .returned (.int .i64 (if seen.getD (a / 32) false = false ∧ used = N then 4 else 0)) ∧
    ((seen.getD (a / 32) false = false ∧ used = N) ∧ Al8 w w' l sb N seen used ∨ ¬ (seen.getD (a / 32) false = false ∧ used = N) ∧ Cl w' sb 43 (seen.map Value.bool) ∧ ∀ W', (∃ X : Nat → Prop, Apart (XB sb) w' W') → Cl W' sb 43 ((seen.set (a / 32) true).map Value.bool) → Al8 w W' l sb N (seen.set (a / 32) true) (if seen.getD (a / 32) false = true then used else used + 1)) := by
  obtain ⟨s, hv, hs, hx⟩ := h.v
  have hcp := hs.cp
  refine (vpoke_any w.heap.size l s N 2 a c W hv hs.fr (by omega)).mono ?_
  rintro r w' ⟨rfl, h1, h2⟩
  have hlow := h2.below w.heap.size (fun _ hi => hv.ge hi) h.k.size
  rw [aln_fill hs ha]
  refine ⟨rfl, ?_⟩
  by_cases q : seen.getD (a / 32) false = false ∧ used = N
  · rw [fillS_err (by rw [aln_fill hs ha, if_pos q]; omega)] at h1
    exact .inl ⟨q, ⟨s, h1, hs, hx⟩, h.c.stay h2 hx, h.k.trans hlow, h.b⟩
  · have st := aln_step hs ha (c : Int) q
    have hX : XV l (fillS N s 2 a 1 (fun _ => (c : Int))) = XV l s := Vb.hasr (st.has.trans hs.has.symm)
    refine .inr ⟨q, h.c.stay h2 hx, fun W' ⟨_, hW⟩ hc => ⟨⟨_, h1.stay hW (fun j hj e => hx (by rw [hX] at hj; have e' : j = sb := e; rw [← e']; exact hj)), st, by rw [hX]; exact hx⟩, hc, (h.k.trans hlow).trans (hW.below w.heap.size (fun k (e : k = sb) => e ▸ h.b) (Nat.le_trans h.k.size h2.size)), h.b⟩⟩
theorem bools_at (L : List Bool) (k : Nat) (hk : k < L.length) : (L.map Value.bool)[k]? = some (.bool (L.getD k false)) := by
  rw [List.getElem?_map, List.getElem?_eq_getElem hk, List.getD_eq_getElem?_getD, List.getElem?_eq_getElem hk]
  rfl
theorem al_begin (w W : World) (l : Lo) (nn : Int) (h : Vb w.heap.size W l (vs0 nn)) (k : Below w.heap.size w W) : Calls Try.prog 13 #[.pointer (some ⟨l.b, 0, none⟩), .int .i64 2] W fun r w' => r = .returned (.int .i64 0) ∧ ∃ l' : Lo, l'.b = l.b ∧ Vb w.heap.size w' l' (amS nn 2 0) ∧ Below w.heap.size w w' := by
  refine Calls.mono (begin_ok w.heap.size l (vs0 nn) 2 W h k.size rfl) ?_
  rintro r w' ⟨rfl, h1, h2⟩
  rw [am_begin] at h1
  exact ⟨rfl, ⟨l.b, l.m, upF l.r 2 W.heap.size⟩, rfl, h1, k.trans (h2.below w.heap.size (fun k (e : k = l.b) => e ▸ h.g) k.size)⟩
theorem al_map (w W : World) (l : Lo) (nn : Int) (i : Nat) (hi : i < 16) (h : Vb w.heap.size W l (amS nn 2 i)) (k : Below w.heap.size w W) : Calls Try.prog 14 #[.pointer (some ⟨l.b, 0, none⟩), .int .i64 2, .int .i64 (i : Nat)] W fun r w' => r = .returned (.int .i64 0) ∧ Vb w.heap.size w' l (amS nn 2 (i + 1)) ∧ Below w.heap.size w w' := by
  refine Calls.mono (map_ok w.heap.size l (amS nn 2 i) 2 (i : Int) W h rfl (by omega) (am_none nn 2 i)) ?_
  rintro r w' ⟨rfl, h1, h2⟩
  have e : ({ (amS nn 2 i) with pg := upF (amS nn 2 i).pg 2 (upI ((amS nn 2 i).pg 2) (i : Int) (some (-1))) } : Vs) = amS nn 2 (i + 1) := am_map nn 2 i
  rw [e] at h1
  exact ⟨rfl, h1, k.trans (h2.below w.heap.size (fun j (e : j = l.r 2) => e ▸ (h.sp 2 rfl).1) k.size)⟩
set_option maxHeartbeats 1500000 in
theorem alone_law (x0 c : Nat) (v : Value) (rs : List Nat) (h0 : x0 ≤ 255) (w : World) (hv : Bys w v rs) : Calls Try.prog 5 #[.int .u8 x0, v, .int .u8 c] w fun r w' => r = .returned (.bool true) ∧ Below w.heap.size w w' := by
  obtain ⟨a0, cap, rfl, hrs, hcell⟩ := hv
  obtain ⟨N, hN⟩ : ∃ N : Nat, N = x0 % 8 + 1 := ⟨_, rfl⟩
  have hN1 : 1 ≤ N := by omega
  have hN8 : N ≤ 8 := by omega
  obtain ⟨nn, hnn⟩ : ∃ nn : Int, nn = (N : Int) := ⟨_, rfl⟩
  have hnz : (x0 : Int) % 8 + 1 = nn := by omega
  have cN := vnew_good nn w (by omega) (by omega)
  have HNN := Hid3.mk hnn
  have HC : Hid3 (∀ W (j : Nat), Below w.heap.size w W → j < rs.length → ∃ g off, ∃ x : Nat, a0 = some ⟨g, off, none⟩ ∧ x < 256 ∧ rs.getD j 0 = x ∧ W.cell? ⟨g, off + j, none⟩ = some (.int .u8 x)) := ⟨fun W j k hj => by
    obtain ⟨g, off, e, hc⟩ := hcell j rs[j] (List.getElem?_eq_getElem hj)
    exact ⟨g, off, rs[j], e, by have := hrs rs[j] (List.getElem_mem hj); omega, by rw [List.getD_eq_getElem?_getD, List.getElem?_eq_getElem hj]; rfl, (k.cell (World.block_lt_of_cell? w _ hc)).trans hc⟩⟩
  clear hcell hrs hN hnn
  go_enter Try.func5, Try.ntmps5
  go_wp2_with fail
  refine cN.mono ?_
  rintro r W0 ⟨l0, rfl, hV, hB0⟩
  have cB := al_begin w W0 l0 nn hV hB0
  generalize l0.b = vb at *
  clear cN hV hB0
  go_wp2_with fail
  refine Calls.mono cB ?_
  rintro r W1 ⟨rfl, l, hlb, hV1, hA1⟩
  have H1 : Hid3 (Vb w.heap.size W1 l (amS nn 2 0) ∧ Below w.heap.size w W1) := ⟨hV1, hA1⟩
  rw [← hlb]
  clear cB hV1 hA1 hlb
  go_wp2
  go_loopw [9] (fun i W => ∃ k : Nat, k ≤ 8 ∧ i = .int .i64 (k : Int) ∧ Hid3 (Vb w.heap.size W l (amS nn 2 k) ∧ Below w.heap.size w W)) (fun i _ => 8 - (intOf i).toNat)
  case atStart => exact ⟨0, by omega, rfl, H1⟩
  case round =>
    obtain ⟨k, hk, rfl, HK⟩ := hrel
    clear H1
    by_cases hk8 : k < 8
    · have hkz : (k : Int) < 8 := by omega
      have cM := al_map w wr l nn k (by omega) HK.out.1 HK.out.2
      go_wp2_with fail
      refine Calls.mono cM ?_
      rintro r W2 ⟨rfl, hV2, hA2⟩
      have HK2 : Hid3 (Vb w.heap.size W2 l (amS nn 2 (k + 1)) ∧ Below w.heap.size w W2) := ⟨hV2, hA2⟩
      clear hV2 hA2 cM
      go_wp2
      go_roundw
      case rel => exact ⟨k + 1, by omega, by go_num, HK2⟩
      case measure => simp [intOf]; omega
    · have hkz : ¬ (k : Int) < 8 := by omega
      have e : k = 8 := by omega
      subst e
      have HS : Hid3 (∀ W, Below wr.heap.size wr W → Cl W wr.heap.size 43 ((List.replicate 8 false).map Value.bool) → Al8 w W l wr.heap.size N (List.replicate 8 false) 0) := ⟨fun W k hc => ⟨⟨amS N 2 8, by rw [← HNN.out]; exact HK.out.1.below k, aln_start N hN1 (by omega), fun e => absurd (HK.out.1.lts _ (by rw [HNN.out]; exact e)) (by omega)⟩, hc, HK.out.2.trans (k.mono HK.out.2.size), HK.out.2.size⟩⟩
      clear HK
      go_wp2_with fail
      have HA : Hid3 (Al8 w (wr.alloc (.cells #[.bool false, .bool false, .bool false, .bool false, .bool false, .bool false, .bool false, .bool false] 43)) l wr.heap.size N (List.replicate 8 false) 0) := ⟨HS.out _ (below_new _ _) (Cl.new wr 43 ((List.replicate 8 false).map Value.bool))⟩
      clear HS hkz
      generalize (wr.alloc (.cells #[.bool false, .bool false, .bool false, .bool false, .bool false, .bool false, .bool false, .bool false] 43)) = WA at *
      generalize wr.heap.size = sb at *
      go_loopw [11, 12] (fun u i W => ∃ (k used : Nat) (seen : List Bool), k ≤ 40 ∧ k ≤ rs.length ∧ used ≤ k ∧ i = .int .i64 (k : Int) ∧ u = .int .i64 (used : Int) ∧ Hid3 (Al8 w W l sb N seen used)) (fun _ i _ => 41 - (intOf i).toNat)
      case atStart => exact ⟨0, 0, _, by omega, Nat.zero_le _, Nat.le_refl _, rfl, rfl, HA⟩
      case round =>
        obtain ⟨k, used, seen, hk, hkl, huk, rfl, rfl, HK⟩ := hrel
        clear HA
        by_cases hgo : k < rs.length ∧ k < 40
        · obtain ⟨hkr, hk40⟩ := hgo
          obtain ⟨g, off, x, rfl, hx, _, hc⟩ := HC.out wr k HK.out.k hkr
          have hkz : (k : Int) < (rs.length : Int) := by omega
          have hkz2 : (k : Int) < 40 := by omega
          have hd8 : x / 32 < 8 := by omega
          have hq1 : Int.tdiv (x : Int) 32 = ((x / 32 : Nat) : Int) := by rw [Int.tdiv_eq_ediv_of_nonneg (by omega)]; omega
          have hq2 : (x : Int) / 32 = ((x / 32 : Nat) : Int) := by omega
          have cP := al8_poke w wr l sb N seen used HK.out x c hx
          have hdl : (x / 32 : Nat) < 8 := hd8
          have hdz : ((x / 32 : Nat) : Int) < 8 := by omega
          have hlen : seen.length = 8 := HK.out.v.elim fun s hs => hs.2.1.len
          generalize hd : x / 32 = d at *
          have HD := Hid3.mk (And.intro hd (And.intro hx hlen))
          clear hd hx hlen
          have hw1 : IntKind.i64.wrap ((k : Int) + 1) = ((k + 1 : Nat) : Int) := by rw [IntKind.wrap_i64]; omega
          have hw2 : IntKind.i64.wrap ((used : Int) + 1) = ((used + 1 : Nat) : Int) := by rw [IntKind.wrap_i64]; omega
          cases hs : seen.getD d false with
          | true =>
            simp only [hs, Bool.true_eq_false, false_and, if_false, not_false_eq_true, true_and, false_or] at cP
            go_wp2_with fail
            refine cP.mono ?_
            rintro r W2 ⟨rfl, hc2, hK2⟩
            have c1 : W2.cell? ⟨sb, d, none⟩ = some (.bool true) := by rw [hc2.cell, bools_at _ _ (by have := HD.out.2.2; omega), hs]
            have HK2 : Hid3 (Al8 w W2 l sb N (seen.set d true) used) := ⟨hK2 W2 ⟨XB sb, Apart.refl _ _⟩ (by
              have e : seen.set d true = seen := by
                apply List.ext_getElem?
                intro j
                by_cases e : j = d
                · subst e
                  have hl := HD.out.2.2
                  rw [List.getElem?_set_self (by omega), List.getElem?_eq_getElem (by omega)]
                  rw [List.getD_eq_getElem?_getD, List.getElem?_eq_getElem (by omega), Option.getD_some] at hs
                  rw [hs]
                · rw [List.getElem?_set_ne (fun x => e x.symm)]
              rw [e]
              exact hc2)⟩
            clear hc2 hK2 cP
            go_wp2
            go_roundw
            case rel => exact ⟨k + 1, used, seen.set d true, by omega, by omega, by omega, by first | rfl | trivial, by first | rfl | trivial, HK2⟩
            case measure => simp [intOf]; omega
          | false =>
            by_cases hu : used = N
            · simp only [hs, hu, and_self, if_true, true_and, not_true_eq_false, false_and, or_false] at cP
              have hun : (N : Int) = nn := HNN.out.symm
              have hun2 : (used : Int) = nn := by rw [hu]; exact hun
              go_wp2_with fail
              refine cP.mono ?_
              rintro r W2 ⟨rfl, hK2⟩
              have c1 : W2.cell? ⟨sb, d, none⟩ = some (.bool false) := by rw [hK2.c.cell, bools_at _ _ (by have := HD.out.2.2; omega), hs]
              have HK2 : Hid3 (Al8 w W2 l sb N seen used) := ⟨by rw [hu]; exact hK2⟩
              clear hK2 cP hun
              go_wp2
              go_roundw
              case rel => exact ⟨k + 1, used, seen, by omega, by omega, by omega, by first | rfl | trivial, by first | rfl | (rw [hu]) | (rw [HNN.out, hu]), HK2⟩
              case measure => simp [intOf]; omega
            · simp only [hs, hu, and_false, if_false, false_and, not_false_eq_true, true_and, false_or, Bool.false_eq_true] at cP
              have hun2 : ¬ (used : Int) = nn := by rw [HNN.out]; omega
              go_wp2_with fail
              refine cP.mono ?_
              rintro r W2 ⟨rfl, hc2, hK2⟩
              have c1 : W2.cell? ⟨sb, d, none⟩ = some (.bool false) := by rw [hc2.cell, bools_at _ _ (by have := HD.out.2.2; omega), hs]
              have f1 := hc2.thaw d
              have hlt := hc2.lt
              have HK2 : Hid3 (Al8 w (W2.setCell ⟨sb, d, none⟩ (.bool true)) l sb N (seen.set d true) (used + 1)) := ⟨hK2 _ ⟨XB sb, Apart.at W2 sb d _ rfl⟩ (by
                have := hc2.set d (.bool true)
                rw [← List.map_set] at this
                exact this)⟩
              clear hc2 hK2 cP
              go_wp2
              go_roundw
              case rel => exact ⟨k + 1, used + 1, seen.set d true, by omega, by omega, by omega, by first | rfl | trivial, by first | rfl | trivial, HK2⟩
              case measure => simp [intOf]; omega
        · have hgo2 : ¬ ((k : Int) < (rs.length : Int)) ∨ ((k : Int) < (rs.length : Int) ∧ ¬ ((k : Int) < 40)) := by omega
          obtain ⟨s, hv, hs, _⟩ := HK.out.v
          have cL := live_ok wr
          have hz := hs.z
          have hcp := hs.cp
          have hw3 : IntKind.i64.wrap (nn - (used : Int)) = ((zr N s : Nat) : Int) := by rw [HNN.out, IntKind.wrap_i64]; omega
          have hw4 : nn - (used : Int) = ((zr N s : Nat) : Int) := by rw [HNN.out]; omega
          have hw5 : IntKind.i64.wrap ((zr N s : Nat) : Int) = ((zr N s : Nat) : Int) := by rw [← hw4]; exact hw3.trans hw4.symm
          have HX : Hid3 (∀ W, Below wr.heap.size wr W → Calls Try.prog 19 #[.pointer (some ⟨l.b, 0, none⟩)] W (fun r w' => r = .returned (.int .i64 0) ∧ w' = W) ∧ Calls Try.prog 20 #[.pointer (some ⟨l.b, 0, none⟩)] W (fun r w' => r = .returned (.int .i64 (zr N s : Nat)) ∧ Below W.heap.size W w') ∧ Below w.heap.size w W ∧ w.heap.size ≤ W.heap.size) := ⟨fun W k => ⟨by
            have := copies_ok w.heap.size l s W (hv.below k)
            rw [hcp] at this
            exact this, vleft_any w.heap.size l s N hs.fr.n W (hv.below k), HK.out.k.trans (k.mono HK.out.k.size), Nat.le_trans HK.out.k.size k.size⟩⟩
          generalize ((zr N s : Nat) : Int) = zz at *
          clear hv hs hz hcp HK hgo
          rcases hgo2 with hgo2 | ⟨hgo2, hgo3⟩
          all_goals
            go_wp2_with fail
            refine cL.mono ?_
            rintro r W2 ⟨rfl, hB2⟩
            obtain ⟨d1, d2, d3, d4⟩ := HX.out W2 hB2
            have D3 := Hid3.mk (And.intro d3 d4)
            clear hB2 cL d3 d4 HX
            go_wp2_with fail
            refine d1.mono ?_
            rintro r W3 ⟨rfl, rfl⟩
            go_wp2_with fail
            refine d2.mono ?_
            rintro r W4 ⟨rfl, hB4⟩
            have D4 := Hid3.mk (D3.out.1.trans (hB4.mono D3.out.2))
            clear hB4
            go_wp2
            go_ret
            exact ⟨rfl, D4.out⟩
end Go.Proofs.Ytlnpdpfbnbjebaa
