/- VmFills: the walk. -/
import Derived.Test.YtfmcoibpbcheiaaVrV
namespace Go.Proofs.Ytfmcoibpbcheiaa
open Go.RowKit Go.Maps
set_option linter.unusedVariables false
set_option maxRecDepth 100000
theorem bts_of {B : Nat} {w W : World} {a : Option Addr} {cap : Nat} {bs : List Int} (hb : Byts B w (.slice a bs.length cap) bs) (hW : Below B w W) (hB : B ≤ W.heap.size) (X : Nat → Prop) (hX : ∀ k, X k → B ≤ k) : Bts W a (min bs.length 120) (fun i => bs.getD i 0) X := by
  obtain ⟨a', cap', e0, hcap, _, hcell⟩ := hb
  injection e0 with e1 e2 e3
  subst e1
  subst e3
  by_cases c0 : bs.length = 0
  · exact .inl (by omega)
  · obtain ⟨g, off, e, hg, _⟩ := hcell 0 bs[0] (List.getElem?_eq_getElem (by omega))
    refine .inr ⟨g, off, e, by omega, fun x => by have := hX _ x; omega, fun i hi => ?_⟩
    have hib : i < bs.length := by omega
    obtain ⟨g', off', e', _, c1⟩ := hcell i bs[i] (List.getElem?_eq_getElem hib)
    rw [e] at e'
    injection e' with e'
    injection e' with e1 e2 _
    subst e1
    subst e2
    rw [World.cell?_of_block (w := w) (hW.block g hg), c1]
    show _ = some (Value.int .u8 (bs.getD i 0))
    rw [List.getD_eq_getElem?_getD, List.getElem?_eq_getElem hib]
    rfl
theorem byts_few {B : Nat} {w : World} {a : Option Addr} {cap : Nat} {bs : List Int} (hb : Byts B w (.slice a bs.length cap) bs) (W : World) : Calls Try.prog 13 #[.slice a bs.length cap] W fun r w' => r = .returned (.slice a (min bs.length 120) cap) ∧ w' = W := by
  obtain ⟨a', cap', e0, hcap, _, hcell⟩ := hb
  injection e0 with e1 e2 e3
  subst e1
  subst e3
  refine few_any a bs.length cap hcap (fun c0 => ?_) W
  by_cases c1 : bs.length = 0
  · exact c1
  · obtain ⟨g, off, e, _⟩ := hcell 0 bs[0] (List.getElem?_eq_getElem (by omega))
    rw [c0] at e
    cases e
set_option maxHeartbeats 4000000 in
theorem fills_law (x0 : Nat) (v : Value) (l : List Dv) (h0 : x0 ≤ 255) (w : World) (hd : Dvs w.heap.size w v l) (k p q n c : Int) (a : Option Addr) (cap : Nat) (bs : List Int) (hb : Byts w.heap.size w (.slice a bs.length cap) bs) :
    Calls Try.prog 5 #[.int .u8 x0, v, .agg #[.int .i64 k, .int .i64 p, .int .i64 q, .int .i64 n, .int .u8 c, .slice a bs.length cap]] w fun r w' => r = .returned (.bool true) ∧ Below w.heap.size w w' := by
  obtain ⟨W0, hW0⟩ : ∃ W0 : World, W0 = w.alloc (.cells #[.int .i64 k, .int .i64 p, .int .i64 q, .int .i64 n, .int .u8 c, .slice a bs.length cap] 36) := ⟨_, rfl⟩
  have hX : Below w.heap.size w W0 := by rw [hW0]; exact below_new w _
  have hsz : w.heap.size < W0.heap.size := by rw [hW0]; exact Array.size_push .. ▸ Nat.lt_succ_self _
  have x1 : W0.cell? ⟨w.heap.size, 1, none⟩ = some (.int .i64 p) := by rw [hW0]; exact box_cell w [.int .i64 k, .int .i64 p, .int .i64 q, .int .i64 n, .int .u8 c, .slice a bs.length cap] 36 1 _ rfl
  have x3 : W0.cell? ⟨w.heap.size, 3, none⟩ = some (.int .i64 n) := by rw [hW0]; exact box_cell w [.int .i64 k, .int .i64 p, .int .i64 q, .int .i64 n, .int .u8 c, .slice a bs.length cap] 36 3 _ rfl
  have x5 : W0.cell? ⟨w.heap.size, 5, none⟩ = some (.slice a bs.length cap) := by rw [hW0]; exact box_cell w [.int .i64 k, .int .i64 p, .int .i64 q, .int .i64 n, .int .u8 c, .slice a bs.length cap] 36 5 _ rfl
  have cP := play_any x0 v l h0 W0 ((hd.below hX).up (Nat.le_of_lt hsz))
  have HC : Hid3 (∀ W, Below W0.heap.size W0 W → W.cell? ⟨w.heap.size, 1, none⟩ = some (.int .i64 p) ∧ W.cell? ⟨w.heap.size, 3, none⟩ = some (.int .i64 n) ∧ W.cell? ⟨w.heap.size, 5, none⟩ = some (.slice a bs.length cap)) := ⟨fun W k => by
    have e := k.block w.heap.size hsz
    exact ⟨(World.cell?_of_block e).trans x1, (World.cell?_of_block e).trans x3, (World.cell?_of_block e).trans x5⟩⟩
  have HB := Hid3.mk (And.intro (hb.below hX) (And.intro hX hsz))
  have HF := Hid3.mk (byts_few hb)
  clear hX hsz x1 x3 x5 hd hb
  obtain ⟨N, hN⟩ : ∃ N : Nat, N = x0 % 8 + 1 := ⟨_, rfl⟩
  rw [← hN] at cP
  clear hN h0
  rw [hW0] at cP
  go_enter Try.func5, Try.ntmps5
  go_wp2_with fail
  refine cP.mono ?_
  rintro r W1 ⟨vb, rb, rfl, hPb⟩
  rw [← hW0] at hPb
  have HP := Hid3.mk hPb.pv
  have cL := live_ok W1
  clear cP hPb hW0
  go_wp2_with fail
  refine cL.mono ?_
  rintro r W2 ⟨rfl, hb⟩
  have HP2 := Hid3.mk (HP.out.low hb)
  clear cL hb HP
  obtain ⟨y1, y3, y5⟩ := HC.out W2 HP2.out.bl
  have cF := HF.out W2
  clear HF
  obtain ⟨lo, s, V, hVa⟩ := HP2.out.ex
  have HVa := Hid3.mk hVa
  have cC := vcopy_any _ _ _ W2 hVa.v
  rw [hVa.e] at cC
  clear hVa
  obtain ⟨m, hm⟩ : ∃ m : Nat, m = min bs.length 120 := ⟨_, rfl⟩
  rw [← hm] at cF
  have HM := Hid3.mk hm
  clear hm
  go_wp2_with fail
  refine cF.mono ?_
  rintro r W ⟨rfl, e⟩
  rw [e]
  clear cF e
  go_wp2_with fail
  refine cC.mono ?_
  rintro r W3 ⟨l', rfl, hV3, hB3⟩
  have HD : Hid3 (Va W0.heap.size W3 vb N lo s V 704 ∧ Vb W2.heap.size W3 l' s ∧ Below W0.heap.size W0 W3) := ⟨⟨HVa.out.e, HVa.out.v.below hB3, HVa.out.i, HVa.out.cp⟩, hV3, HP2.out.bl.trans (hB3.mono HP2.out.bl.size)⟩
  have HL : Hid3 (∀ j, XV lo s j → j < W2.heap.size) := ⟨fun j hj => HVa.out.v.lts j hj⟩
  have cFi := va_fill W0.heap.size lo s V vb N 704 p n m cap a (fun i => bs.getD i 0) W3 HD.out.1 (by omega) (by
    rw [HM.out]
    exact bts_of (HB.out.1.up (Nat.le_of_lt HB.out.2.2)) HD.out.2.2 HD.out.2.2.size _ (fun j hj => HVa.out.v.ge hj))
  obtain ⟨z1, z3, z5⟩ := HC.out W3 HD.out.2.2
  obtain ⟨s', hs'⟩ : ∃ s', s' = fillS N s p n m (fun i => bs.getD i 0) := ⟨_, rfl⟩
  obtain ⟨V', hV'⟩ : ∃ V', V' = fillV N s V p n m (fun i => bs.getD i 0) := ⟨_, rfl⟩
  obtain ⟨e, he⟩ : ∃ e, e = fillE N s p n m := ⟨_, rfl⟩
  have HT := Hid3.mk (fun i (hi : i < m) => fill_told HD.out.1.i p n m (fun i => bs.getD i 0) i hi)
  have HZ := Hid3.mk (fill_zle HD.out.1.i p n m (fun i => bs.getD i 0))
  rw [← hs', ← hV', ← he] at cFi HT
  rw [← hs'] at HZ
  clear hs' hV' he cC hB3 hV3 y1 y3 y5
  go_wp2_with fail
  refine cFi.mono ?_
  rintro r W4 ⟨rfl, hvt⟩
  obtain ⟨l2, hv2, _⟩ := hvt.out
  have HE : Hid3 (Va W0.heap.size W4 vb N l2 s' V' 720 ∧ Va W2.heap.size W4 l'.b N l' s V 704 ∧ Below W0.heap.size W0 W4) := ⟨hv2, ⟨rfl, HD.out.2.1.stay hvt.ap (fun j h1 h2 => by
    have := HD.out.2.1.ge h1
    have := HL.out j h2
    omega), HD.out.1.i, HD.out.1.cp⟩, HD.out.2.2.trans (hvt.ap.below W0.heap.size (fun j hj => HD.out.1.v.ge hj) HD.out.2.2.size)⟩
  obtain ⟨t1, t3, t5⟩ := HC.out W4 HE.out.2.2
  have HS : Hid3 (∀ i, i < m → ∃ g off, a = some ⟨g, off, none⟩ ∧ W4.cell? ⟨g, off + i, none⟩ = some (.int .u8 (bs.getD i 0))) := ⟨fun i hi => by
    rcases bts_of (HB.out.1.up (Nat.le_of_lt HB.out.2.2)) HE.out.2.2 HE.out.2.2.size (fun _ => False) (fun _ h => h.elim) with h | ⟨g, off, e, _, _, h⟩
    · have := HM.out; omega
    · exact ⟨g, off, e, h i (by rw [← HM.out]; exact hi)⟩⟩
  clear hvt hv2 HD HL cFi z1 z3 z5 HVa HP2
  have hm120 : m ≤ 120 := by have := HM.out; omega
  clear t5
  go_wp2_with fail
  go_loopw [13] (fun i W => W = W4 ∧ ∃ j : Nat, j ≤ m ∧ i = .int .i64 (j : Int)) (fun i _ => m - (intOf i).toNat)
  case atStart => exact ⟨rfl, 0, Nat.zero_le _, rfl⟩
  case round =>
    obtain ⟨rfl, j, hj, rfl⟩ := hrel
    have hw1 : IntKind.i64.wrap (512 - (m : Int)) = 512 - (m : Int) := by rw [IntKind.wrap_i64]; omega
    by_cases hgo : j < m ∧ 0 ≤ n ∧ n < 512 - (m : Int)
    · obtain ⟨g1, g2, g3⟩ := hgo
      have hjm : (j : Int) < (m : Int) := by omega
      have hw2 : IntKind.i64.wrap (n + (j : Int)) = n + (j : Int) := by rw [IntKind.wrap_i64]; omega
      have hw3 : IntKind.i64.wrap ((j : Int) + 1) = ((j + 1 : Nat) : Int) := by rw [IntKind.wrap_i64]; omega
      obtain ⟨gb, off, hga, hcl⟩ := HS.out j g1
      have c1 := va_peek W0.heap.size l2 s' V' vb N 720 p (n + (j : Int)) wr HE.out.1
      have c2 := va_peek W2.heap.size l' s V l'.b N 704 p (n + (j : Int)) wr HE.out.2.1
      obtain ⟨T1, T2⟩ := HT.out j g1
      generalize (peekV s' V' p (n + (j : Int))) = P1 at *
      generalize (peekV s V p (n + (j : Int))) = P2 at *
      generalize bs.getD j 0 = bj at *
      obtain ⟨u1, v1⟩ := P1
      obtain ⟨u2, v2⟩ := P2
      simp only at c1 c2
      by_cases he : e = 0
      · have T := T1 he
        injection T with T3 T4
        subst T3 T4
        clear T1 T2
        subst hga
        subst he
        go_wp2_with fail
        refine c1.mono ?_
        rintro r W5 ⟨rfl, rfl⟩
        clear c1
        go_wp2_with fail
        refine c2.mono ?_
        rintro r W6 ⟨rfl, rfl⟩
        clear c2
        go_wp2
        go_roundw
        case rel => exact ⟨by first | rfl | trivial, j + 1, by omega, by first | rfl | (go_num; done) | trivial⟩
        case measure => simp [intOf]; omega
      · have T := T2 he
        injection T with T3 T4
        subst T3 T4
        clear T1 T2
        subst hga
        go_wp2_with fail
        refine c1.mono ?_
        rintro r W5 ⟨rfl, rfl⟩
        clear c1
        go_wp2_with fail
        refine c2.mono ?_
        rintro r W6 ⟨rfl, rfl⟩
        clear c2
        go_wp2
        go_roundw
        case rel => exact ⟨by first | rfl | trivial, j + 1, by omega, by first | rfl | (go_num; done) | trivial⟩
        case measure => simp [intOf]; omega
    · have hx : ¬ (j : Int) < (m : Int) ∨ ((j : Int) < (m : Int) ∧ ¬ 0 ≤ n) ∨ ((j : Int) < (m : Int) ∧ 0 ≤ n ∧ ¬ n < 512 - (m : Int)) := by omega
      clear hgo hj
      have cA := vleft_any W0.heap.size l2 s' N HE.out.1.i.fr.n wr HE.out.1.v
      rw [HE.out.1.e] at cA
      have HW : Hid3 (∀ W, Below wr.heap.size wr W → Calls Try.prog 12 #[.pointer (some ⟨l'.b, 0, none⟩)] W (fun r w' => r = .returned (.int .i64 (zr N s)) ∧ Below W.heap.size W w') ∧ Below w.heap.size w W ∧ w.heap.size ≤ W.heap.size) := ⟨fun W kk => by
        have hbl := (HB.out.2.1.trans (HE.out.2.2.mono (Nat.le_of_lt HB.out.2.2))).trans (kk.mono (Nat.le_trans HB.out.2.1.size HE.out.2.2.size))
        exact ⟨vleft_any W2.heap.size l' s N HE.out.2.1.i.fr.n W (HE.out.2.1.v.below kk), hbl, hbl.size⟩⟩
      have hz : ((zr N s' : Nat) : Int) ≤ ((zr N s : Nat) : Int) := by have := HZ.out; omega
      have HF0 : Hid3 (Below w.heap.size w wr) := ⟨(HW.out wr (Below.refl _ wr)).2.1⟩
      generalize ((zr N s' : Nat) : Int) = z1 at *
      generalize ((zr N s : Nat) : Int) = z2 at *
      generalize (j : Int) = jj at *
      by_cases he : e = 0
      · by_cases hm0 : (m : Int) = 0
        · rcases hx with hx | ⟨hx, hx2⟩ | ⟨hx, hx2, hx3⟩
          all_goals
            go_wp2
            go_ret
            exact ⟨rfl, HF0.out⟩
        · rcases hx with hx | ⟨hx, hx2⟩ | ⟨hx, hx2, hx3⟩
          all_goals
            go_wp2_with fail
            refine cA.mono ?_
            rintro r W5 ⟨rfl, hb5⟩
            obtain ⟨cB, _⟩ := HW.out W5 hb5
            clear cA
            go_wp2_with fail
            refine cB.mono ?_
            rintro r W6 ⟨rfl, hb6⟩
            have HF1 : Hid3 (Below w.heap.size w W6) := ⟨(HW.out W6 (hb5.trans (hb6.mono hb5.size))).2.1⟩
            clear cB hb5 hb6
            go_wp2
            go_ret
            exact ⟨rfl, HF1.out⟩
      · rcases hx with hx | ⟨hx, hx2⟩ | ⟨hx, hx2, hx3⟩
        all_goals
          go_wp2
          go_ret
          exact ⟨rfl, HF0.out⟩
theorem fills_law2 (x0 : Nat) (v : Value) (l : List Dv) (h0 : x0 ≤ 255) (w : World) (hd : Dvs w.heap.size w v l) (x : Dv) (ok : x.Ok w.heap.size w) :
    Calls Try.prog 5 #[.int .u8 x0, v, .agg #[.int .i64 x.k, .int .i64 x.p, .int .i64 x.q, .int .i64 x.m, .int .u8 x.c, x.v]] w fun r w' => r = .returned (.bool true) ∧ Below w.heap.size w w' := by
  obtain ⟨k, p, q, m, c, xv, bs⟩ := x
  obtain ⟨a, cap, e, _⟩ := ok.b
  simp only at e
  subst e
  exact fills_law x0 v l h0 w hd k p q m c a cap bs ok.b
end Go.Proofs.Ytfmcoibpbcheiaa
