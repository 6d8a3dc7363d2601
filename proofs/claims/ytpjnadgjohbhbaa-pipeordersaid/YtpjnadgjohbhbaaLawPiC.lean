/- PipeOrder: the walk. -/
import Derived.Test.YtpjnadgjohbhbaaLawPiA
namespace Go.Proofs.Ytpjnadgjohbhbaa
open Go.RowKit Go.Maps
set_option linter.unusedVariables false
set_option maxRecDepth 100000
/-- Texts, and bytes, as they come in. -/
def Txs (w : World) (v : Value) (l : List (List UInt8)) : Prop := ∃ a cap, v = .slice a l.length cap ∧ ∀ (j : Nat) (x : List UInt8), l[j]? = some x → ∃ g off, a = some ⟨g, off, none⟩ ∧ w.cell? ⟨g, off + j, none⟩ = some (.string ⟨x.toArray⟩)
theorem Txs.below {w w' : World} {v : Value} {l : List (List UInt8)} (h : Txs w v l) (k : Below w.heap.size w w') : Txs w' v l := by
  obtain ⟨a, cap, rfl, hcell⟩ := h
  refine ⟨a, cap, rfl, fun j d hj => ?_⟩
  obtain ⟨g, off, rfl, c0⟩ := hcell j d hj
  exact ⟨g, off, rfl, (k.cell (World.block_lt_of_cell? w _ c0)).trans c0⟩
def Bys (w : World) (v : Value) (l : List Nat) : Prop := ∃ a cap, v = .slice a l.length cap ∧ (∀ x ∈ l, x ≤ 255) ∧ ∀ (j x : Nat), l[j]? = some x → ∃ g off, a = some ⟨g, off, none⟩ ∧ w.cell? ⟨g, off + j, none⟩ = some (.int .u8 x)
theorem Bys.below {w w' : World} {v : Value} {l : List Nat} (h : Bys w v l) (k : Below w.heap.size w w') : Bys w' v l := by
  obtain ⟨a, cap, rfl, hl, hcell⟩ := h
  refine ⟨a, cap, rfl, hl, fun j d hj => ?_⟩
  obtain ⟨g, off, rfl, c0⟩ := hcell j d hj
  exact ⟨g, off, rfl, (k.cell (World.block_lt_of_cell? w _ c0)).trans c0⟩
/-- What a text comes to where somebody reads. -/
theorem wr_open (m k : Nat) : (wrE m 1 k = 12 ∧ wrN m 1 k = 0) ∨ wrE m 1 k = 0 := by
  unfold wrE wrN
  by_cases h1 : k = 0
  · right; simp [h1]
  · by_cases h2 : stuck m k = true
    · left; simp [h1, h2]
    · right; simp [h2]
/-- A round of the law: what is in, what was written, what was read. -/
structure Or (w W : World) (b i : Nat) (I O T : List UInt8) : Prop where
  p : Po w W b T 1 1
  e : O ++ T = I
  n : I.length ≤ 100 * i
theorem Or.lens {w W : World} {b i : Nat} {I O T : List UInt8} (h : Or w W b i I O T) : O.length ≤ 100 * i ∧ T.length ≤ 24 ∧ O.length + T.length = I.length := by
  have := congrArg List.length h.e
  rw [List.length_append] at this
  have := h.n
  exact ⟨by omega, h.p.p.len, by assumption⟩
theorem bsz (l : List UInt8) : (⟨l.toArray⟩ : ByteArray).size = l.length := by simp [ByteArray.size]
set_option maxHeartbeats 8000000 in
theorem order_law (v u : Value) (ws : List (List UInt8)) (rs : List Nat) (w : World) (hv : Txs w v ws) (hu : Bys w u rs) : Calls Try.prog 4 #[v, u] w fun r w' => r = .returned (.bool true) ∧ Below w.heap.size w w' := by
  have cN := new_any w
  obtain ⟨ad, cap, rfl, _⟩ := id hv
  obtain ⟨ae, cae, rfl, hrs, _⟩ := id hu
  have HV := Hid3.mk hv
  have HU := Hid3.mk hu
  have HRS := Hid3.mk hrs
  clear hv hu hrs
  go_enter Try.func4, Try.ntmps4
  go_wp2_with fail
  refine cN.mono ?_
  rintro r W0 ⟨rfl, hP, hB0⟩
  have HP : Hid3 (Po w W0 w.heap.size [] 0 0) := ⟨⟨hP, hB0⟩⟩
  have c1 := open_any _ _ _ 0 0 true W0 hP
  rw [show openE (cnt true 0 0) = 0 from rfl, show setR true 0 (openC (cnt true 0 0)) = 0 from rfl, show setW true 0 (openC (cnt true 0 0)) = 1 from rfl] at c1
  clear cN hP hB0
  go_wp2_with fail
  refine c1.mono ?_
  rintro r W1 ⟨rfl, hS⟩
  have HP1 : Hid3 (Po w W1 w.heap.size [] 0 1) := ⟨HP.out.step hS⟩
  have c2 := open_any _ _ _ 0 1 false W1 hS.p
  rw [show openE (cnt false 0 1) = 0 from rfl, show setR false 0 (openC (cnt false 0 1)) = 1 from rfl, show setW false 1 (openC (cnt false 0 1)) = 1 from rfl] at c2
  clear c1 hS HP
  go_wp2_with fail
  refine c2.mono ?_
  rintro r W2 ⟨rfl, hS⟩
  have HP2 : Hid3 (Or w W2 w.heap.size 0 [] [] []) := ⟨⟨HP1.out.step hS, rfl, by simp⟩⟩
  clear c2 hS HP1
  go_wp2_with fail
  go_loopw [6, 7, 8] (fun s6 s7 s8 wq => ∃ (i : Nat) (I O T : List UInt8), i ≤ ws.length ∧ i ≤ 30 ∧ s8 = .int .i64 i ∧ s6 = .string ⟨I.toArray⟩ ∧ s7 = .string ⟨O.toArray⟩ ∧ Hid3 (Or w wq w.heap.size i I O T)) (fun _ _ s8 _ => 30 - (intOf s8).toNat)
  case atStart => exact ⟨0, [], [], [], Nat.zero_le _, by omega, rfl, rfl, rfl, HP2⟩
  case round =>
    obtain ⟨i, I, O, T, hil, hi6, rfl, rfl, rfl, HO⟩ := hrel
    clear HP2
    by_cases hlt : i < ws.length
    · have hltz : (i : Int) < (ws.length : Int) := by omega
      by_cases h30 : i < 30
      · have h30z : (i : Int) < 30 := by omega
        obtain ⟨_, _, e0, hc⟩ := HV.out.below HO.out.p.bl
        injection e0 with e1 e2 e3
        obtain ⟨g, off, e4, c0⟩ := hc i ws[i] (List.getElem?_eq_getElem hlt)
        rw [← e1] at e4
        subst e4
        have HG : Hid3 (g < w.heap.size) := by
          obtain ⟨_, _, e5, hc2⟩ := HV.out
          injection e5 with e6 _ _
          obtain ⟨g', off', e7, c7⟩ := hc2 i ws[i] (List.getElem?_eq_getElem hlt)
          rw [← e6] at e7
          injection e7 with e7
          injection e7 with e7 _
          rw [e7]
          exact ⟨World.block_lt_of_cell? w _ c7⟩
        clear hc e1 e2 e3
        generalize ws[i] = s at *
        have cS := short_any s
        have hs1 : (⟨(s.take 100).toArray⟩ : ByteArray).size = (s.take 100).length := by simp [ByteArray.size]
        have c3 := write_any _ _ T 1 1 (s.take 100) (short_le s) _ HO.out.p.p
        have hNle := wrN_le T.length 1 (s.take 100).length
        have h100 : (s.take 100).length ≤ 100 := by rw [List.length_take]; omega
        have h100s : (s.take 100).length ≤ s.length := by rw [List.length_take]; omega
        have hex : (⟨s.toArray⟩ : ByteArray).extract 0 (wrN T.length 1 (s.take 100).length) = ⟨(s.take (wrN T.length 1 (s.take 100).length)).toArray⟩ := ext_take s _ (by omega)
        have htk : s.take (wrN T.length 1 (s.take 100).length) = (s.take 100).take (wrN T.length 1 (s.take 100).length) := by
          rw [List.take_take, Nat.min_eq_left (by omega)]
        rw [htk] at hex
        have hsz : (⟨s.toArray⟩ : ByteArray).size = s.length := by simp [ByteArray.size]
        have hNs : wrN T.length 1 (s.take 100).length ≤ s.length := by omega
        have hw := wr_open T.length (s.take 100).length
        clear htk
        generalize wrN T.length 1 (s.take 100).length = N at *
        generalize wrE T.length 1 (s.take 100).length = z at *
        have HE : Hid3 (∀ W3, PStp w.heap.size wr W3 w.heap.size (T ++ (s.take 100).take N) 1 1 → Or w W3 w.heap.size (i + 1) (I ++ (s.take 100).take N) O (T ++ (s.take 100).take N)) := ⟨fun W3 hS => ⟨HO.out.p.step hS, by rw [← List.append_assoc, HO.out.e], by have := HO.out.n; have := h100; rw [List.length_append, List.length_take]; omega⟩⟩
        have HE0 : Hid3 (N = 0 → ∀ W3, PStp w.heap.size wr W3 w.heap.size (T ++ (s.take 100).take N) 1 1 → Or w W3 w.heap.size (i + 1) I O T) := ⟨fun hN W3 hS => by
          rw [hN, List.take_zero, List.append_nil] at hS
          exact ⟨HO.out.p.step hS, HO.out.e, by have := HO.out.n; omega⟩⟩
        have ea := app_B I ((s.take 100).take N)
        have hsN : (⟨((s.take 100).take N).toArray⟩ : ByteArray).size = N := by rw [bsz, List.length_take]; omega
        have hIz := bsz I
        have hIn := HO.out.n
        have hIl : I.length ≤ 3000 := by omega
        have hN100 : N ≤ 100 := by omega
        generalize I.length = il at *
        generalize (s.take 100).length = sl at *
        go_wp2_with fail
        refine (cS _).mono ?_
        rintro r W9 ⟨rfl, hW9⟩
        rw [hW9]
        clear hW9
        generalize I ++ (s.take 100).take N = I2 at *
        generalize T ++ (s.take 100).take N = T2 at *
        generalize (s.take 100).take N = sN at *
        generalize s.take 100 = s1 at *
        go_wp2_with fail
        refine c3.mono ?_
        rintro r W3 ⟨rfl, hS⟩
        rcases hw with ⟨rfl, rfl⟩ | rfl
        · have HQ : Hid3 (Or w W3 w.heap.size (i + 1) I O T) := ⟨HE0.out rfl W3 hS⟩
          clear c3 hS HE HE0 cS ea hex
          by_cases hr : i < rs.length
          · have hrz : (i : Int) < (rs.length : Int) := by omega
            obtain ⟨_, _, f0, _, hd⟩ := HU.out.below HQ.out.p.bl
            injection f0 with f1 f2 f3
            obtain ⟨g2, off2, f4, d0⟩ := hd i rs[i] (List.getElem?_eq_getElem hr)
            rw [← f1] at f4
            subst f4
            have hx := HRS.out rs[i] (List.getElem_mem hr)
            clear hd f1 f2 f3
            generalize rs[i] = x at *
            obtain ⟨y, hy⟩ : ∃ y : Nat, y = x % 20 := ⟨_, rfl⟩
            have hyz : (x : Int) % 20 = (y : Int) := by omega
            have hyt : (x : Int).tmod 20 = (y : Int) := by rw [Int.tmod_eq_emod_of_nonneg (by omega)]; exact hyz
            have c5 := read_any _ _ T 1 1 (y : Int) _ HQ.out.p.p
            rw [Int.toNat_natCast] at c5
            have HE2 : Hid3 (∀ W5, PStp w.heap.size W3 W5 w.heap.size (T.drop y) 1 1 → Or w W5 w.heap.size (i + 1) I (O ++ T.take y) (T.drop y)) := ⟨fun W5 hS => ⟨HQ.out.p.step hS, by rw [List.append_assoc, List.take_append_drop, HQ.out.e], HQ.out.n⟩⟩
            have eb := app_B O (T.take y)
            obtain ⟨hOl, hTl, _⟩ := HQ.out.lens
            have hOz := bsz O
            have hAz := bsz (T.take y)
            have hAl : (T.take y).length ≤ 24 := by rw [List.length_take]; omega
            have hOl2 : O.length ≤ 3100 := by omega
            generalize O ++ T.take y = O2 at *
            generalize T.take y = TA at *
            generalize T.drop y = TB at *
            generalize O.length = ol at *
            generalize TA.length = al at *
            generalize rdE T.length 1 (y : Int) = zz at *
            clear hy
            go_wp2_with fail
            refine c5.mono ?_
            rintro r W5 ⟨rfl, hS⟩
            have HQ5 : Hid3 (Or w W5 w.heap.size (i + 1) I O2 TB) := ⟨HE2.out W5 hS⟩
            clear c5 hS HE2
            have ea3 : (⟨O2.toArray⟩ : ByteArray) ++ ⟨TB.toArray⟩ = ⟨I.toArray⟩ := by rw [app_B, HQ5.out.e]
            have hT24 := bsz TB
            obtain ⟨kO, kT, _⟩ := HQ5.out.lens
            have kOz := bsz O2
            have kO2 : O2.length ≤ 3100 := by omega
            have hT25 : ¬ (24 : Int) < (TB.length : Int) := by omega
            have hII : (I != I) = false := by simp
            have c8 := text_any _ _ TB 1 1 _ HQ5.out.p.p
            generalize TB.length = tl at *
            generalize O2.length = ol2 at *
            go_wp2_with fail
            refine c8.mono ?_
            rintro r W7 ⟨rfl, hb⟩
            have HQ7 : Hid3 (Or w W7 w.heap.size (i + 1) I O2 TB) := ⟨⟨HQ5.out.p.low hb, HQ5.out.e, HQ5.out.n⟩⟩
            have c9 := text_any _ _ TB 1 1 _ HQ7.out.p.p
            clear c8 hb
            go_wp2_with fail
            refine c9.mono ?_
            rintro r W8 ⟨rfl, hb⟩
            have HQ8 : Hid3 (Or w W8 w.heap.size (i + 1) I O2 TB) := ⟨⟨HQ7.out.p.low hb, HQ7.out.e, HQ7.out.n⟩⟩
            clear c9 hb
            go_wp2
            go_roundw
            case rel => exact ⟨i + 1, I, O2, TB, by omega, by omega, by go_num, rfl, rfl, HQ8⟩
            case measure => simp [intOf]; omega
          · have hrz : ¬ (i : Int) < (rs.length : Int) := by omega
            have ea3 : (⟨O.toArray⟩ : ByteArray) ++ ⟨T.toArray⟩ = ⟨I.toArray⟩ := by rw [app_B, HQ.out.e]
            have hT24 := bsz T
            obtain ⟨kO, kT, _⟩ := HQ.out.lens
            have kOz := bsz O
            have kO2 : O.length ≤ 3100 := by omega
            have hT25 : ¬ (24 : Int) < (T.length : Int) := by omega
            have hII : (I != I) = false := by simp
            have c8 := text_any _ _ T 1 1 _ HQ.out.p.p
            generalize T.length = tl at *
            generalize O.length = ol2 at *
            go_wp2_with fail
            refine c8.mono ?_
            rintro r W7 ⟨rfl, hb⟩
            have HQ7 : Hid3 (Or w W7 w.heap.size (i + 1) I O T) := ⟨⟨HQ.out.p.low hb, HQ.out.e, HQ.out.n⟩⟩
            have c9 := text_any _ _ T 1 1 _ HQ7.out.p.p
            clear c8 hb
            go_wp2_with fail
            refine c9.mono ?_
            rintro r W8 ⟨rfl, hb⟩
            have HQ8 : Hid3 (Or w W8 w.heap.size (i + 1) I O T) := ⟨⟨HQ7.out.p.low hb, HQ7.out.e, HQ7.out.n⟩⟩
            clear c9 hb
            go_wp2
            go_roundw
            case rel => exact ⟨i + 1, I, O, T, by omega, by omega, by go_num, rfl, rfl, HQ8⟩
            case measure => simp [intOf]; omega
        · have HQ : Hid3 (Or w W3 w.heap.size (i + 1) I2 O T2) := ⟨HE.out W3 hS⟩
          obtain ⟨_, _, e0, hc⟩ := HV.out.below HQ.out.p.bl
          have c0b : W3.cell? ⟨g, off + i, none⟩ = some (.string ⟨s.toArray⟩) := cell_stay c0 hS.ap (fun e => by
            have hgl : g < w.heap.size := HG.out
            omega)
          have hnle : ¬ (sl : Int) < (N : Int) := by omega
          have hNz : (N : Int) ≤ (s.length : Int) := by omega
          clear c3 hS HE HE0 hc e0
          go_wp2_with fail
          refine (cS _).mono ?_
          rintro r W9 ⟨rfl, hW9⟩
          rw [hW9]
          clear hW9 cS
          by_cases hr : i < rs.length
          · have hrz : (i : Int) < (rs.length : Int) := by omega
            obtain ⟨_, _, f0, _, hd⟩ := HU.out.below HQ.out.p.bl
            injection f0 with f1 f2 f3
            obtain ⟨g2, off2, f4, d0⟩ := hd i rs[i] (List.getElem?_eq_getElem hr)
            rw [← f1] at f4
            subst f4
            have hx := HRS.out rs[i] (List.getElem_mem hr)
            clear hd f1 f2 f3
            generalize rs[i] = x at *
            obtain ⟨y, hy⟩ : ∃ y : Nat, y = x % 20 := ⟨_, rfl⟩
            have hyz : (x : Int) % 20 = (y : Int) := by omega
            have hyt : (x : Int).tmod 20 = (y : Int) := by rw [Int.tmod_eq_emod_of_nonneg (by omega)]; exact hyz
            have c5 := read_any _ _ T2 1 1 (y : Int) _ HQ.out.p.p
            rw [Int.toNat_natCast] at c5
            have HE2 : Hid3 (∀ W5, PStp w.heap.size W3 W5 w.heap.size (T2.drop y) 1 1 → Or w W5 w.heap.size (i + 1) I2 (O ++ T2.take y) (T2.drop y)) := ⟨fun W5 hS => ⟨HQ.out.p.step hS, by rw [List.append_assoc, List.take_append_drop, HQ.out.e], HQ.out.n⟩⟩
            have eb := app_B O (T2.take y)
            obtain ⟨hOl, hTl, _⟩ := HQ.out.lens
            have hOz := bsz O
            have hAz := bsz (T2.take y)
            have hAl : (T2.take y).length ≤ 24 := by rw [List.length_take]; omega
            have hOl2 : O.length ≤ 3100 := by omega
            generalize O ++ T2.take y = O2 at *
            generalize T2.take y = TA at *
            generalize T2.drop y = TB at *
            generalize O.length = ol at *
            generalize TA.length = al at *
            generalize rdE T2.length 1 (y : Int) = zz at *
            clear hy
            go_wp2_with fail
            refine c5.mono ?_
            rintro r W5 ⟨rfl, hS⟩
            have HQ5 : Hid3 (Or w W5 w.heap.size (i + 1) I2 O2 TB) := ⟨HE2.out W5 hS⟩
            clear c5 hS HE2
            have ea3 : (⟨O2.toArray⟩ : ByteArray) ++ ⟨TB.toArray⟩ = ⟨I2.toArray⟩ := by rw [app_B, HQ5.out.e]
            have hT24 := bsz TB
            obtain ⟨kO, kT, _⟩ := HQ5.out.lens
            have kOz := bsz O2
            have kO2 : O2.length ≤ 3100 := by omega
            have hT25 : ¬ (24 : Int) < (TB.length : Int) := by omega
            have hII : (I2 != I2) = false := by simp
            have c8 := text_any _ _ TB 1 1 _ HQ5.out.p.p
            generalize TB.length = tl at *
            generalize O2.length = ol2 at *
            go_wp2_with fail
            refine c8.mono ?_
            rintro r W7 ⟨rfl, hb⟩
            have HQ7 : Hid3 (Or w W7 w.heap.size (i + 1) I2 O2 TB) := ⟨⟨HQ5.out.p.low hb, HQ5.out.e, HQ5.out.n⟩⟩
            have c9 := text_any _ _ TB 1 1 _ HQ7.out.p.p
            clear c8 hb
            go_wp2_with fail
            refine c9.mono ?_
            rintro r W8 ⟨rfl, hb⟩
            have HQ8 : Hid3 (Or w W8 w.heap.size (i + 1) I2 O2 TB) := ⟨⟨HQ7.out.p.low hb, HQ7.out.e, HQ7.out.n⟩⟩
            clear c9 hb
            go_wp2
            go_roundw
            case rel => exact ⟨i + 1, I2, O2, TB, by omega, by omega, by go_num, rfl, rfl, HQ8⟩
            case measure => simp [intOf]; omega
          · have hrz : ¬ (i : Int) < (rs.length : Int) := by omega
            have ea3 : (⟨O.toArray⟩ : ByteArray) ++ ⟨T2.toArray⟩ = ⟨I2.toArray⟩ := by rw [app_B, HQ.out.e]
            have hT24 := bsz T2
            obtain ⟨kO, kT, _⟩ := HQ.out.lens
            have kOz := bsz O
            have kO2 : O.length ≤ 3100 := by omega
            have hT25 : ¬ (24 : Int) < (T2.length : Int) := by omega
            have hII : (I2 != I2) = false := by simp
            have c8 := text_any _ _ T2 1 1 _ HQ.out.p.p
            generalize T2.length = tl at *
            generalize O.length = ol2 at *
            go_wp2_with fail
            refine c8.mono ?_
            rintro r W7 ⟨rfl, hb⟩
            have HQ7 : Hid3 (Or w W7 w.heap.size (i + 1) I2 O T2) := ⟨⟨HQ.out.p.low hb, HQ.out.e, HQ.out.n⟩⟩
            have c9 := text_any _ _ T2 1 1 _ HQ7.out.p.p
            clear c8 hb
            go_wp2_with fail
            refine c9.mono ?_
            rintro r W8 ⟨rfl, hb⟩
            have HQ8 : Hid3 (Or w W8 w.heap.size (i + 1) I2 O T2) := ⟨⟨HQ7.out.p.low hb, HQ7.out.e, HQ7.out.n⟩⟩
            clear c9 hb
            go_wp2
            go_roundw
            case rel => exact ⟨i + 1, I2, O, T2, by omega, by omega, by go_num, rfl, rfl, HQ8⟩
            case measure => simp [intOf]; omega
      · have h30z : ¬ (i : Int) < 30 := by omega
        have cL := live_any wr
        go_wp2_with fail
        refine cL.mono ?_
        rintro r W3 ⟨rfl, hb⟩
        have HL := Hid3.mk (HO.out.p.bl.trans (hb.mono HO.out.p.bl.size))
        clear cL hb
        go_wp2
        go_ret
        exact ⟨rfl, HL.out⟩
    · have hltz : ¬ (i : Int) < (ws.length : Int) := by omega
      have cL := live_any wr
      go_wp2_with fail
      refine cL.mono ?_
      rintro r W3 ⟨rfl, hb⟩
      have HL := Hid3.mk (HO.out.p.bl.trans (hb.mono HO.out.p.bl.size))
      clear cL hb
      go_wp2
      go_ret
      exact ⟨rfl, HL.out⟩
end Go.Proofs.Ytpjnadgjohbhbaa
