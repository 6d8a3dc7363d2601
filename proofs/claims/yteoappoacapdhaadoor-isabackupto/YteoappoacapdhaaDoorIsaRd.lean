/- The instructions that bytes say: the program, and the document. -/
import Derived.Test.YteoappoacapdhaaDoorIsaRefB
namespace Go.Proofs.YteoappoacapdhaaDoor
open Go.RowKit
set_option linter.unusedVariables false

def readF : Nat → List UInt8 → Option (List (Int × Int × Int × Int))
  | 0, _ => some []
  | n + 1, bs => match decO (bs.take 4) with
    | none => none
    | some i => (readF n (bs.drop 4)).map (i :: ·)
/-- The instructions that bytes say. -/
def readC (bs : List UInt8) : Option (List (Int × Int × Int × Int)) := if bs.length % 4 = 0 then readF (bs.length / 4) bs else none
/-- The cells of instructions, one behind the other. -/
def insCs : List (Int × Int × Int × Int) → List Value
  | [] => []
  | i :: l => .int .u8 i.1 :: .int .u8 i.2.1 :: .int .u8 i.2.2.1 :: .int .u16 i.2.2.2 :: insCs l
theorem insCs_append (l r : List (Int × Int × Int × Int)) : insCs (l ++ r) = insCs l ++ insCs r := by
  induction l with
  | nil => rfl
  | cons i l ih => simp [insCs, ih]
theorem insCs_at : ∀ (l : List (Int × Int × Int × Int)) (j : Nat) (i : Int × Int × Int × Int), l[j]? = some i → (insCs l)[j * 4]? = some (.int .u8 i.1) ∧ (insCs l)[j * 4 + 1]? = some (.int .u8 i.2.1) ∧ (insCs l)[j * 4 + 2]? = some (.int .u8 i.2.2.1) ∧ (insCs l)[j * 4 + 3]? = some (.int .u16 i.2.2.2)
  | [], j, i, h => by cases h
  | x :: l, 0, i, h => by
    simp at h
    subst h
    simp [insCs]
  | x :: l, j + 1, i, h => by
    have := insCs_at l j i (by simpa using h)
    simp only [insCs]
    rw [show (j + 1) * 4 = j * 4 + 1 + 1 + 1 + 1 by omega]
    simpa using this
theorem Inss.of_own {w : World} {base : Nat} {v : Value} {n : Nat} {l : List (Int × Int × Int × Int)} (h : w.ownsRow base 26 4 v n (insCs l)) (hn : n = l.length) : Inss w v l := by
  subst hn
  rcases h.2 with ⟨rfl, h0⟩ | ⟨g, cap, cur, rfl, _, hb, hk, hm, _, htk⟩
  · obtain rfl : l = [] := List.eq_nil_of_length_eq_zero h0
    exact ⟨none, 0, rfl, fun j i h => by cases h⟩
  · refine ⟨_, cap, rfl, fun j i hi => ⟨g, 0, rfl, ?_⟩⟩
    obtain ⟨c0, c1, c2, c3⟩ := insCs_at l j i hi
    have hj : j < l.length := (List.getElem?_eq_some_iff.1 hi).1
    rw [← htk] at c0 c1 c2 c3
    rw [List.getElem?_take, if_pos (by omega)] at c0 c1 c2 c3
    simp only [Nat.zero_add, World.cell?, hb]
    exact ⟨by simpa using c0, by simpa using c1, by simpa using c2, by simpa using c3⟩
theorem infoI : (Tryd.prog.info? 26).map (fun i => (i.zero, i.size, i.bytes)) = some (some (.agg #[.int .u8 0, .int .u8 0, .int .u8 0, .int .u16 0]), 4, 6) := by kernel_rfl
theorem Bts.part {w : World} {g off n cap : Nat} {bs : List UInt8} (h : Bts w (.slice (some ⟨g, off, none⟩) n cap) bs) (q : Nat) (hq : q + 4 ≤ bs.length) : Bts w (.slice (some ⟨g, off + q, none⟩) 4 (cap - q)) ((bs.drop q).take 4) := by
  obtain ⟨a, cap', hv, hc, hm, hcell⟩ := h
  injection hv with e1 e2 e3
  subst e1 e3
  have hl : ((bs.drop q).take 4).length = 4 := by simp; omega
  refine ⟨some ⟨g, off + q, none⟩, cap - q, by rw [hl], by rw [hl]; omega, by omega, fun j x hx => ?_⟩
  rw [List.getElem?_take] at hx
  split at hx
  · rw [List.getElem?_drop] at hx
    obtain ⟨g', off', e, hcl⟩ := hcell (q + j) x hx
    cases e
    exact ⟨g, off + q, rfl, by rw [Nat.add_assoc]; exact hcl⟩
  · cases hx
/-- Instructions and an error, as they are handed back. -/
def InsP (r : Option (List (Int × Int × Int × Int))) (e : Ending) (w : World) : Prop := match r with
  | some l => ∃ v, e = .returned (.tuple #[v, .int .i64 0]) ∧ Inss w v l
  | none => e = .returned (.tuple #[.slice none 0 0, .int .i64 3])
set_option maxRecDepth 100000 in
theorem iread_len (a : Option Addr) (n cap : Nat) (w : World) (hn : (((n : Int) % 4) != 0) = true) :
    Calls Tryd.prog 19 #[.slice a n cap] w fun e w' => InsP none e w' ∧ Below w.heap.size w w' := by
  have ht : (n : Int).tmod 4 = (n : Int) % 4 := Int.tmod_eq_emod_of_nonneg (by omega)
  go_enter Tryd.func19, Tryd.ntmps19
  go_wp2
  go_ret2
  exact ⟨rfl, Below.refl _ _⟩
set_option maxHeartbeats 8000000 in
set_option maxRecDepth 100000 in
theorem iread_go (g off cap N : Nat) (bs : List UInt8) (w : World) (hN : bs.length = 4 * N) (hL : bs.length ≤ 4194304) (hb : Bts w (.slice (some ⟨g, off, none⟩) bs.length cap) bs) :
    Calls Tryd.prog 19 #[.slice (some ⟨g, off, none⟩) bs.length cap] w fun e w' => InsP (readF N bs) e w' ∧ Below w.heap.size w w' := by
  have ht : (bs.length : Int).tmod 4 = (bs.length : Int) % 4 := Int.tmod_eq_emod_of_nonneg (by omega)
  have hm : (((bs.length : Int) % 4) != 0) = false := by rw [bne_eq_false_iff_eq]; omega
  obtain ⟨i0, hi, hz0, hz1, hz2⟩ := info_parts infoI
  have hcap : bs.length ≤ cap ∧ cap ≤ maxLen := by
    obtain ⟨a, cap', hv, hc, hm, hcell⟩ := id hb
    injection hv with e1 e2 e3
    subst e3
    exact ⟨hc, hm⟩
  have HN0 : Hid (bs.length = 4 * N) := hN
  have HB : Hid (Bts w (.slice (some ⟨g, off, none⟩) bs.length cap) bs) := hb
  clear hb hN
  go_enter Tryd.func19, Tryd.ntmps19
  go_wp2
  go_loopw [4, 5] (fun l i wr => ∃ (k : Nat) (M : List (Int × Int × Int × Int)), k ≤ N ∧ i = .int .i64 ((4 * k : Nat) : Int) ∧ M.length = k ∧ Hid (readF N bs = (readF (N - k) (bs.drop (4 * k))).map (M ++ ·)) ∧ wr.ownsRow w.heap.size 26 4 l k (insCs M) ∧ Below w.heap.size w wr) (fun _ i _ => bs.length - (intOf i).toNat)
  case atStart => exact ⟨0, [], by omega, rfl, rfl, by show _ = _; simp, World.ownsRow_nil _ _ _ _, Below.refl _ _⟩
  case round =>
    obtain ⟨k, M, hk, rfl, hM, HR, hown, hB⟩ := hrel
    obtain ⟨a0, cap0, rfl⟩ : ∃ a cap, u4 = .slice a k cap := by
      rcases hown.2 with ⟨hv, h0⟩ | ⟨g, cap, cur, hv, _⟩
      · exact ⟨none, 0, by rw [h0]; exact hv⟩
      · exact ⟨_, _, hv⟩
    have hBs := hB.size
    have hN := HN0.out
    by_cases hlt : k < N
    · have hq : 4 * k + 4 ≤ bs.length := by omega
      have HR2 : Hid (readF (N - k) (bs.drop (4 * k)) = match decO ((bs.drop (4 * k)).take 4) with | none => none | some i => (readF (N - (k + 1)) (bs.drop (4 * (k + 1)))).map (i :: ·)) := by
        show _ = _
        rw [show N - k = (N - (k + 1)) + 1 by omega]
        simp only [readF]
        rw [List.drop_drop, show 4 * k + 4 = 4 * (k + 1) by omega]
      have cD := idecode_any (.slice (some ⟨g, off + 4 * k, none⟩) 4 (cap - 4 * k)) ((bs.drop (4 * k)).take 4) wr ((HB.out.below hB (Nat.le_refl _)).part (4 * k) hq)
      generalize hqq : 4 * k = q at *
      have hlt' : (q : Int) < (bs.length : Int) := by omega
      have h1 : (q : Int) + 4 ≤ (cap : Int) := by omega
      have h2 : ¬ cap - q = 0 := by omega
      have hqL : q ≤ 4194304 := by omega
      have hkL : k ≤ 4194304 := by omega
      have HQ : Hid (4 * k = q ∧ bs.length = 4 * N) := ⟨hqq, hN⟩
      clear hN hqq hq
      cases hd : decO ((bs.drop q).take 4) with
      | none =>
        rw [hd] at cD
        have HN : Hid (readF N bs = none) := by
          show _ = _
          rw [HR.out, HR2.out, hd]
          rfl
        unfold decEV insE0 at cD
        clear HR HR2 hown hd
        go_wp2_with fail
        refine cD.mono ?_
        rintro e W1 ⟨rfl, hB1⟩
        go_wp2
        go_ret2
        refine ⟨?_, (hB.trans (hB1.mono hBs)).alloc (Nat.le_trans hBs hB1.size) _⟩
        rw [HN.out]
        exact rfl
      | some i =>
        rw [hd] at cD
        obtain ⟨d0, d1, d2, d3⟩ := i
        have HN : Hid (readF N bs = (readF (N - (k + 1)) (bs.drop (4 * (k + 1)))).map ((M ++ [(d0, d1, d2, d3)]) ++ ·)) := by
          show _ = _
          rw [HR.out, HR2.out, hd]
          simp only [Option.map_map]
          congr 1
          funext x
          simp
        unfold decEV at cD
        simp only at cD
        clear HR HR2 hd
        go_wp2_with fail
        refine cD.mono ?_
        rintro e W1 ⟨rfl, hB1⟩
        have hown1 := (own_bel hown hB1 (Nat.le_refl _))
        have hs1 := hB1.size
        have hb1 := hB.trans (hB1.mono hBs)
        clear cD hown
        go_wp2_with (at_builtin; refine wpList_append_own _ rfl _ _ 36 rfl w.heap.size 26 i0 (.agg #[.int .u8 0, .int .u8 0, .int .u8 0, .int .u16 0]) 4 6 Tryd.underlying36 hi hz0 hz1 hz2 rfl (by decide) _ _ _ rfl ((hown1.alloc _).alloc _) ⟨W1.heap.size + 1, 0, none⟩ 1 1 [.int .u8 d0, .int .u8 d1, .int .u8 d2, .int .u16 d3] rfl rfl (by have h := cell_four_new (W1.alloc (.cells #[.int .u8 d0, .int .u8 d1, .int .u8 d2, .int .u16 d3] 26)) (.int .u8 d0) (.int .u8 d1) (.int .u8 d2) (.int .u16 d3) 26; rw [World.size_alloc] at h; exact h) (by simp [Value.oneCell']) (by unfold maxLen; omega) (by omega) (by simp; omega) ?_; intro v' w1 hown' hgrow _)
        have hb3 : Below w.heap.size w w1 := ((hb1.alloc (by omega) _).alloc (by simp; omega) _).grown hgrow (by simp; omega) (fun j hj => (hown1.lt j hj).1)
        go_roundw
        case rel =>
          refine ⟨k + 1, M ++ [(d0, d1, d2, d3)], by omega, ?_, by simp [hM], HN, ?_, hb3⟩
          · have hqk : ((4 * (k + 1) : Nat) : Int) = (q : Int) + 4 := by have := HQ.out.1; omega
            rw [hqk]
          · rw [insCs_append]
            exact hown'
        case measure => simp [intOf]; omega
    · have hke : k = N := by omega
      subst hke
      have hlt' : ¬ ((4 * k : Nat) : Int) < (bs.length : Int) := by omega
      clear hN
      have HN : Hid (readF k bs = some M) := by
        show _ = _
        rw [HR.out, Nat.sub_self]
        simp [readF]
      have HO : Hid (wr.ownsRow w.heap.size 26 4 (.slice a0 k cap0) k (insCs M)) := hown
      clear HR hown
      go_wp2
      go_ret2
      refine ⟨?_, hB⟩
      rw [HN.out]
      exact ⟨_, rfl, Inss.of_own HO.out hM.symm⟩
set_option maxRecDepth 100000 in
theorem iread_nil (a : Option Addr) (cap : Nat) (w : World) :
    Calls Tryd.prog 19 #[.slice a 0 cap] w fun e w' => InsP (some []) e w' ∧ Below w.heap.size w w' := by
  go_enter Tryd.func19, Tryd.ntmps19
  go_wp2
  go_loopw [4, 5] (fun l i wr => l = .slice none 0 0 ∧ i = .int .i64 0 ∧ wr = w) (fun _ _ _ => 0)
  case atStart => exact ⟨rfl, rfl, rfl⟩
  case round =>
    obtain ⟨rfl, rfl, rfl⟩ := hrel
    go_wp2
    go_ret2
    exact ⟨⟨_, rfl, none, 0, rfl, fun j i h => by cases h⟩, Below.refl _ _⟩
theorem ireadc_any (v : Value) (bs : List UInt8) (w : World) (hb : Bts w v bs) (hL : bs.length ≤ 4194304) :
    Calls Tryd.prog 19 #[v] w fun e w' => InsP (readC bs) e w' ∧ Below w.heap.size w w' := by
  obtain ⟨a, cap, rfl, hcap, hm, hc⟩ := id hb
  unfold readC
  by_cases h4 : bs.length % 4 = 0
  · rw [if_pos h4]
    cases bs with
    | nil => exact iread_nil a cap w
    | cons x t =>
      obtain ⟨g, off, rfl, _⟩ := hc 0 x rfl
      exact iread_go g off cap _ (x :: t) w (by omega) hL hb
  · rw [if_neg h4]
    exact iread_len a bs.length cap w (by rw [bne_iff_ne]; omega)
set_option maxRecDepth 100000 in
theorem rread_len (a : Option Addr) (n cap : Nat) (w : World) (hn : (((n : Int) % 4) != 0) = true) :
    Calls Tryd.prog 20 #[.slice a n cap] w fun e w' => InsP none e w' ∧ Below w.heap.size w w' := by
  have ht : (n : Int).tmod 4 = (n : Int) % 4 := Int.tmod_eq_emod_of_nonneg (by omega)
  go_enter Tryd.func20, Tryd.ntmps20
  go_wp2
  go_ret2
  exact ⟨rfl, Below.refl _ _⟩
set_option maxHeartbeats 8000000 in
set_option maxRecDepth 100000 in
theorem rread_go (g off cap N : Nat) (bs : List UInt8) (w : World) (hN : bs.length = 4 * N) (hL : bs.length ≤ 4194304) (hb : Bts w (.slice (some ⟨g, off, none⟩) bs.length cap) bs) :
    Calls Tryd.prog 20 #[.slice (some ⟨g, off, none⟩) bs.length cap] w fun e w' => InsP (readF N bs) e w' ∧ Below w.heap.size w w' := by
  have ht : (bs.length : Int).tmod 4 = (bs.length : Int) % 4 := Int.tmod_eq_emod_of_nonneg (by omega)
  have hm : (((bs.length : Int) % 4) != 0) = false := by rw [bne_eq_false_iff_eq]; omega
  obtain ⟨i0, hi, hz0, hz1, hz2⟩ := info_parts infoI
  have hcap : bs.length ≤ cap ∧ cap ≤ maxLen := by
    obtain ⟨a, cap', hv, hc, hm, hcell⟩ := id hb
    injection hv with e1 e2 e3
    subst e3
    exact ⟨hc, hm⟩
  have HN0 : Hid (bs.length = 4 * N) := hN
  have HB : Hid (Bts w (.slice (some ⟨g, off, none⟩) bs.length cap) bs) := hb
  clear hb hN
  go_enter Tryd.func20, Tryd.ntmps20
  go_wp2
  go_loopw [4, 5] (fun l i wr => ∃ (k : Nat) (M : List (Int × Int × Int × Int)), k ≤ N ∧ i = .int .i64 ((4 * k : Nat) : Int) ∧ M.length = k ∧ Hid (readF N bs = (readF (N - k) (bs.drop (4 * k))).map (M ++ ·)) ∧ wr.ownsRow w.heap.size 26 4 l k (insCs M) ∧ Below w.heap.size w wr) (fun _ i _ => bs.length - (intOf i).toNat)
  case atStart => exact ⟨0, [], by omega, rfl, rfl, by show _ = _; simp, World.ownsRow_nil _ _ _ _, Below.refl _ _⟩
  case round =>
    obtain ⟨k, M, hk, rfl, hM, HR, hown, hB⟩ := hrel
    obtain ⟨a0, cap0, rfl⟩ : ∃ a cap, u4 = .slice a k cap := by
      rcases hown.2 with ⟨hv, h0⟩ | ⟨g, cap, cur, hv, _⟩
      · exact ⟨none, 0, by rw [h0]; exact hv⟩
      · exact ⟨_, _, hv⟩
    have hBs := hB.size
    have hN := HN0.out
    by_cases hlt : k < N
    · have hq : 4 * k + 4 ≤ bs.length := by omega
      have HR2 : Hid (readF (N - k) (bs.drop (4 * k)) = match decO ((bs.drop (4 * k)).take 4) with | none => none | some i => (readF (N - (k + 1)) (bs.drop (4 * (k + 1)))).map (i :: ·)) := by
        show _ = _
        rw [show N - k = (N - (k + 1)) + 1 by omega]
        simp only [readF]
        rw [List.drop_drop, show 4 * k + 4 = 4 * (k + 1) by omega]
      have cD := rdecode_any (.slice (some ⟨g, off + 4 * k, none⟩) 4 (cap - 4 * k)) ((bs.drop (4 * k)).take 4) wr ((HB.out.below hB (Nat.le_refl _)).part (4 * k) hq)
      generalize hqq : 4 * k = q at *
      have hlt' : (q : Int) < (bs.length : Int) := by omega
      have h1 : (q : Int) + 4 ≤ (cap : Int) := by omega
      have h2 : ¬ cap - q = 0 := by omega
      have hqL : q ≤ 4194304 := by omega
      have hkL : k ≤ 4194304 := by omega
      have HQ : Hid (4 * k = q ∧ bs.length = 4 * N) := ⟨hqq, hN⟩
      clear hN hqq hq
      cases hd : decO ((bs.drop q).take 4) with
      | none =>
        rw [hd] at cD
        have HN : Hid (readF N bs = none) := by
          show _ = _
          rw [HR.out, HR2.out, hd]
          rfl
        unfold decEV insE0 at cD
        clear HR HR2 hown hd
        go_wp2_with fail
        refine cD.mono ?_
        rintro e W1 ⟨rfl, hB1⟩
        go_wp2
        go_ret2
        refine ⟨?_, (hB.trans (hB1.mono hBs)).alloc (Nat.le_trans hBs hB1.size) _⟩
        rw [HN.out]
        exact rfl
      | some i =>
        rw [hd] at cD
        obtain ⟨d0, d1, d2, d3⟩ := i
        have HN : Hid (readF N bs = (readF (N - (k + 1)) (bs.drop (4 * (k + 1)))).map ((M ++ [(d0, d1, d2, d3)]) ++ ·)) := by
          show _ = _
          rw [HR.out, HR2.out, hd]
          simp only [Option.map_map]
          congr 1
          funext x
          simp
        unfold decEV at cD
        simp only at cD
        clear HR HR2 hd
        go_wp2_with fail
        refine cD.mono ?_
        rintro e W1 ⟨rfl, hB1⟩
        have hown1 := (own_bel hown hB1 (Nat.le_refl _))
        have hs1 := hB1.size
        have hb1 := hB.trans (hB1.mono hBs)
        clear cD hown
        go_wp2_with (at_builtin; refine wpList_append_own _ rfl _ _ 36 rfl w.heap.size 26 i0 (.agg #[.int .u8 0, .int .u8 0, .int .u8 0, .int .u16 0]) 4 6 Tryd.underlying36 hi hz0 hz1 hz2 rfl (by decide) _ _ _ rfl ((hown1.alloc _).alloc _) ⟨W1.heap.size + 1, 0, none⟩ 1 1 [.int .u8 d0, .int .u8 d1, .int .u8 d2, .int .u16 d3] rfl rfl (by have h := cell_four_new (W1.alloc (.cells #[.int .u8 d0, .int .u8 d1, .int .u8 d2, .int .u16 d3] 26)) (.int .u8 d0) (.int .u8 d1) (.int .u8 d2) (.int .u16 d3) 26; rw [World.size_alloc] at h; exact h) (by simp [Value.oneCell']) (by unfold maxLen; omega) (by omega) (by simp; omega) ?_; intro v' w1 hown' hgrow _)
        have hb3 : Below w.heap.size w w1 := ((hb1.alloc (by omega) _).alloc (by simp; omega) _).grown hgrow (by simp; omega) (fun j hj => (hown1.lt j hj).1)
        go_roundw
        case rel =>
          refine ⟨k + 1, M ++ [(d0, d1, d2, d3)], by omega, ?_, by simp [hM], HN, ?_, hb3⟩
          · have hqk : ((4 * (k + 1) : Nat) : Int) = (q : Int) + 4 := by have := HQ.out.1; omega
            rw [hqk]
          · rw [insCs_append]
            exact hown'
        case measure => simp [intOf]; omega
    · have hke : k = N := by omega
      subst hke
      have hlt' : ¬ ((4 * k : Nat) : Int) < (bs.length : Int) := by omega
      clear hN
      have HN : Hid (readF k bs = some M) := by
        show _ = _
        rw [HR.out, Nat.sub_self]
        simp [readF]
      have HO : Hid (wr.ownsRow w.heap.size 26 4 (.slice a0 k cap0) k (insCs M)) := hown
      clear HR hown
      go_wp2
      go_ret2
      refine ⟨?_, hB⟩
      rw [HN.out]
      exact ⟨_, rfl, Inss.of_own HO.out hM.symm⟩
set_option maxRecDepth 100000 in
theorem rread_nil (a : Option Addr) (cap : Nat) (w : World) :
    Calls Tryd.prog 20 #[.slice a 0 cap] w fun e w' => InsP (some []) e w' ∧ Below w.heap.size w w' := by
  go_enter Tryd.func20, Tryd.ntmps20
  go_wp2
  go_loopw [4, 5] (fun l i wr => l = .slice none 0 0 ∧ i = .int .i64 0 ∧ wr = w) (fun _ _ _ => 0)
  case atStart => exact ⟨rfl, rfl, rfl⟩
  case round =>
    obtain ⟨rfl, rfl, rfl⟩ := hrel
    go_wp2
    go_ret2
    exact ⟨⟨_, rfl, none, 0, rfl, fun j i h => by cases h⟩, Below.refl _ _⟩
theorem rreadc_any (v : Value) (bs : List UInt8) (w : World) (hb : Bts w v bs) (hL : bs.length ≤ 4194304) :
    Calls Tryd.prog 20 #[v] w fun e w' => InsP (readC bs) e w' ∧ Below w.heap.size w w' := by
  obtain ⟨a, cap, rfl, hcap, hm, hc⟩ := id hb
  unfold readC
  by_cases h4 : bs.length % 4 = 0
  · rw [if_pos h4]
    cases bs with
    | nil => exact rread_nil a cap w
    | cons x t =>
      obtain ⟨g, off, rfl, _⟩ := hc 0 x rfl
      exact rread_go g off cap _ (x :: t) w (by omega) hL hb
  · rw [if_neg h4]
    exact rread_len a bs.length cap w (by rw [bne_iff_ne]; omega)
end Go.Proofs.YteoappoacapdhaaDoor
