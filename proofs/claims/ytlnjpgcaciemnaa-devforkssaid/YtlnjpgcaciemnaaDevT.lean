/- The document's disk: Set, New. -/
import Derived.Test.YtlnjpgcaciemnaaDevS
import Derived.RangeFuncBox
namespace Go.Proofs.Ytlnjpgcaciemnaa
open Go.RowKit Go.Maps
set_option linter.unusedVariables false
set_option maxRecDepth 100000
set_option maxHeartbeats 1000000 in
theorem rset_out (B : Nat) (X : Nat → Prop) (rb og n : Nat) (S : List Int) (u v : Value) (last : Int) (Q : List Rq) (i : Int) (w : World) (h : Rk B X w rb og n S u last Q) (hi : i < 0 ∨ (n : Int) ≤ i) : Calls Try.prog 54 #[.pointer (some ⟨rb, 0, none⟩), .int .i64 i, v] w fun e w' => e = .returned (.int .i64 2) ∧ w' = w := by
  obtain ⟨C, hC, c0, c1, c2, fz⟩ := h.c
  clear h
  by_cases h1 : i < 0
  · go_enter Try.func54, Try.ntmps54
    go_wp2
    go_ret
    exact ⟨rfl, rfl⟩
  · have h2 : (n : Int) ≤ i := by omega
    go_enter Try.func54, Try.ntmps54
    go_wp2
    go_ret
    exact ⟨rfl, rfl⟩
set_option maxHeartbeats 1000000 in
theorem rset_form (B : Nat) (X : Nat → Prop) (rb og n : Nat) (S : List Int) (u : Value) (last : Int) (Q : List Rq) (i : Int) (a : Option Addr) (l cap : Nat) (w : World) (h : Rk B X w rb og n S u last Q) (hi : 0 ≤ i ∧ i < n) (hl : l ≠ 32) : Calls Try.prog 54 #[.pointer (some ⟨rb, 0, none⟩), .int .i64 i, .slice a l cap] w fun e w' => e = .returned (.int .i64 3) ∧ w' = w := by
  obtain ⟨C, hC, c0, c1, c2, fz⟩ := h.c
  have h1 : ¬ i < 0 := by omega
  have h2 : ¬ (n : Int) ≤ i := by omega
  have hl2 : ¬ (l : Int) = 32 := by omega
  have hl3 : ((l : Int) != 32) = true := by simpa using hl2
  clear h hi
  go_enter Try.func54, Try.ntmps54
  go_wp2
  go_ret
  exact ⟨rfl, rfl⟩
set_option maxHeartbeats 4000000 in
theorem rset_ok (B : Nat) (X : Nat → Prop) (rb og n i : Nat) (S vs : List Int) (u : Value) (last : Int) (Q : List Rq) (g p cap : Nat) (w : World) (h : Rk B X w rb og n S u last Q) (hX : ∀ g, X g → g < w.heap.size) (hi : i < n) (hv : vs.length = 32) (hsrc : ∀ j x, vs[j]? = some x → w.cell? ⟨g, p + j, none⟩ = some (.int .u8 x)) : Calls Try.prog 54 #[.pointer (some ⟨rb, 0, none⟩), .int .i64 i, .slice (some ⟨g, p, none⟩) 32 cap] w fun e w' => e = .returned (.int .i64 0) ∧ Rk B X w' rb og n (putL S (i * 32) vs) u last Q ∧ Apart (fun k => k = og) w w' := by
  obtain ⟨C, hC, c0, c1, c2, fz⟩ := h.c
  have hlt := h.lt
  have hltg := h.ltg
  have hn64 := h.n64
  have hiz : ¬ (i : Int) < 0 := by omega
  have hin : ¬ (n : Int) ≤ (i : Int) := by omega
  have hin2 : (i : Int) < (n : Int) := by omega
  have hi0 : (0 : Int) ≤ (i : Int) := by omega
  have hne : rb ≠ w.heap.size := by omega
  have hne2 : og ≠ w.heap.size := by omega
  have HR := Hid3.mk h
  have HX := Hid3.mk hX
  have hwd : Below w.heap.size w (w.drew.alloc (.cells #[] 5)) := (Below.refl _ w).drew.alloc (Nat.le_refl _) _
  have HB := Hid3.mk hwd
  have HO := Hid3.mk (own_nil8 w.drew w.heap.size (Nat.le_refl _))
  have HC : Hid3 (∀ j v, (vs.map (Value.int .u8))[j]? = some v → (w.drew.alloc (.cells #[] 5)).cell? ((⟨g, p, none⟩ : Addr).add j) = some v) := ⟨fun j v hj => by
    rw [List.getElem?_map] at hj
    cases hx : vs[j]? with
    | none => rw [hx] at hj; cases hj
    | some x =>
      rw [hx] at hj
      cases hj
      rw [Addr.add_mid]
      have c := hsrc j x hx
      exact (hwd.cell (p := ⟨g, p + j, none⟩) (World.block_lt_of_cell? w _ c)).trans c⟩
  have HL : Hid3 ((vs.map (Value.int .u8)).length = 32) := ⟨by rw [List.length_map]; exact hv⟩
  have H1 := Hid3.mk (map_one vs)
  have HV := Hid3.mk hv
  have HF : Hid3 (∀ w3 v' , w3.ownsRow w.heap.size 5 1 v' (0 + 32) ([] ++ vs.map (Value.int .u8)) → (w.drew.alloc (.cells #[] 5)).grownBy w3 (Value.ownBlock (.slice (some ⟨w.heap.size, 0, none⟩) 0 0)) → (Rk B X (w3.setCell ⟨og, i, none⟩ v') rb og n (putL S (i * 32) vs) u last Q ∧ Apart (fun k => k = og) w (w3.setCell ⟨og, i, none⟩ v')) ∧ w3.cell? ⟨rb, 0, none⟩ = some (.slice (some ⟨og, 0, none⟩) n C) ∧ (∃ y, w3.cell? ⟨og, i, none⟩ = some y) ∧ w3.frozen? ⟨og, i, none⟩ = false ∧ ∃ a c, v' = .slice (some ⟨a, 0, none⟩) 32 c) := ⟨fun w3 v' ho hg => by
    rw [Nat.zero_add, List.nil_append] at ho
    have hb3 : Below w.heap.size w w3 := HB.out.grown hg (by simp) (fun j hj => by have e' : w.heap.size = j := Option.some.inj hj; omega)
    have h3 := HR.out.below hb3
    obtain ⟨C', _, d0, _⟩ := h3.c
    obtain ⟨g', c', e0, _⟩ := h3.at i hi
    obtain ⟨cs, e2, _⟩ := h3.row
    have hd := (hb3.cell (p := ⟨rb, 0, none⟩) HR.out.lt)
    refine ⟨HR.out.sets HX.out hb3 hi HV.out ho, ?_, ⟨_, e0⟩, Lib.frozen_of_heap e2 i, ?_⟩
    · obtain ⟨C'', _, d1, _⟩ := HR.out.c
      rw [hd]
      exact c0
    · obtain ⟨a, c, e⟩ := own_pos ho (by decide)
      exact ⟨a, c, e⟩⟩
  clear h hX hwd hsrc
  generalize vs.map (Value.int .u8) = cs at *
  go_enter Try.func54, Try.ntmps54
  go_wp2_with fail
  go_region_law ((refine step_app8 (by rfl) _ _ (by rfl) w.heap.size _ 0 [] ⟨g, p, none⟩ cap 32 cs (by rfl) (by rfl) (by exact HO.out) (by exact HL.out) (by exact HC.out) (by exact H1.out) (by omega) (by simp) ?_; intro v' w3 hown' hgrow hat; obtain ⟨h9, d0, ⟨y, d1⟩, f1, a9, c9, rfl⟩ := HF.out w3 v' hown' hgrow; have H9 := Hid3.mk h9; clear hown' hgrow hat h9))
  all_goals
    clear HF HO HC
    go_wp2
    go_ret
    exact ⟨rfl, H9.out.1, H9.out.2⟩
theorem rsetp_any (B B0 : Nat) (X : Nat → Prop) (rb og n : Nat) (S : List Int) (u : Value) (last : Int) (Q : List Rq) (i : Int) (v : Value) (bs : List Int) (w : World) (h : Rk B X w rb og n S u last Q) (hX : ∀ g, X g → g < w.heap.size) (hu : Byts B0 w v bs) : Calls Try.prog 54 #[.pointer (some ⟨rb, 0, none⟩), .int .i64 i, v] w fun e w' => e = .returned (.int .i64 (stE n i bs.length)) ∧ Rk B X w' rb og n (if stE n i bs.length = 0 then putL S (i.toNat * 32) bs else S) u last Q ∧ Apart (fun k => k = og) w w' := by
  obtain ⟨a, cap, rfl, hcap, hby, hcell⟩ := hu
  by_cases hi : 0 ≤ i ∧ i < n
  · by_cases hl : bs.length = 32
    · have e : stE n i bs.length = 0 := by unfold stE; rw [if_pos hi, if_pos hl]
      rw [e, if_pos rfl]
      obtain ⟨j, rfl⟩ := Int.eq_ofNat_of_zero_le hi.1
      obtain ⟨g, p, rfl, hg, _⟩ := hcell 0 bs[0] (List.getElem?_eq_getElem (by omega))
      rw [hl, Int.toNat_natCast]
      exact rset_ok B X rb og n j S bs u last Q g p cap w h hX (by omega) hl (fun k x hk => by
        obtain ⟨g', p', e, _, c⟩ := hcell k x hk
        injection e with e
        injection e with e1 e2
        subst e1
        subst e2
        exact c)
    · have e : stE n i bs.length = 3 := by unfold stE; rw [if_pos hi, if_neg hl]
      rw [e, if_neg (by decide)]
      refine (rset_form B X rb og n S u last Q i a bs.length cap w h hi hl).mono ?_
      rintro e w' ⟨rfl, rfl⟩
      exact ⟨rfl, h, Apart.refl _ _⟩
  · have e : stE n i bs.length = 2 := by unfold stE; rw [if_neg hi]
    rw [e, if_neg (by decide)]
    refine (rset_out B X rb og n S u _ last Q i w h (by omega)).mono ?_
    rintro e w' ⟨rfl, rfl⟩
    exact ⟨rfl, h, Apart.refl _ _⟩
theorem frL_zero (n i j : Nat) (hi : i < n) (y : Int) (hj : (frL (List.replicate (n * 32) (0 : Int)) i)[j]? = some y) : j < 32 ∧ y = 0 := by
  unfold frL at hj
  rw [List.getElem?_take] at hj
  split at hj
  · rename_i h
    rw [List.getElem?_drop] at hj
    have := List.mem_of_getElem? hj
    exact ⟨h, List.eq_of_mem_replicate this⟩
  · cases hj
theorem z32_at (W : World) (b j : Nat) (h : W.heap[b]? = some (.cells ((zeroL.take 32).map (Value.int .u8)).toArray 5)) (hj : j < 32) : W.cell? ⟨b, j, none⟩ = some (.int .u8 0) := by
  rw [cell_of_row W b j _ _ _ h, List.getElem?_toArray, List.getElem?_map]
  have hl : j < (zeroL.take 32).length := by rw [List.length_take, zeroL_length]; omega
  rw [List.getElem?_eq_getElem hl]
  have : (zeroL.take 32)[j] = 0 := by
    have hm := List.getElem_mem hl
    have := List.mem_of_mem_take hm
    unfold zeroL at this
    exact List.eq_of_mem_replicate this
  rw [this]
  rfl
set_option maxHeartbeats 8000000 in
theorem rnewd_any (n : Nat) (w : World) (h1 : 1 ≤ n) (h2 : n ≤ 64) : Calls Try.prog 26 #[.int .i64 n] w fun e w' => (∃ og u, e = .returned (.pointer (some ⟨w.heap.size, 0, none⟩)) ∧ Rk w.heap.size (fun g => g < w.heap.size) w' w.heap.size og n (List.replicate (n * 32) 0) u 0 []) ∧ Below w.heap.size w w' := by
  have hmk := fun W => made_any 32 (by decide) W
  rw [show ((32 : Nat) : Int) = 32 from rfl] at hmk
  have g1 : ¬ (n : Int) < 1 := by omega
  have g2 : ¬ (64 : Int) < (n : Int) := by omega
  obtain ⟨Zc, hZc⟩ : ∃ Zc, Zc = ((zeroL.take 32).map (Value.int .u8)).toArray := ⟨_, rfl⟩
  rw [← hZc] at hmk
  have HZ := Hid3.mk hZc
  clear hZc
  go_enter Try.func26, Try.ntmps26
  go_wp2_with fail
  go_loopw [4] (fun s4 wr => ∃ (i : Nat) (s : Value) (xs : List Value), i ≤ n ∧ s4 = .int .i64 i ∧ Hid3 (wr.heap[w.heap.size]? = some (.cells #[s, .slice none 0 0, .int .u32 0] 91)) ∧ Hid3 (wr.ownsRow (w.heap.size + 1) 36 1 s i xs) ∧ Hid3 (∀ j, j < i → ∃ g, xs[j]? = some (.slice (some ⟨g, 0, none⟩) 32 32) ∧ w.heap.size < g ∧ wr.heap[g]? = some (.cells Zc 5)) ∧ Hid3 (Below w.heap.size w wr)) (fun s4 _ => n - (intOf s4).toNat)
  case atStart => exact ⟨0, .slice none 0 0, [], Nat.zero_le _, rfl, ⟨heap_alloc_last w _⟩, ⟨World.ownsRow_nil _ _ _ _⟩, ⟨fun j hj => absurd hj (Nat.not_lt_zero _)⟩, ⟨(Below.refl _ w).alloc (Nat.le_refl _) _⟩⟩
  case round =>
    obtain ⟨i, s, xs, hin, rfl, Hb, HO, HI, HB⟩ := hrel
    by_cases hlt : i < n
    · have hltz : (i : Int) < (n : Int) := by omega
      have hbl : w.heap.size < wr.heap.size := (Array.getElem?_eq_some_iff.1 Hb.out).1
      have c0 : wr.cell? ⟨w.heap.size, 0, none⟩ = some s := by rw [Lib.cell_of_heap Hb.out]; rfl
      have hne : w.heap.size ≠ wr.heap.size := by omega
      have hne1 : w.heap.size ≠ wr.heap.size + 1 := by omega
      have c1 : (wr.drew.alloc (.cells Zc 5)).cell? ⟨w.heap.size, 0, none⟩ = some s := Lib.cell?_alloc_some _ c0
      have c2 : ((wr.drew.alloc (.cells Zc 5)).alloc (.cells #[.slice (some ⟨wr.heap.size, 0, none⟩) 32 32] 36)).cell? ⟨w.heap.size, 0, none⟩ = some s := Lib.cell?_alloc_some _ c1
      have HS : Hid3 (((wr.drew.alloc (.cells Zc 5)).alloc (.cells #[.slice (some ⟨wr.heap.size, 0, none⟩) 32 32] 36)).ownsRow (w.heap.size + 1) 36 1 s i xs) := ⟨(HO.out.alloc _).alloc _⟩
      have HC : Hid3 (∀ j u, ([.slice (some ⟨wr.heap.size, 0, none⟩) 32 32] : List Value)[j]? = some u → ((wr.drew.alloc (.cells Zc 5)).alloc (.cells #[.slice (some ⟨wr.heap.size, 0, none⟩) 32 32] 36)).cell? ((⟨wr.heap.size + 1, 0, none⟩ : Addr).add j) = some u) := ⟨fun j u hj => by
        have e := heap_alloc_last (wr.drew.alloc (.cells Zc 5)) (.cells #[.slice (some ⟨wr.heap.size, 0, none⟩) 32 32] 36)
        rw [World.size_alloc] at e
        rw [Addr.add_mid, Nat.zero_add]
        exact (cell_of_row _ (wr.heap.size + 1) j _ _ _ e).trans (by simpa using hj)⟩
      have hone : Hid3 (∀ u ∈ ([.slice (some ⟨wr.heap.size, 0, none⟩) 32 32] : List Value), u.oneCell' = true) := ⟨fun u hu => by rw [List.mem_singleton.1 hu]; rfl⟩
      have HF : Hid3 (∀ w3 v', w3.ownsRow (w.heap.size + 1) 36 1 v' (i + 1) (xs ++ [.slice (some ⟨wr.heap.size, 0, none⟩) 32 32]) → ((wr.drew.alloc (.cells Zc 5)).alloc (.cells #[.slice (some ⟨wr.heap.size, 0, none⟩) 32 32] 36)).grownBy w3 s.ownBlock → w3.heap[w.heap.size]? = some (.cells #[s, .slice none 0 0, .int .u32 0] 91) ∧ (w3.setCell ⟨w.heap.size, 0, none⟩ v').heap[w.heap.size]? = some (.cells #[v', .slice none 0 0, .int .u32 0] 91) ∧ (w3.setCell ⟨w.heap.size, 0, none⟩ v').ownsRow (w.heap.size + 1) 36 1 v' (i + 1) (xs ++ [.slice (some ⟨wr.heap.size, 0, none⟩) 32 32]) ∧ (∀ j, j < i + 1 → ∃ g, (xs ++ [.slice (some ⟨wr.heap.size, 0, none⟩) 32 32])[j]? = some (.slice (some ⟨g, 0, none⟩) 32 32) ∧ w.heap.size < g ∧ (w3.setCell ⟨w.heap.size, 0, none⟩ v').heap[g]? = some (.cells Zc 5)) ∧ Below w.heap.size w (w3.setCell ⟨w.heap.size, 0, none⟩ v')) := ⟨fun w3 v' ho hg => by
        have hb1 : Below wr.heap.size wr ((wr.drew.alloc (.cells Zc 5)).alloc (.cells #[.slice (some ⟨wr.heap.size, 0, none⟩) 32 32] 36)) := ((Below.refl _ wr).drew.alloc (Nat.le_refl _) _).alloc (by simp) _
        have ha : Apart (fun k => some k = s.ownBlock) wr w3 := (Apart.of_below hb1).trans (Apart.of_grown hg (fun k _ e => e))
        have hsb : some w.heap.size ≠ s.ownBlock := fun e => by have := (HO.out.lt _ e.symm).1; omega
        have k3 := (ha.block w.heap.size hbl hsb).trans Hb.out
        have aS := Apart.set w3 ⟨w.heap.size, 0, none⟩ v'
        have hs1 := hb1.size
        have hxs : xs.length = i := by have := HO.out.1; omega
        have hzn : ∀ g, g < wr.heap.size → some g = s.ownBlock → wr.heap[g]? ≠ some (.cells Zc 5) := fun g _ e e2 => by
          obtain ⟨cur, e3⟩ := own_kind HO.out g e.symm
          rw [e3] at e2
          injection e2 with e2
          injection e2 with _ e2
          exact absurd e2 (by decide)
        refine ⟨k3, (set3 k3).1, Apart.own ho aS (fun g hg e => ?_), fun j hj => ?_, ?_⟩
        · have := (ho.lt g hg).1
          simp only at e
          omega
        · by_cases hji : j < i
          · obtain ⟨g, e1, e2, e3⟩ := HI.out j hji
            have hgl : g < wr.heap.size := (Array.getElem?_eq_some_iff.1 e3).1
            refine ⟨g, by rw [List.getElem?_append_left (by omega)]; exact e1, e2, ?_⟩
            have e4 := (ha.block g hgl (fun e => hzn g hgl e e3)).trans e3
            exact (aS.block g (Array.getElem?_eq_some_iff.1 e4).1 (fun e => by simp only at e; omega)).trans e4
          · have hj2 : j = i := by omega
            subst hj2
            refine ⟨wr.heap.size, by rw [List.getElem?_append_right (by omega), hxs, Nat.sub_self]; rfl, hbl, ?_⟩
            have e5 : ((wr.drew.alloc (.cells Zc 5)).alloc (.cells #[.slice (some ⟨wr.heap.size, 0, none⟩) 32 32] 36)).heap[wr.heap.size]? = some (.cells Zc 5) := (Lib.alloc_old _ _ _ (by simp)).trans (heap_alloc_last wr.drew _)
            have e6 : w3.heap[wr.heap.size]? = some (.cells Zc 5) := (hg.block _ (by simp; omega) (fun e => by have := (HO.out.lt _ e.symm).2; omega)).trans e5
            exact (aS.block _ (Array.getElem?_eq_some_iff.1 e6).1 (fun e => by simp only at e; omega)).trans e6
        · exact (HB.out.trans (ha.below w.heap.size (fun k e => by have := (HO.out.lt k e.symm).1; omega) HB.out.size)).trans (aS.below w.heap.size (fun k e => by simp only at e; omega) (by have := ha.size; omega))⟩
      go_wp2_with fail
      go_region_law ((refine step_appS (by rfl) _ _ (by rfl) (w.heap.size + 1) s i xs ⟨wr.heap.size + 1, 0, none⟩ 1 1 [.slice (some ⟨wr.heap.size, 0, none⟩) 32 32] (by rfl) (by rfl) (by exact HS.out) (by rfl) (by exact HC.out) (by exact hone.out) (by omega) (by simp; omega) ?_; intro v' w3 hown' hgrow hat; have h9 := HF.out w3 v' hown' hgrow; have c5 : w3.cell? ⟨w.heap.size, 0, none⟩ = some s := (by rw [Lib.cell_of_heap h9.1]; rfl); have f5 : w3.frozen? ⟨w.heap.size, 0, none⟩ = false := Lib.frozen_of_heap h9.1 0; have H9 := Hid3.mk h9.2; obtain ⟨g9, c9, rfl⟩ := ownsRow_succ hown'; clear hown' hgrow hat h9))
      all_goals
        clear HF HS HC hone
        go_wp2
        go_roundw
        case rel => exact ⟨i + 1, _, _, by omega, by go_num, ⟨H9.out.1⟩, ⟨H9.out.2.1⟩, ⟨H9.out.2.2.1⟩, ⟨H9.out.2.2.2⟩⟩
        case measure => simp [intOf]; omega
    · have hltz : ¬ (i : Int) < (n : Int) := by omega
      have hi : i = n := by omega
      subst hi
      go_wp2
      go_ret
      obtain ⟨og, C, rfl, hog, hC⟩ : ∃ og C, s = .slice (some ⟨og, 0, none⟩) i C ∧ w.heap.size + 1 ≤ og ∧ i ≤ C := by
        rcases HO.out.2 with ⟨_, h0⟩ | ⟨g, cap, cur, e, a2, a3, a4, _⟩
        · omega
        · exact ⟨g, cap, e, a2, a4⟩
      refine ⟨⟨rfl, og, .slice none 0 0, ⟨⟨C, hC, Hb.out⟩, ?_, ⟨none, 0, rfl, Nat.le_refl _, fun _ => rfl, fun j x hj => by cases hj⟩, List.length_replicate, h1, h2, by decide, Nat.le_refl _, by omega, by omega, by omega, by decide⟩⟩, HB.out⟩
      rcases HO.out.2 with ⟨_, h0⟩ | ⟨g, cap, cur, e, a2, a3, a4, a5, a6, a7⟩
      · omega
      · injection e with e1 e2 e3
        injection e1 with e1
        injection e1 with e1
        subst e1
        refine ⟨cur.toList, a3, fun j hj => ?_⟩
        obtain ⟨g2, b1, b2, b3⟩ := HI.out j hj
        refine ⟨_, ?_, g2, 32, rfl, Nat.le_refl _, fun hz => ?_, fun k y hk => ?_⟩
        · rw [← a7, List.getElem?_take, if_pos (by omega)] at b1
          exact b1
        · rcases hz with y | y | y
          · omega
          · omega
          · subst y
            rw [a3] at b3
            injection b3 with b3
            injection b3 with _ b3
            exact absurd b3 (by decide)
        · obtain ⟨q1, rfl⟩ := frL_zero i j k hj y hk
          rw [HZ.out] at b3
          exact z32_at wr g2 k b3 q1
end Go.Proofs.Ytlnjpgcaciemnaa
