/- TopPieces: the walk. -/
import Derived.Test.YtdegjmceeggldaaTpA
import Derived.Lib.SmallJoins
import Derived.OwnWalk
import Derived.BigQuiet
import Derived.Laws.AppendOwnNone
namespace Go.Proofs.Ytdegjmceeggldaa
open Go.RowKit Go.Shelf Go.Maps
set_option linter.unusedVariables false
set_option maxRecDepth 100000
theorem nmD_right : rightB nmD.data.toList ((1#8 : BitVec 8).toNat : Int) = true := by decide +kernel
theorem alloc_step {w W : World} {T : Nat} {L : Lo} {st n : Nat} (h : Lt w W T L (xt0 30)) (hn1 : 1 ≤ n) (hs : st + n ≤ 30) :
    Calls Try.prog 5 #[.pointer (some ⟨T, 0, none⟩), .int .u8 2, .int .i64 st, .int .i64 n, .agg #[.string ⟨#[47, 100]⟩, .int .u8 1]] W fun e w' => e = .returned (.tuple #[.int .u32 1, .int .i64 0]) ∧ TStp w.heap.size W w' L ⟨30, pcs st n 0, 1⟩ := by
  have hx : st + n ≤ 1000 := by omega
  have c := p_alloc h.p h.bl.size 2 st n nmD 1#8 (by decide) hn1 (by show st + n ≤ 30; exact hs) (by decide) nmD_right (fun x hx => by cases hx) (by decide) (by decide) [] [] ⟨rfl, fun y hy => (by cases hy), fun y hy => (by cases hy)⟩ hx
  rw [h.t] at c
  refine c.mono fun e w' q => ⟨q.1, ?_⟩
  have e1 : pcs st n 0 = [] ++ (nEx 2 st n nmD 1#8 hx).num ((xt0 30).last + 1) :: [] := by
    unfold pcs
    rw [show st + 0 = st by omega, show n - 0 = n by omega, pc_eq hx]
    rfl
  rw [e1]
  exact q.2
theorem eqGuardE : Try.prog.eqGuardType Try.prog.depth 37 = false := by kernel_rfl
set_option maxHeartbeats 2000000 in
theorem eqCk (k : Nat) (w : World) (n m : ByteArray) (r q : Int) : (Op.equalIn (k + 1 + 1) 29 (.agg #[.string n, .int .u8 r]) (.agg #[.string m, .int .u8 q])).run Try.prog w = .ok (n.toList == m.toList && r == q) w := by
  rw [Op.equalIn]
  simp only [Sem.run_bind, run_underlying Try.underlying29, Result.andThen_ok]
  cases h0 : (n.toList == m.toList) <;> by_cases h1 : r = q <;> simp [go_sem, h0, h1]
set_option maxHeartbeats 4000000 in
theorem eqE (w : World) (i s l o : Int) (n : ByteArray) (r : Int) : (Op.equalIn 10000 37 (.agg #[.int .u32 i, .int .i64 s, .int .i64 l, .int .u8 o, .string n, .int .u8 r]) (.agg #[.int .u32 i, .int .i64 s, .int .i64 l, .int .u8 o, .string n, .int .u8 r])).run Try.prog w = .ok true w := by
  have hC := fun W => eqCk (9996 + 1) W n n r r
  show (Op.equalIn (9996 + 1 + 1 + 1 + 1) 37 _ _).run Try.prog w = _
  rw [Op.equalIn]
  simp only [Sem.run_bind, run_underlying Try.underlying37, Result.andThen_ok]
  simp [go_sem, hC]
theorem mrg_all (st n : Nat) (hn : 1 ≤ n) (h : st + n ≤ 1000) : mrg st n (n - 1) = [⟨1, st, n, 2, nmD, 1#8, h⟩] := by
  unfold mrg
  rw [show n - 1 - (n - 1) = 0 by omega, show n - 1 + 1 = n by omega, pc_eq h]
  rfl
theorem pc_ow {st id ln : Nat} (h : st + ln ≤ 1000) : (pc st id ln).ow = 2 := by rw [pc_eq h]
theorem pcs_len (st n j : Nat) : (pcs st n j).length = j + 1 := by unfold pcs sing; simp
theorem pcs_own {st n j : Nat} (hj : j < n) (hn : n ≤ 10) (hs : st + n ≤ 30) : (ownL 2 (pcs st n j)).length = j + 1 := by
  have h : (pcs st n j).filter (fun x => decide (x.ow = 2)) = pcs st n j := by
    rw [List.filter_eq_self]
    intro y hy
    rw [decide_eq_true_iff]
    unfold pcs at hy
    rcases List.mem_append.1 hy with hy | hy
    · unfold sing at hy
      obtain ⟨k, hk, rfl⟩ := List.mem_map.1 hy
      have := List.mem_range.1 hk
      exact pc_ow (by omega)
    · rw [List.mem_singleton.1 hy]
      exact pc_ow (by omega)
  unfold ownL
  rw [h, List.length_map, pcs_len]
theorem row_stay {W W' : World} {B n k : Nat} {t : TypeId} {v : Value} {xs : List Value} (h : W.ownsRow B t n v k xs) (hx : ∀ (g : Nat) (cur : Array Value), W.heap[g]? = some (Obj.cells cur t (0, 0)) → W'.heap[g]? = W.heap[g]?) : W'.ownsRow B t n v k xs := by
  refine ⟨h.1, ?_⟩
  rcases h.2 with h' | ⟨g, cap, cur, h1, h2, h3, h4⟩
  · exact .inl h'
  · exact .inr ⟨g, cap, cur, h1, h2, (hx g cur h3).trans h3, h4⟩
def idsC (k : Nat) : List Value := (List.range k).map (fun j => u32V (j + 1))
theorem idsC_snoc (k : Nat) : idsC (k + 1) = idsC k ++ [u32V (k + 1)] := by unfold idsC; rw [List.range_succ, List.map_append]; rfl
theorem idsC_at {k j : Nat} (h : j < k) : (idsC k)[j]? = some (.int .u32 (j + 1 : Nat)) := by
  unfold idsC
  rw [List.getElem?_map, List.getElem?_range h]
  rfl
/-- The table, and the row of numbers. -/
structure Tq (w W : World) (T : Nat) (L : Lo) (s : Xt) (v : Value) (k : Nat) : Prop where
  l : Lt w W T L s
  r : W.ownsRow w.heap.size 24 1 v k (idsC k)
theorem Tq.far {w W : World} {T k : Nat} {L : Lo} {s : Xt} {v : Value} (h : Tq w W T L s v k) {g : Nat} {cur : Array Value} (hg : W.heap[g]? = some (.cells cur 24 (0, 0))) : ¬ XT L g := by
  intro hx
  obtain ⟨t, c', h3, h4⟩ := h.l.p.ty hx
  have := h3.symm.trans hg
  injection this with this
  injection this with _ this
  rcases h4 with e | e <;> (rw [e] at this; exact absurd this (by decide))
theorem Tq.low {w W W' : World} {T k : Nat} {L : Lo} {s : Xt} {v : Value} (h : Tq w W T L s v k) (q : Below W.heap.size W W') : Tq w W' T L s v k :=
  ⟨h.l.low q, row_stay h.r (fun g cur hg => q.block g (Array.getElem?_eq_some_iff.1 hg).1)⟩
theorem Tq.step {w W W' : World} {T k : Nat} {L : Lo} {s s' : Xt} {v : Value} (h : Tq w W T L s v k) (q : TStp w.heap.size W W' L s') : ∃ L', Tq w W' T L' s' v k := by
  obtain ⟨L', hL⟩ := h.l.step q
  exact ⟨L', hL, row_stay h.r (fun g cur hg => q.ap.block g (Array.getElem?_eq_some_iff.1 hg).1 (h.far hg))⟩
theorem Tq.more {w W W1 : World} {T k : Nat} {L : Lo} {s : Xt} {v v' : Value} (h : Tq w W T L s v k) (hg : W.grownBy W1 v.ownBlock) (h1 : W1.ownsRow w.heap.size 24 1 v' (k + 1) (idsC k ++ [u32V (k + 1)])) : Tq w W1 T L s v' (k + 1) := by
  have hap : Apart (fun i => some i = v.ownBlock) W W1 := ⟨hg.os, hg.tape, hg.output, hg.size, fun i hi hx => hg.block i hi (fun e => hx e)⟩
  have hne : ∀ i, some i = v.ownBlock → w.heap.size ≤ i ∧ ¬ XT L i := by
    intro i e
    rcases h.r.2 with ⟨hv, _⟩ | ⟨g, cap, cur, hv, h2, h3, _⟩
    · rw [hv] at e; simp [Value.ownBlock] at e
    · rw [hv] at e
      have : i = g := by simpa [Value.ownBlock] using e
      subst this
      exact ⟨h2, h.far h3⟩
  refine ⟨⟨h.l.t, h.l.p.stay hap (fun i hx e => (hne i e).2 hx), h.l.bl.trans (hap.below _ (fun i e => (hne i e).1) h.l.bl.size)⟩, ?_⟩
  rw [idsC_snoc]
  exact h1
set_option maxHeartbeats 4000000 in
theorem pieces_law (a0 m0 : Nat) (w : World) (ha : a0 ≤ 255) (hm : m0 ≤ 255) : Calls Try.prog 3 #[.int .u8 a0, .int .u8 m0] w fun e w' => e = .returned (.bool true) ∧ Below w.heap.size w w' := by
  obtain ⟨p, hp⟩ : ∃ p : Int, (a0 : Int) = p := ⟨_, rfl⟩
  obtain ⟨q, hq⟩ : ∃ q : Int, (m0 : Int) = q := ⟨_, rfl⟩
  obtain ⟨n, hn⟩ : ∃ n : Nat, m0 % 10 + 1 = n := ⟨_, rfl⟩
  obtain ⟨st, hst⟩ : ∃ st : Nat, a0 % (30 - n) = st := ⟨_, rfl⟩
  obtain ⟨N, hN⟩ : ∃ N : Int, (n : Int) = N := ⟨_, rfl⟩
  obtain ⟨S, hS⟩ : ∃ S : Int, (st : Int) = S := ⟨_, rfl⟩
  have hlt : m0 % 10 < 10 := Nat.mod_lt _ (by decide)
  have hlt2 : st < 30 - n := by rw [← hst]; exact Nat.mod_lt _ (by omega)
  have hwp : IntKind.i64.wrap p = p := by rw [IntKind.wrap_i64]; omega
  have hwq : IntKind.i64.wrap q = q := by rw [IntKind.wrap_i64]; omega
  obtain ⟨r, hr⟩ : ∃ r : Int, ((m0 % 10 : Nat) : Int) = r := ⟨_, rfl⟩
  have hrm : q.tmod 10 = r := by rw [← hq, ← hr]; exact Int.tmod_eq_emod_of_nonneg (by omega)
  have hw1 : IntKind.i64.wrap r = r := by rw [IntKind.wrap_i64]; omega
  have hw2 : IntKind.i64.wrap (r + 1) = N := by rw [IntKind.wrap_i64]; omega
  obtain ⟨D, hD⟩ : ∃ D : Int, 30 - N = D := ⟨_, rfl⟩
  have hw3 : IntKind.i64.wrap (30 - N) = D := by rw [IntKind.wrap_i64]; omega
  have hz : ¬ D = 0 := by omega
  have hrs : p.tmod D = S := by
    rw [← hp, ← hD, ← hS, ← hst, ← hN, show (30 : Int) - (n : Int) = ((30 - n : Nat) : Int) by omega]
    exact Int.tmod_eq_emod_of_nonneg (by omega)
  have hw4 : IntKind.i64.wrap S = S := by rw [IntKind.wrap_i64]; omega
  have H : Hid3 ((n : Int) = N ∧ (st : Int) = S ∧ 1 ≤ n ∧ n ≤ 10 ∧ st + n ≤ 30) := ⟨⟨hN, hS, by omega, by omega, by omega⟩⟩
  obtain ⟨i0, hi0, hz0, hz1, hz2⟩ := ipartsX infoU
  have cN := new_ok 30 w (by decide) (by decide)
  rw [hp, hq]
  clear hp hq hn hst hN hS hlt hlt2 hr hD ha hm
  go_enter Try.func3, Try.ntmps3
  go_wp2_with fail
  refine cN.mono ?_
  rintro e W0 ⟨rfl, hP, hB0⟩
  obtain ⟨T, hT⟩ : ∃ T, w.heap.size + 1 = T := ⟨_, rfl⟩
  have HL0 : Hid3 (Lt w W0 T ⟨w.heap.size + 1, w.heap.size, []⟩ (xt0 30)) := ⟨⟨hT, hP, hB0⟩⟩
  have c1 := alloc_step HL0.out H.out.2.2.1 H.out.2.2.2.2
  rw [H.out.1, H.out.2.1] at c1
  rw [hT]
  clear cN hP hB0 hT
  go_wp2_with fail
  refine c1.mono ?_
  rintro e W1 ⟨rfl, hs⟩
  obtain ⟨L1, hL1⟩ := HL0.out.step hs
  have HQ : Hid3 (Tq w (W1.alloc (.cells #[.int .u32 1] 24)) T L1 ⟨30, pcs st n 0, 1⟩ (.slice (some ⟨W1.heap.size, 0, none⟩) 1 1) 1) := ⟨⟨hL1.low (below_new W1 _), World.ownsRow_lit W1 #[.int .u32 1] 1 hL1.bl.size (by decide) rfl⟩⟩
  clear c1 hs hL1 HL0 hwp hwq hrm hw1 hw2 hw3 hz hrs hw4
  go_wp2_with fail
  go_loopw [10, 11] (fun s10 si W => ∃ (j i : Nat) (a : Option Addr) (cap : Nat), i ≤ n ∧ s10 = .slice a i cap ∧ si = .int .i64 i ∧ Hid3 (i = j + 1) ∧ Hid3 (∃ L, Tq w W T L ⟨30, pcs st n j, j + 1⟩ (.slice a i cap) i)) (fun _ si _ => 11 - (intOf si).toNat)
  case atStart => exact ⟨0, 1, _, 1, H.out.2.2.1, rfl, rfl, ⟨rfl⟩, ⟨⟨L1, HQ.out⟩⟩⟩
  case round =>
    obtain ⟨j, i, a, cap, hin, rfl, rfl, HJ, HE⟩ := hrel
    obtain ⟨L, hT⟩ := HE.out
    have HT := Hid3.mk hT
    clear HE hT HQ
    by_cases hlt : i < n
    · obtain ⟨g, rfl⟩ : ∃ g, a = some ⟨g, 0, none⟩ := by
        rcases HT.out.r.2 with ⟨hv, h0⟩ | ⟨g, c', cur, hv, _⟩
        · have := HJ.out; omega
        · injection hv with e1; exact ⟨g, e1⟩
      have hj := HJ.out
      have hH := H.out
      have hc : (i : Int) < N := by omega
      have hwi : IntKind.i64.wrap ((i : Int) - 1) = (j : Int) := by rw [IntKind.wrap_i64]; omega
      obtain ⟨A, hA⟩ : ∃ A : Int, ((st + (j + 1) : Nat) : Int) = A := ⟨_, rfl⟩
      have hwa : IntKind.i64.wrap (S + (i : Int)) = A := by rw [IntKind.wrap_i64]; omega
      have hcell : wr.cell? ⟨g, j, none⟩ = some (.int .u32 i) := by
        rw [HT.out.r.cellAt j (by omega), idsC_at (by omega), hj]
      have hji : j < i := by omega
      have hgl : g < wr.heap.size := World.block_lt_of_cell? wr _ hcell
      have c := split_step HT.out.l (by omega) hH.2.2.2.1 hH.2.2.2.2
      obtain ⟨K, hK⟩ : ∃ K : Int, ((j + 1 + 1 : Nat) : Int) = K := ⟨_, rfl⟩
      rw [hA, hK, ← hj] at c
      have HC := Hid3.mk (And.intro hA hK)
      clear hj hH hA hK
      go_wp2_with fail
      refine c.mono ?_
      rintro e W2 ⟨rfl, hs⟩
      obtain ⟨L2, h2⟩ := HT.out.step hs
      have hQ2 := h2.low (below_new W2 (.cells #[.int .u32 K] 24))
      have hNC := new_cellsX W2 [.int .u32 K] 24
      have hKK : u32V (i + 1) = .int .u32 K := by unfold u32V; rw [HJ.out, ← HC.out.2]
      have HQ2 := Hid3.mk hQ2
      have hi10 : i ≤ 10 := by have := H.out; omega
      have hsz : w.heap.size ≤ W2.heap.size := h2.l.bl.size
      have HF : Hid3 (∀ v' w1, w1.ownsRow w.heap.size 24 1 v' (i + 1) (idsC i ++ [.int .u32 K]) → (W2.alloc (.cells #[.int .u32 K] 24)).grownBy w1 (Value.ownBlock (.slice (some ⟨g, 0, none⟩) i cap)) → Tq w w1 T L2 ⟨30, pcs st n i, i + 1⟩ v' (i + 1)) := ⟨fun v' w1 h1 hg => HQ2.out.more hg (by rw [hKK]; exact h1)⟩
      clear c hs h2 hQ2 hcell hgl HT hKK hwi hwa hc
      go_wp2_with (at_builtin; refine wpList_append_own _ rfl _ _ 30 rfl w.heap.size 24 i0 (.int .u32 0) 1 4 Try.underlying30 hi0 hz0 hz1 hz2 rfl (by decide) _ _ _ rfl HQ2.out.r ⟨W2.heap.size, 0, none⟩ 1 1 [.int .u32 K] rfl rfl hNC (by simp [Value.oneCell']) (by unfold maxLen; omega) (by omega) (by simp; omega) ?_; intro v' w1 h1 hg _; obtain ⟨a', cap', rfl⟩ := slice_ofX h1; have HR := Hid3.mk (HF.out _ w1 h1 hg); clear h1 hg)
      go_roundw
      case rel => exact ⟨i, i + 1, a', cap', by omega, rfl, by go_num, ⟨rfl⟩, ⟨⟨L2, HR.out⟩⟩⟩
      case measure => simp [intOf]; omega
    · have hc : ¬ (i : Int) < N := by have := H.out; omega
      have hie : i = n := by omega
      have hnN := H.out.1
      subst hie
      have hlen : (pcs st i j).length = i := by rw [pcs_len, HJ.out]
      have cL := p_list HT.out.l.p
      rw [HT.out.l.t] at cL
      have cL : Calls Try.prog 7 #[.pointer (some ⟨T, 0, none⟩)] wr fun e w' => ∃ v, e = .returned v ∧ w'.ownsRow wr.heap.size 37 6 v (pcs st i j).length (exsC (pcs st i j)) ∧ Below wr.heap.size wr w' := cL
      rw [hlen] at cL
      have HLN := Hid3.mk hlen
      clear hlen
      go_wp2_with fail
      refine cL.mono ?_
      rintro e W3 ⟨v3, rfl, h3, hb⟩
      obtain ⟨a3, cap3, rfl⟩ := slice_ofX h3
      have HT3 := Hid3.mk (HT.out.low hb)
      have cO := p_owned HT3.out.l.p 2
      rw [HT3.out.l.t] at cO
      have cO : Calls Try.prog 8 #[.pointer (some ⟨T, 0, none⟩), .int .u8 2] W3 fun e w' => ∃ v, e = .returned v ∧ w'.ownsRow W3.heap.size 24 1 v (ownL 2 (pcs st i j)).length ((ownL 2 (pcs st i j)).map u32V) ∧ Below W3.heap.size W3 w' := cO
      rw [pcs_own (by have := HJ.out; omega) H.out.2.2.2.1 H.out.2.2.2.2, ← HJ.out] at cO
      have hne : ((i : Int) != N) = false := by rw [hnN]; simp
      clear cL h3 hb
      go_wp2_with fail
      refine cO.mono ?_
      rintro e W4 ⟨v4, rfl, h4, hb⟩
      obtain ⟨a4, cap4, rfl⟩ := slice_ofX h4
      have HM : Hid3 (∃ L, Tq w W4 T L ⟨30, mrg st i 0, i⟩ (.slice a i cap) i) := ⟨by
        have h5 := HT3.out.low hb
        have e1 : pcs st i j = mrg st i 0 := by
          rw [← pcs_all st i H.out.2.2.1]
          congr 1
          have := HJ.out
          omega
        rw [e1, ← HJ.out] at h5
        exact ⟨_, h5⟩⟩
      clear cO h4 hb HT HT3 HJ HLN
      go_wp2_with fail
      go_loopw [14] (fun si W => ∃ (j k : Nat), k ≤ i ∧ si = .int .i64 k ∧ Hid3 (k = j + 1) ∧ Hid3 (∃ L, Tq w W T L ⟨30, mrg st i j, i⟩ (.slice a i cap) i)) (fun si _ => 11 - (intOf si).toNat)
      case atStart => exact ⟨0, 1, H.out.2.2.1, rfl, ⟨rfl⟩, HM⟩
      case round =>
        rename_i W0' wr'
        obtain ⟨j, k, hki, rfl, HJ, HE⟩ := hrel
        obtain ⟨L, hT⟩ := HE.out
        have HT := Hid3.mk hT
        clear HE hT HM
        by_cases hlt2 : k < i
        · obtain ⟨g, rfl⟩ : ∃ g, a = some ⟨g, 0, none⟩ := by
            rcases HT.out.r.2 with ⟨hv, h0⟩ | ⟨g, c', cur, hv, _⟩
            · omega
            · injection hv with e1; exact ⟨g, e1⟩
          have hj := HJ.out
          have hH := H.out
          have hc : (k : Int) < N := by omega
          have hi10 : i ≤ 10 := by omega
          have c := merge_step HT.out.l (by omega) hH.2.2.2.1 hH.2.2.2.2
          obtain ⟨K, hK⟩ : ∃ K : Int, ((k + 1 : Nat) : Int) = K := ⟨_, rfl⟩
          have hcell := (HT.out.r.cellAt k (by omega)).trans (idsC_at hlt2)
          rw [hK] at hcell
          rw [← hj, hK] at c
          have hgl := World.block_lt_of_cell? _ _ hcell
          clear hj hH hK
          go_wp2_with fail
          refine c.mono ?_
          rintro e W5 ⟨rfl, hs⟩
          obtain ⟨L5, h5⟩ := HT.out.step hs
          have HT5 := Hid3.mk h5
          clear c hs h5 hcell hgl HT
          go_wp2
          go_roundw
          case rel => exact ⟨k, k + 1, by omega, by go_num, ⟨rfl⟩, ⟨⟨L5, HT5.out⟩⟩⟩
          case measure => simp [intOf]; omega
        · have hc : ¬ (k : Int) < N := by have := H.out; omega
          have hx : st + i ≤ 1000 := by have := H.out; omega
          have cL := p_list HT.out.l.p
          have e1 : mrg st i j = [⟨1, st, i, 2, nmD, 1#8, hx⟩] := by
            rw [← mrg_all st i H.out.2.2.1 hx]
            congr 1
            have := HJ.out
            omega
          rw [HT.out.l.t] at cL
          have cL : Calls Try.prog 7 #[.pointer (some ⟨T, 0, none⟩)] _ fun e w' => ∃ v, e = .returned v ∧ w'.ownsRow _ 37 6 v (mrg st i j).length (exsC (mrg st i j)) ∧ Below _ _ w' := cL
          rw [e1] at cL
          have eG := eqGuardE
          have eM := fun W => eqE W 1 S N 2 ⟨#[47, 100]⟩ 1
          clear e1
          go_wp2_with fail
          refine cL.mono ?_
          rintro e W5 ⟨v5, rfl, h5, hb⟩
          have h5 : W5.ownsRow _ 37 6 v5 1 [.int .u32 (1 : Nat), .int .i64 (st : Nat), .int .i64 (i : Nat), .int .u8 (2 : Nat), .string nmD, .int .u8 ((1#8 : BitVec 8).toNat : Nat)] := h5
          rw [H.out.1, H.out.2.1] at h5
          obtain ⟨g, cap5, rfl⟩ : ∃ g c5, v5 = .slice (some ⟨g, 0, none⟩) 1 c5 := by
            rcases h5.2 with ⟨_, h0⟩ | ⟨g, c', cur, hv, _⟩
            · cases h0
            · exact ⟨g, c', hv⟩
          have y0 : W5.cell? ⟨g, 0, none⟩ = some (.int .u32 1) := h5.cellAt 0 (by omega)
          have y1 : W5.cell? ⟨g, 1, none⟩ = some (.int .i64 S) := h5.cellAt 1 (by omega)
          have y2 : W5.cell? ⟨g, 2, none⟩ = some (.int .i64 N) := h5.cellAt 2 (by omega)
          have y3 : W5.cell? ⟨g, 3, none⟩ = some (.int .u8 2) := h5.cellAt 3 (by omega)
          have y4 : W5.cell? ⟨g, 4, none⟩ = some (.string ⟨#[47, 100]⟩) := h5.cellAt 4 (by omega)
          have y5 : W5.cell? ⟨g, 5, none⟩ = some (.int .u8 1) := h5.cellAt 5 (by omega)
          have hgl := World.block_lt_of_cell? _ _ y0
          have HB := Hid3.mk ((HT.out.l.low hb).bl)
          clear cL h5 hb HT
          go_wp2
          go_ret
          exact ⟨rfl, HB.out⟩
end Go.Proofs.Ytdegjmceeggldaa
