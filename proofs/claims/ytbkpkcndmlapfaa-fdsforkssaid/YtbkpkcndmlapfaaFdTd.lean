/- A row that is copied by twins. -/
import Derived.Test.YtbkpkcndmlapfaaFdTc
namespace Go.Proofs.Ytbkpkcndmlapfaa
open Go.RowKit Go.Maps
set_option linter.unusedVariables false
set_option maxRecDepth 100000
theorem Ft.lo {B N : Nat} {w w' : World} {L : Lo} {s : Fs} (h : Ft B w L s) (k : Below N w w') (hx : ∀ i, XF L s i → i < N) : Ft B w' L s :=
  ⟨h.g, (k.block _ (hx _ (.inl rfl))).trans h.t, h.b.lo k (fun p hp => hx _ (XF.row hp)) (fun m hm => hx _ (XF.obj hm))⟩
theorem twin_any (N B : Nat) (L : Lo) (s : Fs) (W : World) (b1 b2 : Nat) (ps : List (Nat × Nat)) (n : Nat) (h : Tw N L s W b1 b2 ps) (hF : Ft B W L s) (hn : Lv s n) (hN : N ≤ W.heap.size) (hl : ps.length ≤ 47) :
    Calls Try.prog 53 #[.pointer (some ⟨L.o n, 0, none⟩), .pointer (some ⟨b1, 0, none⟩), .pointer (some ⟨b2, 0, none⟩)] W fun r w' => ∃ a ps', r = .returned (.pointer (some ⟨a, 0, none⟩)) ∧ TwS N L s W w' b1 b2 ps ps' n a ∧ ps'.length ≤ ps.length + 1 := by
  obtain ⟨sv, mv, h1, h2, h3, h4, h5⟩ := h.rows
  rcases Tw.idx (b1 := b1) (b2 := b2) hF n hn (fun x hx => (h.ob x hx).1) (by omega) h3 with ⟨i, a, hi, cI⟩ | ⟨hnew, cI⟩
  · refine (twin_old N B L s W b1 b2 ps sv mv i a n hi (by omega) h1 h2 h4 cI).mono (fun r w' k => ⟨a, ps, k.1, ?_, by omega⟩)
    rw [k.2]
    exact ⟨h, List.prefix_refl _, List.mem_of_getElem? hi, Below.refl _ _, fun _ _ _ _ _ => rfl⟩
  · exact (twin_new N B L s W b1 b2 ps sv mv n h hF hn hN hnew hl h1 h2 h3 h4 h5 cI).mono (fun r w' k => ⟨_, _, k.1, k.2, by rw [List.length_append]; simp⟩)
/-- What was made of a thing. -/
def o2 : List (Nat × Nat) → Nat → Nat
  | [], _ => 0
  | x :: r, n => if x.1 = n then x.2 else o2 r n
theorem o2_mem : ∀ (ps : List (Nat × Nat)) (n a : Nat), (ps.map Prod.fst).Nodup → (n, a) ∈ ps → o2 ps n = a
  | [], n, a, _, h => by cases h
  | x :: r, n, a, hd, h => by
    rw [List.map_cons, List.nodup_cons] at hd
    rcases List.mem_cons.1 h with e | h
    · subst e
      exact if_pos rfl
    · unfold o2
      rw [if_neg (fun e => hd.1 (List.mem_map.2 ⟨(n, a), h, e.symm⟩))]
      exact o2_mem r n a hd.2 h
theorem o2_pre {ps ps' : List (Nat × Nat)} (hp : ps <+: ps') (hd : (ps'.map Prod.fst).Nodup) {n a : Nat} (h : (n, a) ∈ ps) : o2 ps' n = o2 ps n := by
  have hd0 : (ps.map Prod.fst).Nodup := by
    obtain ⟨r, e⟩ := hp
    rw [← e, List.map_append] at hd
    exact (List.nodup_append.1 hd).1
  rw [o2_mem ps' n a hd (hp.subset h), o2_mem ps n a hd0 h]
/-- All things of a row below K were seen. -/
def Sn (f : Fin 8 → Nat) (K : Nat) (ps : List (Nat × Nat)) : Prop := ∀ j : Fin 8, j.1 < K → f j ≠ 0 → ∃ a, (f j, a) ∈ ps
theorem Sn.pre {f : Fin 8 → Nat} {K : Nat} {ps ps' : List (Nat × Nat)} (h : Sn f K ps) (hp : ps <+: ps') : Sn f K ps' := fun j hj hf => (h j hj hf).elim fun a ha => ⟨a, hp.subset ha⟩
theorem rCs_grow {f : Fin 8 → Nat} {K : Nat} {ps ps' : List (Nat × Nat)} (h : Sn f K ps) (hp : ps <+: ps') (hd : (ps'.map Prod.fst).Nodup) : rCs (preF f K) (o2 ps') = rCs (preF f K) (o2 ps) := by
  refine rCs_eq _ _ _ (fun k hk => ?_)
  unfold preF at hk ⊢
  by_cases c : k.1 < K
  · rw [if_pos c] at hk ⊢
    obtain ⟨a, ha⟩ := h k c hk
    exact o2_pre hp hd ha
  · rw [if_neg c] at hk
    exact absurd rfl hk
/-- What stands ahead of each round of copied, for twins: W0 the world at its beginning, R the new row. -/
structure CtI (N : Nat) (L : Lo) (s : Fs) (p : Fin 6) (W0 V : World) (b1 b2 : Nat) (ps0 ps : List (Nat × Nat)) (K : Nat) : Prop where
  tw : Tw N L s V b1 b2 ps
  row : Cl V W0.heap.size 75 (rCs (preF (s.fd p) K) (o2 ps))
  sn : Sn (s.fd p) K ps
  pre : ps0 <+: ps
  bl : Below N W0 V
  kp : ∀ k, k < W0.heap.size → (∀ cur, W0.heap[k]? ≠ some (.cells cur 67 (0, 0))) → k ≠ b1 → k ≠ b2 → V.heap[k]? = W0.heap[k]?
  len : ps.length ≤ ps0.length + K
theorem CtI.next {N : Nat} {L : Lo} {s : Fs} {p : Fin 6} {W0 V V' : World} {b1 b2 : Nat} {ps0 ps ps' : List (Nat × Nat)} {K a : Nat} (hN : N ≤ W0.heap.size) (I : CtI N L s p W0 V b1 b2 ps0 ps K) (hK : K < 8) (hf : s.fd p ⟨K, hK⟩ ≠ 0) (hb1 : b1 < W0.heap.size) (hb2 : b2 < W0.heap.size) (T : TwS N L s V V' b1 b2 ps ps' (s.fd p ⟨K, hK⟩) a) (hl : ps'.length ≤ ps.length + 1) :
    Cl V' W0.heap.size 75 (rCs (preF (s.fd p) K) (o2 ps')) ∧ CtI N L s p W0 (V'.setCell ⟨W0.heap.size, K, none⟩ (.pointer (some ⟨a, 0, none⟩))) b1 b2 ps0 ps' (K + 1) := by
  have hd := T.tw.d1
  have hr : Cl V' W0.heap.size 75 (rCs (preF (s.fd p) K) (o2 ps')) := by
    rw [rCs_grow I.sn T.pre hd]
    refine (T.kp _ I.row.lt (fun cur e => ?_) (by omega) (by omega)).trans I.row
    have := I.row.symm.trans e
    injection this with this
    injection this with _ this
    exact absurd this (by decide)
  have ea : o2 ps' (s.fd p ⟨K, hK⟩) = a := o2_mem ps' _ a hd T.mem
  have ap : Apart (fun i => i = W0.heap.size) V' (V'.setCell ⟨W0.heap.size, K, none⟩ (.pointer (some ⟨a, 0, none⟩))) := Apart.at _ _ _ _ rfl
  have hs := I.bl.size
  refine ⟨hr, ⟨?_, ?_, fun j hj hj0 => ?_, I.pre.trans T.pre, (I.bl.trans T.bl).trans (ap.below N (fun k e => by rw [e]; exact hN) (Nat.le_trans hN (Nat.le_trans hs T.bl.size))), fun k hk hx e1 e2 => ?_, by have := I.len; omega⟩⟩
  · obtain ⟨sv, mv, h1, h2, h3, h4, h5⟩ := T.tw.rows
    have hrow : ∀ {v : Value} {n' : Nat} {xs : List Value}, V'.ownsRow N 67 1 v n' xs → (V'.setCell ⟨W0.heap.size, K, none⟩ (.pointer (some ⟨a, 0, none⟩))).ownsRow N 67 1 v n' xs := fun {v n' xs} ho => by
      refine ⟨ho.1, ?_⟩
      rcases ho.2 with h0 | ⟨g', cap, cur, e1, e2, e3, e4⟩
      · exact .inl h0
      · refine .inr ⟨g', cap, cur, e1, e2, (ap.block g' (Array.getElem?_eq_some_iff.1 e3).1 (fun e => ?_)).trans e3, e4⟩
        have e' : g' = W0.heap.size := e
        subst e'
        have := hr.symm.trans e3
        injection this with this
        injection this with _ this
        exact absurd this (by decide)
    exact ⟨⟨sv, mv, h1.other (by omega) _ _, h2.other (by omega) _ _, hrow h3, hrow h4, h5⟩, T.tw.nb, T.tw.g1, T.tw.g2, fun x hx => ⟨(T.tw.ob x hx).1, (T.tw.ob x hx).2.1, (T.tw.ob x hx).2.2.other ((T.tw.ob x hx).2.2.ne hr (by decide)) _ _⟩, T.tw.d1, T.tw.d2, T.tw.len⟩
  · have := hr.set K (.pointer (some ⟨a, 0, none⟩))
    have e1 := rCs_set (preF (s.fd p) K) (o2 ps') (s.fd p ⟨K, hK⟩) ⟨K, hK⟩
    rw [ptr_n hf, ea, preF_yes] at e1
    simp only at e1
    rw [e1] at this
    exact this
  · by_cases e : j.1 = K
    · have : j = ⟨K, hK⟩ := Fin.ext e
      rw [this]
      exact ⟨a, T.mem⟩
    · exact (I.sn.pre T.pre) j (by omega) hj0
  · rw [ap.block k (Nat.lt_of_lt_of_le hk (Nat.le_trans hs T.bl.size)) (fun e => by have e' : k = W0.heap.size := e; omega)]
    rw [T.kp k (Nat.lt_of_lt_of_le hk hs) (fun cur e => hx cur (by rw [← I.kp k hk hx e1 e2]; exact e)) e1 e2]
    exact I.kp k hk hx e1 e2
theorem CtI.skip {N : Nat} {L : Lo} {s : Fs} {p : Fin 6} {W0 V : World} {b1 b2 : Nat} {ps0 ps : List (Nat × Nat)} {K : Nat} (I : CtI N L s p W0 V b1 b2 ps0 ps K) (hK : K < 8) (hf : s.fd p ⟨K, hK⟩ = 0) : CtI N L s p W0 V b1 b2 ps0 ps (K + 1) :=
  ⟨I.tw, by rw [preF_no _ K hK hf]; exact I.row, fun j hj hj0 => by
    by_cases e : j.1 = K
    · have : j = ⟨K, hK⟩ := Fin.ext e
      rw [this] at hj0
      exact absurd hf hj0
    · exact I.sn j (by omega) hj0, I.pre, I.bl, I.kp, by have := I.len; omega⟩
theorem CtI.drew {N : Nat} {L : Lo} {s : Fs} {p : Fin 6} {W0 V : World} {b1 b2 : Nat} {ps0 ps : List (Nat × Nat)} {K : Nat} (I : CtI N L s p W0 V b1 b2 ps0 ps K) : CtI N L s p W0 V.drew b1 b2 ps0 ps K :=
  ⟨I.tw.low (Below.refl _ _).drew, I.row, I.sn, I.pre, I.bl.drew, I.kp, I.len⟩
set_option maxHeartbeats 2000000 in
theorem copied_twin (N B : Nat) (L : Lo) (s : Fs) (p : Fin 6) (W0 : World) (b1 b2 : Nat) (ps0 : List (Nat × Nat)) (h : Tw N L s W0 b1 b2 ps0) (hF : Ft B W0 L s) (hX : ∀ i, XF L s i → i < N) (hN : N ≤ W0.heap.size) (hp : s.has p = true) (hl : ps0.length ≤ 40) :
    Calls Try.prog 39 #[.pointer (some ⟨L.r p, 0, none⟩), .func (.func 53) #[] #[.pointer (some ⟨b1, 0, none⟩), .pointer (some ⟨b2, 0, none⟩)]] W0 fun r w' => r = .returned (.pointer (some ⟨W0.heap.size, 0, none⟩)) ∧ ∃ ps, CtI N L s p W0 w' b1 b2 ps0 ps 8 := by
  obtain ⟨_, _, k1, k2, _⟩ := h.rows
  have hb1 := k1.lt
  have hb2 := k2.lt
  have hX0 : Below W0.heap.size W0 (W0.alloc (.cells #[.pointer none, .pointer none, .pointer none, .pointer none, .pointer none, .pointer none, .pointer none, .pointer none] 75)) := below_new W0 _
  have HI0 : Hid3 (CtI N L s p W0 (W0.alloc (.cells #[.pointer none, .pointer none, .pointer none, .pointer none, .pointer none, .pointer none, .pointer none, .pointer none] 75)) b1 b2 ps0 ps0 0) := ⟨⟨h.low hX0, heap_alloc_new W0 _, fun j hj => absurd hj (by omega), List.prefix_refl _, hX0.mono hN, fun k hk _ _ _ => hX0.block k hk, Nat.le_refl _⟩⟩
  have HN : Hid3 (∀ K (hK : K < 8) V ps, CtI N L s p W0 V b1 b2 ps0 ps K → V.cell? ⟨L.r p, K, none⟩ = some (ptr (s.fd p ⟨K, hK⟩ != 0) (L.o (s.fd p ⟨K, hK⟩))) ∧ L.r p < V.heap.size ∧ (s.fd p ⟨K, hK⟩ ≠ 0 → Calls Try.prog 53 #[.pointer (some ⟨L.o (s.fd p ⟨K, hK⟩), 0, none⟩), .pointer (some ⟨b1, 0, none⟩), .pointer (some ⟨b2, 0, none⟩)] V fun r w' => ∃ a ps', r = .returned (.pointer (some ⟨a, 0, none⟩)) ∧ (∃ u, w'.cell? ⟨W0.heap.size, K, none⟩ = some u) ∧ w'.frozen? ⟨W0.heap.size, K, none⟩ = false ∧ W0.heap.size < w'.heap.size ∧ CtI N L s p W0 (w'.setCell ⟨W0.heap.size, K, none⟩ (.pointer (some ⟨a, 0, none⟩))) b1 b2 ps0 ps' (K + 1))) := ⟨fun K hK V ps I => by
    have hFV := hF.lo I.bl hX
    refine ⟨hFV.b.at p hp ⟨K, hK⟩, (hFV.b.rg p hp).2.lt, fun hf => ?_⟩
    refine (twin_any N B L s V b1 b2 ps _ I.tw hFV (Lv.of_fd hf) (Nat.le_trans hN I.bl.size) (by have := I.len; omega)).mono ?_
    rintro r w' ⟨a, ps', rfl, hT, hl'⟩
    obtain ⟨hr, hI⟩ := I.next hN hK hf hb1 hb2 hT hl'
    exact ⟨a, ps', rfl, ⟨_, (hr.cell K).trans (rCs_at _ _ ⟨K, hK⟩)⟩, hr.thaw K, hr.lt, hI⟩⟩
  have HSK : Hid3 (∀ K (hK : K < 8) V ps, CtI N L s p W0 V b1 b2 ps0 ps K → s.fd p ⟨K, hK⟩ = 0 → CtI N L s p W0 V b1 b2 ps0 ps (K + 1)) := ⟨fun K hK V ps I hf => I.skip hK hf⟩
  clear h hF hX hN hp hl k1 k2 hb1 hb2 hX0
  go_enter Try.func39, Try.ntmps39
  go_wp2
  go_loopw [11] (fun i V => ∃ (K : Nat) (ps : List (Nat × Nat)), i = .int .i64 K ∧ K ≤ 8 ∧ Hid3 (CtI N L s p W0 V b1 b2 ps0 ps K)) (fun i _ => 8 - (intOf i).toNat)
  case atStart => exact ⟨0, ps0, rfl, Nat.zero_le _, HI0⟩
  case round =>
    obtain ⟨K, ps, rfl, hK, HI⟩ := hrel
    by_cases hK8 : K < 8
    · have hKz : (K : Int) < 8 := by omega
      obtain ⟨c0, l2, hyes⟩ := HN.out K hK8 wr ps HI.out
      by_cases hf : s.fd p ⟨K, hK8⟩ = 0
      · rw [hf] at c0
        have c0' : wr.cell? ⟨L.r p, K, none⟩ = some (.pointer none) := c0
        have HI2 := Hid3.mk (HSK.out K hK8 wr ps HI.out hf).drew
        clear c0 hyes hf
        go_wp2
        go_region
        go_wp2
        go_roundw
        case rel => exact ⟨K + 1, ps, by go_num, by omega, HI2⟩
        case measure => simp [intOf]; omega
      · rw [ptr_n hf] at c0
        have cF := (HN.out K hK8 wr.drew.drew ps HI.out.drew.drew).2.2 hf
        generalize L.o (s.fd p ⟨K, hK8⟩) = ob at *
        clear hyes hf
        go_wp2
        go_region
        go_wp2_with fail
        go_region_with (go_at_call 53; refine cF.mono ?_; rintro r W2 ⟨a, ps', rfl, ⟨u, cu⟩, fu, lu, hI⟩; have HI2 := Hid3.mk hI; clear hI)
        all_goals
          go_wp2
          go_roundw
          case rel => exact ⟨K + 1, _, by go_num, by omega, HI2⟩
          case measure => simp [intOf]; omega
    · have hKz : ¬ (K : Int) < 8 := by omega
      obtain rfl : K = 8 := by omega
      go_wp2
      go_ret
      exact ⟨rfl, ps, HI.out⟩
end Go.Proofs.Ytbkpkcndmlapfaa
