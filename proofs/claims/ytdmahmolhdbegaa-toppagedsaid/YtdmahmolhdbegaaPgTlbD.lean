/- slices.DeleteFunc over mappings; the program's out, at, Find. -/
import Derived.Test.YtdmahmolhdbegaaPgTlbC
namespace Go.Proofs.Ytdmahmolhdbegaa.Tb
open Go.RowKit Go.Maps
set_option linter.unusedVariables false
set_option maxRecDepth 100000

/-- A row of which j have been looked at, and i are kept. -/
structure DelI (p : Mp → Bool) (L D : List Mp) (i j : Nat) : Prop where
  len : D.length = L.length
  lt : i < j
  le : j ≤ L.length
  kept : D.take i = (L.take j).filter (fun x => !p x)
  rest : D.drop j = L.drop j
theorem DelI.num {p : Mp → Bool} {L D : List Mp} {i j : Nat} (h : DelI p L D i j) : ((L.take j).filter (fun x => !p x)).length = i := by
  rw [← h.kept, List.length_take]
  have := h.len
  have := h.lt
  have := h.le
  omega
theorem DelI.at {p : Mp → Bool} {L D : List Mp} {i j : Nat} (h : DelI p L D i j) : D[j]? = L[j]? := by
  have h1 : (D.drop j)[0]? = (L.drop j)[0]? := by rw [h.rest]
  simpa using h1
theorem DelI.start {p : Mp → Bool} {L : List Mp} {k : Nat} (h : L.findIdx? p = some k) : DelI p L L k (k + 1) := by
  obtain ⟨hk, h1, h2⟩ := idx_some h
  refine ⟨rfl, by omega, by omega, ?_, rfl⟩
  rw [List.take_succ_eq_append_getElem hk, List.filter_append, List.filter_cons_of_neg (by simp [h1]), List.filter_nil, List.append_nil]
  symm
  refine filter_none p _ (fun j hj => ?_)
  rw [List.getElem_take]
  exact h2 j (by rw [List.length_take] at hj; omega)
theorem DelI.keep {p : Mp → Bool} {L D : List Mp} {i j : Nat} (h : DelI p L D i j) (m : Mp) (hj : L[j]? = some m) (hp : p m = false) : DelI p L (D.set i m) (i + 1) (j + 1) := by
  obtain ⟨hjl, he⟩ := List.getElem?_eq_some_iff.1 hj
  have hlen := h.len
  have hlt := h.lt
  refine ⟨by rw [List.length_set]; exact h.len, by omega, by omega, ?_, ?_⟩
  · rw [List.take_succ_eq_append_getElem hjl, List.filter_append, ← h.kept, he, List.filter_cons_of_pos (by simp [hp]), List.filter_nil]
    rw [List.take_succ_eq_append_getElem (by rw [List.length_set]; omega), List.getElem_set_self, List.take_set, List.set_eq_of_length_le (by rw [List.length_take]; omega)]
  · have h2 : (D.drop j).drop 1 = (L.drop j).drop 1 := by rw [h.rest]
    rw [List.drop_drop, List.drop_drop] at h2
    rw [List.drop_set_of_lt (by omega)]
    exact h2
theorem DelI.skip {p : Mp → Bool} {L D : List Mp} {i j : Nat} (h : DelI p L D i j) (m : Mp) (hj : L[j]? = some m) (hp : p m = true) : DelI p L D i (j + 1) := by
  obtain ⟨hjl, he⟩ := List.getElem?_eq_some_iff.1 hj
  have hlt := h.lt
  refine ⟨h.len, by omega, by omega, ?_, ?_⟩
  · rw [List.take_succ_eq_append_getElem hjl, List.filter_append, ← h.kept, he, List.filter_cons_of_neg (by simp [hp]), List.filter_nil, List.append_nil]
  · have h2 : (D.drop j).drop 1 = (L.drop j).drop 1 := by rw [h.rest]
    rw [List.drop_drop, List.drop_drop] at h2
    exact h2

set_option maxHeartbeats 4000000 in
theorem delf_some (g0 : Nat) (lb : Array Value) (p : Mp → Bool) (cb : Nat) (o : Obj) (hp : PredC g0 lb p cb o) (eg : ∀ args w, (callFunc g0 args).run Try.prog w = .ok (.enter g0 args) w) (g cap : Nat) (L : List Mp) (w : World) (k0 : Nat) (hR : RowC w g cap L) (hL : L.length ≤ 1000) (hc : w.heap[cb]? = some o) (hne : g ≠ cb) (hk : L.findIdx? p = some k0) :
    Calls Try.prog 51 #[.slice (some ⟨g, 0, none⟩) L.length cap, .func (.func g0) #[] lb] w fun e w' => e = .returned (.slice (some ⟨g, 0, none⟩) (L.filter (fun x => !p x)).length cap) ∧ RowC w' g cap (L.filter (fun x => !p x)) ∧ Apart (fun k => k = g) w w' := by
  obtain ⟨hk0, hk1, hk2⟩ := idx_some hk
  have hcap : L.length ≤ cap := by obtain ⟨cur, _, _, h, _⟩ := hR; exact h
  have hv : Mps w (.slice (some ⟨g, 0, none⟩) L.length cap) L := ⟨_, cap, rfl, hcap, (fun e => by cases e), fun j m hj => ⟨g, 0, rfl, by have := hR.at j m hj; simpa using this⟩⟩
  have hIF := idxf_any g0 lb p cb o hp eg _ L w hv hL hc
  have e2 : idxI p L = (k0 : Int) := by unfold idxI; rw [hk]
  rw [e2] at hIF
  have hne1 : ((k0 : Int) == -1) = false := beq_eq_false_iff_ne.2 (by omega)
  have hgl := hR.lt
  have hcb : cb < w.heap.size := (Array.getElem?_eq_some_iff.1 hc).1
  have HR : Hid (RowC w g cap L) := hR
  have HO : Hid (w.heap[cb]? = some o) := hc
  have HP : Hid (PredC g0 lb p cb o) := hp
  have HS : Hid (DelI p L L k0 (k0 + 1)) := DelI.start hk
  clear hR hc hp hk hk1 hk2 hv e2
  go_enter Try.func51, Try.ntmps51
  go_wp2_with (go_at_call 74; refine hIF.mono ?_; rintro e W1 ⟨rfl, hB1⟩)
  go_loopw [5, 6, 7] (fun s5 s6 _ wr => ∃ (i j : Nat) (D : List Mp), s5 = .int .i64 i ∧ s6 = .int .i64 j ∧ j ≤ L.length ∧ i < j ∧ Hid (RowC wr g cap D) ∧ Hid (DelI p L D i j) ∧ Hid (Apart (fun k => k = g) w wr)) (fun _ s6 _ _ => L.length - (intOf s6).toNat)
  case atStart => exact ⟨k0, k0 + 1, L, rfl, by go_num, by omega, by omega, HR.out.stay (hB1.block g hgl), HS.out, Apart.of_below hB1⟩
  case round =>
    obtain ⟨i, j, D, rfl, rfl, hjl, hij, HRr, HD, HA⟩ := hrel
    have hDl := HD.out.len
    have hglr := HRr.out.lt
    by_cases hlt : j < L.length
    · have hltz : (j : Int) < (L.length : Int) := by omega
      have hm : L[j]? = some L[j] := List.getElem?_eq_getElem hlt
      have hmD : D[j]? = some L[j] := HD.out.at.trans hm
      obtain ⟨c0, c1, c2, c3⟩ := HRr.out.at j _ hmD
      have hDi : i < D.length := by omega
      have HDk : Hid (∀ y, L[j] = y → p y = false → DelI p L (D.set i y) (i + 1) (j + 1)) := fun y hy hh => HD.out.keep y (by rw [hm, hy]) hh
      have HDs : Hid (∀ y, L[j] = y → p y = true → DelI p L D i (j + 1)) := fun y hy hh => HD.out.skip y (by rw [hm, hy]) hh
      have hob : wr.heap[cb]? = some o := (HA.out.block cb hcb (fun e => hne e.symm)).trans HO.out
      have hcbr : cb < wr.heap.size := (Array.getElem?_eq_some_iff.1 hob).1
      clear hm hmD
      generalize L[j] = y at *
      obtain ⟨y0, y1, y2, y3⟩ := y
      simp only at c0 c1 c2 c3
      have hcall := HP.out (wr.alloc (.cells #[.int .u8 y0, .int .u8 y1, .int .u8 y2, .bool y3] 39)) (y0, y1, y2, y3) ((Below.heap_alloc _ _ _ hcbr).trans hob)
      unfold mpV at hcall
      simp only at hcall
      have HOb : Hid (wr.heap[cb]? = some o) := hob
      clear hob
      cases hq : p (y0, y1, y2, y3) with
      | true =>
        rw [hq] at hcall
        have HD' : Hid (DelI p L D i (j + 1)) := HDs.out _ rfl hq
        clear HDk HDs hq
        go_wp2_with (go_at_fn g0; refine hcall.mono ?_; rintro e W2 ⟨rfl, hB2⟩)
        have hA2 : Below wr.heap.size wr W2 := ((Below.refl _ wr).alloc (Nat.le_refl _) _).trans (hB2.mono (by simp))
        go_roundw
        case rel => exact ⟨i, j + 1, D, rfl, by go_num, by omega, by omega, HRr.out.stay (hA2.block g hglr), HD'.out, HA.out.trans (Apart.of_below hA2)⟩
        case measure => simp [intOf]; omega
      | false =>
        rw [hq] at hcall
        have HD' : Hid (DelI p L (D.set i (y0, y1, y2, y3)) (i + 1) (j + 1)) := HDk.out _ rfl hq
        clear HDk HDs hq
        go_wp2_with fail
        refine hcall.mono ?_
        rintro e W2 ⟨rfl, hB2⟩
        have hsz2 := hB2.size
        rw [World.size_alloc] at hsz2
        have hA2 : Below wr.heap.size wr W2 := ((Below.refl _ wr).alloc (Nat.le_refl _) _).trans (hB2.mono (by simp))
        have hb2 : W2.heap[wr.heap.size]? = some (.cells #[.int .u8 y0, .int .u8 y1, .int .u8 y2, .bool y3] 39) := (hB2.block _ (by simp)).trans (heap_alloc_new wr _)
        have d0 : W2.cell? ⟨wr.heap.size, 0, none⟩ = some (.int .u8 y0) := by rw [Lib.cell_of_heap hb2]; rfl
        have d1 : W2.cell? ⟨wr.heap.size, 1, none⟩ = some (.int .u8 y1) := by rw [Lib.cell_of_heap hb2]; rfl
        have d2 : W2.cell? ⟨wr.heap.size, 2, none⟩ = some (.int .u8 y2) := by rw [Lib.cell_of_heap hb2]; rfl
        have d3 : W2.cell? ⟨wr.heap.size, 3, none⟩ = some (.bool y3) := by rw [Lib.cell_of_heap hb2]; rfl
        have hR2 : Hid (RowC W2 g cap D) := HRr.out.stay (hA2.block g hglr)
        obtain ⟨z, hz⟩ : ∃ z, D[i]? = some z := ⟨_, List.getElem?_eq_getElem hDi⟩
        obtain ⟨e0, e1, e2, e3⟩ := hR2.out.at i z hz
        have f0 := hR2.out.thaw (i * 4)
        have f1 := hR2.out.thaw (i * 4 + 1)
        have f2 := hR2.out.thaw (i * 4 + 2)
        have f3 := hR2.out.thaw (i * 4 + 3)
        have hiz : (i : Int) < (L.length : Int) := by omega
        have hwr : wr.heap.size ≠ g := by omega
        clear hb2 hz hcall
        have hN := hR2.out.set i (y0, y1, y2, y3) hDi
        have hM := (HA.out.trans (Apart.of_below hA2)).trans (Apart.set4 W2 g (i * 4) (y0, y1, y2, y3))
        have HNM : Hid (RowC (set4 W2 g (i * 4) (y0, y1, y2, y3)) g cap (D.set i (y0, y1, y2, y3)) ∧ Apart (fun k => k = g) w (set4 W2 g (i * 4) (y0, y1, y2, y3))) := ⟨hN, hM⟩
        clear hN hM
        unfold set4 at HNM
        simp only at HNM
        go_wp2_with fail
        refine ⟨⟨i + 1, j + 1, D.set i (y0, y1, y2, y3), ?_, ?_, ?_, ?_, HNM.out.1, HD'.out, HNM.out.2⟩, ?_⟩
        · go_num
        · go_num
        · omega
        · omega
        · simp [intOf]; omega
    · have hltz : ¬ (j : Int) < (L.length : Int) := by omega
      obtain rfl : j = L.length := by omega
      have hn := HD.out.num
      have hkept := HD.out.kept
      rw [List.take_length] at hn hkept
      have HN : Hid ((L.filter (fun x => !p x)).length = i) := hn
      have HKp : Hid (D.take i = L.filter (fun x => !p x)) := hkept
      have hcl := fun ty => run_clear4 wr ty g (i * 4) (L.length - i) (cap - i) (by omega) (fun t ht => HRr.out.some _ (by omega)) (fun t ht => HRr.out.thaw _)
      have hiz : (i : Int) ≤ (L.length : Int) := by omega
      have hizc : (i : Int) ≤ (cap : Int) := by omega
      have hcapz : (L.length : Int) ≤ (cap : Int) := by omega
      clear hn hkept
      go_wp2
      go_ret
      refine ⟨by rw [HN.out]; rfl, ?_, HA.out.trans (Apart.setCells g _ _ wr)⟩
      rw [← HKp.out]
      exact HRr.out.cut i (by omega) _
end Go.Proofs.Ytdmahmolhdbegaa.Tb
