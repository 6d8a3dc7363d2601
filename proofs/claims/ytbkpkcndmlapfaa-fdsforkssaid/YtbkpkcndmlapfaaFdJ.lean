/- The program's table: Fork. -/
import Derived.Test.YtbkpkcndmlapfaaFdI
namespace Go.Proofs.Ytbkpkcndmlapfaa
open Go.RowKit Go.Maps
set_option linter.unusedVariables false
set_option maxRecDepth 100000
def preF (f : Fin 8 → Nat) (K : Nat) (j : Fin 8) : Nat := if j.1 < K then f j else 0
/-- Another process with the descriptors below K of one. -/
def prS (s : Fs) (p q : Fin 6) (K : Nat) : Fs := { s with has := upd s.has q true, fd := upd s.fd q (preF (s.fd p) K) }
theorem prS_0 {s : Fs} (h : s.Ok) (p q : Fin 6) (hq : s.has q = false) : prS s p q 0 = begS s q := by
  unfold prS begS
  congr 1
  funext i
  by_cases e : i = q
  · rw [e, upd_same]
    funext j
    rw [h.no q hq j]
    exact if_neg (by omega)
  · exact upd_other _ _ _ _ e
theorem updU {n : Nat} {α : Type} (f : Fin n → α) (k : Fin n) (a b : α) : upd (upd f k a) k b = upd f k b := by
  funext i
  unfold upd
  split <;> rfl
theorem preF_yes (f : Fin 8 → Nat) (K : Nat) (h : K < 8) : upd (preF f K) ⟨K, h⟩ (f ⟨K, h⟩) = preF f (K + 1) := by
  funext j
  unfold upd preF
  by_cases e : j = ⟨K, h⟩
  · rw [if_pos e, if_pos (by rw [e]; exact Nat.lt_succ_self _), e]
  · have : j.1 ≠ K := fun x => e (Fin.ext x)
    rw [if_neg e]
    by_cases hj : j.1 < K
    · rw [if_pos hj, if_pos (by omega)]
    · rw [if_neg hj, if_neg (by omega)]
theorem preF_no (f : Fin 8 → Nat) (K : Nat) (h : K < 8) (h0 : f ⟨K, h⟩ = 0) : preF f (K + 1) = preF f K := by
  rw [← preF_yes f K h, h0]
  funext j
  unfold upd
  by_cases e : j = ⟨K, h⟩
  · rw [if_pos e, e]
    exact (if_neg (Nat.lt_irrefl _)).symm
  · rw [if_neg e]
theorem prS_yes (s : Fs) (p q : Fin 6) (K : Nat) (h : K < 8) : setFd (prS s p q K) q ⟨K, h⟩ (s.fd p ⟨K, h⟩) = prS s p q (K + 1) := by
  unfold setFd prS
  simp only [upd_same, updU, preF_yes]
theorem prS_no (s : Fs) (p q : Fin 6) (K : Nat) (h : K < 8) (h0 : s.fd p ⟨K, h⟩ = 0) : prS s p q (K + 1) = prS s p q K := by
  unfold prS
  rw [preF_no _ K h h0]
theorem prS_row (s : Fs) (p q : Fin 6) (K : Nat) (hpq : p ≠ q) : (prS s p q K).fd p = s.fd p := upd_other _ _ _ _ hpq
theorem Fb.beg {B : Nat} {w W : World} {L : Lo} {s : Fs} (h : Fb B w L s) (q : Fin 6) (hq : s.has q = false) (hW : Below w.heap.size w W) (a : Nat) (hB : B ≤ a) (ha : w.heap.size ≤ a) (hc : Cl W a 75 [.pointer none, .pointer none, .pointer none, .pointer none, .pointer none, .pointer none, .pointer none, .pointer none]) : Fb B W { L with r := upd L.r q a } (begS s q) := by
  have hz := h.ok.no q hq
  have hhas : ∀ i, (begS s q).has i = true → i = q ∨ (i ≠ q ∧ s.has i = true) := fun i hi => by
    by_cases e : i = q
    · exact .inl e
    · refine .inr ⟨e, ?_⟩
      have : upd s.has q true i = true := hi
      rw [upd_other _ _ _ _ e] at this
      exact this
  have hlt : ∀ i, s.has i = true → L.r i < w.heap.size := fun i hi => (h.rg i hi).2.lt
  refine ⟨fun i hi => ?_, fun i i' hi hi' e => ?_, fun n hn => ⟨(h.og n hn).1, (h.og n hn).2.below hW⟩, h.oi, ⟨h.ok.le, fun i hi => ?_⟩⟩
  · show B ≤ upd L.r q a i ∧ Cl W (upd L.r q a i) _ (rCs (s.fd i) L.o)
    rcases hhas i hi with rfl | ⟨e, hi'⟩
    · rw [upd_same]
      refine ⟨hB, ?_⟩
      have e : rCs (s.fd i) L.o = [.pointer none, .pointer none, .pointer none, .pointer none, .pointer none, .pointer none, .pointer none, .pointer none] := by
        unfold rCs
        rw [hz 0, hz 1, hz 2, hz 3, hz 4, hz 5, hz 6, hz 7]
        rfl
      rw [e]
      exact hc
    · rw [upd_other _ _ _ _ e]
      exact ⟨(h.rg i hi').1, (h.rg i hi').2.below hW⟩
  · have e' : upd L.r q a i = upd L.r q a i' := e
    rcases hhas i hi with rfl | ⟨e1, h1⟩ <;> rcases hhas i' hi' with e2 | ⟨e2, h2⟩
    · exact e2.symm
    · rw [upd_same, upd_other _ _ _ _ e2] at e'
      have := hlt i' h2
      omega
    · rw [e2, upd_same, upd_other _ _ _ _ e1] at e'
      have := hlt i h1
      omega
    · rw [upd_other _ _ _ _ e1, upd_other _ _ _ _ e2] at e'
      exact h.ri i i' h1 h2 e'
  · have hi' : upd s.has q true i = false := hi
    by_cases e : i = q
    · rw [e, upd_same] at hi'
      cases hi'
    · rw [upd_other _ _ _ _ e] at hi'
      exact h.ok.no i hi'
set_option maxHeartbeats 1000000 in
theorem fork1_any (b c : Nat) (w : World) (hc : w.cell? ⟨b, 3, none⟩ = some (.int .i64 (c : Int))) (hf : w.frozen? ⟨b, 3, none⟩ = false) (hl : c ≤ 48) : Calls Try.prog 40 #[.pointer (some ⟨b, 0, none⟩)] w fun r w' => r = .returned (.pointer (some ⟨b, 0, none⟩)) ∧ w' = w.setCell ⟨b, 3, none⟩ (.int .i64 ((c + 1 : Nat) : Int)) := by
  have h3 : IntKind.i64.wrap ((c : Int) + 1) = ((c + 1 : Nat) : Int) := by rw [IntKind.wrap_i64]; omega
  generalize ((c + 1 : Nat) : Int) = c' at *
  go_enter Try.func40, Try.ntmps40
  go_wp2
  go_ret
  exact ⟨rfl, rfl⟩
/-- What stands ahead of each round of copied, for Fork. -/
structure CpI (B : Nat) (w W : World) (L : Lo) (s : Fs) (p q : Fin 6) (K : Nat) : Prop where
  b : Fb B W { L with r := upd L.r q w.heap.size } (prS s p q K)
  t : Cl W L.t 73 (tCs s.has L.r)
  ap : Apart (XF L s) w W
theorem prS_lv {s : Fs} {p q : Fin 6} {K m : Nat} (h : s.Ok) (hq : s.has q = false) (hm : Lv (prS s p q K) m) : Lv s m := by
  by_cases hc : ∃ i j, s.fd i j = m
  · obtain ⟨i, j, e⟩ := hc
    exact ⟨hm.1, by rw [← e]; exact cntN_has s.fd i j⟩
  · exfalso
    have h2 := hm.2
    rw [cntN_no _ m (fun i j e => ?_)] at h2
    · omega
    · have e' : upd s.fd q (preF (s.fd p) K) i j = m := e
      by_cases ei : i = q
      · rw [ei, upd_same] at e'
        unfold preF at e'
        split at e'
        · exact hc ⟨p, j, e'⟩
        · exact hm.1 e'.symm
      · rw [upd_other _ _ _ _ ei] at e'
        exact hc ⟨i, j, e'⟩
theorem CpI.next {B : Nat} {w W : World} {L : Lo} {s : Fs} {p q : Fin 6} {K : Nat} (h : Ft B w L s) (hp : s.has p = true) (hq : s.has q = false) (I : CpI B w W L s p q K) (hK : K < 8) (hf : s.fd p ⟨K, hK⟩ ≠ 0) :
    CpI B w ((W.setCell ⟨L.o (s.fd p ⟨K, hK⟩), 3, none⟩ (.int .i64 ((cntN (prS s p q K).fd (s.fd p ⟨K, hK⟩) + 1 : Nat) : Int))).setCell ⟨w.heap.size, K, none⟩ (.pointer (some ⟨L.o (s.fd p ⟨K, hK⟩), 0, none⟩))) L s p q (K + 1) := by
  have hpq : p ≠ q := fun e => by rw [e, hq] at hp; cases hp
  have hqq : (prS s p q K).has q = true := upd_same _ _ _
  have hlv0 : Lv s (s.fd p ⟨K, hK⟩) := Lv.of_fd hf
  have hlv : Lv (prS s p q K) (s.fd p ⟨K, hK⟩) := by
    have : (prS s p q K).fd p ⟨K, hK⟩ ≠ 0 := by rw [prS_row s p q K hpq]; exact hf
    have := Lv.of_fd this
    rw [prS_row s p q K hpq] at this
    exact this
  have hr : ({ L with r := upd L.r q w.heap.size } : Lo).r q = w.heap.size := upd_same _ _ _
  have hrow := (I.b.rg q hqq).2
  rw [hr] at hrow
  have hobj := (I.b.og _ hlv).2
  have hne : w.heap.size ≠ L.o (s.fd p ⟨K, hK⟩) := by have := (h.b.og _ hlv0).2.lt; omega
  have a1 : Apart (fun i => i = w.heap.size ∨ i = L.o (s.fd p ⟨K, hK⟩)) W ((W.setCell ⟨L.o (s.fd p ⟨K, hK⟩), 3, none⟩ (.int .i64 ((cntN (prS s p q K).fd (s.fd p ⟨K, hK⟩) + 1 : Nat) : Int))).setCell ⟨w.heap.size, K, none⟩ (.pointer (some ⟨L.o (s.fd p ⟨K, hK⟩), 0, none⟩))) := (Apart.at _ _ _ _ (.inr rfl)).trans (Apart.at _ _ _ _ (.inl rfl))
  have c1 := (hrow.other hne 3 (.int .i64 ((cntN (prS s p q K).fd (s.fd p ⟨K, hK⟩) + 1 : Nat) : Int))).set K (.pointer (some ⟨L.o (s.fd p ⟨K, hK⟩), 0, none⟩))
  have c2 := (hobj.set 3 (.int .i64 ((cntN (prS s p q K).fd (s.fd p ⟨K, hK⟩) + 1 : Nat) : Int))).other hne.symm K (.pointer (some ⟨L.o (s.fd p ⟨K, hK⟩), 0, none⟩))
  have h0 : (prS s p q K).fd q ⟨K, hK⟩ = 0 := by
    show upd s.fd q (preF (s.fd p) K) q ⟨K, hK⟩ = 0
    rw [upd_same]
    exact if_neg (Nat.lt_irrefl _)
  have hb := I.b.put q ⟨K, hK⟩ (s.fd p ⟨K, hK⟩) hqq h0 hf (h.b.ok.le p _) (I.b.og _ hlv).1 (fun m hm e x => e (I.b.oi m _ hm hlv x)) (fun i hi => (I.b.rg i hi).2.ne hobj (by decide)) (by rw [hr]; exact a1) (by rw [hr]; exact c1) c2
  rw [prS_yes] at hb
  refine ⟨hb, I.t.stay a1 (fun e => e.elim (fun e => by have := h.lt; omega) (h.t.ne (h.b.og _ hlv0).2 (by decide))), I.ap.then a1 (fun i hi e => e.elim (fun e => absurd hi (by omega)) (fun e => e ▸ XF.obj hlv0))⟩
set_option maxHeartbeats 1000000 in
theorem copied_fork (B : Nat) (L : Lo) (s : Fs) (p q : Fin 6) (w : World) (h : Ft B w L s) (hB : B ≤ w.heap.size) (hp : s.has p = true) (hq : s.has q = false) : Calls Try.prog 39 #[.pointer (some ⟨L.r p, 0, none⟩), .func (.func 40) #[] #[]] w fun r w' => r = .returned (.pointer (some ⟨w.heap.size, 0, none⟩)) ∧ CpI B w w' L s p q 8 := by
  have hpq : p ≠ q := fun e => by rw [e, hq] at hp; cases hp
  have hX : Below w.heap.size w (w.alloc (.cells #[.pointer none, .pointer none, .pointer none, .pointer none, .pointer none, .pointer none, .pointer none, .pointer none] 75)) := below_new w _
  have HI0 : Hid3 (CpI B w (w.alloc (.cells #[.pointer none, .pointer none, .pointer none, .pointer none, .pointer none, .pointer none, .pointer none, .pointer none] 75)) L s p q 0) := ⟨⟨by rw [prS_0 h.b.ok p q hq]; exact h.b.beg q hq hX _ hB (Nat.le_refl _) (heap_alloc_new w _), h.t.below hX, Apart.of_below hX⟩⟩
  have HN : Hid3 (∀ K (hK : K < 8) W, CpI B w W L s p q K → W.cell? ⟨L.r p, K, none⟩ = some (ptr (s.fd p ⟨K, hK⟩ != 0) (L.o (s.fd p ⟨K, hK⟩))) ∧ W.cell? ⟨w.heap.size, K, none⟩ = some (.pointer none) ∧ W.frozen? ⟨w.heap.size, K, none⟩ = false ∧ w.heap.size < W.heap.size ∧ L.r p < W.heap.size ∧ (s.fd p ⟨K, hK⟩ = 0 → CpI B w W L s p q (K + 1)) ∧ (s.fd p ⟨K, hK⟩ ≠ 0 → L.o (s.fd p ⟨K, hK⟩) < W.heap.size ∧ w.heap.size ≠ L.o (s.fd p ⟨K, hK⟩) ∧ ∃ c : Nat, c ≤ 48 ∧ W.cell? ⟨L.o (s.fd p ⟨K, hK⟩), 3, none⟩ = some (.int .i64 (c : Int)) ∧ W.frozen? ⟨L.o (s.fd p ⟨K, hK⟩), 3, none⟩ = false ∧ CpI B w ((W.setCell ⟨L.o (s.fd p ⟨K, hK⟩), 3, none⟩ (.int .i64 ((c + 1 : Nat) : Int))).setCell ⟨w.heap.size, K, none⟩ (.pointer (some ⟨L.o (s.fd p ⟨K, hK⟩), 0, none⟩))) L s p q (K + 1))) := ⟨fun K hK W I => by
    have hpp : (prS s p q K).has p = true := by show upd s.has q true p = true; rw [upd_other _ _ _ _ hpq]; exact hp
    have hqq : (prS s p q K).has q = true := upd_same _ _ _
    have h1 := I.b.at p hpp ⟨K, hK⟩
    rw [prS_row s p q K hpq] at h1
    have er : ({ L with r := upd L.r q w.heap.size } : Lo).r p = L.r p := upd_other _ _ _ _ hpq
    have er2 : ({ L with r := upd L.r q w.heap.size } : Lo).r q = w.heap.size := upd_same _ _ _
    rw [er] at h1
    have h2 := I.b.at q hqq ⟨K, hK⟩
    rw [er2, show (prS s p q K).fd q ⟨K, hK⟩ = 0 from by show upd s.fd q (preF (s.fd p) K) q ⟨K, hK⟩ = 0; rw [upd_same]; exact if_neg (Nat.lt_irrefl _)] at h2
    have h3 := (I.b.rg q hqq).2
    rw [er2] at h3
    refine ⟨h1, h2, h3.thaw K, h3.lt, Nat.lt_of_lt_of_le (h.b.rg p hp).2.lt I.ap.size, fun h0 => ⟨by rw [prS_no s p q K hK h0]; exact I.b, I.t, I.ap⟩, fun hf => ?_⟩
    have hlv0 : Lv s (s.fd p ⟨K, hK⟩) := Lv.of_fd hf
    have hlv : Lv (prS s p q K) (s.fd p ⟨K, hK⟩) := by
      have : (prS s p q K).fd p ⟨K, hK⟩ ≠ 0 := by rw [prS_row s p q K hpq]; exact hf
      have := Lv.of_fd this
      rw [prS_row s p q K hpq] at this
      exact this
    have hob := I.b.obj hlv
    exact ⟨hob.l, by have := (h.b.og _ hlv0).2.lt; omega, _, cntN_le _ _, hob.c3, hob.f 3, I.next h hp hq hK hf⟩⟩
  clear h hX hB hp hq hpq
  go_enter Try.func39, Try.ntmps39
  go_wp2
  go_loopw [11] (fun i W => ∃ K : Nat, i = .int .i64 K ∧ K ≤ 8 ∧ Hid3 (CpI B w W L s p q K)) (fun i _ => 8 - (intOf i).toNat)
  case atStart => exact ⟨0, rfl, Nat.zero_le _, HI0⟩
  case round =>
    obtain ⟨K, rfl, hK, HI⟩ := hrel
    by_cases hK8 : K < 8
    · have hKz : (K : Int) < 8 := by omega
      obtain ⟨c0, c1, f1, l1, l2, hno, hyes⟩ := HN.out K hK8 wr HI.out
      by_cases hf : s.fd p ⟨K, hK8⟩ = 0
      · rw [hf] at c0
        have c0' : wr.cell? ⟨L.r p, K, none⟩ = some (.pointer none) := c0
        have HI2 := Hid3.mk (hno hf)
        clear c0 hno hyes hf
        go_wp2
        go_region
        go_wp2
        go_roundw
        case rel => exact ⟨K + 1, by go_num, by omega, ⟨⟨HI2.out.b.below (Below.refl _ _).drew, HI2.out.t, HI2.out.ap.drew⟩⟩⟩
        case measure => simp [intOf]; omega
      · rw [ptr_n hf] at c0
        obtain ⟨l3, hne, c, hc48, c3, f3, hI2⟩ := hyes hf
        have HI2 := Hid3.mk hI2
        have hne' := hne.symm
        generalize L.o (s.fd p ⟨K, hK8⟩) = ob at *
        clear hno hyes hf hI2
        have cF := fork1_any ob c wr.drew.drew c3 f3 hc48
        clear c3 f3
        generalize ((c + 1 : Nat) : Int) = c' at *
        go_wp2
        go_region
        go_wp2_with fail
        go_region_with (go_at_call 40; refine cF.mono ?_; rintro r W2 ⟨rfl, hW2⟩; rw [hW2]; clear hW2)
        all_goals
          go_wp2
          go_roundw
          case rel => exact ⟨K + 1, by go_num, by omega, ⟨⟨HI2.out.b.below ((Below.refl _ _).drew.drew), HI2.out.t, HI2.out.ap.drew.drew⟩⟩⟩
          case measure => simp [intOf]; omega
    · have hKz : ¬ (K : Int) < 8 := by omega
      obtain rfl : K = 8 := by omega
      go_wp2
      go_ret
      exact ⟨rfl, HI.out⟩
/-- Another process with the same descriptors. -/
theorem fork_stp {B : Nat} {w W : World} {L : Lo} {s : Fs} {p q : Fin 6} (h : Ft B w L s) (hq : s.has q = false) (I : CpI B w W L s p q 8) : FStp B w (W.setCell ⟨L.t, q.1, none⟩ (.pointer (some ⟨w.heap.size, 0, none⟩))) L s (prS s p q 8) := by
  have hb2 := I.b.cellset L.t q.1 (.pointer (some ⟨w.heap.size, 0, none⟩)) _ _ I.t (by decide) (by decide)
  have ht2 := I.t.set q.1 (.pointer (some ⟨w.heap.size, 0, none⟩))
  have e4 := tCs_set s.has L.r true w.heap.size q
  rw [show ptr true w.heap.size = .pointer (some ⟨w.heap.size, 0, none⟩) from rfl] at e4
  rw [e4] at ht2
  refine ⟨⟨{ L with r := upd L.r q w.heap.size }, rfl, ⟨h.g, ht2, hb2⟩, fun k hk => ?_⟩, I.ap.trans (Apart.at _ _ _ _ (.inl rfl))⟩
  rcases hk with hk | ⟨i, hi, hk⟩ | ⟨n, hn, hk⟩
  · exact .inl (.inl hk)
  · have hi' : upd s.has q true i = true := hi
    have hk' : k = upd L.r q w.heap.size i := hk
    by_cases e : i = q
    · rw [e, upd_same] at hk'
      exact .inr (by omega)
    · rw [upd_other _ _ _ _ e] at hi' hk'
      exact .inl (.inr (.inl ⟨i, hi', hk'⟩))
  · exact .inl (.inr (.inr ⟨n, prS_lv h.b.ok hq hn, hk⟩))
set_option maxHeartbeats 1000000 in
theorem fork_ok (B : Nat) (L : Lo) (s : Fs) (p q : Fin 6) (w : World) (h : Ft B w L s) (hB : B ≤ w.heap.size) (hp : s.has p = true) (hq : s.has q = false) : Calls Try.prog 21 #[.pointer (some ⟨L.t, 0, none⟩), .int .i64 p.1, .int .i64 q.1] w fun r w' => r = .returned (.int .i64 0) ∧ FStp B w w' L s (prS s p q 8) := by
  have cO := of_ok B L s p w h hp
  have cV := vacant_any B L s q.1 w h
  rw [freshE_at, hq] at cV
  simp only [Bool.false_eq_true, if_false] at cV
  have cC := copied_fork B L s p q w.drew ⟨h.g, h.t, h.b.below (Below.refl _ _).drew⟩ hB hp hq
  have HF : Hid3 (∀ W, CpI B w.drew W L s p q 8 → FStp B w (W.setCell ⟨L.t, q.1, none⟩ (.pointer (some ⟨w.heap.size, 0, none⟩))) L s (prS s p q 8) ∧ W.frozen? ⟨L.t, q.1, none⟩ = false ∧ L.t < W.heap.size ∧ ∃ u, W.cell? ⟨L.t, q.1, none⟩ = some u) := ⟨fun W I => by
    have I' : CpI B w W L s p q 8 := ⟨I.b, I.t, ⟨I.ap.os, I.ap.tape, I.ap.output, I.ap.size, I.ap.block⟩⟩
    exact ⟨fork_stp h hq I', I.t.thaw _, I.t.lt, ⟨_, (I.t.cell _).trans (tCs_at _ _ q)⟩⟩⟩
  generalize prS s p q 8 = s' at *
  have hlt := h.lt
  clear h hB hp hq
  obtain ⟨q, hq6⟩ := q
  have h6 : (q : Int) < 6 := by omega
  simp only at *
  go_enter Try.func21, Try.ntmps21
  go_wp2_with fail
  refine cO.mono ?_
  rintro r W ⟨rfl, rfl⟩
  clear cO
  go_wp2_with fail
  refine cV.mono ?_
  rintro r W' ⟨rfl, hW⟩
  rw [hW]
  clear cV hW
  go_wp2_with fail
  go_region_with (go_at_call 39; refine cC.mono ?_; rintro r W2 ⟨rfl, hI⟩; obtain ⟨hS, hf2, hl2, ⟨u2, hu2⟩⟩ := HF.out W2 hI; have HS := Hid3.mk hS; clear hI hS)
  all_goals
    go_wp2
    go_ret
    exact ⟨rfl, HS.out⟩
set_option maxHeartbeats 1000000 in
theorem fork_to (B : Nat) (L : Lo) (s : Fs) (p : Fin 6) (q : Int) (w : World) (h : Ft B w L s) (hp : s.has p = true) (he : freshE s q ≠ 0) : Calls Try.prog 21 #[.pointer (some ⟨L.t, 0, none⟩), .int .i64 p.1, .int .i64 q] w fun r w' => r = .returned (.int .i64 (freshE s q)) ∧ w' = w := by
  have cO := of_ok B L s p w h hp
  have cV := vacant_any B L s q w h
  generalize freshE s q = e at *
  have h1 : (e != 0) = true := by simpa using he
  clear h he
  go_enter Try.func21, Try.ntmps21
  go_wp2_with fail
  refine cO.mono ?_
  rintro r W ⟨rfl, rfl⟩
  clear cO
  go_wp2_with fail
  refine cV.mono ?_
  rintro r W' ⟨rfl, hW⟩
  rw [hW]
  clear cV hW
  go_wp2
  go_ret
  exact ⟨rfl, rfl⟩
set_option maxHeartbeats 1000000 in
theorem fork_nop (B : Nat) (L : Lo) (s : Fs) (p q : Int) (w : World) (h : Ft B w L s) (hp : NoP s p) : Calls Try.prog 21 #[.pointer (some ⟨L.t, 0, none⟩), .int .i64 p, .int .i64 q] w fun r w' => r = .returned (.int .i64 5) ∧ w' = w := by
  have cO := of_bad B L s p w h hp
  clear h hp
  go_enter Try.func21, Try.ntmps21
  go_wp2_with fail
  refine cO.mono ?_
  rintro r W ⟨rfl, rfl⟩
  clear cO
  go_wp2
  go_ret
  exact ⟨rfl, rfl⟩
end Go.Proofs.Ytbkpkcndmlapfaa
