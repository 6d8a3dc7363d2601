/- The program's table: Begin, Close, Same, List, Room, Open. -/
import Derived.Test.YtbkpkcndmlapfaaFdE
namespace Go.Proofs.Ytbkpkcndmlapfaa
open Go.RowKit Go.Maps
set_option linter.unusedVariables false
set_option maxRecDepth 100000
theorem Drp.wrap {B : Nat} {w w1 W W' : World} {L : Lo} {s : Fs} {p : Fin 6} {k : Fin 8} (h : Fb B w L s) (h1 : Below w.heap.size w w1) (d : Drp B w1 W L s p k) (h2 : Below w.heap.size W W') : Drp B w W' L s p k := by
  refine ⟨d.b.lo h2 (fun q hq => (h.rg q hq).2.lt) (fun m hm => (h.og m (setFd_lv hm)).2.lt), ((Apart.of_below h1).trans d.ap).then (Y := fun i => w.heap.size ≤ i) ⟨h2.os, h2.tape, h2.output, h2.size, fun i hi hx => h2.block i (by omega)⟩ (fun i hi hy => absurd hi (by omega))⟩
theorem Drp.cell {B : Nat} {w W : World} {L : Lo} {s : Fs} {p : Fin 6} {k : Fin 8} (h : Fb B w L s) (hp : s.has p = true) (hk : s.fd p k ≠ 0) (o : Obj) (d : Drp B (w.alloc o) W L s p k) : W.heap[w.heap.size]? = some o := by
  rw [d.ap.block w.heap.size (by simp) (fun e => e.elim (fun e => by have := (h.rg p hp).2.lt; omega) (fun e => by have := (h.og _ (Lv.of_fd hk)).2.lt; omega))]
  exact heap_alloc_new w o
set_option maxHeartbeats 2000000 in
theorem close_ok (B : Nat) (L : Lo) (s : Fs) (p : Fin 6) (k : Fin 8) (w : World) (h : Ft B w L s) (hp : s.has p = true) (hk : s.fd p k ≠ 0) : Calls Try.prog 23 #[.pointer (some ⟨L.t, 0, none⟩), .int .i64 p.1, .int .i64 k.1] w fun r w' => r = .returned (.tuple #[.agg (opC (getO s (s.fd p k))).toArray, .bool (decide (cntN s.fd (s.fd p k) = 1)), .int .i64 0]) ∧ FStp B w w' L s (setFd s p k 0) := by
  have hX := below_new w zO
  have h' := h.below hX
  have cA := at_ok B L s p k _ h' hp hk
  have cD := drop_ok B L s p k _ h'.b hp hk
  have HF : Hid3 (∀ W, Drp B (w.alloc zO) W L s p k → Cl W w.heap.size 32 [.int .u8 0, .int .i64 0, .int .i64 0] ∧ ∀ W', Below w.heap.size W W' → FStp B w W' L s (setFd s p k 0)) := ⟨fun W d =>
    ⟨Drp.cell h.b hp hk zO d, fun W' hW => Drp.stp h hp hk (Drp.wrap h.b hX d hW)⟩⟩
  generalize getO s (s.fd p k) = o at *
  generalize decide (cntN s.fd (s.fd p k) = 1) = q at *
  clear h hk h' hX
  unfold opC at *
  simp only [zO] at *
  go_enter Try.func23, Try.ntmps23
  go_wp2_with fail
  refine cA.mono ?_
  rintro r W ⟨rfl, hW⟩
  rw [hW]
  clear hW cA
  go_wp2_with fail
  refine cD.mono ?_
  rintro r W1 ⟨rfl, hD⟩
  obtain ⟨hC, hS⟩ := HF.out W1 hD
  have r0 := hC.cell 0
  have r1 := hC.cell 1
  have r2 := hC.cell 2
  have f0 := hC.thaw 0
  have f1 := hC.thaw 1
  have f2 := hC.thaw 2
  have hlt := hC.lt
  have HS := Hid3.mk hS
  clear cD hD HF hS hC
  simp only [List.getElem?_cons_zero, List.getElem?_cons_succ] at r0 r1 r2
  go_wp2
  refine bodyPost_ret (v := .tuple #[.agg #[.int .u8 o.k, .int .i64 o.r, .int .i64 o.p], .bool q, .int .i64 0]) (by simp [results, Try.results23, go_sem, hlt, r0, r1, r2]) rfl ⟨rfl, HS.out _ ?_⟩
  exact (below_set3 (Below.refl _ _) (Nat.le_refl _) _ _ _).alloc (by simp; omega) _
set_option maxHeartbeats 1000000 in
theorem close_err (e : Int) (he : e ≠ 0) (tb : Nat) (pid fd : Int) (w : World) (cA : ∀ W, Below w.heap.size w W → Calls Try.prog 36 #[.pointer (some ⟨tb, 0, none⟩), .int .i64 pid, .int .i64 fd] W fun r w' => r = .returned (.tuple #[.pointer none, .int .i64 e]) ∧ w' = W) : Calls Try.prog 23 #[.pointer (some ⟨tb, 0, none⟩), .int .i64 pid, .int .i64 fd] w fun r w' => r = .returned (.tuple #[.agg #[.int .u8 0, .int .i64 0, .int .i64 0], .bool false, .int .i64 e]) ∧ Below w.heap.size w w' := by
  have h1 : (e != 0) = true := by simpa using he
  have HX := Hid3.mk (below_new w zO)
  have cB := cA _ HX.out
  clear he cA
  simp only [zO] at *
  go_enter Try.func23, Try.ntmps23
  go_wp2_with fail
  refine cB.mono ?_
  rintro r W ⟨rfl, hW⟩
  rw [hW]
  clear hW
  go_wp2
  refine bodyPost_ret (v := .tuple #[.agg #[.int .u8 0, .int .i64 0, .int .i64 0], .bool false, .int .i64 e]) (by simp [results, Try.results23, go_sem]) rfl ⟨rfl, ?_⟩
  exact below_new w _
/-- The table with one more process. -/
def begS (s : Fs) (p : Fin 6) : Fs := { s with has := upd s.has p true }
theorem begin_stp {B : Nat} {w : World} {L : Lo} {s : Fs} (h : Ft B w L s) (hB : B ≤ w.heap.size) (p : Fin 6) (hp : s.has p = false) : FStp B w ((w.setCell ⟨L.t, p.1, none⟩ (.pointer (some ⟨w.heap.size, 0, none⟩))).alloc (.cells #[.pointer none, .pointer none, .pointer none, .pointer none, .pointer none, .pointer none, .pointer none, .pointer none] 75)) L s (begS s p) := by
  have ap : Apart (fun i => i = L.t) w ((w.setCell ⟨L.t, p.1, none⟩ (.pointer (some ⟨w.heap.size, 0, none⟩))).alloc (.cells #[.pointer none, .pointer none, .pointer none, .pointer none, .pointer none, .pointer none, .pointer none, .pointer none] 75)) := (Apart.at (X := fun i => i = L.t) _ _ _ _ rfl).trans (Apart.of_below (below_new _ _))
  have hz := h.b.ok.no p hp
  have hnew : Cl ((w.setCell ⟨L.t, p.1, none⟩ (.pointer (some ⟨w.heap.size, 0, none⟩))).alloc (.cells #[.pointer none, .pointer none, .pointer none, .pointer none, .pointer none, .pointer none, .pointer none, .pointer none] 75)) w.heap.size 75 (rCs (s.fd p) L.o) := by
    have e : rCs (s.fd p) L.o = [.pointer none, .pointer none, .pointer none, .pointer none, .pointer none, .pointer none, .pointer none, .pointer none] := by
      unfold rCs
      rw [hz 0, hz 1, hz 2, hz 3, hz 4, hz 5, hz 6, hz 7]
      rfl
    rw [e]
    have := heap_alloc_new (w.setCell ⟨L.t, p.1, none⟩ (.pointer (some ⟨w.heap.size, 0, none⟩))) (.cells #[.pointer none, .pointer none, .pointer none, .pointer none, .pointer none, .pointer none, .pointer none, .pointer none] 75)
    rw [size_setCell] at this
    exact this
  have htb := (h.t.set p.1 (.pointer (some ⟨w.heap.size, 0, none⟩))).alloc (.cells #[.pointer none, .pointer none, .pointer none, .pointer none, .pointer none, .pointer none, .pointer none, .pointer none] 75)
  have e3 := tCs_set s.has L.r true w.heap.size p
  rw [show ptr true w.heap.size = .pointer (some ⟨w.heap.size, 0, none⟩) from rfl] at e3
  rw [e3] at htb
  have hlt : ∀ q, s.has q = true → L.r q < w.heap.size := fun q hq => (h.b.rg q hq).2.lt
  have hhas : ∀ q, (begS s p).has q = true → q = p ∨ (q ≠ p ∧ s.has q = true) := fun q hq => by
    by_cases e : q = p
    · exact .inl e
    · refine .inr ⟨e, ?_⟩
      have : upd s.has p true q = true := hq
      rw [upd_other _ _ _ _ e] at this
      exact this
  refine ⟨⟨⟨L.t, upd L.r p w.heap.size, L.o⟩, rfl, ⟨h.g, htb, ⟨fun q hq => ?_, fun q q' hq hq' e => ?_, fun n hn => ⟨(h.b.og n hn).1, (h.b.og n hn).2.stay ap ((h.b.og n hn).2.ne h.t (by decide))⟩, h.b.oi, ⟨h.b.ok.le, fun q hq => ?_⟩⟩⟩, fun k hk => ?_⟩, ap.wide (fun i _ e => .inl e)⟩
  · show B ≤ upd L.r p w.heap.size q ∧ Cl _ (upd L.r p w.heap.size q) _ (rCs (s.fd q) L.o)
    rcases hhas q hq with rfl | ⟨e, hq'⟩
    · rw [upd_same]
      exact ⟨hB, hnew⟩
    · rw [upd_other _ _ _ _ e]
      exact ⟨(h.b.rg q hq').1, (h.b.rg q hq').2.stay ap ((h.b.rg q hq').2.ne h.t (by decide))⟩
  · have e' : upd L.r p w.heap.size q = upd L.r p w.heap.size q' := e
    rcases hhas q hq with rfl | ⟨e1, h1⟩ <;> rcases hhas q' hq' with e2 | ⟨e2, h2⟩
    · exact e2.symm
    · rw [upd_same, upd_other _ _ _ _ e2] at e'
      have := hlt q' h2
      omega
    · rw [e2, upd_same, upd_other _ _ _ _ e1] at e'
      have := hlt q h1
      omega
    · rw [upd_other _ _ _ _ e1, upd_other _ _ _ _ e2] at e'
      exact h.b.ri q q' h1 h2 e'
  · have hq' : upd s.has p true q = false := hq
    by_cases e : q = p
    · rw [e, upd_same] at hq'
      cases hq'
    · rw [upd_other _ _ _ _ e] at hq'
      exact h.b.ok.no q hq'
  · rcases hk with hk | ⟨q, hq, hk⟩ | ⟨n, hn, hk⟩
    · exact .inl (.inl hk)
    · have hk' : k = upd L.r p w.heap.size q := hk
      rcases hhas q hq with rfl | ⟨e, hq'⟩
      · rw [upd_same] at hk'
        exact .inr (by omega)
      · rw [upd_other _ _ _ _ e] at hk'
        exact .inl (.inr (.inl ⟨q, hq', hk'⟩))
    · exact .inl (.inr (.inr ⟨n, hn, hk⟩))
set_option maxHeartbeats 1000000 in
theorem begin_ok (B : Nat) (L : Lo) (s : Fs) (p : Fin 6) (w : World) (h : Ft B w L s) (hB : B ≤ w.heap.size) (hp : s.has p = false) : Calls Try.prog 19 #[.pointer (some ⟨L.t, 0, none⟩), .int .i64 p.1] w fun r w' => r = .returned (.int .i64 0) ∧ FStp B w w' L s (begS s p) := by
  have cV := vacant_any B L s p.1 w h
  rw [freshE_at, hp] at cV
  simp only [Bool.false_eq_true, if_false] at cV
  have HF := Hid3.mk (begin_stp h hB p hp)
  have c0 := h.at p
  have f0 := h.t.thaw p.1
  have hlt := h.lt
  generalize ptr (s.has p) (L.r p) = u at *
  clear h hp hB
  obtain ⟨p, hp6⟩ := p
  have h2 : (p : Int) < 6 := by omega
  simp only at *
  go_enter Try.func19, Try.ntmps19
  go_wp2_with fail
  refine cV.mono ?_
  rintro r W ⟨rfl, rfl⟩
  clear cV
  go_wp2
  go_ret
  exact ⟨rfl, HF.out⟩
set_option maxHeartbeats 1000000 in
theorem begin_err (B : Nat) (L : Lo) (s : Fs) (pid : Int) (w : World) (h : Ft B w L s) (he : freshE s pid ≠ 0) : Calls Try.prog 19 #[.pointer (some ⟨L.t, 0, none⟩), .int .i64 pid] w fun r w' => r = .returned (.int .i64 (freshE s pid)) ∧ w' = w := by
  have cV := vacant_any B L s pid w h
  generalize freshE s pid = e at *
  have h1 : (e != 0) = true := by simpa using he
  clear h he
  go_enter Try.func19, Try.ntmps19
  go_wp2_with fail
  refine cV.mono ?_
  rintro r W ⟨rfl, rfl⟩
  clear cV
  go_wp2
  go_ret
  exact ⟨rfl, rfl⟩
set_option maxHeartbeats 1000000 in
theorem lst_ok (B : Nat) (L : Lo) (s : Fs) (p : Fin 6) (w : World) (h : Ft B w L s) (hp : s.has p = true) : Calls Try.prog 12 #[.pointer (some ⟨L.t, 0, none⟩), .int .i64 p.1] w fun r w' => ∃ v, r = .returned v ∧ w'.ownsRow w.heap.size 3 1 v (lsL (s.fd p) 8).length (iVs (lsL (s.fd p) 8)) ∧ Below w.heap.size w w' := by
  have cO := of_ok B L s p w h hp
  have cL := list_any (L.r p) (s.fd p) L.o w (h.b.rg p hp).2
  clear h
  go_enter Try.func12, Try.ntmps12
  go_wp2_with fail
  refine cO.mono ?_
  rintro r W ⟨rfl, rfl⟩
  clear cO
  go_wp2_with fail
  refine cL.mono ?_
  rintro r W' ⟨v, rfl, h1, h2⟩
  have HH := Hid3.mk (And.intro h1 h2)
  clear cL h1 h2
  go_wp2
  go_ret
  exact ⟨v, rfl, HH.out.1, HH.out.2⟩
set_option maxHeartbeats 1000000 in
theorem lst_bad (B : Nat) (L : Lo) (s : Fs) (pid : Int) (w : World) (h : Ft B w L s) (hp : NoP s pid) : Calls Try.prog 12 #[.pointer (some ⟨L.t, 0, none⟩), .int .i64 pid] w fun r w' => r = .returned (.slice none 0 0) ∧ w' = w := by
  have cO := of_bad B L s pid w h hp
  clear h hp
  go_enter Try.func12, Try.ntmps12
  go_wp2_with fail
  refine cO.mono ?_
  rintro r W ⟨rfl, rfl⟩
  clear cO
  go_wp2
  go_ret
  exact ⟨rfl, rfl⟩
def roomN (s : Fs) (p : Fin 6) : Nat := 8 - (lsL (s.fd p) 8).length
set_option maxHeartbeats 1000000 in
theorem room_ok (B : Nat) (L : Lo) (s : Fs) (p : Fin 6) (w : World) (h : Ft B w L s) (hp : s.has p = true) : Calls Try.prog 13 #[.pointer (some ⟨L.t, 0, none⟩), .int .i64 p.1] w fun r w' => r = .returned (.int .i64 (roomN s p)) ∧ Below w.heap.size w w' := by
  have cO := of_ok B L s p w h hp
  have cL := list_any (L.r p) (s.fd p) L.o w (h.b.rg p hp).2
  have hle := lsL_len (s.fd p) 8
  have h3 : ((roomN s p : Nat) : Int) = 8 - ((lsL (s.fd p) 8).length : Int) := by unfold roomN; omega
  have h4 : IntKind.i64.wrap (8 - ((lsL (s.fd p) 8).length : Int)) = 8 - ((lsL (s.fd p) 8).length : Int) := by rw [IntKind.wrap_i64]; omega
  rw [h3]
  clear h h3
  generalize lsL (s.fd p) 8 = l at *
  generalize hN : l.length = N at *
  go_enter Try.func13, Try.ntmps13
  go_wp2_with fail
  refine cO.mono ?_
  rintro r W ⟨rfl, rfl⟩
  clear cO
  go_wp2_with fail
  refine cL.mono ?_
  rintro r W' ⟨v, rfl, h1, h2⟩
  obtain ⟨a, cap, rfl⟩ := slice_of h1
  have HH := Hid3.mk h2
  clear cL h1 h2
  go_wp2
  go_ret
  exact ⟨rfl, HH.out⟩
set_option maxHeartbeats 1000000 in
theorem room_bad (B : Nat) (L : Lo) (s : Fs) (pid : Int) (w : World) (h : Ft B w L s) (hp : NoP s pid) : Calls Try.prog 13 #[.pointer (some ⟨L.t, 0, none⟩), .int .i64 pid] w fun r w' => r = .returned (.int .i64 0) ∧ w' = w := by
  have cO := of_bad B L s pid w h hp
  clear h hp
  go_enter Try.func13, Try.ntmps13
  go_wp2_with fail
  refine cO.mono ?_
  rintro r W ⟨rfl, rfl⟩
  clear cO
  go_wp2
  go_ret
  exact ⟨rfl, rfl⟩
set_option maxHeartbeats 2000000 in
theorem same_ok (B : Nat) (L : Lo) (s : Fs) (p q : Fin 6) (a b : Fin 8) (w : World) (h : Ft B w L s) (hp : s.has p = true) (ha : s.fd p a ≠ 0) (hq : s.has q = true) (hb : s.fd q b ≠ 0) : Calls Try.prog 16 #[.pointer (some ⟨L.t, 0, none⟩), .int .i64 p.1, .int .i64 a.1, .int .i64 q.1, .int .i64 b.1] w fun r w' => r = .returned (.bool (decide (s.fd p a = s.fd q b))) ∧ Below w.heap.size w w' := by
  have c1 := at_ok B L s p a w h hp ha
  have c2 := at_ok B L s q b w h hq hb
  have d1 := h.b.at p hp a
  have d2 := h.b.at q hq b
  rw [ptr_n ha] at d1
  rw [ptr_n hb] at d2
  have g1 := (h.b.og _ (Lv.of_fd ha)).2
  have g2 := (h.b.og _ (Lv.of_fd hb)).2
  have e1 : ∀ W : World, W.heap = w.heap → (binOp .eql 67 (.pointer (some ⟨L.o (s.fd p a), 0, none⟩)) (.pointer (some ⟨L.o (s.fd q b), 0, none⟩))).run Try.prog W = .ok (.bool (decide (s.fd p a = s.fd q b))) W := fun W hW => by
    have := eql_ptr W (some (L.o (s.fd p a))) (some (L.o (s.fd q b))) ⟨_, _, by unfold Cl; rw [hW]; exact g1⟩ ⟨_, _, by unfold Cl; rw [hW]; exact g2⟩
    have e : decide (some (L.o (s.fd q b)) = some (L.o (s.fd p a))) = decide (s.fd p a = s.fd q b) := by
      rw [decide_eq_decide]
      constructor
      · intro x
        exact h.b.oi _ _ (Lv.of_fd ha) (Lv.of_fd hb) (Option.some.inj x).symm
      · intro x
        rw [x]
    rw [e] at this
    exact this
  have e2 : ∀ W : World, (eqGuard .eql 67 (.tmp 37) (.tmp 42) (.pointer (some ⟨L.o (s.fd p a), 0, none⟩)) (.pointer (some ⟨L.o (s.fd q b), 0, none⟩))).run Try.prog W = .ok () W := fun W => guard_ptr W _ _ (some (L.o (s.fd p a))) (some (L.o (s.fd q b)))
  have eQ := e1 w rfl
  have eQ' := e1 w.drew rfl
  have eG := e2 w
  have eG' := e2 w.drew
  generalize decide (s.fd p a = s.fd q b) = z at *
  generalize Value.pointer (some ⟨L.o (s.fd p a), 0, none⟩) = px at *
  generalize Value.pointer (some ⟨L.o (s.fd q b), 0, none⟩) = py at *
  clear h ha hb g1 g2 e1 e2
  obtain ⟨a, ha8⟩ := a
  obtain ⟨b, hb8⟩ := b
  have h2 : (a : Int) < 8 := by omega
  have h3 : (b : Int) < 8 := by omega
  simp only at *
  go_enter Try.func16, Try.ntmps16
  go_wp2_with fail
  refine c1.mono ?_
  rintro r W ⟨rfl, rfl⟩
  clear c1
  go_wp2_with fail
  refine c2.mono ?_
  rintro r W' ⟨rfl, hW⟩
  rw [hW]
  clear c2 hW
  go_wp2
  go_region
  go_wp2
  go_ret
  exact ⟨rfl, (Below.refl _ _).drew⟩
set_option maxHeartbeats 1000000 in
theorem same_bad1 (e : Int) (he : e ≠ 0) (tb : Nat) (p a q b : Int) (w : World) (cA : Calls Try.prog 36 #[.pointer (some ⟨tb, 0, none⟩), .int .i64 p, .int .i64 a] w fun r w' => r = .returned (.tuple #[.pointer none, .int .i64 e]) ∧ w' = w) : Calls Try.prog 16 #[.pointer (some ⟨tb, 0, none⟩), .int .i64 p, .int .i64 a, .int .i64 q, .int .i64 b] w fun r w' => r = .returned (.bool false) ∧ Below w.heap.size w w' := by
  have h1 : (e != 0) = true := by simpa using he
  clear he
  go_enter Try.func16, Try.ntmps16
  go_wp2_with fail
  refine cA.mono ?_
  rintro r W ⟨rfl, rfl⟩
  go_wp2
  go_ret
  exact ⟨rfl, Below.refl _ _⟩
set_option maxHeartbeats 1000000 in
theorem same_bad2 (e : Int) (he : e ≠ 0) (tb rb : Nat) (p a q b : Int) (w : World) (cA : Calls Try.prog 36 #[.pointer (some ⟨tb, 0, none⟩), .int .i64 p, .int .i64 a] w fun r w' => r = .returned (.tuple #[.pointer (some ⟨rb, 0, none⟩), .int .i64 0]) ∧ w' = w) (cB : Calls Try.prog 36 #[.pointer (some ⟨tb, 0, none⟩), .int .i64 q, .int .i64 b] w fun r w' => r = .returned (.tuple #[.pointer none, .int .i64 e]) ∧ w' = w) : Calls Try.prog 16 #[.pointer (some ⟨tb, 0, none⟩), .int .i64 p, .int .i64 a, .int .i64 q, .int .i64 b] w fun r w' => r = .returned (.bool false) ∧ Below w.heap.size w w' := by
  have h1 : (e == 0) = false := by simpa using he
  clear he
  go_enter Try.func16, Try.ntmps16
  go_wp2_with fail
  refine cA.mono ?_
  rintro r W ⟨rfl, rfl⟩
  clear cA
  go_wp2_with fail
  refine cB.mono ?_
  rintro r W' ⟨rfl, hW⟩
  rw [hW]
  clear cB hW
  go_wp2
  go_region
  go_wp2
  go_ret
  exact ⟨rfl, (Below.refl _ _).drew⟩
end Go.Proofs.Ytbkpkcndmlapfaa
