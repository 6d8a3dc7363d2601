/- The program's table: put, Begin, Close, Move, Dup, Open. -/
import Derived.Test.YtbkpkcndmlapfaaFdD
namespace Go.Proofs.Ytbkpkcndmlapfaa
open Go.RowKit Go.Maps
set_option linter.unusedVariables false
set_option maxRecDepth 100000
/-- The least descriptor that there is not. -/
def leastF (f : Fin 8 → Nat) : Option (Fin 8) := if f 0 = 0 then some 0 else if f 1 = 0 then some 1 else if f 2 = 0 then some 2 else if f 3 = 0 then some 3 else if f 4 = 0 then some 4 else if f 5 = 0 then some 5 else if f 6 = 0 then some 6 else if f 7 = 0 then some 7 else none
theorem leastF_at (f : Fin 8 → Nat) : ∀ k : Fin 8, f k = 0 → (∀ j : Fin 8, j.1 < k.1 → f j ≠ 0) → leastF f = some k := by
  refine all8 ?_ ?_ ?_ ?_ ?_ ?_ ?_ ?_ <;> intro h hl <;> unfold leastF
  · rw [if_pos h]
  · rw [if_neg (hl 0 (by decide)), if_pos h]
  · rw [if_neg (hl 0 (by decide)), if_neg (hl 1 (by decide)), if_pos h]
  · rw [if_neg (hl 0 (by decide)), if_neg (hl 1 (by decide)), if_neg (hl 2 (by decide)), if_pos h]
  · rw [if_neg (hl 0 (by decide)), if_neg (hl 1 (by decide)), if_neg (hl 2 (by decide)), if_neg (hl 3 (by decide)), if_pos h]
  · rw [if_neg (hl 0 (by decide)), if_neg (hl 1 (by decide)), if_neg (hl 2 (by decide)), if_neg (hl 3 (by decide)), if_neg (hl 4 (by decide)), if_pos h]
  · rw [if_neg (hl 0 (by decide)), if_neg (hl 1 (by decide)), if_neg (hl 2 (by decide)), if_neg (hl 3 (by decide)), if_neg (hl 4 (by decide)), if_neg (hl 5 (by decide)), if_pos h]
  · rw [if_neg (hl 0 (by decide)), if_neg (hl 1 (by decide)), if_neg (hl 2 (by decide)), if_neg (hl 3 (by decide)), if_neg (hl 4 (by decide)), if_neg (hl 5 (by decide)), if_neg (hl 6 (by decide)), if_pos h]
theorem leastF_no (f : Fin 8 → Nat) (h : ∀ k, f k ≠ 0) : leastF f = none := by
  unfold leastF
  rw [if_neg (h 0), if_neg (h 1), if_neg (h 2), if_neg (h 3), if_neg (h 4), if_neg (h 5), if_neg (h 6), if_neg (h 7)]
theorem leastF_cases (f : Fin 8 → Nat) : (leastF f = none ∧ ∀ k, f k ≠ 0) ∨ ∃ k, leastF f = some k ∧ f k = 0 ∧ ∀ j : Fin 8, j.1 < k.1 → f j ≠ 0 := by
  by_cases h : ∃ k, f k = 0
  · obtain ⟨k, hk⟩ := h
    have : ∀ n : Nat, ∀ k : Fin 8, k.1 = n → f k = 0 → ∃ k : Fin 8, f k = 0 ∧ ∀ j : Fin 8, j.1 < k.1 → f j ≠ 0 := by
      intro n
      induction n using Nat.strongRecOn with
      | ind n ih =>
        intro k hn hk
        by_cases hc : ∃ j : Fin 8, j.1 < k.1 ∧ f j = 0
        · obtain ⟨j, hj, hj0⟩ := hc
          exact ih j.1 (by omega) j rfl hj0
        · exact ⟨k, hk, fun j hj e => hc ⟨j, hj, e⟩⟩
    obtain ⟨k, h1, h2⟩ := this k.1 k rfl hk
    exact .inr ⟨k, leastF_at f k h1 h2, h1, h2⟩
  · have h' : ∀ k, f k ≠ 0 := fun k e => h ⟨k, e⟩
    exact .inl ⟨leastF_no f h', h'⟩
def oP (n a : Nat) : Option Nat := if n = 0 then none else some a
theorem oP_none (n a : Nat) : (oP n a = none) = (n = 0) := by unfold oP; split <;> simp [*]
theorem ptr_pO (n a : Nat) : ptr (n != 0) a = pO (oP n a) := by
  by_cases h : n = 0
  · subst h; rfl
  · rw [ptr_n h]; unfold oP; rw [if_neg h]; rfl
def rowP (f : Fin 8 → Nat) (o : Nat → Nat) : List (Option Nat) := [oP (f 0) (o (f 0)), oP (f 1) (o (f 1)), oP (f 2) (o (f 2)), oP (f 3) (o (f 3)), oP (f 4) (o (f 4)), oP (f 5) (o (f 5)), oP (f 6) (o (f 6)), oP (f 7) (o (f 7))]
theorem rCs_rowP (f : Fin 8 → Nat) (o : Nat → Nat) : rCs f o = (rowP f o).map pO := by
  unfold rCs rowP
  simp only [ptr_pO, List.map_cons, List.map_nil]
theorem idx_least (f : Fin 8 → Nat) (o : Nat → Nat) : idxP none (rowP f o) 0 = (leastF f).map (·.1) := by
  unfold rowP leastF
  simp only [idxP, oP_none]
  split
  · rfl
  split
  · rfl
  split
  · rfl
  split
  · rfl
  split
  · rfl
  split
  · rfl
  split
  · rfl
  split <;> rfl
theorem rowP_mem (f : Fin 8 → Nat) (o : Nat → Nat) (y : Option Nat) (h : y ∈ rowP f o) : ∃ k, y = oP (f k) (o (f k)) := by
  unfold rowP at h
  simp only [List.mem_cons, List.not_mem_nil, or_false] at h
  rcases h with h | h | h | h | h | h | h | h
  · exact ⟨0, h⟩
  · exact ⟨1, h⟩
  · exact ⟨2, h⟩
  · exact ⟨3, h⟩
  · exact ⟨4, h⟩
  · exact ⟨5, h⟩
  · exact ⟨6, h⟩
  · exact ⟨7, h⟩
theorem Fb.index {B : Nat} {w : World} {L : Lo} {s : Fs} (h : Fb B w L s) (p : Fin 6) (hp : s.has p = true) : Calls Try.prog 52 #[.slice (some ⟨L.r p, 0, none⟩) 8 8, .pointer none] w fun r w' => r = .returned (.int .i64 (idI ((leastF (s.fd p)).map (·.1)))) ∧ w' = w := by
  rw [← idx_least (s.fd p) L.o]
  refine index_any (L.r p) 8 (rowP (s.fd p) L.o) none w (by show 8 ≤ 1000; omega) (fun j y hy => ?_) trivial (fun y hy => ?_)
  · rw [(h.rg p hp).2.cell, rCs_rowP, List.getElem?_map, hy]
    rfl
  · obtain ⟨k, rfl⟩ := rowP_mem _ _ _ hy
    unfold oP
    split
    · exact trivial
    · rename_i hk
      exact ⟨_, _, (h.og _ (Lv.of_fd hk)).2⟩
/-- What giving a descriptor comes to. -/
structure Pt (B : Nat) (w w' : World) (L : Lo) (s : Fs) (p : Fin 6) (k : Fin 8) (n : Nat) : Prop where
  b : Fb B w' L (setFd s p k n)
  ap : Apart (fun i => i = L.r p ∨ i = L.o n) w w'
set_option maxHeartbeats 2000000 in
theorem put_ok (B : Nat) (L : Lo) (s : Fs) (p : Fin 6) (k : Fin 8) (n : Nat) (w : World) (h : Fb B w L s) (hp : s.has p = true) (hk : leastF (s.fd p) = some k) (h0 : s.fd p k = 0) (hn : n ≠ 0) (hl : n ≤ s.all.length) (hB : B ≤ L.o n) (hne : ∀ m, Lv s m → m ≠ n → L.o m ≠ L.o n) (hro : ∀ q, s.has q = true → L.r q ≠ L.o n) (hC : Cl w (L.o n) 69 (obC s n)) :
    Calls Try.prog 35 #[.pointer (some ⟨L.r p, 0, none⟩), .pointer (some ⟨L.o n, 0, none⟩)] w fun r w' => r = .returned (.tuple #[.int .i64 k.1, .int .i64 0]) ∧ Pt B w w' L s p k n := by
  have cI := h.index p hp
  rw [hk] at cI
  have cI' : Calls Try.prog 52 #[.slice (some ⟨L.r p, 0, none⟩) 8 8, .pointer none] w fun r w' => r = .returned (.int .i64 k.1) ∧ w' = w := cI
  have hrn := hro p hp
  have a1 : Apart (fun i => i = L.r p ∨ i = L.o n) w ((w.setCell ⟨L.r p, k.1, none⟩ (.pointer (some ⟨L.o n, 0, none⟩))).setCell ⟨L.o n, 3, none⟩ (.int .i64 ((cntN s.fd n + 1 : Nat) : Int))) := (Apart.at _ _ _ _ (.inl rfl)).trans (Apart.at _ _ _ _ (.inr rfl))
  have c1 := ((h.rg p hp).2.set k.1 (.pointer (some ⟨L.o n, 0, none⟩))).other hrn 3 (.int .i64 ((cntN s.fd n + 1 : Nat) : Int))
  have c2 := (hC.other hrn.symm k.1 (.pointer (some ⟨L.o n, 0, none⟩))).set 3 (.int .i64 ((cntN s.fd n + 1 : Nat) : Int))
  have HF := Hid3.mk (Pt.mk (h.put p k n hp h0 hn hl hB hne hro a1 c1 c2) a1)
  have d3 : w.cell? ⟨L.o n, 3, none⟩ = some (.int .i64 (cntN s.fd n)) := hC.cell 3
  have f3 := hC.thaw 3
  have dr := (h.rg p hp).2.cell k.1
  rw [rCs_at] at dr
  have fr := (h.rg p hp).2.thaw k.1
  have hlo := hC.lt
  have hlr := (h.rg p hp).2.lt
  have hle := cntN_le s.fd n
  have h3 : IntKind.i64.wrap ((cntN s.fd n : Int) + 1) = ((cntN s.fd n + 1 : Nat) : Int) := by rw [IntKind.wrap_i64]; omega
  generalize ptr (s.fd p k != 0) (L.o (s.fd p k)) = u at *
  generalize ((cntN s.fd n + 1 : Nat) : Int) = c' at *
  generalize cntN s.fd n = c at *
  clear h cI hk h0 hn hl hB hne hro hC a1 c1 c2
  obtain ⟨k, hk8⟩ := k
  have h2 : (k : Int) < 8 := by omega
  have h4 : ¬ (k : Int) < 0 := by omega
  have hne' := hrn.symm
  simp only at *
  go_enter Try.func35, Try.ntmps35
  go_wp2_with fail
  refine cI'.mono ?_
  rintro r W ⟨rfl, rfl⟩
  clear cI'
  go_wp2
  go_ret2
  exact ⟨rfl, HF.out⟩
set_option maxHeartbeats 2000000 in
theorem put_full (B : Nat) (L : Lo) (s : Fs) (p : Fin 6) (a : Nat) (w : World) (h : Fb B w L s) (hp : s.has p = true) (hk : leastF (s.fd p) = none) :
    Calls Try.prog 35 #[.pointer (some ⟨L.r p, 0, none⟩), .pointer (some ⟨a, 0, none⟩)] w fun r w' => r = .returned (.tuple #[.int .i64 0, .int .i64 11]) ∧ w' = w := by
  have cI := h.index p hp
  rw [hk] at cI
  have cI' : Calls Try.prog 52 #[.slice (some ⟨L.r p, 0, none⟩) 8 8, .pointer none] w fun r w' => r = .returned (.int .i64 (-1)) ∧ w' = w := cI
  clear h cI hk
  go_enter Try.func35, Try.ntmps35
  go_wp2_with fail
  refine cI'.mono ?_
  rintro r W ⟨rfl, rfl⟩
  clear cI'
  go_wp2
  go_ret2
  exact ⟨rfl, rfl⟩
/-- A step of rows and of what is shared is one of the table. -/
theorem FStp.ofB {B : Nat} {w w' : World} {L L' : Lo} {s s' : Fs} {X : Nat → Prop} (h : Ft B w L s) (hb : Fb B w' L' s') (ht : L'.t = L.t) (hr : L'.r = L.r) (hh : s'.has = s.has) (ap : Apart X w w') (hX : ∀ i, i < w.heap.size → X i → XF L s i) (hXt : ¬ X L.t)
    (ho : ∀ m, Lv s' m → (L'.o m = L.o m ∧ Lv s m) ∨ w.heap.size ≤ L'.o m) : FStp B w w' L s s' := by
  refine ⟨⟨L', ht, ⟨by rw [ht]; exact h.g, ?_, hb⟩, fun k hk => ?_⟩, ap.wide hX⟩
  · rw [ht, hr, hh]
    exact h.t.stay ap hXt
  · rcases hk with hk | ⟨p, hp, hk⟩ | ⟨m, hm, hk⟩
    · exact .inl (.inl (hk.trans ht))
    · exact .inl (.inr (.inl ⟨p, by rw [← hh]; exact hp, by rw [hk, hr]⟩))
    · rcases ho m hm with ⟨e, hm'⟩ | e
      · exact .inl (.inr (.inr ⟨m, hm', hk.trans e⟩))
      · exact .inr (by omega)
theorem Drp.stp {B : Nat} {w w' : World} {L : Lo} {s : Fs} {p : Fin 6} {k : Fin 8} (h : Ft B w L s) (hp : s.has p = true) (hk : s.fd p k ≠ 0) (d : Drp B w w' L s p k) : FStp B w w' L s (setFd s p k 0) :=
  FStp.ofB h d.b rfl rfl rfl d.ap (fun i _ hi => hi.elim (fun e => e ▸ XF.row hp) (fun e => e ▸ XF.obj (Lv.of_fd hk))) (fun e => e.elim (h.t.ne (h.b.rg p hp).2 (by decide)) (h.t.ne (h.b.og _ (Lv.of_fd hk)).2 (by decide))) (fun m hm => .inl ⟨rfl, setFd_lv hm⟩)
theorem setFd_lv' {s : Fs} {p : Fin 6} {k : Fin 8} {n m : Nat} (h : Lv (setFd s p k n) m) (hmn : m ≠ n) : Lv s m := by
  refine ⟨h.1, ?_⟩
  have h1 := cntN_at s.fd p k n m
  have h2 := h.2
  have e : cntN (setFd s p k n).fd m = cntN (upd s.fd p (upd (s.fd p) k n)) m := rfl
  have h3 : one n m = 0 := by unfold one; rw [if_neg (fun e => hmn e.symm)]
  omega
set_option maxHeartbeats 2000000 in
theorem dup_ok (B : Nat) (L : Lo) (s : Fs) (p : Fin 6) (k j : Fin 8) (w : World) (h : Ft B w L s) (hp : s.has p = true) (hk : s.fd p k ≠ 0) (hj : leastF (s.fd p) = some j) (h0 : s.fd p j = 0) : Calls Try.prog 22 #[.pointer (some ⟨L.t, 0, none⟩), .int .i64 p.1, .int .i64 k.1] w fun r w' => r = .returned (.tuple #[.int .i64 j.1, .int .i64 0]) ∧ FStp B w w' L s (setFd s p j (s.fd p k)) := by
  have hn := Lv.of_fd hk
  have hg := h.b.og _ hn
  have cA := at_ok B L s p k w h hp hk
  have cP := put_ok B L s p j (s.fd p k) w h.b hp hj h0 hk (h.b.ok.le p k) hg.1 (fun m hm e x => e (h.b.oi m _ hm hn x)) (fun q hq => (h.b.rg q hq).2.ne hg.2 (by decide)) hg.2
  have HF : Hid3 (∀ w', Pt B w w' L s p j (s.fd p k) → FStp B w w' L s (setFd s p j (s.fd p k))) := ⟨fun w' d =>
    FStp.ofB h d.b rfl rfl rfl d.ap (fun i _ hi => hi.elim (fun e => e ▸ XF.row hp) (fun e => e ▸ XF.obj hn)) (fun e => e.elim (h.t.ne (h.b.rg p hp).2 (by decide)) (h.t.ne hg.2 (by decide)))
      (fun m hm => .inl ⟨rfl, by by_cases e : m = s.fd p k
                                 · rw [e]; exact hn
                                 · exact setFd_lv' hm e⟩)⟩
  have c0 := h.b.at p hp k
  rw [ptr_n hk] at c0
  clear h hg hn hj h0 hk
  obtain ⟨k, hk8⟩ := k
  have h2 : (k : Int) < 8 := by omega
  simp only at *
  go_enter Try.func22, Try.ntmps22
  go_wp2_with fail
  refine cA.mono ?_
  rintro r W ⟨rfl, rfl⟩
  clear cA
  go_wp2_with fail
  refine cP.mono ?_
  rintro r W' ⟨rfl, hP⟩
  have HP := Hid3.mk (HF.out W' hP)
  clear cP HF hP c0
  go_wp2
  go_ret2
  exact ⟨rfl, HP.out⟩
set_option maxHeartbeats 2000000 in
theorem dup_full (B : Nat) (L : Lo) (s : Fs) (p : Fin 6) (k : Fin 8) (w : World) (h : Ft B w L s) (hp : s.has p = true) (hk : s.fd p k ≠ 0) (hj : leastF (s.fd p) = none) : Calls Try.prog 22 #[.pointer (some ⟨L.t, 0, none⟩), .int .i64 p.1, .int .i64 k.1] w fun r w' => r = .returned (.tuple #[.int .i64 0, .int .i64 11]) ∧ w' = w := by
  have cA := at_ok B L s p k w h hp hk
  have cP := put_full B L s p (L.o (s.fd p k)) w h.b hp hj
  have c0 := h.b.at p hp k
  rw [ptr_n hk] at c0
  clear h hj hk
  obtain ⟨k, hk8⟩ := k
  have h2 : (k : Int) < 8 := by omega
  simp only at *
  go_enter Try.func22, Try.ntmps22
  go_wp2_with fail
  refine cA.mono ?_
  rintro r W ⟨rfl, rfl⟩
  clear cA
  go_wp2_with fail
  refine cP.mono ?_
  rintro r W' ⟨rfl, rfl⟩
  clear cP
  go_wp2
  go_ret2
  exact ⟨rfl, rfl⟩
set_option maxHeartbeats 1000000 in
theorem dup_err (e : Int) (he : e ≠ 0) (tb : Nat) (pid fd : Int) (w : World) (cA : Calls Try.prog 36 #[.pointer (some ⟨tb, 0, none⟩), .int .i64 pid, .int .i64 fd] w fun r w' => r = .returned (.tuple #[.pointer none, .int .i64 e]) ∧ w' = w) : Calls Try.prog 22 #[.pointer (some ⟨tb, 0, none⟩), .int .i64 pid, .int .i64 fd] w fun r w' => r = .returned (.tuple #[.int .i64 0, .int .i64 e]) ∧ w' = w := by
  have h1 : (e != 0) = true := by simpa using he
  clear he
  go_enter Try.func22, Try.ntmps22
  go_wp2_with fail
  refine cA.mono ?_
  rintro r W ⟨rfl, rfl⟩
  go_wp2
  go_ret2
  exact ⟨rfl, rfl⟩
set_option maxHeartbeats 1000000 in
theorem move_err (e : Int) (he : e ≠ 0) (tb : Nat) (pid fd pos : Int) (w : World) (cA : Calls Try.prog 36 #[.pointer (some ⟨tb, 0, none⟩), .int .i64 pid, .int .i64 fd] w fun r w' => r = .returned (.tuple #[.pointer none, .int .i64 e]) ∧ w' = w) : Calls Try.prog 17 #[.pointer (some ⟨tb, 0, none⟩), .int .i64 pid, .int .i64 fd, .int .i64 pos] w fun r w' => r = .returned (.int .i64 e) ∧ w' = w := by
  have h1 : (e != 0) = true := by simpa using he
  clear he
  go_enter Try.func17, Try.ntmps17
  go_wp2_with fail
  refine cA.mono ?_
  rintro r W ⟨rfl, rfl⟩
  go_wp2
  go_ret
  exact ⟨rfl, rfl⟩
def movO (s : Fs) (n : Nat) (pos : Int) : Opn := { getO s n with p := pos }
set_option maxHeartbeats 1000000 in
theorem move_ok (B : Nat) (L : Lo) (s : Fs) (p : Fin 6) (k : Fin 8) (pos : Int) (w : World) (h : Ft B w L s) (hp : s.has p = true) (hk : s.fd p k ≠ 0) : Calls Try.prog 17 #[.pointer (some ⟨L.t, 0, none⟩), .int .i64 p.1, .int .i64 k.1, .int .i64 pos] w fun r w' => r = .returned (.int .i64 0) ∧ FStp B w w' L s (setO s (s.fd p k) (movO s (s.fd p k) pos)) := by
  have hn := Lv.of_fd hk
  have hg := h.b.og _ hn
  have cA := at_ok B L s p k w h hp hk
  have c0 := h.b.at p hp k
  rw [ptr_n hk] at c0
  have a1 : Apart (fun i => i = L.o (s.fd p k)) w (w.setCell ⟨L.o (s.fd p k), 2, none⟩ (.int .i64 pos)) := Apart.at _ _ _ _ rfl
  have HF := Hid3.mk (FStp.ofB h (h.b.move (s.fd p k) (movO s (s.fd p k) pos) hn a1 (hg.2.set 2 (.int .i64 pos))) rfl rfl rfl a1 (fun i _ hi => hi ▸ XF.obj hn) (h.t.ne hg.2 (by decide)) (fun m hm => .inl ⟨rfl, hm⟩))
  obtain ⟨d0, d1, d2, d3, df, dl⟩ := h.b.obj hn
  have df2 := df 2
  generalize setO s (s.fd p k) (movO s (s.fd p k) pos) = s' at *
  generalize L.o (s.fd p k) = ob at *
  clear h hg hn hk a1 df
  obtain ⟨k, hk8⟩ := k
  have h2 : (k : Int) < 8 := by omega
  simp only at *
  go_enter Try.func17, Try.ntmps17
  go_wp2_with fail
  refine cA.mono ?_
  rintro r W ⟨rfl, rfl⟩
  clear cA
  go_wp2
  go_ret
  exact ⟨rfl, HF.out⟩
end Go.Proofs.Ytbkpkcndmlapfaa
