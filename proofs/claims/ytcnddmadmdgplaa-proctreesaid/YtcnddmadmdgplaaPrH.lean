/- Both tables: what each call comes to on both; a deed on both. -/
import Derived.Test.YtcnddmadmdgplaaPrF
import Derived.Test.YtcnddmadmdgplaaPrT
namespace Go.Proofs.Ytcnddmadmdgplaa
open Go.RowKit Go.Maps
set_option linter.unusedVariables false
set_option maxRecDepth 100000
/-- Both tables. -/
structure Two (B : Nat) (w : World) (b r : Nat) (s : Pt) : Prop where
  t : Tp B w b s
  r : Rp B w r s
  ok : Ok s
theorem Two.ne {B : Nat} {w : World} {b r : Nat} {s : Pt} (h : Two B w b r s) : b ≠ r := h.t.c.ne h.r.c (by decide)
theorem Two.below {B : Nat} {w w' : World} {b r : Nat} {s : Pt} (h : Two B w b r s) (k : Below w.heap.size w w') : Two B w' b r s := ⟨h.t.below k, h.r.below k, h.ok⟩
/-- What a deed on both comes to. -/
structure Mv (B : Nat) (w w' : World) (b r : Nat) (s' : Pt) : Prop where
  two : Two B w' b r s'
  ap : Apart (fun k => k = b ∨ k = r) w w'
theorem Mv.mk' {B : Nat} {w w1 w2 : World} {b r : Nat} {s s' : Pt} (h : Two B w b r s) (h1 : TS B w w1 b s') (h2 : RS B w1 w2 r s') (ok : Ok s') : Mv B w w2 b r s' :=
  ⟨⟨h1.t.stay h2.ap h.ne, h2.t, ok⟩, (h1.ap.wide (fun i _ x => .inl x)).trans (h2.ap.wide (fun i _ x => .inr x))⟩
theorem Mv.pre {B : Nat} {w w1 w2 : World} {b r : Nat} {s : Pt} (h : Below w.heap.size w w1) (k : Mv B w1 w2 b r s) : Mv B w w2 b r s := ⟨k.two, (Apart.of_below h).trans k.ap⟩
theorem Mv.post {B : Nat} {w w1 w2 : World} {b r : Nat} {s : Pt} (k : Mv B w w1 b r s) (h : Below w1.heap.size w1 w2) : Mv B w w2 b r s := ⟨k.two.below h, k.ap.trans (Apart.of_below h)⟩
theorem Mv.same {B : Nat} {w w' : World} {b r : Nat} {s : Pt} (h : Two B w b r s) (k : Below w.heap.size w w') : Mv B w w' b r s := ⟨h.below k, Apart.of_below k⟩
theorem Mv.low {B : Nat} {w w' : World} {b r : Nat} {s s' : Pt} (k : Mv B w w' b r s') (h : Two B w b r s) (hB : B ≤ w.heap.size) : Below B w w' := k.ap.below B (fun i hi => hi.elim (fun e => e ▸ h.t.g) (fun e => e ▸ h.r.g)) hB
theorem cell_stay {w1 w2 : World} {b j : Nat} {v : Value} {X : Nat → Prop} (h : w1.cell? ⟨b, j, none⟩ = some v) (ap : Apart X w1 w2) (hx : ¬ X b) : w2.cell? ⟨b, j, none⟩ = some v :=
  (World.cell?_of_block (w := w1) (ap.block b (World.block_lt_of_cell? w1 _ h) hx)).trans h
/-- One answer of both. -/
structure B1 (fp fr : FuncId) (args : Array Value) (s : Pt) (v : Value) (s' : Pt) : Prop where
  p : ∀ B w b, Tp B w b s → Calls Try.prog fp (#[.pointer (some ⟨b, 0, none⟩)] ++ args) w fun r w' => r = .returned v ∧ TS B w w' b s'
  r : ∀ B w b, Rp B w b s → Calls Try.prog fr (#[.pointer (some ⟨b, 0, none⟩)] ++ args) w fun r w' => r = .returned v ∧ RS B w w' b s'
  ok : Ok s'
theorem runs_cases (s : Pt) (pid : Int) : runs (gt s pid) = false ∨ ∃ p q : Fin 6, pid = p.1 ∧ s p = .run q := by
  cases hg : gt s pid with
  | no => exact .inl rfl
  | zom q n => exact .inl rfl
  | run q =>
    have hne : gt s pid ≠ .no := fun e => by rw [hg] at e; cases e
    obtain ⟨p, rfl, hp, _⟩ := chA_of s pid hne
    rw [gt_in] at hg
    exact .inr ⟨p, q, rfl, hg⟩
theorem fork_both (s : Pt) (h : Ok s) (pid : Int) : ∃ x e s', B1 21 38 #[.int .i64 pid] s (.tuple #[.int .i64 x, .int .i64 e]) s' := by
  rcases runs_cases s pid with hp | ⟨p, q, rfl, hp⟩
  · exact ⟨0, 5, s, fun B w b t => (fork_err B b s pid w t hp).mono (fun r w' k => ⟨k.1, TS.same t k.2⟩), fun B w b t => (rfork_err b s pid w t.cs hp).mono (fun r w' k => ⟨k.1, by rw [k.2]; exact RS.same t (Below.refl _ _)⟩), h⟩
  · have hr : runs (s p) = true := by rw [hp]; rfl
    rcases least_cases s with hn | ⟨k, hk, hl⟩
    · exact ⟨0, 12, s, fun B w b t => fork_any B b s p w t hr 6 (by omega) (fun j _ => hn j) (fun e => absurd e (by omega)) 0 12 s (fun e => absurd e (by omega)) (fun _ => ⟨rfl, rfl, rfl⟩), fun B w b t => rfork_any B b s p w t hr 6 (by omega) (by omega) (fun j _ => hn j) (fun e => absurd e (by omega)) 0 12 s (fun e => absurd e (by omega)) (fun _ => ⟨rfl, rfl, rfl⟩), h⟩
    · have hk0 : 1 ≤ k.1 := by
        rcases Nat.eq_zero_or_pos k.1 with e | e
        · have : k = 0 := Fin.ext e
          rw [this, h.z] at hk
          cases hk
        · exact e
      exact ⟨k.1, 0, forkS s p k, fun B w b t => fork_any B b s p w t hr k.1 (by omega) hl (fun _ => hk) k.1 0 _ (fun _ => ⟨rfl, rfl, rfl⟩) (fun e => absurd k.2 e), fun B w b t => rfork_any B b s p w t hr k.1 hk0 (by omega) hl (fun _ => hk) k.1 0 _ (fun _ => ⟨rfl, rfl, rfl⟩) (fun e => absurd k.2 e), h.fork p k hr hk⟩
theorem exit_both (s : Pt) (h : Ok s) (pid n : Int) : ∃ e s', B1 18 39 #[.int .i64 pid, .int .i64 n] s (.int .i64 e) s' := by
  rcases runs_cases s pid with hp | ⟨p, q, rfl, hp⟩
  · exact ⟨5, s, fun B w b t => (exit_err B b s pid n w t hp).mono (fun r w' k => ⟨k.1, TS.same t k.2⟩), fun B w b t => (rexit_err b s pid n w t.cs hp).mono (fun r w' k => ⟨k.1, by rw [k.2]; exact RS.same t (Below.refl _ _)⟩), h⟩
  · by_cases hp0 : p = 0
    · subst hp0
      exact ⟨7, s, fun B w b t => (exit_0 B b s n w t h.z).mono (fun r w' k => ⟨k.1, TS.same t k.2⟩), fun B w b t => (rexit_0 b s n w t.cs h.z).mono (fun r w' k => ⟨k.1, by rw [k.2]; exact RS.same t (Below.refl _ _)⟩), h⟩
    · exact ⟨0, exitS s p q n, fun B w b t => exit_ok B b s p q n w t hp0 hp, fun B w b t => rexit_ok B b s p q n w t hp0 hp (h.self p hp0), h.exit p q n hp0 hp⟩
theorem kill_both (s : Pt) (h : Ok s) (pid : Int) : ∃ e s', B1 22 40 #[.int .i64 pid] s (.int .i64 e) s' := by
  obtain ⟨e, s', bb⟩ := exit_both s h pid 137
  exact ⟨e, s', fun B w b t => kill_of _ pid e w _ (bb.p B w b t), fun B w b t => rkill_of _ pid e w _ (bb.r B w b t), bb.ok⟩
theorem wtX_ok (s : Pt) (h : Ok s) (p : Fin 6) : Ok (wtX s p).2.2.2 := by
  unfold wtX
  cases hf : fstZ s (chs s p) with
  | none => exact h
  | some x =>
    obtain ⟨x, n⟩ := x
    have : ∀ l, fstZ s l = some (x, n) → zomb (s x) = true := by
      intro l
      induction l with
      | nil => intro e; cases e
      | cons y l ih =>
        intro e
        have e' : (match s y with
          | .zom _ n => some (y, n)
          | _ => fstZ s l) = some (x, n) := e
        cases hy : s y with
        | no => rw [hy] at e'; exact ih e'
        | run q => rw [hy] at e'; exact ih e'
        | zom q m =>
          rw [hy] at e'
          injection e' with e'
          injection e' with e1 e2
          rw [← e1, hy]
          rfl
    exact h.wait x (this _ hf)
theorem wait_both (s : Pt) (h : Ok s) (pid : Int) : ∃ x n e s', B1 15 41 #[.int .i64 pid] s (.tuple #[.int .i64 x, .int .i64 n, .int .i64 e]) s' := by
  rcases runs_cases s pid with hp | ⟨p, q, rfl, hp⟩
  · exact ⟨0, 0, 5, s, fun B w b t => (wait_err B b s pid w t hp).mono (fun r w' k => ⟨k.1, TS.same t k.2⟩), fun B w b t => (rwait_err b s pid w t.cs hp).mono (fun r w' k => ⟨k.1, by rw [k.2]; exact RS.same t (Below.refl _ _)⟩), h⟩
  · have hr : runs (s p) = true := by rw [hp]; rfl
    exact ⟨_, _, _, _, fun B w b t => wait_any B b s p w t hr, fun B w b t => rwait_any B b s p w t hr, wtX_ok s h p⟩
/-- A deed. -/
structure Dd where
  k : Int
  p : Int
  n : Int
def ddV (d : Dd) : Value := .agg #[.int .i64 d.k, .int .i64 d.p, .int .i64 d.n]
def DoR (B : Nat) (w : World) (b rb : Nat) (r : Ending) (w' : World) : Prop := r = .returned (.bool true) ∧ ∃ s', Mv B w w' b rb s'
theorem box_cell (w : World) (cs : List Value) (t : TypeId) (j : Nat) (v : Value) (h : cs[j]? = some v) : (w.alloc (.cells cs.toArray t)).cell? ⟨w.heap.size, j, none⟩ = some v := by
  rw [Lib.cell_of_heap (heap_alloc_new w _)]
  simpa using h
set_option maxHeartbeats 2000000 in
theorem do_0 (B b rb : Nat) (s : Pt) (p n : Int) (w : World) (h : Two B w b rb s) : Calls Try.prog 20 #[.pointer (some ⟨b, 0, none⟩), .pointer (some ⟨rb, 0, none⟩), .agg #[.int .i64 0, .int .i64 p, .int .i64 n]] w (DoR B w b rb) := by
  have hX : Below w.heap.size w (w.alloc (.cells #[.int .i64 0, .int .i64 p, .int .i64 n] 45)) := below_new w _
  have x1 : (w.alloc (.cells #[.int .i64 0, .int .i64 p, .int .i64 n] 45)).cell? ⟨w.heap.size, 1, none⟩ = some (.int .i64 p) := box_cell w [.int .i64 0, .int .i64 p, .int .i64 n] 45 1 _ rfl
  have HT := Hid3.mk (h.below hX)
  have HX := Hid3.mk hX
  have hl1 := h.t.c.lt
  have hl2 := h.r.c.lt
  obtain ⟨x, e, s', bb⟩ := fork_both s h.ok p
  have hee : (e == e) = true := by simp
  have hxx : (x == x) = true := by simp
  have cT := bb.p B _ b HT.out.t
  have cR := bb.r
  have HO := Hid3.mk bb.ok
  clear h hX bb
  go_enter Try.func20, Try.ntmps20
  go_wp2_with fail
  refine cT.mono ?_
  rintro r W1 ⟨rfl, hs1⟩
  have y1 := cell_stay x1 hs1.ap (by omega)
  have HS1 := Hid3.mk hs1
  have HR1 : Hid3 (Rp B W1 rb s) := ⟨HT.out.r.stay hs1.ap HT.out.ne.symm⟩
  have hsz1 := hs1.ap.size
  clear cT hs1
  go_wp2_with fail
  refine (cR B _ rb HR1.out).mono ?_
  rintro r W2 ⟨rfl, hs2⟩
  have HM : Hid3 (Mv B w W2 b rb s') := ⟨(Mv.mk' HT.out HS1.out hs2 HO.out).pre HX.out⟩
  clear hs2 cR
  go_wp2
  go_ret
  exact ⟨rfl, _, HM.out⟩
set_option maxHeartbeats 2000000 in
theorem do_1 (B b rb : Nat) (s : Pt) (p n : Int) (w : World) (h : Two B w b rb s) : Calls Try.prog 20 #[.pointer (some ⟨b, 0, none⟩), .pointer (some ⟨rb, 0, none⟩), .agg #[.int .i64 1, .int .i64 p, .int .i64 n]] w (DoR B w b rb) := by
  have hX : Below w.heap.size w (w.alloc (.cells #[.int .i64 1, .int .i64 p, .int .i64 n] 45)).drew := (below_new w _).drew
  have x1 : (w.alloc (.cells #[.int .i64 1, .int .i64 p, .int .i64 n] 45)).drew.cell? ⟨w.heap.size, 1, none⟩ = some (.int .i64 p) := box_cell w [.int .i64 1, .int .i64 p, .int .i64 n] 45 1 _ rfl
  have x2 : (w.alloc (.cells #[.int .i64 1, .int .i64 p, .int .i64 n] 45)).drew.cell? ⟨w.heap.size, 2, none⟩ = some (.int .i64 n) := box_cell w [.int .i64 1, .int .i64 p, .int .i64 n] 45 2 _ rfl
  have HT := Hid3.mk (h.below hX)
  have HX := Hid3.mk hX
  have hl1 := h.t.c.lt
  have hl2 := h.r.c.lt
  obtain ⟨e, s', bb⟩ := exit_both s h.ok p n
  have cT := bb.p B _ b HT.out.t
  have cR := bb.r
  have HO := Hid3.mk bb.ok
  have hSa : Hid3 ((w.alloc (.cells #[.int .i64 1, .int .i64 p, .int .i64 n] 45)).drew.cell? ⟨w.heap.size, 1, none⟩ = some (.int .i64 p) ∧ (w.alloc (.cells #[.int .i64 1, .int .i64 p, .int .i64 n] 45)).drew.cell? ⟨w.heap.size, 2, none⟩ = some (.int .i64 n)) := ⟨⟨x1, x2⟩⟩
  have hee : (e == e) = true := by simp
  clear h hX bb x1 x2
  go_enter Try.func20, Try.ntmps20
  go_wp2_with fail
  go_region_held3 (fun w' => w'.cell? ⟨w.heap.size, 1, none⟩ = some (.int .i64 p) ∧ w'.cell? ⟨w.heap.size, 2, none⟩ = some (.int .i64 n)) (with_reducible (first | exact hSa.out | exact hSb.out | exact hSc.out)) ((first
    | (go_at_call 18; refine cT.mono ?_; rintro r W1 ⟨rfl, hs1⟩; have hSb : Hid3 (W1.cell? ⟨w.heap.size, 1, none⟩ = some (.int .i64 p) ∧ W1.cell? ⟨w.heap.size, 2, none⟩ = some (.int .i64 n)) := ⟨⟨cell_stay hSa.out.1 hs1.ap (by omega), cell_stay hSa.out.2 hs1.ap (by omega)⟩⟩; have HS1 := Hid3.mk hs1; have HR1 : Hid3 (Rp B W1 rb s) := ⟨HT.out.r.stay hs1.ap HT.out.ne.symm⟩; clear hs1)
    | (go_at_call 39; refine (cR B _ rb HR1.out).mono ?_; rintro r W2 ⟨rfl, hs2⟩; have hSc : Hid3 (W2.cell? ⟨w.heap.size, 1, none⟩ = some (.int .i64 p) ∧ W2.cell? ⟨w.heap.size, 2, none⟩ = some (.int .i64 n)) := ⟨⟨cell_stay hSb.out.1 hs2.ap (by omega), cell_stay hSb.out.2 hs2.ap (by omega)⟩⟩; have HM : Hid3 (Mv B w W2 b rb s') := ⟨(Mv.mk' HT.out HS1.out hs2 HO.out).pre HX.out⟩; clear hs2)))
  all_goals (
    go_wp2
    go_ret
    exact ⟨rfl, _, HM.out⟩)
set_option maxHeartbeats 2000000 in
theorem do_2 (B b rb : Nat) (s : Pt) (p n : Int) (w : World) (h : Two B w b rb s) : Calls Try.prog 20 #[.pointer (some ⟨b, 0, none⟩), .pointer (some ⟨rb, 0, none⟩), .agg #[.int .i64 2, .int .i64 p, .int .i64 n]] w (DoR B w b rb) := by
  have hX : Below w.heap.size w (w.alloc (.cells #[.int .i64 2, .int .i64 p, .int .i64 n] 45)).drew := (below_new w _).drew
  have x1 : (w.alloc (.cells #[.int .i64 2, .int .i64 p, .int .i64 n] 45)).drew.cell? ⟨w.heap.size, 1, none⟩ = some (.int .i64 p) := box_cell w [.int .i64 2, .int .i64 p, .int .i64 n] 45 1 _ rfl
  have HT := Hid3.mk (h.below hX)
  have HX := Hid3.mk hX
  have hl1 := h.t.c.lt
  have hl2 := h.r.c.lt
  obtain ⟨e, s', bb⟩ := kill_both s h.ok p
  have cT := bb.p B _ b HT.out.t
  have cR := bb.r
  have HO := Hid3.mk bb.ok
  have hSa : Hid3 ((w.alloc (.cells #[.int .i64 2, .int .i64 p, .int .i64 n] 45)).drew.cell? ⟨w.heap.size, 1, none⟩ = some (.int .i64 p)) := ⟨x1⟩
  have hee : (e == e) = true := by simp
  clear h hX bb x1
  go_enter Try.func20, Try.ntmps20
  go_wp2_with fail
  go_region_held3 (fun w' => w'.cell? ⟨w.heap.size, 1, none⟩ = some (.int .i64 p)) (with_reducible (first | exact hSa.out | exact hSb.out | exact hSc.out)) ((first
    | (go_at_call 22; refine cT.mono ?_; rintro r W1 ⟨rfl, hs1⟩; have hSb : Hid3 (W1.cell? ⟨w.heap.size, 1, none⟩ = some (.int .i64 p)) := ⟨cell_stay hSa.out hs1.ap (by omega)⟩; have HS1 := Hid3.mk hs1; have HR1 : Hid3 (Rp B W1 rb s) := ⟨HT.out.r.stay hs1.ap HT.out.ne.symm⟩; clear hs1)
    | (go_at_call 40; refine (cR B _ rb HR1.out).mono ?_; rintro r W2 ⟨rfl, hs2⟩; have hSc : Hid3 (W2.cell? ⟨w.heap.size, 1, none⟩ = some (.int .i64 p)) := ⟨cell_stay hSb.out hs2.ap (by omega)⟩; have HM : Hid3 (Mv B w W2 b rb s') := ⟨(Mv.mk' HT.out HS1.out hs2 HO.out).pre HX.out⟩; clear hs2)))
  all_goals (
    go_wp2
    go_ret
    exact ⟨rfl, _, HM.out⟩)
set_option maxHeartbeats 2000000 in
theorem do_3 (B b rb : Nat) (s : Pt) (p n : Int) (w : World) (h : Two B w b rb s) : Calls Try.prog 20 #[.pointer (some ⟨b, 0, none⟩), .pointer (some ⟨rb, 0, none⟩), .agg #[.int .i64 3, .int .i64 p, .int .i64 n]] w (DoR B w b rb) := by
  have hX : Below w.heap.size w (w.alloc (.cells #[.int .i64 3, .int .i64 p, .int .i64 n] 45)) := below_new w _
  have x1 : (w.alloc (.cells #[.int .i64 3, .int .i64 p, .int .i64 n] 45)).cell? ⟨w.heap.size, 1, none⟩ = some (.int .i64 p) := box_cell w [.int .i64 3, .int .i64 p, .int .i64 n] 45 1 _ rfl
  have HT := Hid3.mk (h.below hX)
  have HX := Hid3.mk hX
  have hl1 := h.t.c.lt
  have hl2 := h.r.c.lt
  obtain ⟨x, y, e, s', bb⟩ := wait_both s h.ok p
  have hee : (e == e) = true := by simp
  have hxx : (x == x) = true := by simp
  have hyy : (y == y) = true := by simp
  have cT := bb.p B _ b HT.out.t
  have cR := bb.r
  have HO := Hid3.mk bb.ok
  clear h hX bb
  go_enter Try.func20, Try.ntmps20
  go_wp2_with fail
  refine cT.mono ?_
  rintro r W1 ⟨rfl, hs1⟩
  have y1 := cell_stay x1 hs1.ap (by omega)
  have HS1 := Hid3.mk hs1
  have HR1 : Hid3 (Rp B W1 rb s) := ⟨HT.out.r.stay hs1.ap HT.out.ne.symm⟩
  have hsz1 := hs1.ap.size
  clear cT hs1
  go_wp2_with fail
  refine (cR B _ rb HR1.out).mono ?_
  rintro r W2 ⟨rfl, hs2⟩
  have HM : Hid3 (Mv B w W2 b rb s') := ⟨(Mv.mk' HT.out HS1.out hs2 HO.out).pre HX.out⟩
  clear hs2 cR
  go_wp2
  go_ret
  exact ⟨rfl, _, HM.out⟩
set_option maxHeartbeats 2000000 in
theorem do_else (B b rb : Nat) (s : Pt) (k p n : Int) (w : World) (h : Two B w b rb s) (h0 : k ≠ 0) (h1 : k ≠ 1) (h2 : k ≠ 2) (h3 : k ≠ 3) : Calls Try.prog 20 #[.pointer (some ⟨b, 0, none⟩), .pointer (some ⟨rb, 0, none⟩), .agg #[.int .i64 k, .int .i64 p, .int .i64 n]] w (DoR B w b rb) := by
  have HM : Hid3 (Mv B w (w.alloc (.cells #[.int .i64 k, .int .i64 p, .int .i64 n] 45)) b rb s) := ⟨Mv.same h (below_new w _)⟩
  have e0 : (k == 0) = false := by simpa using h0
  have e1 : (k == 1) = false := by simpa using h1
  have e2 : (k == 2) = false := by simpa using h2
  have e3 : (k == 3) = false := by simpa using h3
  clear h h0 h1 h2 h3
  go_enter Try.func20, Try.ntmps20
  go_wp2
  go_ret
  exact ⟨rfl, _, HM.out⟩
theorem do_any (B b rb : Nat) (s : Pt) (d : Dd) (w : World) (h : Two B w b rb s) : Calls Try.prog 20 #[.pointer (some ⟨b, 0, none⟩), .pointer (some ⟨rb, 0, none⟩), ddV d] w (DoR B w b rb) := by
  obtain ⟨k, p, n⟩ := d
  unfold ddV
  by_cases h0 : k = 0
  · subst h0; exact do_0 B b rb s p n w h
  by_cases h1 : k = 1
  · subst h1; exact do_1 B b rb s p n w h
  by_cases h2 : k = 2
  · subst h2; exact do_2 B b rb s p n w h
  by_cases h3 : k = 3
  · subst h3; exact do_3 B b rb s p n w h
  exact do_else B b rb s k p n w h h0 h1 h2 h3
end Go.Proofs.Ytcnddmadmdgplaa
