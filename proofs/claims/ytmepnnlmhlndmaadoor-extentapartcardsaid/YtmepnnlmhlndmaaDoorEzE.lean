/- The document's table in memory; find, free, Left, New, Fork. The document's table: free, Left, At, Room, Owned; what is compared. The document's table: At, Room, Owned, List; rows that are compared. The document's table: Room, Owned, List; rows that are compared. The document's table: Owned; rows that are compared; set, drop. -/
import Derived.Test.YtmepnnlmhlndmaaDoorEyB
import Derived.BigQuiet
import Derived.OwnWalk
import Derived.Test.YtmepnnlmhlndmaaDoorEyC
import Derived.Laws.AppendOwnNone
import Derived.Deep.RegionLaw
namespace Go.Proofs.YtmepnnlmhlndmaaDoor
open Go.RowKit Go.Maps
set_option linter.unusedVariables false
set_option maxRecDepth 100000
/-- Extents, as a row that is read. -/
def XR (w : World) (v : Value) (L : List Ex) : Prop := (v = .slice none 0 0 ∧ L = []) ∨ ∃ (g cap : Nat) (cur : Array Value), v = .slice (some ⟨g, 0, none⟩) L.length cap ∧ w.heap[g]? = some (.cells cur 36 (0, 0)) ∧ L.length ≤ cap ∧ ∀ (j : Nat) (u : Value), (exsC L)[j]? = some u → cur.toList[j]? = some u
theorem XR.of_own {B : Nat} {w : World} {v : Value} {L : List Ex} (h : w.ownsRow B 36 6 v L.length (exsC L)) : XR w v L := by
  rcases h.2 with ⟨h1, h2⟩ | ⟨g, cap, cur, rfl, _, hb, hk, hm, _, htk⟩
  · exact .inl ⟨h1, List.eq_nil_of_length_eq_zero h2⟩
  · refine .inr ⟨g, cap, cur, rfl, hb, hk, fun j u hu => ?_⟩
    have hj : j < (exsC L).length := (List.getElem?_eq_some_iff.1 hu).1
    rw [exsC_len] at hj
    rw [← htk, List.getElem?_take, if_pos (by omega)] at hu
    exact hu
theorem XR.low {w w' : World} {v : Value} {L : List Ex} (h : XR w v L) (k : Below w.heap.size w w') : XR w' v L := by
  rcases h with h | ⟨g, cap, cur, h1, h2, h3, h4⟩
  · exact .inl h
  · exact .inr ⟨g, cap, cur, h1, (k.block g (Array.getElem?_eq_some_iff.1 h2).1).trans h2, h3, h4⟩
theorem XR.stay {w w' : World} {v : Value} {L : List Ex} {X : Nat → Prop} (h : XR w v L) (k : Apart X w w') (hx : ∀ g cur, w.heap[g]? = some (.cells cur 36 (0, 0)) → ¬ X g) : XR w' v L := by
  rcases h with h | ⟨g, cap, cur, h1, h2, h3, h4⟩
  · exact .inl h
  · exact .inr ⟨g, cap, cur, h1, (k.block g (Array.getElem?_eq_some_iff.1 h2).1 (hx g cur h2)).trans h2, h3, h4⟩
/-- The cells of one of them. -/
structure ExM (w : World) (g m : Nat) (x : Ex) : Prop where
  e0 : w.cell? ⟨g, m * 6, none⟩ = some (.int .u32 x.id)
  e1 : w.cell? ⟨g, m * 6 + 1, none⟩ = some (.int .i64 x.st)
  e2 : w.cell? ⟨g, m * 6 + 2, none⟩ = some (.int .i64 x.ln)
  e3 : w.cell? ⟨g, m * 6 + 3, none⟩ = some (.int .u8 x.ow)
  e4 : w.cell? ⟨g, m * 6 + 4, none⟩ = some (.string x.nm)
  e5 : w.cell? ⟨g, m * 6 + 5, none⟩ = some (.int .u8 x.rt.toNat)
  l : g < w.heap.size
theorem ExM.low {w w' : World} {g m : Nat} {x : Ex} (h : ExM w g m x) (k : Below w.heap.size w w') : ExM w' g m x :=
  ⟨(k.cell (p := ⟨g, m * 6, none⟩) h.l).trans h.e0, (k.cell (p := ⟨g, m * 6 + 1, none⟩) h.l).trans h.e1, (k.cell (p := ⟨g, m * 6 + 2, none⟩) h.l).trans h.e2, (k.cell (p := ⟨g, m * 6 + 3, none⟩) h.l).trans h.e3, (k.cell (p := ⟨g, m * 6 + 4, none⟩) h.l).trans h.e4, (k.cell (p := ⟨g, m * 6 + 5, none⟩) h.l).trans h.e5, Nat.lt_of_lt_of_le h.l k.size⟩
theorem XR.cells {w : World} {v : Value} {L : List Ex} (h : XR w v L) : ∃ a cap, v = .slice a L.length cap ∧ ∀ m x, L[m]? = some x → ∃ g, a = some ⟨g, 0, none⟩ ∧ ExM w g m x := by
  rcases h with ⟨rfl, rfl⟩ | ⟨g, cap, cur, h1, h2, h3, h4⟩
  · exact ⟨none, 0, rfl, fun m x h => by cases h⟩
  · refine ⟨_, cap, h1, fun m x hm => ⟨g, rfl, ?_⟩⟩
    have e : ∀ j u, j < 6 → (exCs x)[j]? = some u → w.cell? ⟨g, m * 6 + j, none⟩ = some u := fun j u hj hu => by
      rw [Lib.cell_of_heap h2]
      have := h4 (m * 6 + j) u ((exsC_at L m x hm j hj).trans hu)
      simpa using this
    exact ⟨e 0 _ (by omega) rfl, e 1 _ (by omega) rfl, e 2 _ (by omega) rfl, e 3 _ (by omega) rfl, e 4 _ (by omega) rfl, e 5 _ (by omega) rfl, (Array.getElem?_eq_some_iff.1 h2).1⟩
/-- The document's table. -/
structure Rt (B : Nat) (w : World) (b : Nat) (s : Xt) : Prop where
  g : B ≤ b
  ex : ∃ v, Cl w b 88 [.int .i64 s.N, v, .int .u32 s.last] ∧ XR w v s.l
  ok : s.Ok
theorem Rt.lt {B : Nat} {w : World} {b : Nat} {s : Xt} (h : Rt B w b s) : b < w.heap.size := h.ex.elim fun _ hv => hv.1.lt
theorem Rt.below {B : Nat} {w w' : World} {b : Nat} {s : Xt} (h : Rt B w b s) (k : Below w.heap.size w w') : Rt B w' b s := ⟨h.g, h.ex.elim fun v hv => ⟨v, hv.1.below k, hv.2.low k⟩, h.ok⟩
theorem Rt.stay {B : Nat} {w w' : World} {b : Nat} {s : Xt} {X : Nat → Prop} (h : Rt B w b s) (k : Apart X w w') (hb : ¬ X b) (hx : ∀ g cur, w.heap[g]? = some (.cells cur 36 (0, 0)) → ¬ X g) : Rt B w' b s :=
  ⟨h.g, h.ex.elim fun v hv => ⟨v, hv.1.stay k hb, hv.2.stay k hx⟩, h.ok⟩
/-- What is read of it. -/
structure RtC (w : World) (b : Nat) (s : Xt) (a : Option Addr) (cap : Nat) : Prop where
  c0 : w.cell? ⟨b, 0, none⟩ = some (.int .i64 s.N)
  c1 : w.cell? ⟨b, 1, none⟩ = some (.slice a s.l.length cap)
  c2 : w.cell? ⟨b, 2, none⟩ = some (.int .u32 s.last)
  el : ∀ m x, s.l[m]? = some x → ∃ g, a = some ⟨g, 0, none⟩ ∧ ExM w g m x
  l : b < w.heap.size
  n : s.l.length ≤ 24
  nn : s.N ≤ 64
theorem Rt.c {B : Nat} {w : World} {b : Nat} {s : Xt} (h : Rt B w b s) : ∃ a cap, RtC w b s a cap := by
  obtain ⟨v, h1, h2⟩ := h.ex
  obtain ⟨a, cap, rfl, h3⟩ := h2.cells
  exact ⟨a, cap, h1.cell 0, h1.cell 1, h1.cell 2, h3, h1.lt, h.ok.len, h.ok.n2⟩
theorem RtC.low {w w' : World} {b : Nat} {s : Xt} {a : Option Addr} {cap : Nat} (h : RtC w b s a cap) (k : Below w.heap.size w w') : RtC w' b s a cap :=
  ⟨(k.cell (p := ⟨b, 0, none⟩) h.l).trans h.c0, (k.cell (p := ⟨b, 1, none⟩) h.l).trans h.c1, (k.cell (p := ⟨b, 2, none⟩) h.l).trans h.c2, fun m x hm => (h.el m x hm).elim fun g hg => ⟨g, hg.1, hg.2.low k⟩, Nat.lt_of_lt_of_le h.l k.size, h.n, h.nn⟩
structure RStp (B : Nat) (w w' : World) (b : Nat) (s' : Xt) : Prop where
  r : Rt B w' b s'
  ap : Apart (fun k => k = b) w w'
theorem RStp.same {B : Nat} {w w' : World} {b : Nat} {s : Xt} (h : Rt B w b s) (k : Below w.heap.size w w') : RStp B w w' b s := ⟨h.below k, Apart.of_below k⟩
theorem RStp.trans {B : Nat} {w w1 w2 : World} {b : Nat} {s s' : Xt} (h : RStp B w w1 b s) (k : RStp B w1 w2 b s') : RStp B w w2 b s' := ⟨k.r, h.ap.trans k.ap⟩
theorem RStp.pre {B : Nat} {w w1 w2 : World} {b : Nat} {s' : Xt} (h : Below w.heap.size w w1) (k : RStp B w1 w2 b s') : RStp B w w2 b s' := ⟨k.r, (Apart.of_below h).trans k.ap⟩
theorem RStp.post {B : Nat} {w w1 w2 : World} {b : Nat} {s' : Xt} (k : RStp B w w1 b s') (h : Below w1.heap.size w1 w2) : RStp B w w2 b s' := ⟨k.r.below h, k.ap.trans (Apart.of_below h)⟩
/-- No row is the table. -/
theorem xr_ne {w : World} {b : Nat} {c : List Value} (h : Cl w b 88 c) : ∀ g cur, w.heap[g]? = some (.cells cur 36 (0, 0)) → ¬ g = b := by
  intro g cur hg e
  subst e
  have := h.symm.trans hg
  injection this with this
  injection this with _ this
  exact absurd this (by decide)
theorem rnew_no (n : Int) (w : World) (h : n < 1 ∨ 64 < n) : Calls Tryd.prog 28 #[.int .i64 n] w fun e w' => e = .returned (.pointer none) ∧ w' = w := by
  by_cases h1 : n < 1
  · clear h
    go_enter Tryd.func28, Tryd.ntmps28
    go_wp2
    go_ret
    exact ⟨rfl, rfl⟩
  · have h2 : 64 < n := h.resolve_left h1
    clear h
    go_enter Tryd.func28, Tryd.ntmps28
    go_wp2
    go_ret
    exact ⟨rfl, rfl⟩
theorem rnew_ok (n : Nat) (w : World) (h1 : 1 ≤ n) (h2 : n ≤ 64) : Calls Tryd.prog 28 #[.int .i64 n] w fun e w' => e = .returned (.pointer (some ⟨w.heap.size, 0, none⟩)) ∧ Rt w.heap.size w' w.heap.size (xt0 n) ∧ Below w.heap.size w w' := by
  have z1 : ¬ (n : Int) < 1 := by omega
  have z2 : ¬ (64 : Int) < n := by omega
  have hP : Hid3 (Rt w.heap.size (w.alloc (.cells #[.int .i64 n, .slice none 0 0, .int .u32 0] 88)) w.heap.size (xt0 n)) := ⟨⟨Nat.le_refl _, ⟨.slice none 0 0, Cl.new w _ [.int .i64 n, .slice none 0 0, .int .u32 0], .inl ⟨rfl, rfl⟩⟩, xt0_ok n h1 h2⟩⟩
  go_enter Tryd.func28, Tryd.ntmps28
  go_wp2
  go_ret
  exact ⟨rfl, hP.out, below_new w _⟩
theorem rfork_any (B b : Nat) (s : Xt) (w : World) (h : Rt B w b s) : Calls Tryd.prog 25 #[.pointer (some ⟨b, 0, none⟩)] w fun e w' => e = .returned (.pointer (some ⟨w.heap.size, 0, none⟩)) ∧ Rt w.heap.size w' w.heap.size s ∧ Below w.heap.size w w' := by
  obtain ⟨v, h1, h2⟩ := h.ex
  have c0 := h1.cell 0
  have c1 := h1.cell 1
  have c2 := h1.cell 2
  have hP : Hid3 (Rt w.heap.size (w.alloc (.cells #[.int .i64 s.N, v, .int .u32 s.last] 88)) w.heap.size s) := ⟨⟨Nat.le_refl _, ⟨v, Cl.new w _ [.int .i64 s.N, v, .int .u32 s.last], h2.low (below_new w _)⟩, h.ok⟩⟩
  obtain ⟨a, cap, hv, _⟩ := h2.cells
  subst hv
  simp only [List.getElem?_cons_zero, List.getElem?_cons_succ] at c0 c1 c2
  clear h h1 h2
  generalize s.l.length = n at *
  go_enter Tryd.func25, Tryd.ntmps25
  go_wp2
  go_ret
  exact ⟨rfl, hP.out, below_new w _⟩
set_option maxHeartbeats 1000000 in
theorem rfind_none (b : Nat) (s : Xt) (a : Option Addr) (cap ow id : Nat) (w : World) (h : RtC w b s a cap) (hn : ∀ y ∈ s.l, y.id ≠ id) :
    Calls Tryd.prog 68 #[.pointer (some ⟨b, 0, none⟩), .int .u8 ow, .int .u32 id] w fun e w' => e = .returned (.tuple #[.int .i64 0, .int .i64 5]) ∧ w' = w := by
  have HC := Hid3.mk h
  have HN := Hid3.mk hn
  have c1 := h.c1
  obtain ⟨n, hln⟩ : ∃ n, s.l.length = n := ⟨_, rfl⟩
  have HL := Hid3.mk hln
  have hn24 : n ≤ 24 := by rw [← hln]; exact h.n
  rw [hln] at c1
  clear h hn hln
  go_enter Tryd.func68, Tryd.ntmps68
  go_wp2
  go_loopw [8] (fun i W => ∃ m : Nat, i = .int .i64 m ∧ m ≤ n ∧ W = w) (fun i _ => n - (intOf i).toNat)
  case atStart => exact ⟨0, rfl, Nat.zero_le _, rfl⟩
  case round =>
    obtain ⟨m, rfl, hm, rfl⟩ := hrel
    by_cases hmn : m < n
    · have hmz : (m : Int) < (n : Int) := by omega
      have hml : m < s.l.length := by rw [HL.out]; exact hmn
      obtain ⟨g, rfl, hE⟩ := HC.out.el m s.l[m] (List.getElem?_eq_getElem hml)
      have e0 := hE.e0
      have hne : ¬ ((s.l[m].id : Int) = (id : Int)) := fun e => HN.out _ (List.getElem_mem hml) (by omega)
      generalize (s.l[m].id : Int) = k at *
      clear hE
      go_wp2
      go_roundw
      case rel => exact ⟨m + 1, by go_num, by omega, by trivial⟩
      case measure => simp [intOf]; omega
    · have hmz : ¬ (m : Int) < (n : Int) := by omega
      go_wp2
      go_ret2
      exact ⟨rfl, rfl⟩
set_option maxHeartbeats 1000000 in
theorem rfind_some (b : Nat) (s : Xt) (a : Option Addr) (cap ow id : Nat) (w : World) (h : RtC w b s a cap) (pre post : List Ex) (x : Ex) (hl : s.l = pre ++ x :: post) (hp : ∀ y ∈ pre, y.id ≠ id) (hx : x.id = id) (r : Int × Int) (hr : r = if x.ow = ow then ((pre.length : Int), 0) else (0, 7)) :
    Calls Tryd.prog 68 #[.pointer (some ⟨b, 0, none⟩), .int .u8 ow, .int .u32 id] w fun e w' => e = .returned (.tuple #[.int .i64 r.1, .int .i64 r.2]) ∧ w' = w := by
  have HC := Hid3.mk h
  have c1 := h.c1
  obtain ⟨n, hln⟩ : ∃ n, s.l.length = n := ⟨_, rfl⟩
  have HL := Hid3.mk hln
  have hn24 : n ≤ 24 := by rw [← hln]; exact h.n
  have hpn : pre.length < n := by rw [← hln, hl]; simp
  have HP : Hid3 (∀ m (hm : m < pre.length), s.l[m]? = some pre[m] ∧ pre[m].id ≠ id) := ⟨fun m hm => ⟨by rw [hl, List.getElem?_append_left hm]; exact List.getElem?_eq_getElem hm, hp _ (List.getElem_mem hm)⟩⟩
  have HX : Hid3 (s.l[pre.length]? = some x) := ⟨by rw [hl]; simp⟩
  rw [hln] at c1
  have HR := Hid3.mk hr
  clear h hp hln hl hr
  go_enter Tryd.func68, Tryd.ntmps68
  go_wp2
  go_loopw [8] (fun i W => ∃ m : Nat, i = .int .i64 m ∧ m ≤ pre.length ∧ W = w) (fun i _ => pre.length - (intOf i).toNat)
  case atStart => exact ⟨0, rfl, Nat.zero_le _, rfl⟩
  case round =>
    obtain ⟨m, rfl, hm, rfl⟩ := hrel
    have hmz : (m : Int) < (n : Int) := by omega
    by_cases hmn : m < pre.length
    · obtain ⟨h1, h2⟩ := HP.out m hmn
      obtain ⟨g, rfl, hE⟩ := HC.out.el m _ h1
      have e0 := hE.e0
      have hne : ¬ ((pre[m].id : Int) = (id : Int)) := fun e => h2 (by omega)
      generalize (pre[m].id : Int) = k at *
      clear hE h1 h2
      go_wp2
      go_roundw
      case rel => exact ⟨m + 1, by go_num, by omega, by trivial⟩
      case measure => simp [intOf]; omega
    · have hme : m = pre.length := by omega
      have hX := HX.out
      rw [← hme] at hX
      obtain ⟨g, rfl, hE⟩ := HC.out.el m _ hX
      have e0 := hE.e0
      have e3 := hE.e3
      have HM := Hid3.mk hme
      subst hx
      clear hE hX hmn hpn hm
      by_cases ho : x.ow = ow
      · have HO := Hid3.mk ho
        have ho' : ((x.ow : Int) != (ow : Int)) = false := by rw [bne_eq_false_iff_eq]; omega
        clear ho hme
        go_wp2
        go_ret2
        refine ⟨?_, rfl⟩
        rw [HR.out, if_pos HO.out, HM.out]
        rfl
      · have HO := Hid3.mk ho
        have ho' : ((x.ow : Int) != (ow : Int)) = true := by rw [bne_iff_ne]; omega
        clear ho hme
        go_wp2
        go_ret2
        refine ⟨?_, rfl⟩
        rw [HR.out, if_neg HO.out]
        rfl
end Go.Proofs.YtmepnnlmhlndmaaDoor
namespace Go.Proofs.YtmepnnlmhlndmaaDoor
open Go.RowKit Go.Maps
set_option linter.unusedVariables false
set_option maxRecDepth 100000
theorem belowN5 {B : Nat} {a w : World} (h : Below B a w) (n : Nat) : Below B a (w.drewN n) := h.trans ⟨rfl, rfl, rfl, Nat.le_refl _, fun _ _ => rfl⟩
set_option maxHeartbeats 2000000 in
theorem rfree_yes (b : Nat) (s : Xt) (a : Option Addr) (cap : Nat) (start many : Int) (w : World) (h : RtC w b s a cap) (h0 : 0 ≤ start) (h1 : start ≤ 1000) (h2 : 1 ≤ many) (h3 : many ≤ 1000) (hf : freeX s.l start many) :
    Calls Tryd.prog 58 #[.pointer (some ⟨b, 0, none⟩), .int .i64 start, .int .i64 many] w fun e w' => e = .returned (.bool true) ∧ Below w.heap.size w w' := by
  have HC := Hid3.mk h
  obtain ⟨n, hln⟩ : ∃ n, s.l.length = n := ⟨_, rfl⟩
  have HL := Hid3.mk hln
  have hn24 : n ≤ 24 := by rw [← hln]; exact h.n
  obtain ⟨S, hS⟩ : ∃ S, start + many = S := ⟨_, rfl⟩
  have hw1 : IntKind.i64.wrap (start + many) = S := by rw [IntKind.wrap_i64]; omega
  have HF : Hid3 (∀ m (hm : m < s.l.length), S ≤ (s.l[m].st : Int) ∨ ((s.l[m].st + s.l[m].ln : Nat) : Int) ≤ start) := ⟨fun m hm => by rw [← hS]; exact hf _ (List.getElem_mem hm)⟩
  clear h hf hln hS h0 h1 h2 h3
  go_enter Tryd.func58, Tryd.ntmps58
  go_wp2
  go_loopw [7] (fun i W => ∃ m : Nat, i = .int .i64 m ∧ m ≤ n ∧ Hid3 (Below w.heap.size w W)) (fun i _ => n - (intOf i).toNat)
  case atStart => exact ⟨0, rfl, Nat.zero_le _, ⟨Below.refl _ _⟩⟩
  case round =>
    obtain ⟨m, rfl, hm, HB⟩ := hrel
    have hC := HC.out.low HB.out
    have c1 := hC.c1
    have hbl := hC.l
    rw [HL.out] at c1
    by_cases hmn : m < n
    · have hmz : (m : Int) < (n : Int) := by omega
      have hml : m < s.l.length := by rw [HL.out]; exact hmn
      obtain ⟨g, rfl, hE⟩ := hC.el m s.l[m] (List.getElem?_eq_getElem hml)
      have hg := hE.l
      have hF := HF.out m hml
      have e1 := hE.e1
      have e2 := hE.e2
      have hb := s.l[m].b
      generalize hx : s.l[m] = x at *
      clear hx hC hE
      obtain ⟨E, hE⟩ : ∃ E, (x.st : Int) + (x.ln : Int) = E := ⟨_, rfl⟩
      have hw2 : IntKind.i64.wrap ((x.st : Int) + (x.ln : Int)) = E := by rw [IntKind.wrap_i64]; omega
      by_cases k1 : (x.st : Int) < S
      · have d1 : decide ((x.st : Int) < S) = true := decide_eq_true k1
        have d2 : decide (start < E) = false := decide_eq_false (by omega)
        clear hF k1 hE hb
        go_wp2_with fail
        go_quiet (fail)
        go_wp2
        go_roundw
        case rel => exact ⟨m + 1, by go_num, by omega, ⟨belowN5 HB.out _⟩⟩
        case measure => simp [intOf]; omega
      · have d1 : decide ((x.st : Int) < S) = false := decide_eq_false k1
        clear hF k1 hE hb
        go_wp2_with fail
        go_quiet (fail)
        go_wp2
        go_roundw
        case rel => exact ⟨m + 1, by go_num, by omega, ⟨belowN5 HB.out _⟩⟩
        case measure => simp [intOf]; omega
    · have hmz : ¬ (m : Int) < (n : Int) := by omega
      clear hC
      go_wp2
      go_ret
      exact ⟨rfl, HB.out⟩
theorem free_bad {l : List Ex} {start many : Int} (h : ¬ freeX l start many) : ∃ K x, l[K]? = some x ∧ (x.st : Int) < start + many ∧ start < ((x.st + x.ln : Nat) : Int) ∧ ∀ m (hm : m < l.length), m < K → start + many ≤ (l[m].st : Int) ∨ ((l[m].st + l[m].ln : Nat) : Int) ≤ start := by
  induction l with
  | nil => exact absurd (fun x hx => by cases hx) h
  | cons y r ih =>
    by_cases hy : start + many ≤ (y.st : Int) ∨ ((y.st + y.ln : Nat) : Int) ≤ start
    · have hr : ¬ freeX r start many := fun k => h (fun x hx => by
        rcases List.mem_cons.1 hx with rfl | hx
        · exact hy
        · exact k x hx)
      obtain ⟨K, x, h1, h2, h3, h4⟩ := ih hr
      refine ⟨K + 1, x, by simpa using h1, h2, h3, fun m hm hmK => ?_⟩
      cases m with
      | zero => exact hy
      | succ m => exact h4 m (by simpa using hm) (by omega)
    · exact ⟨0, y, rfl, by omega, by omega, fun m hm hmK => by omega⟩
set_option maxHeartbeats 2000000 in
theorem rfree_no (b : Nat) (s : Xt) (a : Option Addr) (cap : Nat) (start many : Int) (w : World) (h : RtC w b s a cap) (h0 : 0 ≤ start) (h1 : start ≤ 1000) (h2 : 1 ≤ many) (h3 : many ≤ 1000) (hf : ¬ freeX s.l start many) :
    Calls Tryd.prog 58 #[.pointer (some ⟨b, 0, none⟩), .int .i64 start, .int .i64 many] w fun e w' => e = .returned (.bool false) ∧ Below w.heap.size w w' := by
  have HC := Hid3.mk h
  obtain ⟨n, hln⟩ : ∃ n, s.l.length = n := ⟨_, rfl⟩
  have HL := Hid3.mk hln
  have hn24 : n ≤ 24 := by rw [← hln]; exact h.n
  obtain ⟨K, z, hK, hz1, hz2, hall⟩ := free_bad hf
  obtain ⟨S, hS⟩ : ∃ S, start + many = S := ⟨_, rfl⟩
  have hw1 : IntKind.i64.wrap (start + many) = S := by rw [IntKind.wrap_i64]; omega
  have HF : Hid3 (∀ m (hm : m < s.l.length), m < K → S ≤ (s.l[m].st : Int) ∨ ((s.l[m].st + s.l[m].ln : Nat) : Int) ≤ start) := ⟨fun m hm hk => by rw [← hS]; exact hall m hm hk⟩
  have HK := Hid3.mk hK
  have hKn : K < n := by rw [← hln]; exact (List.getElem?_eq_some_iff.1 hK).1
  have HZ : Hid3 ((z.st : Int) < S ∧ start < ((z.st + z.ln : Nat) : Int)) := ⟨by omega, hz2⟩
  clear h hf hln hS h0 h1 h2 h3 hK hz1 hz2 hall
  go_enter Tryd.func58, Tryd.ntmps58
  go_wp2
  go_loopw [7] (fun i W => ∃ m : Nat, i = .int .i64 m ∧ m ≤ K ∧ Hid3 (Below w.heap.size w W)) (fun i _ => n - (intOf i).toNat)
  case atStart => exact ⟨0, rfl, Nat.zero_le _, ⟨Below.refl _ _⟩⟩
  case round =>
    obtain ⟨m, rfl, hm, HB⟩ := hrel
    have hC := HC.out.low HB.out
    have c1 := hC.c1
    have hbl := hC.l
    rw [HL.out] at c1
    have hmn : m < n := by omega
    by_cases hmK : m < K
    · have hmz : (m : Int) < (n : Int) := by omega
      have hml : m < s.l.length := by rw [HL.out]; exact hmn
      obtain ⟨g, rfl, hE⟩ := hC.el m s.l[m] (List.getElem?_eq_getElem hml)
      have hg := hE.l
      have hF := HF.out m hml hmK
      have e1 := hE.e1
      have e2 := hE.e2
      have hb := s.l[m].b
      generalize hx : s.l[m] = x at *
      clear hx hC hE
      obtain ⟨E, hE⟩ : ∃ E, (x.st : Int) + (x.ln : Int) = E := ⟨_, rfl⟩
      have hw2 : IntKind.i64.wrap ((x.st : Int) + (x.ln : Int)) = E := by rw [IntKind.wrap_i64]; omega
      by_cases k1 : (x.st : Int) < S
      · have d1 : decide ((x.st : Int) < S) = true := decide_eq_true k1
        have d2 : decide (start < E) = false := decide_eq_false (by omega)
        clear hF k1 hE hb
        go_wp2_with fail
        go_quiet (fail)
        go_wp2
        go_roundw
        case rel => exact ⟨m + 1, by go_num, by omega, ⟨belowN5 HB.out _⟩⟩
        case measure => simp [intOf]; omega
      · have d1 : decide ((x.st : Int) < S) = false := decide_eq_false k1
        clear hF k1 hE hb
        go_wp2_with fail
        go_quiet (fail)
        go_wp2
        go_roundw
        case rel => exact ⟨m + 1, by go_num, by omega, ⟨belowN5 HB.out _⟩⟩
        case measure => simp [intOf]; omega
    · have hmz : (m : Int) < (n : Int) := by omega
      have hme : m = K := by omega
      have hX := HK.out
      rw [← hme] at hX
      obtain ⟨g, rfl, hE⟩ := hC.el m z hX
      have hg := hE.l
      have e1 := hE.e1
      have e2 := hE.e2
      have hb := z.b
      have hZ := HZ.out
      clear hC hE hX hme hmK
      obtain ⟨E, hE⟩ : ∃ E, (z.st : Int) + (z.ln : Int) = E := ⟨_, rfl⟩
      have hw2 : IntKind.i64.wrap ((z.st : Int) + (z.ln : Int)) = E := by rw [IntKind.wrap_i64]; omega
      have d1 : decide ((z.st : Int) < S) = true := decide_eq_true hZ.1
      have d2 : decide (start < E) = true := decide_eq_true (by omega)
      clear hZ hE hb
      go_wp2_with fail
      go_quiet (fail)
      go_wp2
      go_ret
      exact ⟨rfl, belowN5 HB.out _⟩
theorem lnS_snoc : ∀ (l : List Ex) (x : Ex), lnS (l ++ [x]) = lnS l + x.ln
  | [], x => by simp [lnS]
  | y :: r, x => by rw [List.cons_append, lnS, lnS, lnS_snoc r x]; omega
theorem lnS_app : ∀ (a b : List Ex), lnS (a ++ b) = lnS a + lnS b
  | [], b => by simp [lnS]
  | y :: r, b => by rw [List.cons_append, lnS, lnS, lnS_app r b]; omega
set_option maxHeartbeats 2000000 in
theorem rleft_any (B b : Nat) (s : Xt) (w : World) (hr : Rt B w b s) :
    Calls Tryd.prog 35 #[.pointer (some ⟨b, 0, none⟩)] w fun e w' => e = .returned (.int .i64 ((s.N : Int) - (lnS s.l : Int))) ∧ w' = w := by
  obtain ⟨a, cap, h⟩ := hr.c
  have hsum := hr.ok.sum
  have hN := hr.ok.n2
  have HC := Hid3.mk h
  obtain ⟨n, hln⟩ : ∃ n, s.l.length = n := ⟨_, rfl⟩
  have HL := Hid3.mk hln
  have hn24 : n ≤ 24 := by rw [← hln]; exact h.n
  have HS : Hid3 (∀ m, lnS (s.l.take m) ≤ s.N) := ⟨fun m => by
    have := lnS_app (s.l.take m) (s.l.drop m)
    rw [List.take_append_drop] at this
    omega⟩
  have c0 := h.c0
  have c1 := h.c1
  rw [hln] at c1
  have HNN : Hid3 (s.N ≤ 64) := ⟨hN⟩
  clear h hln hr hsum hN
  go_enter Tryd.func35, Tryd.ntmps35
  go_wp2
  go_loopw [3, 4] (fun v i W => ∃ m : Nat, i = .int .i64 m ∧ m ≤ n ∧ v = .int .i64 ((s.N : Int) - (lnS (s.l.take m) : Int)) ∧ W = w) (fun _ i _ => n - (intOf i).toNat)
  case atStart => exact ⟨0, rfl, Nat.zero_le _, by simp [lnS], rfl⟩
  case round =>
    obtain ⟨m, rfl, hm, rfl, rfl⟩ := hrel
    by_cases hmn : m < n
    · have hmz : (m : Int) < (n : Int) := by omega
      have hml : m < s.l.length := by rw [HL.out]; exact hmn
      obtain ⟨g, rfl, hE⟩ := HC.out.el m s.l[m] (List.getElem?_eq_getElem hml)
      have e2 := hE.e2
      have h1 := HS.out m
      have h2 := HS.out (m + 1)
      have hNN := HNN.out
      have e : lnS (s.l.take (m + 1)) = lnS (s.l.take m) + s.l[m].ln := by rw [List.take_succ_eq_append_getElem hml, lnS_snoc]
      have HE2 := Hid3.mk e
      rw [e] at h2
      have hw : IntKind.i64.wrap ((s.N : Int) - (lnS (s.l.take m) : Int) - (s.l[m].ln : Int)) = (s.N : Int) - (lnS (s.l.take m) : Int) - (s.l[m].ln : Int) := by rw [IntKind.wrap_i64]; omega
      clear hE e h1 h2 hNN
      go_wp2
      go_roundw
      case rel => exact ⟨m + 1, by go_num, by omega, by rw [HE2.out]; congr 1; omega, by trivial⟩
      case measure => simp [intOf]; omega
    · have hmz : ¬ (m : Int) < (n : Int) := by omega
      have HM : Hid3 (s.l.take m = s.l) := ⟨List.take_of_length_le (by rw [HL.out]; omega)⟩
      go_wp2
      go_ret
      refine ⟨?_, rfl⟩
      rw [HM.out]
      rfl
end Go.Proofs.YtmepnnlmhlndmaaDoor
namespace Go.Proofs.YtmepnnlmhlndmaaDoor
open Go.RowKit Go.Maps
set_option linter.unusedVariables false
set_option maxRecDepth 100000
set_option maxHeartbeats 4000000 in
theorem rat_any (b : Nat) (s : Xt) (a : Option Addr) (cap : Nat) (sec : Int) (w : World) (h0 : RtC w b s a cap) :
    Calls Tryd.prog 29 #[.pointer (some ⟨b, 0, none⟩), .int .i64 sec] w fun e w' => e = .returned (.tuple #[exV (fstO (s.l.find? (hasS sec))).1, .bool (fstO (s.l.find? (hasS sec))).2]) ∧ Below w.heap.size w w' := by
  have h := h0.low (below_new w (.cells #[.int .u32 0, .int .i64 0, .int .i64 0, .int .u8 0, .string ⟨#[]⟩, .int .u8 0] 36))
  have hD := Cl.new w 36 [.int .u32 0, .int .i64 0, .int .i64 0, .int .u8 0, .string ⟨#[]⟩, .int .u8 0]
  have HB0 : Hid3 (Below w.heap.size w (w.alloc (.cells #[.int .u32 0, .int .i64 0, .int .i64 0, .int .u8 0, .string ⟨#[]⟩, .int .u8 0] 36))) := ⟨below_new w _⟩
  have HD := Hid3.mk hD
  obtain ⟨D, hDe⟩ : ∃ D, w.heap.size = D := ⟨_, rfl⟩
  have HD0 : Hid3 (w.heap.size = D) := ⟨hDe⟩
  have HC := Hid3.mk h
  obtain ⟨n, hln⟩ : ∃ n, s.l.length = n := ⟨_, rfl⟩
  have HL := Hid3.mk hln
  have hn24 : n ≤ 24 := by rw [← hln]; exact h.n
  clear h h0 hln hD
  go_enter Tryd.func29, Tryd.ntmps29
  go_wp2
  rw [hDe] at HD
  clear hDe
  generalize (w.alloc (.cells #[.int .u32 0, .int .i64 0, .int .i64 0, .int .u8 0, .string ⟨#[]⟩, .int .u8 0] 36)) = W1 at *
  go_loopw [6] (fun i W => ∃ m : Nat, i = .int .i64 m ∧ m ≤ n ∧ Hid3 (Below W1.heap.size W1 W) ∧ Hid3 (∀ y ∈ s.l.take m, hasS sec y = false)) (fun i _ => n - (intOf i).toNat)
  case atStart => exact ⟨0, rfl, Nat.zero_le _, ⟨Below.refl _ _⟩, ⟨by simp⟩⟩
  case round =>
    obtain ⟨m, rfl, hm, HB, HN⟩ := hrel
    have hC := HC.out.low HB.out
    have c1 := hC.c1
    have hbl := hC.l
    rw [HL.out] at c1
    by_cases hmn : m < n
    · have hmz : (m : Int) < (n : Int) := by omega
      have hml : m < s.l.length := by rw [HL.out]; exact hmn
      obtain ⟨g, rfl, hE⟩ := hC.el m s.l[m] (List.getElem?_eq_getElem hml)
      have hg := hE.l
      have e0 := hE.e0
      have e1 := hE.e1
      have e2 := hE.e2
      have e3 := hE.e3
      have e4 := hE.e4
      have e5 := hE.e5
      have hb := s.l[m].b
      have HF : Hid3 (hasS sec s.l[m] = true → s.l.find? (hasS sec) = some s.l[m]) := ⟨fun hh => findx_at (q := s.l.take m) (t := s.l.drop (m + 1)) (by rw [← List.take_succ_eq_append_getElem hml, List.take_append_drop]) HN.out hh⟩
      have HG : Hid3 (hasS sec s.l[m] = false → ∀ y ∈ s.l.take (m + 1), hasS sec y = false) := ⟨fun hh y hy => by
        rw [List.take_succ_eq_append_getElem hml] at hy
        rcases List.mem_append.1 hy with hy | hy
        · exact HN.out y hy
        · rw [List.mem_singleton.1 hy]; exact hh⟩
      have HXE : Hid3 (∀ V, Below W1.heap.size W1 V → ExM V g m s.l[m]) := ⟨fun V hV => by
        obtain ⟨g', e, hh⟩ := (HC.out.low hV).el m s.l[m] (List.getElem?_eq_getElem hml)
        cases e
        exact hh⟩
      generalize hx : s.l[m] = x at *
      clear hx hC hE
      obtain ⟨E, hE⟩ : ∃ E, (x.st : Int) + (x.ln : Int) = E := ⟨_, rfl⟩
      have hw2 : IntKind.i64.wrap ((x.st : Int) + (x.ln : Int)) = E := by rw [IntKind.wrap_i64]; omega
      by_cases k1 : (x.st : Int) ≤ sec
      · by_cases k2 : sec < E
        · have d1 : decide ((x.st : Int) ≤ sec) = true := decide_eq_true k1
          have d2 : decide (sec < E) = true := decide_eq_true k2
          have HH : Hid3 (s.l.find? (hasS sec) = some x) := ⟨HF.out (by unfold hasS; rw [decide_eq_true k1, decide_eq_true (by omega)]; rfl)⟩
          have HVE : Hid3 ((∀ V, Below W1.heap.size W1 V → V.cell? ⟨g, m * 6, none⟩ = some (.int .u32 x.id)) ∧ ∀ V, Below W1.heap.size W1 V → V.cell? ⟨g, m * 6 + 1, none⟩ = some (.int .i64 x.st) ∧ V.cell? ⟨g, m * 6 + 2, none⟩ = some (.int .i64 x.ln) ∧ V.cell? ⟨g, m * 6 + 3, none⟩ = some (.int .u8 x.ow) ∧ V.cell? ⟨g, m * 6 + 4, none⟩ = some (.string x.nm) ∧ V.cell? ⟨g, m * 6 + 5, none⟩ = some (.int .u8 x.rt.toNat)) := ⟨⟨fun V hV => (HXE.out V hV).e0, fun V hV => ⟨(HXE.out V hV).e1, (HXE.out V hV).e2, (HXE.out V hV).e3, (HXE.out V hV).e4, (HXE.out V hV).e5⟩⟩⟩
          clear HF HG k1 k2 hE hb HXE
          go_wp2_with fail
          go_quiet (fail)
          clear e0 e1 e2 e3 e4 e5 c1 hbl hg
          have hBq := belowN5 HB.out nq
          generalize wr.drewN nq = V at *
          have hC := HC.out.low hBq
          have c1 := hC.c1
          have hbl := hC.l
          rw [HL.out] at c1
          have hD2 := HD.out.below hBq
          have e0 : V.cell? ⟨g, m * 6, none⟩ = _ := HVE.out.1 V hBq
          have e1 : V.cell? ⟨g, m * 6 + 1, none⟩ = _ := (HVE.out.2 V hBq).1
          have e2 : V.cell? ⟨g, m * 6 + 2, none⟩ = _ := (HVE.out.2 V hBq).2.1
          have e3 : V.cell? ⟨g, m * 6 + 3, none⟩ = _ := (HVE.out.2 V hBq).2.2.1
          have e4 : V.cell? ⟨g, m * 6 + 4, none⟩ = _ := (HVE.out.2 V hBq).2.2.2.1
          have e5 : V.cell? ⟨g, m * 6 + 5, none⟩ = _ := (HVE.out.2 V hBq).2.2.2.2
          have HB3 : Hid3 (Below w.heap.size w V) := ⟨HB0.out.trans (hBq.mono HB0.out.size)⟩
          clear hC hBq
          have y0 := hD2.cell 0
          have y1 := hD2.cell 1
          have y2 := hD2.cell 2
          have y3 := hD2.cell 3
          have y4 := hD2.cell 4
          have y5 := hD2.cell 5
          have f0 := hD2.thaw 0
          have f1 := hD2.thaw 1
          have f2 := hD2.thaw 2
          have f3 := hD2.thaw 3
          have f4 := hD2.thaw 4
          have f5 := hD2.thaw 5
          have hl2 := hD2.lt
          have HS := Hid3.mk hD2
          simp only [List.getElem?_cons_zero, List.getElem?_cons_succ] at y0 y1 y2 y3 y4 y5
          clear hD2
          go_wp2
          have q2 := Cl.fill (a0 := .int .u32 x.id) (a1 := .int .i64 x.st) (a2 := .int .i64 x.ln) (a3 := .int .u8 x.ow) (a4 := .string x.nm) (a5 := .int .u8 x.rt.toNat) HS.out
          have qa := (Apart.refl (fun k => k = D) V).fill (i := D) (a0 := .int .u32 x.id) (a1 := .int .i64 x.st) (a2 := .int .i64 x.ln) (a3 := .int .u8 x.ow) (a4 := .string x.nm) (a5 := .int .u8 x.rt.toNat) rfl
          have hB4 := HB3.out.trans (qa.below w.heap.size (fun k e => by have := HD0.out; omega) HB3.out.size)
          generalize ((((((V.setCell ⟨D, 0, none⟩ (.int .u32 x.id)).setCell ⟨D, 1, none⟩ (.int .i64 x.st)).setCell ⟨D, 2, none⟩ (.int .i64 x.ln)).setCell ⟨D, 3, none⟩ (.int .u8 x.ow)).setCell ⟨D, 4, none⟩ (.string x.nm)).setCell ⟨D, 5, none⟩ (.int .u8 x.rt.toNat)) = W3 at *
          have k0 := q2.cell 0
          have k1 := q2.cell 1
          have k2 := q2.cell 2
          have k3 := q2.cell 3
          have k4 := q2.cell 4
          have k5 := q2.cell 5
          simp only [List.getElem?_cons_zero, List.getElem?_cons_succ] at k0 k1 k2 k3 k4 k5
          refine bodyPost_ret (v := .tuple #[.agg #[.int .u32 x.id, .int .i64 x.st, .int .i64 x.ln, .int .u8 x.ow, .string x.nm, .int .u8 x.rt.toNat], .bool true]) (by simp [results, Tryd.f29, go_sem, k0, k1, k2, k3, k4, k5]) rfl ?_
          refine ⟨?_, hB4⟩
          rw [HH.out]
          rfl
        · have d1 : decide ((x.st : Int) ≤ sec) = true := decide_eq_true k1
          have d2 : decide (sec < E) = false := decide_eq_false k2
          have HN2 := Hid3.mk (HG.out (by unfold hasS; rw [decide_eq_true k1, decide_eq_false (by omega)]; rfl))
          clear HF HG k1 k2 hE hb
          go_wp2_with fail
          go_quiet (fail)
          go_wp2
          go_roundw
          case rel => exact ⟨m + 1, by go_num, by omega, ⟨belowN5 HB.out _⟩, HN2⟩
          case measure => simp [intOf]; omega
      · have d1 : decide ((x.st : Int) ≤ sec) = false := decide_eq_false k1
        have HN2 := Hid3.mk (HG.out (by unfold hasS; rw [decide_eq_false k1]; rfl))
        clear HF HG k1 hE hb
        go_wp2_with fail
        go_quiet (fail)
        go_wp2
        go_roundw
        case rel => exact ⟨m + 1, by go_num, by omega, ⟨belowN5 HB.out _⟩, HN2⟩
        case measure => simp [intOf]; omega
    · have hmz : ¬ (m : Int) < (n : Int) := by omega
      have HM : Hid3 (s.l.find? (hasS sec) = none) := ⟨by
        have := HN.out
        rw [List.take_of_length_le (by rw [HL.out]; omega)] at this
        exact findx_no this⟩
      clear hC
      · have hD2 := HD.out.below HB.out
        have HB3 : Hid3 (Below w.heap.size w wr) := ⟨HB0.out.trans (HB.out.mono HB0.out.size)⟩
        have y0 := hD2.cell 0
        have y1 := hD2.cell 1
        have y2 := hD2.cell 2
        have y3 := hD2.cell 3
        have y4 := hD2.cell 4
        have y5 := hD2.cell 5
        have f0 := hD2.thaw 0
        have f1 := hD2.thaw 1
        have f2 := hD2.thaw 2
        have f3 := hD2.thaw 3
        have f4 := hD2.thaw 4
        have f5 := hD2.thaw 5
        have hl2 := hD2.lt
        have HS := Hid3.mk hD2
        simp only [List.getElem?_cons_zero, List.getElem?_cons_succ] at y0 y1 y2 y3 y4 y5
        clear hD2
        go_wp2
        have q2 := Cl.fill (a0 := .int .u32 0) (a1 := .int .i64 0) (a2 := .int .i64 0) (a3 := .int .u8 0) (a4 := .string ⟨#[]⟩) (a5 := .int .u8 0) HS.out
        have qa := (Apart.refl (fun k => k = D) wr).fill (i := D) (a0 := .int .u32 0) (a1 := .int .i64 0) (a2 := .int .i64 0) (a3 := .int .u8 0) (a4 := .string ⟨#[]⟩) (a5 := .int .u8 0) rfl
        have hB4 := HB3.out.trans (qa.below w.heap.size (fun k e => by have := HD0.out; omega) HB3.out.size)
        generalize ((((((wr.setCell ⟨D, 0, none⟩ (.int .u32 0)).setCell ⟨D, 1, none⟩ (.int .i64 0)).setCell ⟨D, 2, none⟩ (.int .i64 0)).setCell ⟨D, 3, none⟩ (.int .u8 0)).setCell ⟨D, 4, none⟩ (.string ⟨#[]⟩)).setCell ⟨D, 5, none⟩ (.int .u8 0)) = W3 at *
        have k0 := q2.cell 0
        have k1 := q2.cell 1
        have k2 := q2.cell 2
        have k3 := q2.cell 3
        have k4 := q2.cell 4
        have k5 := q2.cell 5
        simp only [List.getElem?_cons_zero, List.getElem?_cons_succ] at k0 k1 k2 k3 k4 k5
        refine bodyPost_ret (v := .tuple #[.agg #[.int .u32 0, .int .i64 0, .int .i64 0, .int .u8 0, .string ⟨#[]⟩, .int .u8 0], .bool false]) (by simp [results, Tryd.f29, go_sem, k0, k1, k2, k3, k4, k5]) rfl ?_
        refine ⟨?_, hB4⟩
        rw [HM.out]
        rfl
end Go.Proofs.YtmepnnlmhlndmaaDoor
namespace Go.Proofs.YtmepnnlmhlndmaaDoor
open Go.RowKit Go.Maps
set_option linter.unusedVariables false
set_option maxRecDepth 100000
set_option maxHeartbeats 2000000 in
theorem rroom_any (B b : Nat) (s : Xt) (many : Int) (w : World) (hr : Rt B w b s) :
    Calls Tryd.prog 30 #[.pointer (some ⟨b, 0, none⟩), .int .i64 many] w fun e w' => ∃ r c : Int, e = .returned (.tuple #[.int .i64 r, .int .i64 c]) ∧ (many < 1 ∧ r = 0 ∧ c = 2 ∨ 1 ≤ many ∧ RoomX s many r c) ∧ Below w.heap.size w w' := by
  by_cases hm1 : many < 1
  · clear hr
    go_enter Tryd.func30, Tryd.ntmps30
    go_wp2
    go_ret2
    exact ⟨0, 2, rfl, .inl ⟨hm1, rfl, rfl⟩, Below.refl _ _⟩
  · obtain ⟨a, cap, h⟩ := hr.c
    have HC := Hid3.mk h
    have hN := hr.ok.n2
    have HM1 : Hid3 (1 ≤ many) := ⟨by omega⟩
    obtain ⟨N, hNe⟩ : ∃ N, s.N = N := ⟨_, rfl⟩
    have HN := Hid3.mk hNe
    rw [hNe] at hN
    have c0 := h.c0
    have hbl := h.l
    rw [hNe] at c0
    clear hr h hNe
    go_enter Tryd.func30, Tryd.ntmps30
    go_wp2
    clear c0
    go_loopw [6] (fun i W => ∃ m : Nat, i = .int .i64 m ∧ m ≤ N ∧ Hid3 (Below w.heap.size w W) ∧ Hid3 (∀ i : Int, 0 ≤ i → i < m → i + many ≤ (N : Int) → ¬ freeX s.l i many)) (fun i _ => N - (intOf i).toNat)
    case atStart => exact ⟨0, rfl, Nat.zero_le _, ⟨Below.refl _ _⟩, ⟨fun i h1 h2 => by omega⟩⟩
    case round =>
      obtain ⟨m, rfl, hm, HB, HF⟩ := hrel
      have hC := HC.out.low HB.out
      have c0 := hC.c0
      rw [HN.out] at c0
      have hw : IntKind.i64.wrap ((N : Int) - (m : Int)) = (N : Int) - (m : Int) := by rw [IntKind.wrap_i64]; omega
      by_cases hmn : m < N
      · have hmz : (m : Int) < (N : Int) := by omega
        by_cases hk : many ≤ (N : Int) - (m : Int)
        · have hm1' := HM1.out
          by_cases hf : freeX s.l m many
          · have cF := rfree_yes b s a cap m many wr hC (by omega) (by omega) (by omega) (by omega) hf
            have HR : Hid3 (RoomX s many m 0) := ⟨.inl ⟨rfl, by omega, hf, by rw [HN.out]; omega, fun i h1 h2 h3 => HF.out i h1 h2 (by rw [HN.out] at h3; exact h3)⟩⟩
            clear hC hf hm1' hmn
            go_wp2_with fail
            refine cF.mono ?_
            rintro e V ⟨rfl, hB⟩
            have HB2 := Hid3.mk (HB.out.trans (hB.mono HB.out.size))
            clear hB cF
            go_wp2
            go_ret2
            exact ⟨m, 0, rfl, .inr ⟨HM1.out, HR.out⟩, HB2.out⟩
          · have cF := rfree_no b s a cap m many wr hC (by omega) (by omega) (by omega) (by omega) hf
            have HF2 : Hid3 (∀ i : Int, 0 ≤ i → i < ((m + 1 : Nat) : Int) → i + many ≤ (N : Int) → ¬ freeX s.l i many) := ⟨fun i h1 h2 h3 => by
              by_cases hi : i = m
              · rw [hi]; exact hf
              · exact HF.out i h1 (by omega) h3⟩
            clear hC hf hm1'
            go_wp2_with fail
            refine cF.mono ?_
            rintro e V ⟨rfl, hB⟩
            have HB2 := Hid3.mk (HB.out.trans (hB.mono HB.out.size))
            clear hB cF
            go_wp2
            go_roundw
            case rel => exact ⟨m + 1, by go_num, by omega, HB2, HF2⟩
            case measure => simp [intOf]; omega
        · have HR : Hid3 (RoomX s many 0 4) := ⟨.inr ⟨rfl, rfl, fun i h1 h2 hfx => by
            rw [HN.out] at h2
            by_cases hi : i < m
            · exact HF.out i h1 hi h2 hfx
            · omega⟩⟩
          clear hC
          go_wp2
          go_ret2
          first | exact ⟨0, 4, rfl, Or.inr (And.intro HM1.out HR.out), HB.out⟩ | exact ⟨0, 4, rfl, Or.inr HR.out, HB.out⟩ | exact ⟨0, 4, rfl, HR.out, HB.out⟩
      · have hmz : ¬ (m : Int) < (N : Int) := by omega
        have HR : Hid3 (RoomX s many 0 4) := ⟨.inr ⟨rfl, rfl, fun i h1 h2 hfx => by
          rw [HN.out] at h2
          have := HM1.out
          by_cases hi : i < m
          · exact HF.out i h1 hi h2 hfx
          · omega⟩⟩
        clear hC
        go_wp2
        go_ret2
        first | exact ⟨0, 4, rfl, Or.inr (And.intro HM1.out HR.out), HB.out⟩ | exact ⟨0, 4, rfl, Or.inr HR.out, HB.out⟩ | exact ⟨0, 4, rfl, HR.out, HB.out⟩
/-- A slice lists extents. -/
def XL (w : World) (u : Value) (L : List Ex) : Prop := (u = .slice none 0 0 ∧ L = []) ∨ ∃ ad cap, u = .slice (some ad) L.length cap ∧ ∀ j x, (exsC L)[j]? = some x → w.cell? (ad.add j) = some x
theorem xr_cells {w w' : World} {g : Nat} {L : List Ex} {cur : Array Value} (h : w.heap[g]? = some (.cells cur 36 (0, 0))) (h4 : ∀ (j : Nat) (u : Value), (exsC L)[j]? = some u → cur.toList[j]? = some u) : ∀ j x, (exsC L)[j]? = some x → w.cell? ((⟨g, 0, none⟩ : Addr).add j) = some x := by
  intro j x hj
  rw [show ((⟨g, 0, none⟩ : Addr).add j) = ⟨g, j, none⟩ by simp [Addr.add]; omega, Lib.cell_of_heap h]
  have := h4 j x hj
  simpa using this
theorem XL.of {w : World} {v : Value} {L : List Ex} (h : XR w v L) : XL w v L := by
  rcases h with h | ⟨g, cap, cur, h1, h2, h3, h4⟩
  · exact .inl h
  · exact .inr ⟨_, cap, h1, xr_cells (w' := w) h2 h4⟩
theorem XL.below {w w' : World} {u : Value} {L : List Ex} (h : XL w u L) (k : Below w.heap.size w w') : XL w' u L := by
  rcases h with h | ⟨ad, cap, h1, h2⟩
  · exact .inl h
  · exact .inr ⟨ad, cap, h1, fun j x hj => (k.cell (World.block_lt_of_cell? w _ (h2 j x hj))).trans (h2 j x hj)⟩
theorem XL.stay {w w' : World} {u : Value} {L : List Ex} {X : Nat → Prop} (h : XL w u L) (k : Apart X w w') (hx : ∀ g, u.ownBlock = some g → ¬ X g) : XL w' u L := by
  rcases h with h | ⟨ad, cap, rfl, h2⟩
  · exact .inl h
  · refine .inr ⟨ad, cap, rfl, fun j x hj => ?_⟩
    have hc := h2 j x hj
    have hlt := World.block_lt_of_cell? w _ hc
    have hb : (ad.add j).block = ad.block := by unfold Addr.add; split <;> simp_all
    rw [← hc]
    have := k.block (ad.add j).block hlt (by rw [hb]; exact hx _ rfl)
    simp only [World.cell?, this]
theorem xl_one (w : World) (x : Ex) : XL (w.alloc (.cells #[.int .u32 x.id, .int .i64 x.st, .int .i64 x.ln, .int .u8 x.ow, .string x.nm, .int .u8 x.rt.toNat] 36)) (.slice (some ⟨w.heap.size, 0, none⟩) 1 1) [x] := by
  refine .inr ⟨_, 1, rfl, fun j y hj => ?_⟩
  rw [exsC_one1] at hj
  exact new_cellsX w (exCs x) 36 j y hj
theorem run_appX (w : World) (ty : TypeId) (B : Nat) (v : Value) (M : List Ex) (u : Value) (L : List Ex) (hown : w.ownsRow B 36 6 v M.length (exsC M)) (hu : XL w u L) (hl : M.length + L.length ≤ 2000) (hB : B ≤ w.heap.size) :
    ∃ v' w', (Builtin.append_ #[30, 30] ty #[v, u]).run Tryd.prog w = .ok v' w' ∧ w'.ownsRow B 36 6 v' (M ++ L).length (exsC (M ++ L)) ∧ w.grownBy w' v.ownBlock ∧ (v'.ownBlock = v.ownBlock ∨ v'.ownBlock = some w.heap.size) := by
  obtain ⟨i, hi, hz, hs, hb⟩ := ipartsX infoE
  rcases hu with ⟨rfl, rfl⟩ | ⟨ad, cap, rfl, hcell⟩
  · refine ⟨v, w, run_append_owned_none (P := Tryd.prog) w B 30 ty 36 i 6 Tryd.underlying30 hi v M.length (exsC M) hown, by rw [List.append_nil]; exact hown, ⟨rfl, rfl, rfl, Nat.le_refl _, fun _ _ _ => rfl⟩, .inl rfl⟩
  · obtain ⟨v', w', h1, h2, h3, _, h5⟩ := run_append_own_at (P := Tryd.prog) w B 30 ty 36 i _ 6 56 Tryd.underlying30 hi hz hs hb rfl (by omega) v M.length (exsC M) hown ad L.length cap (exsC L) (exsC_len L) hcell (exsC_one L) (by unfold maxLen; omega) (by omega) hB
    exact ⟨v', w', h1, by rw [List.length_append, exsC_append]; exact h2, h3, h5⟩
theorem wp_appX {o : Oper} {a : Act} {K : Act → World → Prop} {Q : Exit → Act → World → Prop} (w : World) (s x : Operand)
    (ho : o.op = .call { callee := .builtin .append, args := #[s, x], argTypes := #[30, 30] })
    (B : Nat) (v : Value) (M : List Ex) (u : Value) (L : List Ex) (hs : a.eval s = v) (hx : a.eval x = u) (hown : w.ownsRow B 36 6 v M.length (exsC M)) (hu : XL w u L) (hl : M.length + L.length ≤ 2000) (hB : B ≤ w.heap.size)
    (h : ∀ v' w', w'.ownsRow B 36 6 v' (M ++ L).length (exsC (M ++ L)) → w.grownBy w' v.ownBlock → (v'.ownBlock = v.ownBlock ∨ v'.ownBlock = some w.heap.size) → K (a.put o.dst v') w') : o.wp Tryd.prog a w K Q := by
  obtain ⟨v', w', hr, h2, h3, h4⟩ := run_appX w o.type B v M u L hown hu hl hB
  unfold Oper.wp execOp
  simp only [ho, resolve, invoke, builtin, Sem.run_bind, Sem.run_pure, Result.andThen_ok, List.map_toArray, List.map_cons, List.map_nil, hs, hx, hr]
  exact h v' w' h2 h3 h4
theorem wpList_appX {w : World} {ops : Array Oper} {rest : List Oper} {o : Oper} {a : Act} {Q : Exit → Act → World → Prop} (hgd : o.guard = none) (s x : Operand)
    (ho : o.op = .call { callee := .builtin .append, args := #[s, x], argTypes := #[30, 30] })
    (B : Nat) (v : Value) (M : List Ex) (u : Value) (L : List Ex) (hs : a.eval s = v) (hx : a.eval x = u) (hown : w.ownsRow B 36 6 v M.length (exsC M)) (hu : XL w u L) (hl : M.length + L.length ≤ 2000) (hB : B ≤ w.heap.size)
    (h : ∀ v' w', w'.ownsRow B 36 6 v' (M ++ L).length (exsC (M ++ L)) → w.grownBy w' v.ownBlock → (v'.ownBlock = v.ownBlock ∨ v'.ownBlock = some w.heap.size) → wpList Tryd.prog ops Q rest (a.put o.dst v') w') : wpList Tryd.prog ops Q (o :: rest) a w :=
  wpList_plain hgd fun _ hK => wp_appX w s x ho B v M u L hs hx hown hu hl hB fun v' w' h2 h3 h4 => hK _ _ (h v' w' h2 h3 h4)
theorem step_appX {w : World} {ops : Array Oper} {o : Oper} {a : Act} {K : Act → World → Prop} {Q : Exit → Act → World → Prop} {E : Prop} (fl : Operand) (fv : Value) (hfl : a.eval fl = fv) (hgd : o.guard = none) (s x : Operand)
    (ho : o.op = .call { callee := .builtin .append, args := #[s, x], argTypes := #[30, 30] })
    (B : Nat) (v : Value) (M : List Ex) (u : Value) (L : List Ex) (hs : a.eval s = v) (hx : a.eval x = u) (hown : w.ownsRow B 36 6 v M.length (exsC M)) (hu : XL w u L) (hl : M.length + L.length ≤ 2000) (hB : B ≤ w.heap.size)
    (h : ∀ v' w', w'.ownsRow B 36 6 v' (M ++ L).length (exsC (M ++ L)) → w.grownBy w' v.ownBlock → (v'.ownBlock = v.ownBlock ∨ v'.ownBlock = some w.heap.size) → K (a.put o.dst v') w') :
    if Region.wanted o (yielded ops a.tmps) = true then Oper.wp Tryd.prog o a w K Q else E := by
  have hw : Region.wanted o (yielded ops a.tmps) = true := by simp [Region.wanted, hgd]
  rw [if_pos hw]
  exact wp_appX w s x ho B v M u L hs hx hown hu hl hB h
theorem own_noneX (w : World) (B : Nat) (hB : B ≤ w.heap.size) : (w.alloc (.cells #[] 36)).ownsRow B 36 6 (.slice (some ⟨w.heap.size, 0, none⟩) ([] : List Ex).length 0) ([] : List Ex).length (exsC []) :=
  World.ownsRow_made w #[] 0 hB (by unfold maxLen; omega) rfl
set_option maxHeartbeats 2000000 in
theorem rlist_any (b : Nat) (s : Xt) (B : Nat) (w : World) (hr : Rt B w b s) :
    Calls Tryd.prog 34 #[.pointer (some ⟨b, 0, none⟩)] w fun e w' => ∃ v, e = .returned v ∧ w'.ownsRow w.heap.size 36 6 v s.l.length (exsC s.l) ∧ Below w.heap.size w w' := by
  obtain ⟨v, h1, h2⟩ := hr.ex
  have hlen := hr.ok.len
  obtain ⟨a, cap, hv, _⟩ := h2.cells
  subst hv
  have c1 := h1.cell 1
  simp only [List.getElem?_cons_zero, List.getElem?_cons_succ] at c1
  have hb := h1.lt
  have HX : Hid3 (XL (w.alloc (.cells #[] 36)) (.slice a s.l.length cap) s.l) := ⟨(XL.of h2).below (below_new w _)⟩
  have HO := Hid3.mk (own_noneX w w.heap.size (Nat.le_refl _))
  have HB : Hid3 (Below w.heap.size w (w.alloc (.cells #[] 36))) := ⟨below_new w _⟩
  clear hr h1 h2
  go_enter Tryd.func34, Tryd.ntmps34
  go_wp2_with (at_builtin; refine wpList_appX rfl _ _ rfl w.heap.size (.slice (some ⟨w.heap.size, 0, none⟩) 0 0) [] (.slice a s.l.length cap) s.l rfl rfl HO.out HX.out (by simp; omega) HB.out.size ?_; intro va Wa owna growa ata; have HQ : Hid3 (Wa.ownsRow w.heap.size 36 6 va s.l.length (exsC s.l) ∧ Below w.heap.size w Wa) := ⟨owna, HB.out.grown growa HB.out.size (fun g e => by have e' : w.heap.size = g := Option.some.inj e; omega)⟩; clear owna growa ata)
  go_ret
  exact ⟨_, rfl, HQ.out⟩
end Go.Proofs.YtmepnnlmhlndmaaDoor
namespace Go.Proofs.YtmepnnlmhlndmaaDoor
open Go.RowKit Go.Maps
set_option linter.unusedVariables false
set_option maxRecDepth 100000
set_option maxHeartbeats 2000000 in
theorem rowned_any (B b : Nat) (s : Xt) (o : Nat) (w : World) (hr : Rt B w b s) :
    Calls Tryd.prog 33 #[.pointer (some ⟨b, 0, none⟩), .int .u8 o] w fun e w' => ∃ v, e = .returned v ∧ w'.ownsRow w.heap.size 32 1 v (ownL o s.l).length ((ownL o s.l).map u32V) ∧ Below w.heap.size w w' := by
  obtain ⟨a, cap, h⟩ := hr.c
  have HC := Hid3.mk h
  obtain ⟨n, hln⟩ : ∃ n, s.l.length = n := ⟨_, rfl⟩
  have HL := Hid3.mk hln
  have hn24 : n ≤ 24 := by rw [← hln]; exact h.n
  obtain ⟨i0, hi0, hz0, hz1, hz2⟩ := ipartsX infoU
  clear h hln hr
  go_enter Tryd.func33, Tryd.ntmps33
  go_wp2
  go_loopw [5, 6] (fun v i wr => ∃ m : Nat, m ≤ n ∧ i = .int .i64 m ∧ wr.ownsRow w.heap.size 32 1 v (ownL o (s.l.take m)).length ((ownL o (s.l.take m)).map u32V) ∧ Below w.heap.size w wr) (fun _ i _ => n - (intOf i).toNat)
  case atStart => exact ⟨0, by omega, rfl, World.ownsRow_nil _ _ _ _, Below.refl _ _⟩
  case round =>
    obtain ⟨m, hm, rfl, hown, hB⟩ := hrel
    obtain ⟨a0, cap0, rfl⟩ := slice_ofX hown
    have hsb := hB.size
    have hC := HC.out.low hB
    have c1 := hC.c1
    have hbl := hC.l
    rw [HL.out] at c1
    have HO := Hid3.mk hown
    have HB := Hid3.mk hB
    by_cases hmn : m < n
    · have hmz : (m : Int) < (n : Int) := by omega
      have hml : m < s.l.length := by rw [HL.out]; exact hmn
      obtain ⟨g, rfl, hE⟩ := hC.el m s.l[m] (List.getElem?_eq_getElem hml)
      have e0 := hE.e0
      have e3 := hE.e3
      have hg := hE.l
      have hll := ownL_len o (s.l.take m)
      have htl : (s.l.take m).length ≤ 24 := by rw [List.length_take]; omega
      have htk : s.l.take (m + 1) = s.l.take m ++ [s.l[m]] := List.take_succ_eq_append_getElem hml
      by_cases ho : s.l[m].ow = o
      · have HX : Hid3 (ownL o (s.l.take (m + 1)) = ownL o (s.l.take m) ++ [s.l[m].id]) := ⟨by rw [htk]; exact ownL_yes _ _ _ ho⟩
        have ho' : (s.l[m].ow : Int) = (o : Int) := by omega
        generalize hx : s.l[m] = x at *
        have hNC := new_cellsX wr [u32V x.id] 32
        unfold u32V at hNC
        clear hE hC hown hx htk ho hB
        have HQ : Hid3 (∀ v' w1, w1.ownsRow w.heap.size 32 1 v' ((ownL o (s.l.take m)).length + 1) ((ownL o (s.l.take m)).map u32V ++ [u32V x.id]) → (wr.alloc (.cells #[.int .u32 x.id] 32)).grownBy w1 (Value.ownBlock (.slice a0 (ownL o (s.l.take m)).length cap0)) → w1.ownsRow w.heap.size 32 1 v' (ownL o (s.l.take (m + 1))).length ((ownL o (s.l.take (m + 1))).map u32V) ∧ Below w.heap.size w w1) := ⟨fun v' w1 h1 h2 => by
          rw [HX.out, List.length_append, List.map_append]
          refine ⟨h1, (HB.out.alloc HB.out.size _).grown h2 (by simp; omega) (fun k e => ?_)⟩
          rcases HO.out.2 with ⟨hv0, _⟩ | ⟨g', cap', cur', hv0, hg', _⟩
          · rw [hv0] at e; simp [Value.ownBlock] at e
          · rw [hv0] at e
            have : g' = k := by simpa [Value.ownBlock] using e
            omega⟩
        go_wp2_with (at_builtin; refine wpList_append_own _ rfl _ _ 63 rfl w.heap.size 32 i0 (.int .u32 0) 1 4 Tryd.underlying63 hi0 hz0 hz1 hz2 rfl (by decide) _ _ _ rfl (HO.out.alloc _) ⟨wr.heap.size, 0, none⟩ 1 1 [u32V x.id] rfl rfl hNC (by simp [Value.oneCell', u32V]) (by unfold maxLen; omega) (by omega) (by simp; omega) ?_; intro v' w1 h1 h2 _; have HR := Hid3.mk (HQ.out v' w1 h1 h2); clear h1 h2)
        go_roundw
        case rel => exact ⟨m + 1, by omega, by go_num, HR.out.1, HR.out.2⟩
        case measure => simp [intOf]; omega
      · have HX : Hid3 (ownL o (s.l.take (m + 1)) = ownL o (s.l.take m)) := ⟨by rw [htk]; exact ownL_no _ _ _ ho⟩
        have ho' : ¬ (s.l[m].ow : Int) = (o : Int) := by omega
        generalize hx : s.l[m] = x at *
        clear hE hC hown hx htk ho hB
        go_wp2
        go_roundw
        case rel => exact ⟨m + 1, by omega, by go_num, by rw [HX.out]; exact HO.out, HB.out⟩
        case measure => simp [intOf]; omega
    · have hmz : ¬ (m : Int) < (n : Int) := by omega
      have HM : Hid3 (s.l.take m = s.l) := ⟨List.take_of_length_le (by rw [HL.out]; omega)⟩
      clear hC hown hB
      go_wp2
      go_ret
      have := HO.out
      rw [HM.out] at this
      refine ⟨.slice a0 (ownL o s.l).length cap0, ?_, this, HB.out⟩
      show Ending.returned (.slice a0 (ownL o (s.l.take m)).length cap0) = _
      rw [HM.out]
/-- A slice of numbers, as it is read. -/
def UR (w : World) (v : Value) (l : List Nat) : Prop := ∃ a cap, v = .slice a l.length cap ∧ ∀ (m x : Nat), l[m]? = some x → ∃ g, a = some ⟨g, 0, none⟩ ∧ w.cell? ⟨g, m, none⟩ = some (.int .u32 x) ∧ g < w.heap.size
theorem UR.of_own {B : Nat} {w : World} {v : Value} {l : List Nat} (h : w.ownsRow B 32 1 v l.length (l.map u32V)) : UR w v l := by
  rcases h.2 with ⟨h1, h2⟩ | ⟨g, cap, cur, rfl, _, hb, hk, hm, _, htk⟩
  · have := List.eq_nil_of_length_eq_zero h2
    subst this
    exact ⟨none, 0, h1, fun m x h => by cases h⟩
  · refine ⟨_, cap, rfl, fun m x hm2 => ⟨g, rfl, ?_, (Array.getElem?_eq_some_iff.1 hb).1⟩⟩
    have hml : m < l.length := (List.getElem?_eq_some_iff.1 hm2).1
    have : (l.map u32V)[m]? = some (u32V x) := by rw [List.getElem?_map, hm2]; rfl
    rw [← htk, List.getElem?_take, if_pos (by omega)] at this
    rw [Lib.cell_of_heap hb]
    simpa [u32V] using this
theorem UR.low {w w' : World} {v : Value} {l : List Nat} (h : UR w v l) (k : Below w.heap.size w w') : UR w' v l := by
  obtain ⟨a, cap, h1, h2⟩ := h
  refine ⟨a, cap, h1, fun m x hm => ?_⟩
  obtain ⟨g, e1, e2, e3⟩ := h2 m x hm
  exact ⟨g, e1, (k.cell (p := ⟨g, m, none⟩) e3).trans e2, Nat.lt_of_lt_of_le e3 k.size⟩
set_option maxHeartbeats 1000000 in
theorem sameids_any (v v' : Value) (l : List Nat) (w : World) (h : UR w v l) (h' : UR w v' l) (hl : l.length ≤ 1000) : Calls Tryd.prog 31 #[v, v'] w fun r w' => r = .returned (.bool true) ∧ Below w.heap.size w w' := by
  obtain ⟨a, cap, rfl, hc⟩ := h
  obtain ⟨a', cap', rfl, hc'⟩ := h'
  have HC := Hid3.mk hc
  have HC' := Hid3.mk hc'
  obtain ⟨N, hN⟩ : ∃ N, l.length = N := ⟨_, rfl⟩
  have HN := Hid3.mk hN
  rw [hN] at hl ⊢
  clear hc hc' hN
  go_enter Tryd.func31, Tryd.ntmps31
  go_wp2
  go_loopw [5] (fun i W => ∃ m : Nat, i = .int .i64 m ∧ m ≤ N ∧ Hid3 (Below w.heap.size w W)) (fun i _ => N - (intOf i).toNat)
  case atStart => exact ⟨0, rfl, Nat.zero_le _, ⟨Below.refl _ _⟩⟩
  case round =>
    obtain ⟨m, rfl, hm, HB⟩ := hrel
    by_cases hmN : m < N
    · have hmz : (m : Int) < (N : Int) := by omega
      have hml : m < l.length := by rw [HN.out]; exact hmN
      obtain ⟨g, rfl, h1, h2⟩ := HC.out m l[m] (List.getElem?_eq_getElem hml)
      obtain ⟨g', rfl, h1', h2'⟩ := HC'.out m l[m] (List.getElem?_eq_getElem hml)
      have c0 := (HB.out.cell (p := ⟨g, m, none⟩) h2).trans h1
      have c0' := (HB.out.cell (p := ⟨g', m, none⟩) h2').trans h1'
      have hg := Nat.lt_of_lt_of_le h2 HB.out.size
      have hg' := Nat.lt_of_lt_of_le h2' HB.out.size
      generalize l[m] = o at *
      clear h1 h2 h1' h2'
      go_wp2
      go_region
      go_wp2
      go_roundw
      case rel => exact ⟨m + 1, by go_num, by omega, ⟨HB.out.drew⟩⟩
      case measure => simp [intOf]; omega
    · have hmz : ¬ (m : Int) < (N : Int) := by omega
      go_wp2
      go_ret
      exact ⟨rfl, HB.out⟩
theorem eqGuardE : Tryd.prog.eqGuardType Tryd.prog.depth 36 = false := by kernel_rfl
set_option maxHeartbeats 2000000 in
theorem eqCk (k : Nat) (w : World) (n m : ByteArray) (r q : Int) : (Op.equalIn (k + 1 + 1) 34 (.agg #[.string n, .int .u8 r]) (.agg #[.string m, .int .u8 q])).run Tryd.prog w = .ok (n.toList == m.toList && r == q) w := by
  rw [Op.equalIn]
  simp only [Sem.run_bind, run_underlying Tryd.underlying34, Result.andThen_ok]
  cases h0 : (n.toList == m.toList) <;> by_cases h1 : r = q <;> simp [go_sem, h0, h1]
set_option maxHeartbeats 4000000 in
theorem eqE (w : World) (i s l o : Int) (n : ByteArray) (r : Int) : (Op.equalIn 10000 36 (.agg #[.int .u32 i, .int .i64 s, .int .i64 l, .int .u8 o, .string n, .int .u8 r]) (.agg #[.int .u32 i, .int .i64 s, .int .i64 l, .int .u8 o, .string n, .int .u8 r])).run Tryd.prog w = .ok true w := by
  have hC := fun W => eqCk (9996 + 1) W n n r r
  show (Op.equalIn (9996 + 1 + 1 + 1 + 1) 36 _ _).run Tryd.prog w = _
  rw [Op.equalIn]
  simp only [Sem.run_bind, run_underlying Tryd.underlying36, Result.andThen_ok]
  simp [go_sem, hC]
set_option maxHeartbeats 1000000 in
theorem same_any (v v' : Value) (L : List Ex) (w : World) (h : XR w v L) (h' : XR w v' L) (hl : L.length ≤ 1000) : Calls Tryd.prog 16 #[v, v'] w fun r w' => r = .returned (.bool true) ∧ Below w.heap.size w w' := by
  obtain ⟨a, cap, rfl, hc⟩ := h.cells
  obtain ⟨a', cap', rfl, hc'⟩ := h'.cells
  have HC := Hid3.mk hc
  have HC' := Hid3.mk hc'
  have eG := eqGuardE
  obtain ⟨N, hN⟩ : ∃ N, L.length = N := ⟨_, rfl⟩
  have HN := Hid3.mk hN
  rw [hN] at hl ⊢
  clear h h' hc hc' hN
  go_enter Tryd.func16, Tryd.ntmps16
  go_wp2
  go_loopw [5] (fun i W => ∃ m : Nat, i = .int .i64 m ∧ m ≤ N ∧ Hid3 (Below w.heap.size w W)) (fun i _ => N - (intOf i).toNat)
  case atStart => exact ⟨0, rfl, Nat.zero_le _, ⟨Below.refl _ _⟩⟩
  case round =>
    obtain ⟨m, rfl, hm, HB⟩ := hrel
    by_cases hmN : m < N
    · have hmz : (m : Int) < (N : Int) := by omega
      have hml : m < L.length := by rw [HN.out]; exact hmN
      obtain ⟨g, rfl, hA0⟩ := HC.out m L[m] (List.getElem?_eq_getElem hml)
      obtain ⟨g', rfl, hA0'⟩ := HC'.out m L[m] (List.getElem?_eq_getElem hml)
      have hA := hA0.low HB.out
      have hA' := hA0'.low HB.out
      have c0 := hA.e0
      have c1 := hA.e1
      have c2 := hA.e2
      have c3 := hA.e3
      have c4 := hA.e4
      have c5 := hA.e5
      have d0 := hA'.e0
      have d1 := hA'.e1
      have d2 := hA'.e2
      have d3 := hA'.e3
      have d4 := hA'.e4
      have d5 := hA'.e5
      have hg := hA.l
      have hg' := hA'.l
      have eM := fun W => eqE W L[m].id L[m].st L[m].ln L[m].ow L[m].nm L[m].rt.toNat
      generalize L[m] = o at *
      clear hA hA' hA0 hA0'
      go_wp2
      go_region
      go_wp2
      go_roundw
      case rel => exact ⟨m + 1, by go_num, by omega, ⟨HB.out.drew⟩⟩
      case measure => simp [intOf]; omega
    · have hmz : ¬ (m : Int) < (N : Int) := by omega
      go_wp2
      go_ret
      exact ⟨rfl, HB.out⟩
end Go.Proofs.YtmepnnlmhlndmaaDoor
