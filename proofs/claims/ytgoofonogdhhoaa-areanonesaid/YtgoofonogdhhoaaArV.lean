/- Each call by one contract; both areas, side by side. -/
import Derived.Test.YtgoofonogdhhoaaArU
namespace Go.Proofs.Ytgoofonogdhhoaa
open Go.RowKit Go.Maps
set_option linter.unusedVariables false
set_option maxRecDepth 100000
/-- A kind, if it is one. -/
def fk (u : Int) : Option (Fin 5) := if h : 0 ≤ u ∧ u < 5 then some ⟨u.toNat, by omega⟩ else none
theorem fk_cases (u : Int) (h0 : 0 ≤ u) : (∃ k : Fin 5, u = (k.1 : Int) ∧ fk u = some k) ∨ (5 ≤ u ∧ fk u = none) := by
  by_cases h : 0 ≤ u ∧ u < 5
  · refine .inl ⟨⟨u.toNat, by omega⟩, by show u = ((u.toNat : Nat) : Int); omega, ?_⟩
    unfold fk
    rw [dif_pos h]
  · refine .inr ⟨by omega, ?_⟩
    unfold fk
    rw [dif_neg h]
def enE (u : Int) : Int := match fk u with
  | none => 2
  | some _ => 0
def enQ (u v : Int) (q : Ar) : Ar := match fk u with
  | none => q
  | some k => entQ k v q
def upE (u : Int) (q : Ar) : Int := match fk u with
  | none => 2
  | some k => readyE k q
def uQ (u v : Int) (q : Ar) : Ar := match fk u with
  | none => q
  | some k => if readyE k q = 0 then upQ k v q else q
def retE (q : Ar) : Int := if q.kp = [] then 9 else 0
def retQ (q : Ar) : Ar := match q.kp.getLast? with
  | none => q
  | some t => popQ q.kp.dropLast t q
theorem ready0 {k : Fin 5} {q : Ar} (ok : q.Ok) (h : readyE k q = 0) : q.al = true ∧ (q.en k).isSome = true ∧ q.kp.length < 4 := by
  unfold readyE at h
  split at h
  · rename_i h1
    split at h
    · rename_i h2
      split at h
      · omega
      · rename_i h3
        exact ⟨h1, h2, by have := ok.1; omega⟩
    · omega
  · omega
theorem ret_cases (q : Ar) : (q.kp = [] ∧ retE q = 9 ∧ retQ q = q) ∨ ∃ r t, q.kp = r ++ [t] ∧ retE q = 0 ∧ retQ q = popQ r t q := by
  rcases List.eq_nil_or_concat q.kp with h | ⟨r, t, h⟩
  · exact .inl ⟨h, by rw [retE, if_pos h], by rw [retQ, h]; rfl⟩
  · rw [List.concat_eq_append] at h
    refine .inr ⟨r, t, h, by rw [retE, if_neg (by rw [h]; simp)], ?_⟩
    rw [retQ, h]
    simp
theorem dentry_any (B b : Nat) (q : Ar) (u v : Int) (w : World) (h : Ac B w b q) (h0 : 0 ≤ u) : Calls Try.prog 20 #[.pointer (some ⟨b, 0, none⟩), .int .u8 u, .int .u16 v] w fun r w' => r = .returned (.int .i64 (enE u)) ∧ AStp B w w' b (enQ u v q) := by
  unfold enE enQ
  rcases fk_cases u h0 with ⟨k, rfl, he⟩ | ⟨hb, he⟩
  · rw [he]
    exact entry_ok B b q k v w h
  · rw [he]
    refine (entry_bad b u v w hb).mono ?_
    rintro r w' ⟨rfl, rfl⟩
    exact ⟨rfl, AStp.same h (Below.refl _ _)⟩
theorem rdentry_any (B b : Nat) (q : Ar) (u v : Int) (w : World) (h : Rr B w b q) (h0 : 0 ≤ u) : Calls Try.prog 40 #[.pointer (some ⟨b, 0, none⟩), .int .u8 u, .int .u16 v] w fun r w' => r = .returned (.int .i64 (enE u)) ∧ RStp B w w' b (enQ u v q) := by
  unfold enE enQ
  rcases fk_cases u h0 with ⟨k, rfl, he⟩ | ⟨hb, he⟩
  · rw [he]
    exact rentry_ok B b q k v w h
  · rw [he]
    refine (rentry_bad b u v w hb).mono ?_
    rintro r w' ⟨rfl, rfl⟩
    exact ⟨rfl, RStp.same h (Below.refl _ _)⟩
theorem below_eq {w w' : World} (h : w' = w) : Below w.heap.size w w' := by subst h; exact Below.refl _ _
theorem dup_any (B b : Nat) (q : Ar) (u v : Int) (w : World) (h : Ac B w b q) (h0 : 0 ≤ u) : Calls Try.prog 15 #[.pointer (some ⟨b, 0, none⟩), .int .u8 u, .int .u16 v] w fun r w' => r = .returned (.int .i64 (upE u q)) ∧ AStp B w w' b (uQ u v q) := by
  unfold upE uQ
  rcases fk_cases u h0 with ⟨k, rfl, he⟩ | ⟨hb, he⟩
  · rw [he]
    by_cases hz : readyE k q = 0
    · simp only [hz, if_true]
      obtain ⟨h1, h2, h3⟩ := ready0 h.ok hz
      exact upcall_go B b q k v w h h1 h2 h3
    · simp only [if_neg hz]
      refine (upcall_no B b q k v w h hz).mono ?_
      rintro r w' ⟨rfl, hw⟩
      exact ⟨rfl, AStp.same h hw⟩
  · rw [he]
    refine (upcall_bad b u v w hb).mono ?_
    rintro r w' ⟨rfl, hw⟩
    exact ⟨rfl, AStp.same h hw⟩
theorem rdup_any (B b : Nat) (q : Ar) (u v : Int) (w : World) (h : Rr B w b q) (h0 : 0 ≤ u) : Calls Try.prog 41 #[.pointer (some ⟨b, 0, none⟩), .int .u8 u, .int .u16 v] w fun r w' => r = .returned (.int .i64 (upE u q)) ∧ RStp B w w' b (uQ u v q) := by
  unfold upE uQ
  rcases fk_cases u h0 with ⟨k, rfl, he⟩ | ⟨hb, he⟩
  · rw [he]
    by_cases hz : readyE k q = 0
    · simp only [hz, if_true]
      obtain ⟨h1, h2, h3⟩ := ready0 h.ok hz
      exact rupcall_go B b q k v w h h1 h2 h3
    · simp only [if_neg hz]
      refine (rupcall_no B b q k v w h hz).mono ?_
      rintro r w' ⟨rfl, hw⟩
      exact ⟨rfl, RStp.same h (below_eq hw)⟩
  · rw [he]
    refine (rupcall_bad b u v w hb).mono ?_
    rintro r w' ⟨rfl, hw⟩
    exact ⟨rfl, RStp.same h (below_eq hw)⟩
theorem dret_any (B b : Nat) (q : Ar)  (w : World) (h : Ac B w b q) : Calls Try.prog 18 #[.pointer (some ⟨b, 0, none⟩)] w fun r w' => r = .returned (.int .i64 (retE q)) ∧ AStp B w w' b (retQ q) := by
  rcases ret_cases q with ⟨hk, e1, e2⟩ | ⟨r, t, hk, e1, e2⟩
  · rw [e1, e2]
    refine (ret_none B b q w h hk).mono ?_
    rintro r w' ⟨rfl, hw⟩
    exact ⟨rfl, AStp.same h hw⟩
  · rw [e1, e2]
    exact ret_some B b q r t w h hk
theorem rdret_any (B b : Nat) (q : Ar)  (w : World) (h : Rr B w b q) : Calls Try.prog 42 #[.pointer (some ⟨b, 0, none⟩)] w fun r w' => r = .returned (.int .i64 (retE q)) ∧ RStp B w w' b (retQ q) := by
  rcases ret_cases q with ⟨hk, e1, e2⟩ | ⟨r, t, hk, e1, e2⟩
  · rw [e1, e2]
    refine (rret_none B b q w h hk).mono ?_
    rintro r w' ⟨rfl, hw⟩
    exact ⟨rfl, RStp.same h (below_eq hw)⟩
  · rw [e1, e2]
    exact rret_some B b q r t w h hk
/-- Both, side by side. -/
structure Two (B : Nat) (w : World) (ab rb : Nat) (q : Ar) : Prop where
  t : Ac B w ab q
  r : Rr B w rb q
def XT (ab rb : Nat) : Nat → Prop := fun k => XB ab k ∨ XB rb k
structure Mv (B : Nat) (w w' : World) (ab rb : Nat) (q' : Ar) : Prop where
  two : Two B w' ab rb q'
  ap : Apart (XT ab rb) w w'
theorem Two.below {B : Nat} {w w' : World} {ab rb : Nat} {q : Ar} (h : Two B w ab rb q) (k : Below w.heap.size w w') : Two B w' ab rb q := ⟨h.t.below k, h.r.below k⟩
theorem Two.ne {B : Nat} {w : World} {ab rb : Nat} {q : Ar} (h : Two B w ab rb q) : rb ≠ ab := h.r.c.elim fun _ hv => hv.1.ne h.t.c (by decide)
theorem Two.rstay {B : Nat} {w W1 : World} {ab rb : Nat} {q : Ar} (h : Two B w ab rb q) (ap : Apart (XB ab) w W1) : Rr B W1 rb q := h.r.stay ap h.ne h.t.c (by decide)
theorem Mv.mk' {B : Nat} {w W1 w' : World} {ab rb : Nat} {q q' : Ar} (h : Two B w ab rb q) (s : AStp B w W1 ab q') (r : RStp B W1 w' rb q') : Mv B w w' ab rb q' :=
  ⟨⟨s.a.stay r.ap (fun e => h.ne e.symm), r.a⟩, (s.ap.wide (fun _ _ e => .inl e)).trans (r.ap.wide (fun _ _ e => .inr e))⟩
theorem Mv.pre {B : Nat} {a b c : World} {ab rb : Nat} {q' : Ar} (h : Below a.heap.size a b) (k : Mv B b c ab rb q') : Mv B a c ab rb q' := ⟨k.two, (Apart.of_below h).trans k.ap⟩
theorem Mv.post {B : Nat} {a b c : World} {ab rb : Nat} {q' : Ar} (k : Mv B a b ab rb q') (h : Below b.heap.size b c) : Mv B a c ab rb q' := ⟨k.two.below h, k.ap.trans (Apart.of_below h)⟩
theorem Mv.same {B : Nat} {w w' : World} {ab rb : Nat} {q : Ar} (h : Two B w ab rb q) (k : Below w.heap.size w w') : Mv B w w' ab rb q := ⟨h.below k, Apart.of_below k⟩
theorem Mv.below {B : Nat} {w w' : World} {ab rb : Nat} {q q' : Ar} (h : Mv B w w' ab rb q') (k : Two B w ab rb q) (hB : B ≤ w.heap.size) : Below B w w' :=
  h.ap.below B (fun i e => by
    rcases e with e | e
    · have e' : i = ab := e
      exact e' ▸ k.t.g
    · have e' : i = rb := e
      exact e' ▸ k.r.g) hB
theorem below_newd (w : World) (o : Obj) : Below w.heap.size w (w.alloc o).drew := by
  have h := below_new w o
  exact ⟨h.os, h.tape, h.output, h.size, h.block⟩
/-- A deed: kind, kind of an upcall, word, registers. -/
structure Dd where
  k : Int
  u : Int
  wd : Int
  s : Rg
def Dd.vs (d : Dd) : List Value := .int .i64 d.k :: .int .u8 d.u :: .int .u16 d.wd :: d.s.vs
def Dd.V (d : Dd) : Value := .agg d.vs.toArray
def Dd.Ok (d : Dd) : Prop := 0 ≤ d.u
def doQ (d : Dd) (q : Ar) : Ar := if d.k = 0 then enQ d.u d.wd q else if d.k = 1 then uQ d.u d.wd q else if d.k = 2 then retQ q else if d.k = 3 then setQ d.s q else if d.k = 4 then killQ q else q
def playQ : List Dd → Ar → Ar
  | [], q => q
  | d :: l, q => playQ l (doQ d q)
theorem playQ_snoc : ∀ (l : List Dd) (d : Dd) (q : Ar), playQ (l ++ [d]) q = doQ d (playQ l q)
  | [], d, q => rfl
  | x :: l, d, q => playQ_snoc l d (doQ x q)
end Go.Proofs.Ytgoofonogdhhoaa
