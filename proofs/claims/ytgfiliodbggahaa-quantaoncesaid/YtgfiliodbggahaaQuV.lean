/- A deed on both. -/
import Derived.Test.YtgfiliodbggahaaQuU
namespace Go.Proofs.Ytgfiliodbggahaa
open Go.RowKit Go.Maps
set_option linter.unusedVariables false
set_option maxRecDepth 100000
structure Hid3 (p : Prop) : Prop where
  out : p
/-- An environment and a place, if they are some. -/
def ep (env place : Int) : Option (Fin 6 × Fin 8) := if h : (0 ≤ env ∧ env < 6) ∧ 0 ≤ place ∧ place < 8 then some (⟨env.toNat, by omega⟩, ⟨place.toNat, by omega⟩) else none
def en (env : Int) : Option (Fin 6) := if h : 0 ≤ env ∧ env < 6 then some ⟨env.toNat, by omega⟩ else none
theorem ep_cases (env place : Int) (h0 : 0 ≤ env) : (∃ (e : Fin 6) (k : Fin 8), env = (e.1 : Int) ∧ place = (k.1 : Int) ∧ ep env place = some (e, k)) ∨ (Bad env place ∧ ep env place = none) := by
  by_cases h : (0 ≤ env ∧ env < 6) ∧ 0 ≤ place ∧ place < 8
  · refine .inl ⟨⟨env.toNat, by omega⟩, ⟨place.toNat, by omega⟩, by show env = ((env.toNat : Nat) : Int); omega, by show place = ((place.toNat : Nat) : Int); omega, ?_⟩
    unfold ep
    rw [dif_pos h]
  · refine .inr ⟨by unfold Bad; omega, ?_⟩
    unfold ep
    rw [dif_neg h]
theorem en_cases (env : Int) (h0 : 0 ≤ env) : (∃ e : Fin 6, env = (e.1 : Int) ∧ en env = some e) ∨ (6 ≤ env ∧ en env = none) := by
  by_cases h : 0 ≤ env ∧ env < 6
  · refine .inl ⟨⟨env.toNat, by omega⟩, by show env = ((env.toNat : Nat) : Int); omega, ?_⟩
    unfold en
    rw [dif_pos h]
  · refine .inr ⟨by omega, ?_⟩
    unfold en
    rw [dif_neg h]
def tkE (env place : Int) (q : Qs) : Int := match ep env place with
  | none => 2
  | some (e, k) => takeE e k q
def tkQ (env place : Int) (q : Qs) : Qs := match ep env place with
  | none => q
  | some (e, k) => takeQ e k q
def gvE (env place to : Int) (q : Qs) : Int := match ep env place, en to with
  | some (e, k), some t => handE e k q
  | _, _ => 2
def gvQ (env place to : Int) (q : Qs) : Qs := match ep env place, en to with
  | some (e, k), some t => handQ e k (some t) q
  | _, _ => q
def dpE (env place : Int) (q : Qs) : Int := match ep env place with
  | none => 2
  | some (e, k) => handE e k q
def dpQ (env place : Int) (q : Qs) : Qs := match ep env place with
  | none => q
  | some (e, k) => handQ e k none q
def otE (env : Int) (q : Qs) : Int := match en env with
  | none => 0
  | some e => outN e.1 q
def otQ (env : Int) (q : Qs) : Qs := match en env with
  | none => q
  | some e => outQ e q
def ovE (env st : Int) : Int := match en env with
  | none => 2
  | some e => if 0 ≤ st ∧ st ≤ 1000 then 0 else 2
def ovQ (env st : Int) (q : Qs) : Qs := match en env with
  | none => q
  | some e => if 0 ≤ st ∧ st ≤ 1000 then overQ e st.toNat q else q
theorem dtake_any (B vb pb : Nat) (q : Qs) (env place : Int) (w : World) (h : Vec B w vb pb q) (hq : q.Ok) (h0 : 0 ≤ env) : Calls Try.prog 15 #[.pointer (some ⟨vb, 0, none⟩), .int .u8 env, .int .i64 place] w fun r w' => r = .returned (.int .i64 (tkE env place q)) ∧ VStp B w w' vb pb (tkQ env place q) := by
  unfold tkE tkQ
  rcases ep_cases env place h0 with ⟨e, k, rfl, rfl, he⟩ | ⟨hb, he⟩
  · rw [he]
    exact take_ok B vb pb q e k w h
  · rw [he]
    refine (take_bad B vb pb q env place w h hb).mono ?_
    rintro r w' ⟨rfl, rfl⟩
    exact ⟨rfl, VStp.same h (Below.refl _ _)⟩
theorem rdtake_any (B rb : Nat) (q : Qs) (env place : Int) (w : World) (h : Rv B w rb q) (hq : q.Ok) (h0 : 0 ≤ env) : Calls Try.prog 35 #[.pointer (some ⟨rb, 0, none⟩), .int .u8 env, .int .i64 place] w fun r w' => r = .returned (.int .i64 (tkE env place q)) ∧ RStp B w w' rb (tkQ env place q) := by
  unfold tkE tkQ
  rcases ep_cases env place h0 with ⟨e, k, rfl, rfl, he⟩ | ⟨hb, he⟩
  · rw [he]
    exact rtake_ok B rb q e k w h
  · rw [he]
    refine (rtake_bad rb env place w hb).mono ?_
    rintro r w' ⟨rfl, rfl⟩
    exact ⟨rfl, RStp.same h (Below.refl _ _)⟩
theorem dgive_any (B vb pb : Nat) (q : Qs) (env place to : Int) (w : World) (h : Vec B w vb pb q) (hq : q.Ok) (h0 : 0 ≤ env) (h1 : 0 ≤ to) : Calls Try.prog 20 #[.pointer (some ⟨vb, 0, none⟩), .int .u8 env, .int .i64 place, .int .u8 to] w fun r w' => r = .returned (.int .i64 (gvE env place to q)) ∧ VStp B w w' vb pb (gvQ env place to q) := by
  unfold gvE gvQ
  rcases ep_cases env place h0 with ⟨e, k, rfl, rfl, he⟩ | ⟨hb, he⟩
  · rcases en_cases to h1 with ⟨t, rfl, ht⟩ | ⟨hb, ht⟩
    · rw [he, ht]
      exact give_ok B vb pb q e t k w h
    · rw [he, ht]
      refine (give_bad B vb pb q _ _ _ w h (.inr hb)).mono ?_
      rintro r w' ⟨rfl, rfl⟩
      exact ⟨rfl, VStp.same h (Below.refl _ _)⟩
  · rw [he]
    refine (give_bad B vb pb q _ _ _ w h (.inl hb)).mono ?_
    rintro r w' ⟨rfl, rfl⟩
    exact ⟨rfl, VStp.same h (Below.refl _ _)⟩
theorem rdgive_any (B rb : Nat) (q : Qs) (env place to : Int) (w : World) (h : Rv B w rb q) (hq : q.Ok) (h0 : 0 ≤ env) (h1 : 0 ≤ to) : Calls Try.prog 36 #[.pointer (some ⟨rb, 0, none⟩), .int .u8 env, .int .i64 place, .int .u8 to] w fun r w' => r = .returned (.int .i64 (gvE env place to q)) ∧ RStp B w w' rb (gvQ env place to q) := by
  unfold gvE gvQ
  rcases ep_cases env place h0 with ⟨e, k, rfl, rfl, he⟩ | ⟨hb, he⟩
  · rcases en_cases to h1 with ⟨t, rfl, ht⟩ | ⟨hb, ht⟩
    · rw [he, ht]
      exact rgive_ok B rb q e t k w h
    · rw [he, ht]
      refine (rgive_bad rb _ _ _ w h0 (.inr hb)).mono ?_
      rintro r w' ⟨rfl, rfl⟩
      exact ⟨rfl, RStp.same h (Below.refl _ _)⟩
  · rw [he]
    refine (rgive_bad rb _ _ _ w h0 (.inl hb)).mono ?_
    rintro r w' ⟨rfl, rfl⟩
    exact ⟨rfl, RStp.same h (Below.refl _ _)⟩
theorem ddrop_any (B vb pb : Nat) (q : Qs) (env place : Int) (w : World) (h : Vec B w vb pb q) (hq : q.Ok) (h0 : 0 ≤ env) : Calls Try.prog 21 #[.pointer (some ⟨vb, 0, none⟩), .int .u8 env, .int .i64 place] w fun r w' => r = .returned (.int .i64 (dpE env place q)) ∧ VStp B w w' vb pb (dpQ env place q) := by
  unfold dpE dpQ
  rcases ep_cases env place h0 with ⟨e, k, rfl, rfl, he⟩ | ⟨hb, he⟩
  · rw [he]
    exact drop_ok B vb pb q e k w h
  · rw [he]
    refine (drop_bad B vb pb q env place w h hb).mono ?_
    rintro r w' ⟨rfl, rfl⟩
    exact ⟨rfl, VStp.same h (Below.refl _ _)⟩
theorem rddrop_any (B rb : Nat) (q : Qs) (env place : Int) (w : World) (h : Rv B w rb q) (hq : q.Ok) (h0 : 0 ≤ env) : Calls Try.prog 37 #[.pointer (some ⟨rb, 0, none⟩), .int .u8 env, .int .i64 place] w fun r w' => r = .returned (.int .i64 (dpE env place q)) ∧ RStp B w w' rb (dpQ env place q) := by
  unfold dpE dpQ
  rcases ep_cases env place h0 with ⟨e, k, rfl, rfl, he⟩ | ⟨hb, he⟩
  · rw [he]
    exact rdrop_ok B rb q e k w h
  · rw [he]
    refine (rdrop_bad rb env place w hb).mono ?_
    rintro r w' ⟨rfl, rfl⟩
    exact ⟨rfl, RStp.same h (Below.refl _ _)⟩
theorem dout_any (B vb pb : Nat) (q : Qs) (env : Int) (w : World) (h : Vec B w vb pb q) (hq : q.Ok) (h0 : 0 ≤ env) : Calls Try.prog 14 #[.pointer (some ⟨vb, 0, none⟩), .int .u8 env] w fun r w' => r = .returned (.int .i64 (otE env q)) ∧ VStp B w w' vb pb (otQ env q) := by
  unfold otE otQ
  rcases en_cases env h0 with ⟨e, rfl, he⟩ | ⟨hb, he⟩
  · rw [he]
    exact out_ok B vb pb q e w h
  · rw [he]
    refine (out_bad vb env w hb).mono ?_
    rintro r w' ⟨rfl, rfl⟩
    exact ⟨rfl, VStp.same h (Below.refl _ _)⟩
theorem rdout_any (B rb : Nat) (q : Qs) (env : Int) (w : World) (h : Rv B w rb q) (hq : q.Ok) (h0 : 0 ≤ env) : Calls Try.prog 38 #[.pointer (some ⟨rb, 0, none⟩), .int .u8 env] w fun r w' => r = .returned (.int .i64 (otE env q)) ∧ RStp B w w' rb (otQ env q) := by
  unfold otE otQ
  rcases en_cases env h0 with ⟨e, rfl, he⟩ | ⟨hb, he⟩
  · rw [he]
    exact rout_ok B rb q e w h
  · rw [he]
    refine (rout_bad rb env w hb).mono ?_
    rintro r w' ⟨rfl, rfl⟩
    exact ⟨rfl, RStp.same h (Below.refl _ _)⟩
theorem dover_any (B vb pb : Nat) (q : Qs) (env place : Int) (w : World) (h : Vec B w vb pb q) (hq : q.Ok) (h0 : 0 ≤ env) : Calls Try.prog 18 #[.pointer (some ⟨vb, 0, none⟩), .int .u8 env, .int .i64 place] w fun r w' => r = .returned (.int .i64 (ovE env place)) ∧ VStp B w w' vb pb (ovQ env place q) := by
  unfold ovE ovQ
  rcases en_cases env h0 with ⟨e, rfl, he⟩ | ⟨hb, he⟩
  · rw [he]
    by_cases hs : 0 ≤ place ∧ place ≤ 1000
    · simp only [if_pos hs]
      have := over_ok B vb pb q e place.toNat w h hq (by omega)
      rw [show ((place.toNat : Nat) : Int) = place by omega] at this
      exact this
    · simp only [if_neg hs]
      refine (over_bad vb _ place w (by omega)).mono ?_
      rintro r w' ⟨rfl, rfl⟩
      exact ⟨rfl, VStp.same h (Below.refl _ _)⟩
  · rw [he]
    refine (over_bad vb _ place w (.inl hb)).mono ?_
    rintro r w' ⟨rfl, rfl⟩
    exact ⟨rfl, VStp.same h (Below.refl _ _)⟩
theorem rdover_any (B rb : Nat) (q : Qs) (env place : Int) (w : World) (h : Rv B w rb q) (hq : q.Ok) (h0 : 0 ≤ env) : Calls Try.prog 39 #[.pointer (some ⟨rb, 0, none⟩), .int .u8 env, .int .i64 place] w fun r w' => r = .returned (.int .i64 (ovE env place)) ∧ RStp B w w' rb (ovQ env place q) := by
  unfold ovE ovQ
  rcases en_cases env h0 with ⟨e, rfl, he⟩ | ⟨hb, he⟩
  · rw [he]
    by_cases hs : 0 ≤ place ∧ place ≤ 1000
    · simp only [if_pos hs]
      have := rover_ok B rb q e place.toNat w h hq (by omega)
      rw [show ((place.toNat : Nat) : Int) = place by omega] at this
      exact this
    · simp only [if_neg hs]
      refine (rover_bad rb _ place w h0 (by omega)).mono ?_
      rintro r w' ⟨rfl, rfl⟩
      exact ⟨rfl, RStp.same h (Below.refl _ _)⟩
  · rw [he]
    refine (rover_bad rb _ place w h0 (.inl hb)).mono ?_
    rintro r w' ⟨rfl, rfl⟩
    exact ⟨rfl, RStp.same h (Below.refl _ _)⟩
/-- Both, side by side. -/
structure Two (B : Nat) (w : World) (vb pb rb : Nat) (q : Qs) : Prop where
  t : Vec B w vb pb q
  r : Rv B w rb q
def XT (vb pb rb : Nat) : Nat → Prop := fun k => XV vb pb k ∨ XR rb k
structure Mv (B : Nat) (w w' : World) (vb pb rb : Nat) (q' : Qs) : Prop where
  two : Two B w' vb pb rb q'
  ap : Apart (XT vb pb rb) w w'
theorem Two.below {B : Nat} {w w' : World} {vb pb rb : Nat} {q : Qs} (h : Two B w vb pb rb q) (k : Below w.heap.size w w') : Two B w' vb pb rb q := ⟨h.t.below k, h.r.below k⟩
theorem Two.nv {B : Nat} {w : World} {vb pb rb : Nat} {q : Qs} (h : Two B w vb pb rb q) : ¬ XV vb pb rb := by
  rintro (e | e)
  · exact h.r.r.ne h.t.v (by decide) e
  · exact h.r.r.ne h.t.p (by decide) e
theorem Two.nr {B : Nat} {w : World} {vb pb rb : Nat} {q : Qs} (h : Two B w vb pb rb q) : ¬ XR rb vb ∧ ¬ XR rb pb := ⟨fun e => h.nv (.inl e.symm), fun e => h.nv (.inr e.symm)⟩
theorem Mv.mk' {B : Nat} {w W1 w' : World} {vb pb rb : Nat} {q q' : Qs} (h : Two B w vb pb rb q) (s : VStp B w W1 vb pb q') (r : RStp B W1 w' rb q') : Mv B w w' vb pb rb q' :=
  ⟨⟨s.vec.stay r.ap h.nr.1 h.nr.2, r.rv⟩, (s.ap.wide (fun _ _ e => .inl e)).trans (r.ap.wide (fun _ _ e => .inr e))⟩
theorem Mv.pre {B : Nat} {a b c : World} {vb pb rb : Nat} {q' : Qs} (h : Below a.heap.size a b) (k : Mv B b c vb pb rb q') : Mv B a c vb pb rb q' := ⟨k.two, (Apart.of_below h).trans k.ap⟩
theorem Mv.post {B : Nat} {a b c : World} {vb pb rb : Nat} {q' : Qs} (k : Mv B a b vb pb rb q') (h : Below b.heap.size b c) : Mv B a c vb pb rb q' := ⟨k.two.below h, k.ap.trans (Apart.of_below h)⟩
theorem Mv.same {B : Nat} {w w' : World} {vb pb rb : Nat} {q : Qs} (h : Two B w vb pb rb q) (k : Below w.heap.size w w') : Mv B w w' vb pb rb q := ⟨h.below k, Apart.of_below k⟩
theorem Mv.below {B : Nat} {w w' : World} {vb pb rb : Nat} {q q' : Qs} (h : Mv B w w' vb pb rb q') (k : Two B w vb pb rb q) (hB : B ≤ w.heap.size) : Below B w w' :=
  h.ap.below B (fun i e => by
    rcases e with (e | e) | e
    · exact e ▸ k.t.gv
    · exact e ▸ k.t.gp
    · have e' : i = rb := e
      exact e' ▸ k.r.g) hB
theorem below_newd (w : World) (o : Obj) : Below w.heap.size w (w.alloc o).drew := by
  have h := below_new w o
  exact ⟨h.os, h.tape, h.output, h.size, h.block⟩
theorem below_drew (w : World) : Below w.heap.size w w.drew := ⟨rfl, rfl, rfl, Nat.le_refl _, fun _ _ => rfl⟩
end Go.Proofs.Ytgfiliodbggahaa
