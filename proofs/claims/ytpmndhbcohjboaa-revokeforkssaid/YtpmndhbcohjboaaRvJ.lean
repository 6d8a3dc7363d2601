/- The program's Next, Open, Lost, Asked. -/
import Derived.Test.YtpmndhbcohjboaaRvI
namespace Go.Proofs.Ytpmndhbcohjboaa
open Go.RowKit Go.Maps
set_option linter.unusedVariables false
set_option maxRecDepth 100000
/-- A vector by a number. -/
def vAt (x : Int) (q : Rs) : List Int := if h : x.toNat < 6 then (if 0 ≤ x then q.v ⟨x.toNat, h⟩ else []) else []
theorem vAt_bad {x : Int} (q : Rs) (h : 6 ≤ x) : vAt x q = [] := dif_neg (by omega)
theorem vAt_ok (q : Rs) (k : Nat) (h : k < 6) : vAt k q = q.v ⟨k, h⟩ := by
  unfold vAt
  rw [dif_pos (show ((k : Int)).toNat < 6 by omega), if_pos (by omega)]
  rfl
def nextV (x : Int) (q : Rs) : Int := (vAt x q).headD 0
def nextB (x : Int) (q : Rs) : Bool := !(vAt x q).isEmpty
def nextQ (x : Int) (q : Rs) : Rs := ⟨q.d, fun e => if (e.1 : Int) = x then (q.v e).tail else q.v e⟩
theorem next_id {x : Int} {q : Rs} (h : vAt x q = []) : nextQ x q = q := by
  unfold nextQ
  have : (fun e : Fin 6 => if (e.1 : Int) = x then (q.v e).tail else q.v e) = q.v := funext fun e => by
    split
    · rename_i he
      have h2 : vAt x q = q.v e := by
        rw [← he]
        exact vAt_ok q e.1 e.2
      rw [← h2, h]
      rfl
    · rfl
  rw [this]
theorem next_upd {q : Rs} (k : Nat) (hk : k < 6) (V : List Int) (h : (q.v ⟨k, hk⟩).tail = V) : nextQ k q = ⟨q.d, upd q.v ⟨k, hk⟩ V⟩ := by
  unfold nextQ
  congr 1
  funext e
  unfold upd
  by_cases he : e = ⟨k, hk⟩
  · rw [if_pos he, if_pos (by rw [he]), he, h]
  · rw [if_neg he, if_neg (fun i => he (Fin.ext (by have : (e.1 : Int) = (k : Int) := i; exact Int.ofNat.inj this)))]
set_option maxHeartbeats 2000000 in
theorem next_any (B b m : Nat) (av : Value) (vs : Fin 6 → Value) (q : Rs) (x : Int) (hx : 0 ≤ x) (w : World) (h : Bk B w b m av vs q) : Calls Try.prog 19 #[.pointer (some ⟨b, 0, none⟩), .int .u8 x] w fun e w' => e = .returned (.tuple #[.int .u8 (nextV x q), .bool (nextB x q)]) ∧ BStp B w w' b m av vs (nextQ x q) := by
  unfold nextV nextB
  by_cases h6 : 6 ≤ x
  · rw [next_id (vAt_bad q h6), vAt_bad q h6]
    have HS := Hid3.mk (BStp.same h (Below.refl _ w))
    clear h
    go_enter Try.func19, Try.ntmps19
    go_wp2
    go_ret2
    exact ⟨rfl, HS.out⟩
  · obtain ⟨k, rfl⟩ : ∃ k : Nat, x = k := ⟨x.toNat, by omega⟩
    have hk6 : k < 6 := by omega
    have hk7 : (k : Int) < 6 := by omega
    have c1 := h.c.cv ⟨k, hk6⟩
    have hbl := h.c.l
    have hrow := h.v ⟨k, hk6⟩
    have hva := vAt_ok q k hk6
    cases hV : q.v ⟨k, hk6⟩ with
    | nil =>
      rw [hV] at hva hrow
      rw [next_id hva, hva]
      obtain ⟨ak, ck, hck⟩ := hrow.sl
      have cN := next_none b (2 + k) w (.inr ⟨ak, ck, c1.trans (congrArg some hck)⟩)
      have HS := Hid3.mk (BStp.same h (Below.refl _ w))
      clear h hrow hV hva hck c1
      go_enter Try.func19, Try.ntmps19
      go_wp2_with fail
      refine cN.mono ?_
      rintro e W ⟨rfl, rfl⟩
      go_wp2
      go_ret2
      exact ⟨rfl, HS.out⟩
    | cons y r =>
      rw [hV] at hva hrow
      rw [next_upd k hk6 r (by rw [hV]; rfl), hva]
      have cN := next_some B b (2 + k) _ _ (vs ⟨k, hk6⟩) r.length y (uCs r) w h.k (bCs_at av m vs ⟨k, hk6⟩) hrow (hrow.ne_cl h.k (by decide))
      have HS : Hid3 (∀ W, NextR w W B b (2 + k) 60 (bCs av m vs) (vs ⟨k, hk6⟩) r.length (uCs r) → BStp B w W b m av vs ⟨q.d, upd q.v ⟨k, hk6⟩ r⟩) := ⟨fun W hn => by
        obtain ⟨v', g1, g2, g3, g4⟩ := hn.out
        exact h.vset ⟨k, hk6⟩ r g1 g2 (g3.wide (fun _ _ e => .inl e)) (.inr (.inl g4))⟩
      clear h hrow hV hva c1
      go_enter Try.func19, Try.ntmps19
      go_wp2_with fail
      refine cN.mono ?_
      rintro e W ⟨rfl, hn⟩
      have HS2 := Hid3.mk (HS.out W hn)
      clear cN hn HS
      go_wp2
      go_ret2
      exact ⟨rfl, HS2.out⟩
set_option maxHeartbeats 2000000 in
theorem open_any (B b m : Nat) (av : Value) (vs : Fin 6 → Value) (q : Rs) (N : Nat) (w : World) (h : Bk B w b m av vs q) (hO : q.Ok N) : Calls Try.prog 14 #[.pointer (some ⟨b, 0, none⟩)] w fun e w' => ∃ r, e = .returned r ∧ RowO w' w.heap.size 39 3 r q.d.length (aCs q.d) ∧ Below w.heap.size w w' := by
  have hfew := hO.few
  have cL := list_d b B av q.d w h.a (fun W d hd hb => by
    have ht := told_any b m q.d d.1 d.2.1 W ((hb.cell h.c.l).trans h.c.c1) (h.m.below hb)
    rw [dget_mem hO.keys d hd] at ht
    exact ht) (by omega)
  have c0 := h.c.c0
  have hbl := h.c.l
  obtain ⟨ak, ck, rfl⟩ := h.a.sl
  clear h hO
  go_enter Try.func14, Try.ntmps14
  go_wp2_with fail
  refine cL.mono ?_
  rintro e W ⟨r, rfl, hr⟩
  have HR := Hid3.mk hr
  clear hr cL
  go_wp2
  go_ret
  exact ⟨_, rfl, HR.out⟩
set_option maxHeartbeats 2000000 in
theorem lost_any (B b m : Nat) (av : Value) (vs : Fin 6 → Value) (q : Rs) (N : Nat) (x : Int) (hx : 0 ≤ x) (w : World) (h : Bk B w b m av vs q) (hO : q.Ok N) (hN : N ≤ 1000) : Calls Try.prog 18 #[.pointer (some ⟨b, 0, none⟩), .int .u8 x] w fun e w' => ∃ r, e = .returned r ∧ RowO w' w.heap.size 5 1 r (vAt x q).length (uCs (vAt x q)) ∧ Below w.heap.size w w' := by
  by_cases h6 : 6 ≤ x
  · rw [vAt_bad q h6]
    clear h
    go_enter Try.func18, Try.ntmps18
    go_wp2
    go_ret
    exact ⟨_, rfl, RowO.nil _ _ _ _, Below.refl _ _⟩
  · obtain ⟨k, rfl⟩ : ∃ k : Nat, x = k := ⟨x.toNat, by omega⟩
    have hk6 : k < 6 := by omega
    have hk7 : (k : Int) < 6 := by omega
    rw [vAt_ok q k hk6]
    have c1 := h.c.cv ⟨k, hk6⟩
    have hbl := h.c.l
    have cL := list_u B (vs ⟨k, hk6⟩) (q.v ⟨k, hk6⟩) w (h.v ⟨k, hk6⟩) (by have := hO.vec ⟨k, hk6⟩; omega)
    obtain ⟨ak, ck, hck⟩ := (h.v ⟨k, hk6⟩).sl
    rw [hck] at c1 cL
    simp only at c1
    clear h hO hck
    go_enter Try.func18, Try.ntmps18
    go_wp2_with fail
    refine cL.mono ?_
    rintro e W ⟨r, rfl, hr⟩
    have HR := Hid3.mk hr
    clear hr cL
    go_wp2
    go_ret
    exact ⟨_, rfl, HR.out⟩
set_option maxHeartbeats 2000000 in
theorem asked_any (B b m : Nat) (av : Value) (vs : Fin 6 → Value) (q : Rs) (x y : Int) (w : World) (h : Bk B w b m av vs q) : Calls Try.prog 17 #[.pointer (some ⟨b, 0, none⟩), .int .u8 x, .int .u8 y] w fun e w' => e = .returned (.tuple #[.int .i64 ((dget q.d x y).getD 0), .bool (dget q.d x y).isSome]) ∧ w' = w := by
  have hL := dlook_run h.m x y true
  unfold dkV at hL
  simp only [if_true] at hL
  have c1 := h.c.c1
  have hbl := h.c.l
  generalize (dget q.d x y).getD 0 = z at *
  generalize (dget q.d x y).isSome = z2 at *
  clear h
  go_enter Try.func17, Try.ntmps17
  go_wp2_with (refine wpList_look1 rfl 57 _ _ true rfl _ _ _ rfl rfl hL ?_)
  go_ret2
  exact ⟨rfl, rfl⟩
end Go.Proofs.Ytpmndhbcohjboaa
