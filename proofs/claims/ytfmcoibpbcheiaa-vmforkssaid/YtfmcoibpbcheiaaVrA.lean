/- The document's vm in memory; may, fresh, Begin, Map, Unmap. -/
import Derived.Test.YtfmcoibpbcheiaaVmW
import Derived.Test.YtfmcoibpbcheiaaMemU
namespace Go.Proofs.Ytfmcoibpbcheiaa
open Go.RowKit Go.Maps
set_option linter.unusedVariables false
set_option maxRecDepth 100000
structure Ro where
  b : Nat
  m : Nat
  g : Nat
def pgC : Option Int → Int
  | none => 0
  | some f => f + 1
def hsL (h : Fin 6 → Bool) : List Value := [.bool (h 0), .bool (h 1), .bool (h 2), .bool (h 3), .bool (h 4), .bool (h 5)]
def rcs (m : Nat) (h : Fin 6 → Bool) (P : List Value) (cp : Int) : List Value := .pointer (some ⟨m, 0, none⟩) :: (hsL h ++ (P ++ [.int .i64 cp]))
theorem rcs_m (m : Nat) (h : Fin 6 → Bool) (P : List Value) (cp : Int) : (rcs m h P cp)[0]? = some (.pointer (some ⟨m, 0, none⟩)) := rfl
theorem rcs_h (m : Nat) (h : Fin 6 → Bool) (P : List Value) (cp : Int) : ∀ p : Fin 6, (rcs m h P cp)[1 + p.1]? = some (.bool (h p)) := all6 rfl rfl rfl rfl rfl rfl
theorem rcs_seth (m : Nat) (h : Fin 6 → Bool) (P : List Value) (cp : Int) (x : Bool) : ∀ p : Fin 6, (rcs m h P cp).set (1 + p.1) (.bool x) = rcs m (upF h p x) P cp := all6 rfl rfl rfl rfl rfl rfl
theorem rcs_P (m : Nat) (h : Fin 6 → Bool) (P : List Value) (cp : Int) (j : Nat) (hj : j < P.length) : (rcs m h P cp)[7 + j]? = P[j]? := by
  have e : (rcs m h P cp)[7 + j]? = (P ++ [Value.int .i64 cp])[j]? := by
    rw [Nat.add_comm]; rfl
  rw [e, List.getElem?_append_left hj]
theorem rcs_setP (m : Nat) (h : Fin 6 → Bool) (P : List Value) (cp : Int) (j : Nat) (v : Value) (hj : j < P.length) : (rcs m h P cp).set (7 + j) v = rcs m h (P.set j v) cp := by
  have e : (rcs m h P cp).set (7 + j) v = Value.pointer (some ⟨m, 0, none⟩) :: (hsL h ++ (P ++ [Value.int .i64 cp]).set j v) := by
    rw [Nat.add_comm]; rfl
  rw [e, List.set_append_left _ _ hj]
  rfl
theorem rcs_cp (m : Nat) (h : Fin 6 → Bool) (P : List Value) (cp : Int) (hl : P.length = 192) : (rcs m h P cp)[199]? = some (.int .i64 cp) := by
  have e : (rcs m h P cp)[199]? = (P ++ [Value.int .i64 cp])[192]? := rfl
  rw [e, List.getElem?_append_right (by omega), hl]
  rfl
theorem rcs_setcp (m : Nat) (h : Fin 6 → Bool) (P : List Value) (cp x : Int) (hl : P.length = 192) : (rcs m h P cp).set 199 (.int .i64 x) = rcs m h P x := by
  have e : (rcs m h P cp).set 199 (.int .i64 x) = Value.pointer (some ⟨m, 0, none⟩) :: (hsL h ++ (P ++ [Value.int .i64 cp]).set 192 (.int .i64 x)) := rfl
  rw [e, List.set_append_right _ _ (by omega), hl]
  rfl
/-- The pages' cells. -/
def Pgl (P : List Value) (pg : Fin 6 → Int → Option Int) : Prop := P.length = 192 ∧ ∀ (p : Fin 6) (k : Nat), k < 16 → P[p.1 * 32 + k * 2]? = some (.bool (pg p k).isSome) ∧ P[p.1 * 32 + k * 2 + 1]? = some (.int .i64 (pgC (pg p k)))
structure Rb (B : Nat) (w : World) (o : Ro) (N : Nat) (s : Vs) (L : List Int) : Prop where
  g : B ≤ o.b
  gm : B ≤ o.m
  gg : B ≤ o.g
  c : ∃ P, Cl w o.b 79 (rcs o.m s.has P s.cp) ∧ Pgl P s.pg
  m : RMem w o.m o.g (32 * N) L
def XR (o : Ro) (k : Nat) : Prop := k = o.b ∨ k = o.m ∨ k = o.g
theorem Rb.keep {B : Nat} {w w' : World} {o : Ro} {N : Nat} {s : Vs} {L : List Int} {X : Nat → Prop} (h : Rb B w o N s L) (k : Apart X w w') (hx : ∀ j, XR o j → ¬ X j) : Rb B w' o N s L := by
  obtain ⟨P, c, hP⟩ := h.c
  exact ⟨h.g, h.gm, h.gg, ⟨P, c.stay k (hx _ (.inl rfl)), hP⟩, h.m.keep (k.block _ h.m.lt (hx _ (.inr (.inl rfl)))) (k.block _ h.m.ltg (hx _ (.inr (.inr rfl))))⟩
theorem Rb.below {B : Nat} {w w' : World} {o : Ro} {N : Nat} {s : Vs} {L : List Int} (h : Rb B w o N s L) (k : Below w.heap.size w w') : Rb B w' o N s L := h.keep (Apart.of_below (X := fun _ => False) k) (fun _ _ x => x)
theorem Rb.ge {B : Nat} {w : World} {o : Ro} {N : Nat} {s : Vs} {L : List Int} (h : Rb B w o N s L) {k : Nat} (hk : XR o k) : B ≤ k := by
  rcases hk with rfl | rfl | rfl
  · exact h.g
  · exact h.gm
  · exact h.gg
theorem Rb.bm {B : Nat} {w : World} {o : Ro} {N : Nat} {s : Vs} {L : List Int} (h : Rb B w o N s L) : o.b ≠ o.m ∧ o.b ≠ o.g := by
  obtain ⟨P, c, hP⟩ := h.c
  obtain ⟨C, _, e⟩ := h.m.blk
  obtain ⟨r, e2⟩ := h.m.row
  have c' : w.heap[o.b]? = some (.cells _ 79 (0, 0)) := c
  constructor
  · intro x
    rw [← x, c'] at e
    injection e with e
    injection e with _ e
    exact absurd e (by decide)
  · intro x
    rw [← x, c'] at e2
    injection e2 with e2
    injection e2 with _ e2
    exact absurd e2 (by decide)
theorem Rb.hs {B : Nat} {w : World} {o : Ro} {N : Nat} {s : Vs} {L : List Int} (h : Rb B w o N s L) (p : Fin 6) : w.cell? ⟨o.b, 1 + p.1, none⟩ = some (.bool (s.has p)) ∧ w.frozen? ⟨o.b, 1 + p.1, none⟩ = false := by
  obtain ⟨P, c, hP⟩ := h.c
  exact ⟨(c.cell _).trans (rcs_h ..), c.thaw _⟩
theorem Rb.pg {B : Nat} {w : World} {o : Ro} {N : Nat} {s : Vs} {L : List Int} (h : Rb B w o N s L) (p : Fin 6) (k : Nat) (hk : k < 16) : w.cell? ⟨o.b, 7 + p.1 * 32 + k * 2, none⟩ = some (.bool (s.pg p k).isSome) ∧ w.cell? ⟨o.b, 7 + p.1 * 32 + k * 2 + 1, none⟩ = some (.int .i64 (pgC (s.pg p k))) ∧ ∀ j, w.frozen? ⟨o.b, j, none⟩ = false := by
  obtain ⟨P, c, hl, hP⟩ := h.c
  have := p.2
  obtain ⟨h1, h2⟩ := hP p k hk
  refine ⟨?_, ?_, fun j => c.thaw _⟩
  · rw [Nat.add_assoc]
    exact (c.cell _).trans ((rcs_P _ _ _ _ _ (by omega)).trans h1)
  · rw [Nat.add_assoc, Nat.add_assoc]
    have e : p.1 * 32 + (k * 2 + 1) = p.1 * 32 + k * 2 + 1 := by omega
    rw [e]
    exact (c.cell _).trans ((rcs_P _ _ _ _ _ (by omega)).trans h2)
theorem Rb.cp {B : Nat} {w : World} {o : Ro} {N : Nat} {s : Vs} {L : List Int} (h : Rb B w o N s L) : w.cell? ⟨o.b, 199, none⟩ = some (.int .i64 s.cp) ∧ w.cell? ⟨o.b, 0, none⟩ = some (.pointer (some ⟨o.m, 0, none⟩)) := by
  obtain ⟨P, c, hl, hP⟩ := h.c
  exact ⟨(c.cell _).trans (rcs_cp _ _ _ _ hl), (c.cell _).trans (rcs_m ..)⟩
theorem XB.rm {B : Nat} {w : World} {o : Ro} {N : Nat} {s : Vs} {L : List Int} (h : Rb B w o N s L) {w' : World} (k : Apart (XB o.b) w w') : RMem w' o.m o.g (32 * N) L := h.m.keep (k.block _ h.m.lt (fun e => h.bm.1 e.symm)) (k.block _ h.m.ltg (fun e => h.bm.2 e.symm))
/-- A space is there, or not any more. -/
theorem Rb.seth {B : Nat} {w : World} {o : Ro} {N : Nat} {s : Vs} {L : List Int} (h : Rb B w o N s L) (p : Fin 6) (x : Bool) : Rb B (w.setCell ⟨o.b, 1 + p.1, none⟩ (.bool x)) o N { s with has := upF s.has p x } L := by
  have ap : Apart (XB o.b) w (w.setCell ⟨o.b, 1 + p.1, none⟩ (.bool x)) := Apart.at w o.b _ _ rfl
  obtain ⟨P, c, hP⟩ := h.c
  have c1 := c.set (1 + p.1) (.bool x)
  rw [rcs_seth] at c1
  exact ⟨h.g, h.gm, h.gg, ⟨P, c1, hP⟩, XB.rm h ap⟩
theorem pgl_set {P : List Value} {pg : Fin 6 → Int → Option Int} (h : Pgl P pg) (p : Fin 6) (k : Nat) (hk : k < 16) (v : Option Int) : Pgl ((P.set (p.1 * 32 + k * 2) (.bool v.isSome)).set (p.1 * 32 + k * 2 + 1) (.int .i64 (pgC v))) (upF pg p (upI (pg p) k v)) := by
  obtain ⟨hl, hP⟩ := h
  have hp := p.2
  refine ⟨by rw [List.length_set, List.length_set]; exact hl, fun q i hi => ?_⟩
  have hq := q.2
  obtain ⟨a, b⟩ := hP q i hi
  by_cases e : q = p ∧ i = k
  · obtain ⟨rfl, rfl⟩ := e
    have e1 : upF pg q (upI (pg q) (i : Int) v) q (i : Int) = v := by rw [upF_same]; exact if_pos rfl
    rw [e1]
    refine ⟨?_, ?_⟩
    · rw [List.getElem?_set_ne (by omega), List.getElem?_set_self (by omega)]
    · rw [List.getElem?_set_self (by rw [List.length_set]; omega)]
  · have e1 : upF pg p (upI (pg p) (k : Int) v) q (i : Int) = pg q i := by
      by_cases c : q = p
      · subst c
        rw [upF_same]
        exact if_neg (fun x => e ⟨rfl, by omega⟩)
      · rw [upF_other _ _ _ _ c]
    have hne : ¬ (q.1 = p.1 ∧ i = k) := fun x => e ⟨by ext; exact x.1, x.2⟩
    rw [e1]
    refine ⟨?_, ?_⟩
    · rw [List.getElem?_set_ne (by omega), List.getElem?_set_ne (by omega)]
      exact a
    · rw [List.getElem?_set_ne (by omega), List.getElem?_set_ne (by omega)]
      exact b
/-- A page lies elsewhere: both of its cells are stored. -/
theorem Rb.setpg {B : Nat} {w : World} {o : Ro} {N : Nat} {s : Vs} {L : List Int} (h : Rb B w o N s L) (p : Fin 6) (k : Nat) (hk : k < 16) (v : Option Int) : Rb B ((w.setCell ⟨o.b, 7 + p.1 * 32 + k * 2, none⟩ (.bool v.isSome)).setCell ⟨o.b, 7 + p.1 * 32 + k * 2 + 1, none⟩ (.int .i64 (pgC v))) o N { s with pg := upF s.pg p (upI (s.pg p) k v) } L := by
  have ap : Apart (XB o.b) w ((w.setCell ⟨o.b, 7 + p.1 * 32 + k * 2, none⟩ (.bool v.isSome)).setCell ⟨o.b, 7 + p.1 * 32 + k * 2 + 1, none⟩ (.int .i64 (pgC v))) := (Apart.at (X := XB o.b) w o.b _ _ rfl).trans (Apart.at (X := XB o.b) _ o.b _ _ rfl)
  obtain ⟨P, c, hP⟩ := h.c
  have hp := p.2
  have c1 := (c.set (7 + (p.1 * 32 + k * 2)) (.bool v.isSome)).set (7 + (p.1 * 32 + k * 2 + 1)) (.int .i64 (pgC v))
  rw [rcs_setP _ _ _ _ _ _ (by rw [hP.1]; omega), rcs_setP _ _ _ _ _ _ (by rw [List.length_set, hP.1]; omega)] at c1
  have e1 : 7 + (p.1 * 32 + k * 2) = 7 + p.1 * 32 + k * 2 := by omega
  have e2 : 7 + (p.1 * 32 + k * 2 + 1) = 7 + p.1 * 32 + k * 2 + 1 := by omega
  rw [e1, e2] at c1
  exact ⟨h.g, h.gm, h.gg, ⟨_, c1, pgl_set hP p k hk v⟩, XB.rm h ap⟩
theorem Rb.setcp {B : Nat} {w : World} {o : Ro} {N : Nat} {s : Vs} {L : List Int} (h : Rb B w o N s L) (x : Int) : Rb B (w.setCell ⟨o.b, 199, none⟩ (.int .i64 x)) o N { s with cp := x } L := by
  have ap : Apart (XB o.b) w (w.setCell ⟨o.b, 199, none⟩ (.int .i64 x)) := Apart.at w o.b _ _ rfl
  obtain ⟨P, c, hP⟩ := h.c
  have c1 := c.set 199 (.int .i64 x)
  rw [rcs_setcp _ _ _ _ _ hP.1] at c1
  exact ⟨h.g, h.gm, h.gg, ⟨P, c1, hP⟩, XB.rm h ap⟩
theorem prc_has0 (s : Vs) (p : Fin 6) (h : s.has p = true) : prc s p.1 = some p := by
  rcases prc_cases s p.1 with ⟨_, h2⟩ | ⟨q, h1, h2, _⟩
  · rcases h2 with h2 | h2 | ⟨q, h2, h3⟩
    · omega
    · omega
    · have : p = q := by ext; omega
      rw [← this, h] at h3
      cases h3
  · rw [h1]
    congr 1
    ext
    omega
theorem prc_no0 (s : Vs) (p : Fin 6) (h : s.has p = false) : prc s p.1 = none := by
  rcases prc_cases s p.1 with ⟨h1, _⟩ | ⟨q, _, h2, h3⟩
  · exact h1
  · have : p = q := by ext; omega
    rw [← this, h] at h3
    cases h3
def mayE (s : Vs) (pid : Int) : Int := match prc s pid with | none => 5 | some _ => 0
set_option maxHeartbeats 1000000 in
theorem rmay_any (B : Nat) (o : Ro) (N : Nat) (s : Vs) (L : List Int) (pid : Int) (w : World) (h : Rb B w o N s L) : Calls Try.prog 61 #[.pointer (some ⟨o.b, 0, none⟩), .int .i64 pid] w fun r w' => r = .returned (.int .i64 (mayE s pid)) ∧ w' = w := by
  unfold mayE
  rcases prc_cases s pid with ⟨h1, h2⟩ | ⟨p, h1, rfl, h2⟩
  · rw [h1]
    rcases h2 with h2 | h2 | ⟨p, rfl, h2⟩
    · clear h h1
      go_enter Try.func61, Try.ntmps61
      go_wp2
      go_ret
      exact ⟨rfl, rfl⟩
    · have h3 : ¬ pid < 0 := by omega
      clear h h1
      go_enter Try.func61, Try.ntmps61
      go_wp2
      go_ret
      exact ⟨rfl, rfl⟩
    · obtain ⟨c, _⟩ := h.hs p
      rw [h2] at c
      clear h h1 h2
      obtain ⟨p, hp⟩ := p
      have h3 : ¬ (p : Int) < 0 := by omega
      have h4 : ¬ (6 : Int) ≤ p := by omega
      have h5 : (p : Int) < 6 := by omega
      simp only at *
      go_enter Try.func61, Try.ntmps61
      go_wp2
      go_ret
      exact ⟨rfl, rfl⟩
  · rw [h1]
    obtain ⟨c, _⟩ := h.hs p
    rw [h2] at c
    clear h h1 h2
    obtain ⟨p, hp⟩ := p
    have h3 : ¬ (p : Int) < 0 := by omega
    have h4 : ¬ (6 : Int) ≤ p := by omega
    have h5 : (p : Int) < 6 := by omega
    simp only at *
    go_enter Try.func61, Try.ntmps61
    go_wp2
    go_ret
    exact ⟨rfl, rfl⟩
set_option maxHeartbeats 1000000 in
theorem rfresh_any (B : Nat) (o : Ro) (N : Nat) (s : Vs) (L : List Int) (pid : Int) (w : World) (h : Rb B w o N s L) : Calls Try.prog 73 #[.pointer (some ⟨o.b, 0, none⟩), .int .i64 pid] w fun r w' => r = .returned (.int .i64 (freshE s pid)) ∧ w' = w := by
  by_cases hc : 0 ≤ pid ∧ pid < 6
  · obtain ⟨p, rfl⟩ : ∃ p : Fin 6, pid = (p.1 : Int) := ⟨⟨pid.toNat, by omega⟩, by show pid = (pid.toNat : Int); omega⟩
    rw [freshE_at]
    obtain ⟨c, _⟩ := h.hs p
    clear h hc
    obtain ⟨p, hp⟩ := p
    have h3 : ¬ (p : Int) < 0 := by omega
    have h4 : ¬ (6 : Int) ≤ p := by omega
    have h5 : (p : Int) < 6 := by omega
    cases hh : s.has ⟨p, hp⟩ with
    | true =>
      rw [hh] at c
      simp only [if_true] at *
      go_enter Try.func73, Try.ntmps73
      go_wp2
      go_ret
      exact ⟨rfl, rfl⟩
    | false =>
      rw [hh] at c
      simp only [Bool.false_eq_true, if_false] at *
      go_enter Try.func73, Try.ntmps73
      go_wp2
      go_ret
      exact ⟨rfl, rfl⟩
  · have he : freshE s pid = 2 := by unfold freshE; rw [dif_neg hc]
    rw [he]
    clear h he
    by_cases h1 : pid < 0
    · clear hc
      go_enter Try.func73, Try.ntmps73
      go_wp2
      go_ret
      exact ⟨rfl, rfl⟩
    · have h2 : 6 ≤ pid := by omega
      clear hc
      go_enter Try.func73, Try.ntmps73
      go_wp2
      go_ret
      exact ⟨rfl, rfl⟩
end Go.Proofs.Ytfmcoibpbcheiaa
