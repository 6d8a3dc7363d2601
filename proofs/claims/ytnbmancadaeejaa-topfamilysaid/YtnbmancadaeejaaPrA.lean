/- Processes as plain data: none, running, ended; the program's table and the document's in memory. -/
import Derived.Test.YtnbmancadaeejaaGen
import Derived.Deep.RegionLaw
import Derived.Deep.WholeRow
import Derived.Laws.CopyRow
namespace Go.Proofs.Ytnbmancadaeejaa
open Go.RowKit Go.Maps
set_option linter.unusedVariables false
set_option maxRecDepth 100000
theorem all6 {P : Fin 6 → Prop} (h0 : P 0) (h1 : P 1) (h2 : P 2) (h3 : P 3) (h4 : P 4) (h5 : P 5) : ∀ k, P k
  | 0 => h0 | 1 => h1 | 2 => h2 | 3 => h3 | 4 => h4 | 5 => h5
/-- A process: none, running (its parent), ended (its parent, its status). -/
inductive Pr where
  | no : Pr
  | run : Fin 6 → Pr
  | zom : Fin 6 → Int → Pr
deriving DecidableEq
abbrev Pt := Fin 6 → Pr
def pt0 : Pt := fun i => if i = 0 then .run 0 else .no
def stI : Pr → Int
  | .no => 0
  | .run _ => 1
  | .zom _ _ => 2
def paI : Pr → Int
  | .no => -1
  | .run p => p.1
  | .zom p _ => p.1
def suI : Pr → Int
  | .zom _ n => n
  | _ => 0
def raI : Pr → Int
  | .no => 0
  | .run p => p.1
  | .zom p _ => p.1
def prV : Pr → Value
  | .no => .nilIface
  | .run p => .iface 39 (.agg #[.int .i64 p.1])
  | .zom p n => .iface 47 (.agg #[.int .i64 p.1, .int .i64 n])
def refC (x : Pr) : List Value := [.int .u8 (stI x), .int .i64 (raI x), .int .i64 (suI x)]
def tCs (s : Pt) : List Value := [prV (s 0), prV (s 1), prV (s 2), prV (s 3), prV (s 4), prV (s 5)]
def rCs (s : Pt) : List Value := refC (s 0) ++ refC (s 1) ++ refC (s 2) ++ refC (s 3) ++ refC (s 4) ++ refC (s 5)
theorem tCs_at (s : Pt) : ∀ p : Fin 6, (tCs s)[p.1]? = some (prV (s p)) := all6 rfl rfl rfl rfl rfl rfl
theorem tCs_set (s : Pt) (x : Pr) : ∀ p : Fin 6, (tCs s).set p.1 (prV x) = tCs (upd s p x) := all6 rfl rfl rfl rfl rfl rfl
theorem rCs_st (s : Pt) : ∀ p : Fin 6, (rCs s)[p.1 * 3]? = some (.int .u8 (stI (s p))) := all6 rfl rfl rfl rfl rfl rfl
theorem rCs_ra (s : Pt) : ∀ p : Fin 6, (rCs s)[p.1 * 3 + 1]? = some (.int .i64 (raI (s p))) := all6 rfl rfl rfl rfl rfl rfl
theorem rCs_su (s : Pt) : ∀ p : Fin 6, (rCs s)[p.1 * 3 + 2]? = some (.int .i64 (suI (s p))) := all6 rfl rfl rfl rfl rfl rfl
theorem rCs_set (s : Pt) (x : Pr) : ∀ p : Fin 6, (((rCs s).set (p.1 * 3) (.int .u8 (stI x))).set (p.1 * 3 + 1) (.int .i64 (raI x))).set (p.1 * 3 + 2) (.int .i64 (suI x)) = rCs (upd s p x) := all6 rfl rfl rfl rfl rfl rfl
def there (x : Pr) : Bool := match x with
  | .no => false
  | _ => true
def runs (x : Pr) : Bool := match x with
  | .run _ => true
  | _ => false
def zomb (x : Pr) : Bool := match x with
  | .zom _ _ => true
  | _ => false
def qCh (s : Pt) (p i : Fin 6) : Bool := decide (i ≠ 0) && decide (paI (s i) = p.1)
/-- The first of six that are so. -/
def thL (q : Fin 6 → Bool) : Nat → List (Fin 6)
  | 0 => []
  | n + 1 => if h : n < 6 then thL q n ++ (if q ⟨n, h⟩ then [⟨n, h⟩] else []) else thL q n
theorem thL_snoc (q : Fin 6 → Bool) (n : Nat) (h : n < 6) : thL q (n + 1) = thL q n ++ (if q ⟨n, h⟩ then [⟨n, h⟩] else []) := by simp [thL, h]
theorem thL_len (q : Fin 6 → Bool) : ∀ n, (thL q n).length ≤ n
  | 0 => Nat.le_refl _
  | n + 1 => by
    have := thL_len q n
    unfold thL
    split
    · rw [List.length_append]
      split <;> simp <;> omega
    · omega
theorem thL_len6 (q : Fin 6 → Bool) : ∀ n, (thL q n).length ≤ 6
  | 0 => Nat.zero_le _
  | n + 1 => by
    unfold thL
    split
    · have := thL_len q n
      rw [List.length_append]
      split <;> simp <;> omega
    · exact thL_len6 q n
theorem thL_pre (q : Fin 6 → Bool) : ∀ (m n : Nat), m ≤ n → thL q m <+: thL q n
  | m, 0, h => by obtain rfl : m = 0 := by omega
                  exact List.prefix_rfl
  | m, n + 1, h => by
    by_cases e : m = n + 1
    · subst e; exact List.prefix_rfl
    · refine (thL_pre q m n (by omega)).trans ?_
      by_cases hn : n < 6
      · rw [thL_snoc q n hn]
        exact List.prefix_append _ _
      · have e2 : thL q (n + 1) = thL q n := by simp [thL, hn]
        rw [e2]
        exact List.prefix_rfl
theorem thL_mem (q : Fin 6 → Bool) : ∀ (n : Nat), n ≤ 6 → ∀ i : Fin 6, i ∈ thL q n ↔ i.1 < n ∧ q i = true
  | 0, _, i => by simp [thL]
  | n + 1, hn, i => by
    rw [thL_snoc q n (by omega), List.mem_append, thL_mem q n (by omega) i]
    by_cases h : i = ⟨n, by omega⟩
    · subst h
      cases hq : q ⟨n, by omega⟩ <;> simp
    · have h1 : i.1 ≠ n := fun e => h (Fin.ext e)
      have h2 : i.1 < n + 1 ↔ i.1 < n := by omega
      have h3 : ¬ i ∈ (if q ⟨n, by omega⟩ then [(⟨n, by omega⟩ : Fin 6)] else []) := by split <;> simp [h]
      simp only [h2, h3, or_false]
def chs (s : Pt) (p : Fin 6) : List (Fin 6) := thL (qCh s p) 6
/-- The program's table. -/
structure Tp (B : Nat) (w : World) (b : Nat) (s : Pt) : Prop where
  g : B ≤ b
  c : Cl w b 37 (tCs s)
/-- The document's. -/
structure Rp (B : Nat) (w : World) (b : Nat) (s : Pt) : Prop where
  g : B ≤ b
  c : Cl w b 0 (rCs s)
theorem Tp.below {B : Nat} {w w' : World} {b : Nat} {s : Pt} (h : Tp B w b s) (k : Below w.heap.size w w') : Tp B w' b s := ⟨h.g, h.c.below k⟩
theorem Rp.below {B : Nat} {w w' : World} {b : Nat} {s : Pt} (h : Rp B w b s) (k : Below w.heap.size w w') : Rp B w' b s := ⟨h.g, h.c.below k⟩
theorem Tp.stay {B : Nat} {w w' : World} {b : Nat} {s : Pt} {X : Nat → Prop} (h : Tp B w b s) (k : Apart X w w') (hx : ¬ X b) : Tp B w' b s := ⟨h.g, h.c.stay k hx⟩
theorem Rp.stay {B : Nat} {w w' : World} {b : Nat} {s : Pt} {X : Nat → Prop} (h : Rp B w b s) (k : Apart X w w') (hx : ¬ X b) : Rp B w' b s := ⟨h.g, h.c.stay k hx⟩
theorem Tp.at {B : Nat} {w : World} {b : Nat} {s : Pt} (h : Tp B w b s) (p : Fin 6) : w.cell? ⟨b, p.1, none⟩ = some (prV (s p)) := (h.c.cell _).trans (tCs_at s p)
/-- What a call that changes it comes to: the program's, the document's. -/
structure TS (B : Nat) (w w' : World) (b : Nat) (s' : Pt) : Prop where
  t : Tp B w' b s'
  ap : Apart (fun k => k = b) w w'
structure RS (B : Nat) (w w' : World) (b : Nat) (s' : Pt) : Prop where
  t : Rp B w' b s'
  ap : Apart (fun k => k = b) w w'
theorem TS.same {B : Nat} {w w' : World} {b : Nat} {s : Pt} (h : Tp B w b s) (k : Below w.heap.size w w') : TS B w w' b s := ⟨h.below k, Apart.of_below k⟩
theorem RS.same {B : Nat} {w w' : World} {b : Nat} {s : Pt} (h : Rp B w b s) (k : Below w.heap.size w w') : RS B w w' b s := ⟨h.below k, Apart.of_below k⟩
theorem TS.trans {B : Nat} {w1 w2 w3 : World} {b : Nat} {s s' : Pt} (h : TS B w1 w2 b s) (k : TS B w2 w3 b s') : TS B w1 w3 b s' := ⟨k.t, h.ap.trans k.ap⟩
theorem RS.trans {B : Nat} {w1 w2 w3 : World} {b : Nat} {s s' : Pt} (h : RS B w1 w2 b s) (k : RS B w2 w3 b s') : RS B w1 w3 b s' := ⟨k.t, h.ap.trans k.ap⟩
theorem TS.pre {B : Nat} {a b c : World} {t : Nat} {s : Pt} (h : Below a.heap.size a b) (k : TS B b c t s) : TS B a c t s := ⟨k.t, (Apart.of_below h).trans k.ap⟩
theorem TS.post {B : Nat} {a b c : World} {t : Nat} {s : Pt} (k : TS B a b t s) (h : Below b.heap.size b c) : TS B a c t s := ⟨k.t.below h, k.ap.trans (Apart.of_below h)⟩
theorem RS.pre {B : Nat} {a b c : World} {t : Nat} {s : Pt} (h : Below a.heap.size a b) (k : RS B b c t s) : RS B a c t s := ⟨k.t, (Apart.of_below h).trans k.ap⟩
theorem RS.post {B : Nat} {a b c : World} {t : Nat} {s : Pt} (k : RS B a b t s) (h : Below b.heap.size b c) : RS B a c t s := ⟨k.t.below h, k.ap.trans (Apart.of_below h)⟩
theorem TS.slot {B : Nat} {w : World} {b : Nat} {s : Pt} (h : Tp B w b s) (p : Fin 6) (x : Pr) : TS B w (w.setCell ⟨b, p.1, none⟩ (prV x)) b (upd s p x) :=
  ⟨⟨h.g, by have := h.c.set p.1 (prV x); rw [tCs_set] at this; exact this⟩, Apart.at _ _ _ _ rfl⟩
theorem RS.slot {B : Nat} {w : World} {b : Nat} {s : Pt} (h : Rp B w b s) (p : Fin 6) (x : Pr) : RS B w (((w.setCell ⟨b, p.1 * 3, none⟩ (.int .u8 (stI x))).setCell ⟨b, p.1 * 3 + 1, none⟩ (.int .i64 (raI x))).setCell ⟨b, p.1 * 3 + 2, none⟩ (.int .i64 (suI x))) b (upd s p x) :=
  ⟨⟨h.g, by have := ((h.c.set (p.1 * 3) (.int .u8 (stI x))).set (p.1 * 3 + 1) (.int .i64 (raI x))).set (p.1 * 3 + 2) (.int .i64 (suI x)); rw [rCs_set] at this; exact this⟩, ((Apart.at (X := fun k => k = b) _ _ _ _ rfl).trans (Apart.at _ _ _ _ rfl)).trans (Apart.at _ _ _ _ rfl)⟩
/-- Somebody in the range. -/
theorem pid_cases (pid : Int) : (pid < 0 ∨ 6 ≤ pid) ∨ ∃ p : Fin 6, pid = (p.1 : Int) := by
  by_cases h1 : pid < 0
  · exact .inl (.inl h1)
  by_cases h2 : 6 ≤ pid
  · exact .inl (.inr h2)
  · exact .inr ⟨⟨pid.toNat, by omega⟩, by show pid = (pid.toNat : Int); omega⟩
end Go.Proofs.Ytnbmancadaeejaa
