/- Extents as plain data; a list of links in memory. -/
import Derived.Test.YtdegjmceeggldaaGen
namespace Go.Proofs.Ytdegjmceeggldaa
open Go.RowKit Go.Maps
set_option linter.unusedVariables false
set_option maxRecDepth 100000
/-- An extent: its number, where it begins, how long it is, whose it is, its guard. -/
structure Ex where
  id : Nat
  st : Nat
  ln : Nat
  ow : Nat
  nm : ByteArray
  rt : BitVec 8
  b : st + ln ≤ 1000
def zEx : Ex := ⟨0, 0, 0, 0, ⟨#[]⟩, 0#8, by decide⟩
def exCs (x : Ex) : List Value := [.int .u32 x.id, .int .i64 x.st, .int .i64 x.ln, .int .u8 x.ow, .string x.nm, .int .u8 x.rt.toNat]
def exV (x : Ex) : Value := .agg #[.int .u32 x.id, .int .i64 x.st, .int .i64 x.ln, .int .u8 x.ow, .string x.nm, .int .u8 x.rt.toNat]
/-- Links: each one's block, and what lies in it. -/
abbrev Ln := Nat × Ex
def nxP : List Ln → Value
  | [] => .pointer none
  | p :: _ => .pointer (some ⟨p.1, 0, none⟩)
def lkCs (x : Ex) (r : List Ln) : List Value := [.int .u32 x.id, .int .i64 x.st, .int .i64 x.ln, .int .u8 x.ow, .string x.nm, .int .u8 x.rt.toNat, nxP r]
def Lks (w : World) : List Ln → Prop
  | [] => True
  | p :: r => Cl w p.1 41 (lkCs p.2 r) ∧ Lks w r
/-- The link that a value leads to, and those behind it. -/
def ptB : Value → Nat
  | .pointer (some a) => a.block + 1
  | _ => 0
def lenB (ns : List Ln) (v : Value) : Nat := (ns.dropWhile (fun p => decide (p.1 + 1 ≠ ptB v))).length
theorem drop_at : ∀ (pre : List Ln) (p : Ln) (r : List Ln), p.1 ∉ pre.map Prod.fst → (pre ++ p :: r).dropWhile (fun q => decide (q.1 + 1 ≠ p.1 + 1)) = p :: r
  | [], p, r, _ => by simp
  | q :: pre, p, r, h => by
    have h1 : q.1 ≠ p.1 := fun e => h (by simp [e])
    have h2 : p.1 ∉ pre.map Prod.fst := fun e => h (by simp only [List.map_cons, List.mem_cons]; exact .inr e)
    rw [List.cons_append, List.dropWhile_cons_of_pos (by simpa using h1)]
    exact drop_at pre p r h2
theorem lenB_at (pre : List Ln) (p : Ln) (r : List Ln) (h : ((pre ++ p :: r).map Prod.fst).Nodup) : lenB (pre ++ p :: r) (nxP (p :: r)) = r.length + 1 := by
  have h1 : p.1 ∉ pre.map Prod.fst := by
    rw [List.map_append, List.map_cons, List.nodup_append] at h
    intro hm
    exact h.2.2 _ hm _ (List.mem_cons_self ..) rfl
  show ((pre ++ p :: r).dropWhile (fun q => decide (q.1 + 1 ≠ p.1 + 1))).length = _
  rw [drop_at pre p r h1]
  rfl
theorem lenB_end (ns : List Ln) : lenB ns (.pointer none) = 0 := by
  show (ns.dropWhile (fun q => decide (q.1 + 1 ≠ 0))).length = 0
  induction ns with
  | nil => rfl
  | cons q r ih => rw [List.dropWhile_cons_of_pos (by simp)]; exact ih
theorem lenB_lt (pre : List Ln) (p : Ln) (r : List Ln) (h : ((pre ++ p :: r).map Prod.fst).Nodup) : lenB (pre ++ p :: r) (nxP r) < lenB (pre ++ p :: r) (nxP (p :: r)) := by
  rw [lenB_at pre p r h]
  cases r with
  | nil => rw [show nxP ([] : List Ln) = .pointer none from rfl, lenB_end]; exact Nat.succ_pos _
  | cons q r =>
    have := lenB_at (pre ++ [p]) q r (by simpa using h)
    rw [List.append_assoc, List.cons_append, List.nil_append] at this
    rw [this]
    simp
theorem Lks.drop {w : World} : ∀ {pre r : List Ln}, Lks w (pre ++ r) → Lks w r
  | [], _, h => h
  | _ :: pre, _, h => Lks.drop (pre := pre) h.2
theorem Lks.low {w w' : World} {n₀ : Nat} : ∀ {ns : List Ln}, Lks w ns → (∀ p ∈ ns, p.1 < n₀) → Below n₀ w w' → Lks w' ns
  | [], _, _, _ => trivial
  | p :: r, h, hl, hb => ⟨(hb.block _ (hl p (List.mem_cons_self ..))).trans h.1, Lks.low h.2 (fun q hq => hl q (List.mem_cons_of_mem _ hq)) hb⟩
theorem Lks.lt {w : World} : ∀ {ns : List Ln}, Lks w ns → ∀ p ∈ ns, p.1 < w.heap.size
  | [], _, p, hp => by cases hp
  | q :: r, h, p, hp => by
    rcases List.mem_cons.1 hp with rfl | hp
    · exact h.1.lt
    · exact Lks.lt h.2 p hp
theorem Lks.below {w w' : World} {ns : List Ln} (h : Lks w ns) (hb : Below w.heap.size w w') : Lks w' ns := h.low h.lt hb
/-- A list, with its first link, below a block. -/
structure Lst (n₀ : Nat) (w : World) (hb : Nat) (ns : List Ln) : Prop where
  k : Lks w ((hb, zEx) :: ns)
  u : (((hb, zEx) :: ns).map Prod.fst).Nodup
  l : ∀ p ∈ ((hb, zEx) :: ns), p.1 < n₀
theorem Lst.low {n₀ : Nat} {w w' : World} {hb : Nat} {ns : List Ln} (h : Lst n₀ w hb ns) (k : Below n₀ w w') : Lst n₀ w' hb ns := ⟨h.k.low h.l k, h.u, h.l⟩
theorem Lst.below {n₀ : Nat} {w w' : World} {hb : Nat} {ns : List Ln} (h : Lst n₀ w hb ns) (k : Below w.heap.size w w') : Lst n₀ w' hb ns := ⟨h.k.below k, h.u, h.l⟩
theorem Lst.up {n₀ n₁ : Nat} {w : World} {hb : Nat} {ns : List Ln} (h : Lst n₀ w hb ns) (k : n₀ ≤ n₁) : Lst n₁ w hb ns := ⟨h.k, h.u, fun p hp => Nat.lt_of_lt_of_le (h.l p hp) k⟩
/-- A link's cells. -/
structure LkC (w : World) (b : Nat) (x : Ex) (r : List Ln) : Prop where
  c0 : w.cell? ⟨b, 0, none⟩ = some (.int .u32 x.id)
  c1 : w.cell? ⟨b, 1, none⟩ = some (.int .i64 x.st)
  c2 : w.cell? ⟨b, 2, none⟩ = some (.int .i64 x.ln)
  c3 : w.cell? ⟨b, 3, none⟩ = some (.int .u8 x.ow)
  c4 : w.cell? ⟨b, 4, none⟩ = some (.string x.nm)
  c5 : w.cell? ⟨b, 5, none⟩ = some (.int .u8 x.rt.toNat)
  c6 : w.cell? ⟨b, 6, none⟩ = some (nxP r)
theorem Lks.c {w : World} {p : Ln} {r : List Ln} (h : Lks w (p :: r)) : LkC w p.1 p.2 r := ⟨h.1.cell 0, h.1.cell 1, h.1.cell 2, h.1.cell 3, h.1.cell 4, h.1.cell 5, h.1.cell 6⟩
/-- A gap: where it begins, how long it is. -/
structure Gp where
  fr : Nat
  rm : Int
  b : fr ≤ 1000
  lo : -1000 ≤ rm
  hi : rm ≤ 1000
def endL : List Ex → Nat
  | [] => 0
  | x :: r => match r with
    | [] => x.st + x.ln
    | _ => endL r
theorem endL_snoc : ∀ (pre : List Ex) (x : Ex), endL (pre ++ [x]) = x.st + x.ln
  | [], _ => rfl
  | y :: r, x => by
    have ih := endL_snoc r x
    rw [List.cons_append]
    cases h : r ++ [x] with
    | nil => simp at h
    | cons z q => rw [h] at ih; exact ih
theorem endL_le (pre : List Ex) : endL pre ≤ 1000 := by
  rcases List.eq_nil_or_concat pre with rfl | ⟨q, x, rfl⟩
  · decide
  · rw [List.concat_eq_append, endL_snoc]; exact x.b
/-- What lies ahead of an extent, behind a place. -/
def gpOf (pre : List Ex) (x : Ex) : Gp := ⟨endL pre, (x.st : Int) - (endL pre : Int), endL_le pre, by have := endL_le pre; omega, by have := x.b; omega⟩
/-- What lies behind the last one. -/
def gpEnd (N : Nat) (hN : N ≤ 1000) (xs : List Ex) : Gp := ⟨endL xs, (N : Int) - (endL xs : Int), endL_le xs, by have := endL_le xs; omega, by omega⟩
/-- The gaps ahead of each. -/
def gpB (pre : List Ex) : List Ex → List Gp
  | [] => []
  | x :: r => gpOf pre x :: gpB (pre ++ [x]) r
theorem gpB_snoc : ∀ (q pre : List Ex) (x : Ex), gpB q (pre ++ [x]) = gpB q pre ++ [gpOf (q ++ pre) x]
  | q, [], x => by simp [gpB]
  | q, y :: r, x => by
    have ih := gpB_snoc (q ++ [y]) r x
    rw [List.cons_append, gpB, gpB, ih, List.append_assoc, List.singleton_append, List.cons_append]
theorem gpB_app : ∀ (q a b : List Ex), gpB q (a ++ b) = gpB q a ++ gpB (q ++ a) b
  | q, [], b => by simp [gpB]
  | q, y :: r, b => by
    rw [List.cons_append, gpB, gpB, gpB_app (q ++ [y]) r b, List.append_assoc, List.singleton_append, List.cons_append]
theorem gpB_pre {a b : List Ex} (h : a <+: b) : gpB [] a <+: gpB [] b := by
  obtain ⟨t, rfl⟩ := h
  exact ⟨_, (gpB_app [] a t).symm⟩
theorem gpB_len : ∀ (q pre : List Ex), (gpB q pre).length = pre.length
  | _, [] => rfl
  | q, y :: r => by rw [gpB, List.length_cons, List.length_cons, gpB_len (q ++ [y]) r]
def gpA (g : Gp) : Array Value := #[.int .i64 g.fr, .int .i64 g.rm]
/-- A table in memory. -/
structure Tp (n₀ : Nat) (w : World) (tb hb N last : Nat) (ns : List Ln) : Prop where
  t : Cl w tb 43 [.int .i64 N, .pointer (some ⟨hb, 0, none⟩), .int .u32 last]
  tl : tb < n₀
  l : Lst n₀ w hb ns
theorem Tp.low {n₀ : Nat} {w w' : World} {tb hb N last : Nat} {ns : List Ln} (h : Tp n₀ w tb hb N last ns) (k : Below n₀ w w') : Tp n₀ w' tb hb N last ns := ⟨(k.block _ h.tl).trans h.t, h.tl, h.l.low k⟩
theorem Tp.below {n₀ : Nat} {w w' : World} {tb hb N last : Nat} {ns : List Ln} (h : Tp n₀ w tb hb N last ns) (k : Below w.heap.size w w') : Tp n₀ w' tb hb N last ns := ⟨h.t.below k, h.tl, h.l.below k⟩
theorem Tp.up {n₀ n₁ : Nat} {w : World} {tb hb N last : Nat} {ns : List Ln} (h : Tp n₀ w tb hb N last ns) (k : n₀ ≤ n₁) : Tp n₁ w tb hb N last ns := ⟨h.t, Nat.lt_of_lt_of_le h.tl k, h.l.up k⟩
end Go.Proofs.Ytdegjmceeggldaa
