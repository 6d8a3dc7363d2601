/- An extent is laid in with the next number. Whether so many sectors are there. An extent is handed to another environment; what may not be. An extent is made longer. An extent is made longer, handed on, laid in: where it may, and where it may not. A table as plain data: what is free, where so many lie first, how many are left; a list cut at a place. A table of the program's in memory, and what a call that changes it comes to. -/
import Derived.Test.YtdegjmceeggldaaExJ
import Derived.Test.YtdegjmceeggldaaExL
import Derived.Test.YtdegjmceeggldaaExA
import Derived.Test.YtdegjmceeggldaaExK
import Derived.Test.YtdegjmceeggldaaExG
namespace Go.Proofs.Ytdegjmceeggldaa
open Go.RowKit Go.Shelf Go.Maps
set_option linter.unusedVariables false
set_option maxRecDepth 100000
def Ex.num (x : Ex) (n : Nat) : Ex := { x with id := n }
/-- What adding comes to. -/
structure AddC (w w' : World) (tb hb N last b : Nat) (y x : Ex) (pre r : List Ln) (d : Nat) : Prop where
  ap : Apart (fun k => k = tb ∨ k = b) w w'
  d0 : w.heap.size ≤ d
  d1 : d < w'.heap.size
  t : Cl w' tb 43 [.int .i64 N, .pointer (some ⟨hb, 0, none⟩), .int .u32 (last + 1 : Nat)]
  k : Lks w' (pre ++ (b, y) :: (d, x.num (last + 1)) :: r)
set_option maxHeartbeats 1000000 in
theorem add_any (n₀ tb hb N last : Nat) (ns pre : List Ln) (b : Nat) (y x : Ex) (r : List Ln) (w : World) (h : Tp n₀ w tb hb N last ns) (hn0 : n₀ ≤ w.heap.size) (hs : (hb, zEx) :: ns = pre ++ (b, y) :: r)
    (hlen : ns.length < 24) (hlast : last < 1000000) (htb : tb ∉ ((hb, zEx) :: ns).map Prod.fst) :
    Calls Try.prog 15 #[.pointer (some ⟨tb, 0, none⟩), .pointer (some ⟨b, 0, none⟩), exV x] w fun e w' =>
      e = .returned (.tuple #[.int .u32 (last + 1 : Nat), .int .i64 0]) ∧ ∃ d, AddC w w' tb hb N last b y x pre r d := by
  have hw1 : IntKind.u32.wrap ((last : Int) + 1) = (last : Int) + 1 := by rw [IntKind.wrap_u32]; omega
  have hz24 : (ns.length : Int) < 24 := by omega
  have hB0 := below_new w (.cells (exCs x).toArray 37)
  have cS := size_any n₀ tb hb N last ns (by omega) (w.alloc (.cells (exCs x).toArray 37)) (h.below hB0) (by simp; omega)
  have hx0 := Cl.new w 37 (exCs x)
  unfold exV
  have hE : (exCs x).toArray = #[.int .u32 x.id, .int .i64 x.st, .int .i64 x.ln, .int .u8 x.ow, .string x.nm, .int .u8 x.rt.toNat] := rfl
  rw [hE] at hB0 cS
  go_enter Try.func15, Try.ntmps15
  go_wp2_with fail
  refine cS.mono ?_
  rintro e W2 ⟨rfl, hB2⟩
  simp only [World.size_alloc] at hB2
  have hx2 : Cl W2 w.heap.size 37 (exCs x) := (hB2.block _ (by omega)).trans hx0
  have hB3 : Below w.heap.size w W2 := hB0.trans (hB2.mono (by omega))
  have hT := h.below hB3
  have t2 := hT.t.cell 2
  have f2 := hT.t.thaw 2
  have hne : tb ≠ w.heap.size := by have := h.tl; omega
  have hx3 := hx2.other (d := tb) (fun e => hne e.symm) 2 (.int .u32 ((last : Int) + 1))
  have g0 := hx3.cell 0
  have fx := hx3.thaw 0
  have ht3 := (hT.t.set 2 (.int .u32 ((last : Int) + 1)))
  have u2 := ht3.cell 2
  simp only [List.getElem?_cons_zero, List.getElem?_cons_succ, List.set_cons_zero, List.set_cons_succ, exCs] at t2 g0 u2
  have hx4 := hx3.set 0 (.int .u32 ((last : Int) + 1))
  have v0 := hx4.cell 0
  have v1 := hx4.cell 1
  have v2 := hx4.cell 2
  have v3 := hx4.cell 3
  have v4 := hx4.cell 4
  have v5 := hx4.cell 5
  simp only [List.getElem?_cons_zero, List.getElem?_cons_succ, List.set_cons_zero, exCs] at v0 v1 v2 v3 v4 v5
  have hL2 : Lks W2 (pre ++ (b, y) :: r) := by rw [← hs]; exact hT.l.k
  have hU : ((pre ++ (b, y) :: r).map Prod.fst).Nodup := by rw [← hs]; exact hT.l.u
  have hlow : ∀ p ∈ pre ++ (b, y) :: r, p.1 < n₀ := by rw [← hs]; exact hT.l.l
  have hbn : b < n₀ := hlow (b, y) (by simp)
  have htb' : tb ∉ (pre ++ (b, y) :: r).map Prod.fst := by rw [← hs]; exact htb
  have hbt : tb ≠ b := fun e => htb' (by rw [e]; simp)
  have hL4 : Lks ((W2.setCell ⟨tb, 2, none⟩ (.int .u32 ((last : Int) + 1))).setCell ⟨w.heap.size, 0, none⟩ (.int .u32 ((last : Int) + 1))) (pre ++ (b, y) :: r) :=
    Lks.stay hL2 (fun k hm => (Below.heap_setCell _ _ _ k (fun e => by
      obtain ⟨q, hq, rfl⟩ := List.mem_map.1 hm
      have h1 := hlow q hq
      have h2 : q.1 = w.heap.size := e
      omega)).trans (Below.heap_setCell _ _ _ k (fun e => htb' (by rw [show tb = k from e.symm]; exact hm))))
  have ht4 := ht3.other hne 0 (.int .u32 ((last : Int) + 1))
  have hz4 : ((W2.setCell ⟨tb, 2, none⟩ (.int .u32 ((last : Int) + 1))).setCell ⟨w.heap.size, 0, none⟩ (.int .u32 ((last : Int) + 1))).heap.size = W2.heap.size := by rw [size_setCell, size_setCell]
  have hb4 : ∀ k, k < w.heap.size → k ≠ tb → ((W2.setCell ⟨tb, 2, none⟩ (.int .u32 ((last : Int) + 1))).setCell ⟨w.heap.size, 0, none⟩ (.int .u32 ((last : Int) + 1))).heap[k]? = w.heap[k]? := fun k hk hn =>
    (Below.heap_setCell _ _ _ k (by show k ≠ w.heap.size; omega)).trans ((Below.heap_setCell _ _ _ k hn).trans (hB3.block k hk))
  have cP := put_any b y (x.num (last + 1)) r _ hL4.drop
  have hnum : exV (x.num (last + 1)) = .agg #[.int .u32 ((last : Int) + 1), .int .i64 x.st, .int .i64 x.ln, .int .u8 x.ow, .string x.nm, .int .u8 x.rt.toNat] := by simp [exV, Ex.num]
  rw [hnum] at cP
  clear cS
  go_wp2_with fail
  refine cP.mono ?_
  rintro e W5 ⟨⟨v, rfl⟩, hp⟩
  have o4 : (W2.setCell ⟨tb, 2, none⟩ (.int .u32 ((last : Int) + 1))).setCell ⟨w.heap.size, 0, none⟩ (.int .u32 ((last : Int) + 1)) = (W2.setCell ⟨tb, 2, none⟩ (.int .u32 ((last : Int) + 1))).setCell ⟨w.heap.size, 0, none⟩ (.int .u32 ((last : Int) + 1)) := rfl
  have hos : ((W2.setCell ⟨tb, 2, none⟩ (.int .u32 ((last : Int) + 1))).setCell ⟨w.heap.size, 0, none⟩ (.int .u32 ((last : Int) + 1))).os = W2.os ∧ ((W2.setCell ⟨tb, 2, none⟩ (.int .u32 ((last : Int) + 1))).setCell ⟨w.heap.size, 0, none⟩ (.int .u32 ((last : Int) + 1))).tape = W2.tape ∧ ((W2.setCell ⟨tb, 2, none⟩ (.int .u32 ((last : Int) + 1))).setCell ⟨w.heap.size, 0, none⟩ (.int .u32 ((last : Int) + 1))).output = W2.output := ⟨rfl, rfl, rfl⟩
  clear o4 cP u2 g0 v0 v1 v2 v3 v4 v5 fx t2 f2
  generalize (W2.setCell ⟨tb, 2, none⟩ (.int .u32 ((last : Int) + 1))).setCell ⟨w.heap.size, 0, none⟩ (.int .u32 ((last : Int) + 1)) = W4 at *
  have hx5 := hx4.stay hp.ap (fun e => by have h2 : w.heap.size = b := e; omega)
  have z0 := hx5.cell 0
  simp only [List.getElem?_cons_zero, List.set_cons_zero, exCs] at z0
  have hA : Hid (AddC w W5 tb hb N last b y x pre r (W4.heap.size + 1)) := by
    have hs2 := hB3.size
    have hs5 := hp.sz
    refine ⟨⟨hp.ap.os.trans (hos.1.trans hB3.os), hp.ap.tape.trans (hos.2.1.trans hB3.tape), hp.ap.output.trans (hos.2.2.trans hB3.output), by omega, fun k hk hx => (hp.ap.block k (by omega) (fun e => hx (.inr e))).trans (hb4 k hk (fun e => hx (.inl e)))⟩, by omega, by omega, ?_, hp.lks hL4 hU⟩
    have := ht4.stay hp.ap (fun e => hbt e)
    simpa using this
  go_wp2
  go_ret2
  exact ⟨by simp, _, hA.out⟩
end Go.Proofs.Ytdegjmceeggldaa
namespace Go.Proofs.Ytdegjmceeggldaa
open Go.RowKit Go.Shelf Go.Maps
set_option linter.unusedVariables false
set_option maxRecDepth 100000
def thereB (N : Nat) (start many : Int) : Bool := decide (1 ≤ many) && (decide (0 ≤ start) && decide (many ≤ (N : Int) - start))
theorem there_any (n₀ tb hb N last : Nat) (hN : N ≤ 1000) (ns : List Ln) (start many : Int) (hs : start ≤ 9223372036854775807) (w : World) (h : Tp n₀ w tb hb N last ns) :
    Calls Try.prog 10 #[.pointer (some ⟨tb, 0, none⟩), .int .i64 start, .int .i64 many] w fun e w' => e = .returned (.bool (thereB N start many)) ∧ w' = w := by
  have c0 := h.t.cell 0
  clear h
  unfold thereB
  by_cases h1 : 1 ≤ many
  · by_cases h2 : 0 ≤ start
    · have hw : IntKind.i64.wrap ((N : Int) - start) = (N : Int) - start := by rw [IntKind.wrap_i64]; omega
      rw [decide_eq_true h1, decide_eq_true h2]
      simp only [Bool.true_and]
      go_enter Try.func10, Try.ntmps10
      go_wp2
      go_ret
      exact ⟨rfl, rfl⟩
    · rw [decide_eq_true h1, decide_eq_false h2]
      simp only [Bool.true_and, Bool.false_and]
      go_enter Try.func10, Try.ntmps10
      go_wp2
      go_ret
      exact ⟨rfl, rfl⟩
  · rw [decide_eq_false h1]
    simp only [Bool.false_and]
    go_enter Try.func10, Try.ntmps10
    go_wp2
    go_ret
    exact ⟨rfl, rfl⟩
end Go.Proofs.Ytdegjmceeggldaa
namespace Go.Proofs.Ytdegjmceeggldaa
open Go.RowKit Go.Shelf Go.Maps
set_option linter.unusedVariables false
set_option maxRecDepth 100000
def Ex.own (x : Ex) (n : Nat) : Ex := { x with ow := n }
end Go.Proofs.Ytdegjmceeggldaa
namespace Go.Proofs.Ytdegjmceeggldaa
open Go.RowKit Go.Shelf Go.Maps
set_option linter.unusedVariables false
set_option maxRecDepth 100000
end Go.Proofs.Ytdegjmceeggldaa
namespace Go.Proofs.Ytdegjmceeggldaa
open Go.RowKit Go.Shelf Go.Maps
set_option linter.unusedVariables false
set_option maxRecDepth 100000
def Ex.len (x : Ex) (n : Nat) (h : x.st + n ≤ 1000) : Ex := { x with ln := n, b := h }
theorem there_yes {N : Nat} {start many : Int} (h1 : 1 ≤ many) (h2 : 0 ≤ start) (h3 : many ≤ (N : Int) - start) : thereB N start many = true := by
  unfold thereB
  rw [decide_eq_true h1, decide_eq_true h2, decide_eq_true h3]
  rfl
set_option maxHeartbeats 1000000 in
theorem add_full (n₀ tb hb N last : Nat) (ns : List Ln) (v : Value) (x : Ex) (w : World) (h : Tp n₀ w tb hb N last ns) (hn0 : n₀ ≤ w.heap.size) (hlen : 24 ≤ ns.length) (hl2 : ns.length ≤ 100) :
    Calls Try.prog 15 #[.pointer (some ⟨tb, 0, none⟩), v, exV x] w fun e w' => e = .returned (.tuple #[.int .u32 0, .int .i64 4]) ∧ Below w.heap.size w w' := by
  have hz24 : ¬ (ns.length : Int) < 24 := by omega
  have hB0 := below_new w (.cells (exCs x).toArray 37)
  have cS := size_any n₀ tb hb N last ns (by omega) (w.alloc (.cells (exCs x).toArray 37)) (h.below hB0) (by simp; omega)
  have HB0 := Hid3.mk hB0
  unfold exV
  have hE : (exCs x).toArray = #[.int .u32 x.id, .int .i64 x.st, .int .i64 x.ln, .int .u8 x.ow, .string x.nm, .int .u8 x.rt.toNat] := rfl
  rw [hE] at HB0 cS
  clear hB0 h
  go_enter Try.func15, Try.ntmps15
  go_wp2_with fail
  refine cS.mono ?_
  rintro e W2 ⟨rfl, hB2⟩
  have HB2 := Hid3.mk (HB0.out.trans (hB2.mono (by simp)))
  clear hB2 cS
  go_wp2
  go_ret2
  exact ⟨rfl, HB2.out⟩
end Go.Proofs.Ytdegjmceeggldaa
namespace Go.Proofs.Ytdegjmceeggldaa
open Go.RowKit Go.Shelf Go.Maps
set_option linter.unusedVariables false
set_option maxRecDepth 100000
/-- How many sectors, extents by their sectors, the number given last. -/
structure Xt where
  N : Nat
  l : List Ex
  last : Nat
/-- In order, within the disk, numbers apart. -/
structure Xt.Ok (s : Xt) : Prop where
  n1 : 1 ≤ s.N
  n2 : s.N ≤ 64
  srt : s.l.Pairwise (fun x y => x.st + x.ln ≤ y.st)
  ln : ∀ x ∈ s.l, 1 ≤ x.ln ∧ x.st + x.ln ≤ s.N
  ids : (s.l.map Ex.id).Nodup
  idl : ∀ x ∈ s.l, 1 ≤ x.id ∧ x.id ≤ s.last
  len : s.l.length ≤ 24
theorem Xt.Ok.nb {s : Xt} (h : s.Ok) : s.N ≤ 1000 := Nat.le_trans h.n2 (by decide)
def xt0 (N : Nat) : Xt := ⟨N, [], 0⟩
theorem xt0_ok (N : Nat) (h1 : 1 ≤ N) (h2 : N ≤ 64) : (xt0 N).Ok := ⟨h1, h2, .nil, by simp [xt0], .nil, by simp [xt0], by simp [xt0]⟩
/-- Do so many sectors from one on belong to nobody? -/
def freeX (l : List Ex) (start many : Int) : Prop := ∀ x ∈ l, start + many ≤ (x.st : Int) ∨ ((x.st + x.ln : Nat) : Int) ≤ start
theorem endL_cons (pre : List Ex) (x : Ex) : endL (pre ++ [x]) = x.st + x.ln := endL_snoc pre x
theorem holds_iff {start many : Int} {g : Gp} : holds start many g = true ↔ (g.fr : Int) ≤ start ∧ start + many ≤ (g.fr : Int) + g.rm := by
  unfold holds
  rw [Bool.and_eq_true, decide_eq_true_iff, decide_eq_true_iff]
/-- A gap holds them just where they are free. -/
theorem gaps_free (N : Nat) (hN : N ≤ 1000) (start many : Int) (hm : 1 ≤ many) : ∀ (l pre : List Ex), (∀ x ∈ l, endL pre ≤ x.st) → l.Pairwise (fun x y => x.st + x.ln ≤ y.st) → (∀ x ∈ l, x.st + x.ln ≤ N) →
    ((∃ g ∈ gpB pre l ++ [gpEnd N hN (pre ++ l)], (g.fr : Int) ≤ start ∧ start + many ≤ (g.fr : Int) + g.rm) ↔ ((endL pre : Int) ≤ start ∧ freeX l start many ∧ start + many ≤ (N : Int)))
  | [], pre, _, _, _ => by
    rw [List.append_nil]
    constructor
    · rintro ⟨g, hg, h1, h2⟩
      rw [gpB, List.nil_append, List.mem_singleton] at hg
      subst hg
      have e1 : (gpEnd N hN pre).fr = endL pre := rfl
      have e2 : (gpEnd N hN pre).rm = (N : Int) - (endL pre : Int) := rfl
      rw [e1] at h1 h2
      rw [e2] at h2
      exact ⟨h1, fun x hx => (by cases hx), by omega⟩
    · rintro ⟨h1, _, h3⟩
      refine ⟨gpEnd N hN pre, by simp [gpB], h1, ?_⟩
      have e1 : (gpEnd N hN pre).fr = endL pre := rfl
      have e2 : (gpEnd N hN pre).rm = (N : Int) - (endL pre : Int) := rfl
      rw [e1, e2]
      omega
  | x :: r, pre, h0, hp, hl => by
    have hx0 := h0 x (List.mem_cons_self ..)
    have hxl := hl x (List.mem_cons_self ..)
    rw [List.pairwise_cons] at hp
    have ih := gaps_free N hN start many hm r (pre ++ [x]) (by rw [endL_snoc]; exact hp.1) hp.2 (fun y hy => hl y (List.mem_cons_of_mem _ hy))
    rw [List.append_assoc, List.singleton_append, endL_snoc] at ih
    have e1 : (gpOf pre x).fr = endL pre := rfl
    have e2 : (gpOf pre x).rm = (x.st : Int) - (endL pre : Int) := rfl
    rw [gpB, List.cons_append]
    constructor
    · rintro ⟨g, hg, h1, h2⟩
      rcases List.mem_cons.1 hg with rfl | hg
      · rw [e1] at h1 h2
        rw [e2] at h2
        refine ⟨h1, ?_, by omega⟩
        intro y hy
        rcases List.mem_cons.1 hy with rfl | hy
        · exact .inl (by omega)
        · have := hp.1 y hy; exact .inl (by omega)
      · obtain ⟨h3, h4, h5⟩ := ih.1 ⟨g, hg, h1, h2⟩
        refine ⟨by omega, ?_, h5⟩
        intro y hy
        rcases List.mem_cons.1 hy with rfl | hy
        · exact .inr h3
        · exact h4 y hy
    · rintro ⟨h1, h2, h3⟩
      rcases h2 x (List.mem_cons_self ..) with h4 | h4
      · exact ⟨gpOf pre x, List.mem_cons_self .., by rw [e1]; exact h1, by rw [e1, e2]; omega⟩
      · obtain ⟨g, hg, hq⟩ := ih.2 ⟨h4, fun y hy => h2 y (List.mem_cons_of_mem _ hy), h3⟩
        exact ⟨g, List.mem_cons_of_mem _ hg, hq⟩
/-- Gaps lie in order. -/
theorem gaps_srt (N : Nat) (hN : N ≤ 1000) : ∀ (l pre : List Ex), (∀ x ∈ l, endL pre ≤ x.st) → l.Pairwise (fun x y => x.st + x.ln ≤ y.st) →
    (∀ g ∈ gpB pre l ++ [gpEnd N hN (pre ++ l)], endL pre ≤ g.fr) ∧ (gpB pre l ++ [gpEnd N hN (pre ++ l)]).Pairwise (fun g k => g.fr ≤ k.fr)
  | [], pre, _, _ => by
    rw [List.append_nil]
    refine ⟨fun g hg => ?_, by simp [gpB]⟩
    rw [gpB, List.nil_append, List.mem_singleton] at hg
    subst hg
    exact Nat.le_refl _
  | x :: r, pre, h0, hp => by
    have hx0 := h0 x (List.mem_cons_self ..)
    rw [List.pairwise_cons] at hp
    have ih := gaps_srt N hN r (pre ++ [x]) (by rw [endL_snoc]; exact hp.1) hp.2
    rw [List.append_assoc, List.singleton_append, endL_snoc] at ih
    have e1 : (gpOf pre x).fr = endL pre := rfl
    have h1 : ∀ g ∈ gpB (pre ++ [x]) r ++ [gpEnd N hN (pre ++ x :: r)], endL pre ≤ g.fr := fun g hg => by have := ih.1 g hg; omega
    rw [gpB, List.cons_append]
    refine ⟨fun g hg => ?_, List.pairwise_cons.2 ⟨fun g hg => by rw [e1]; exact h1 g hg, ih.2⟩⟩
    rcases List.mem_cons.1 hg with rfl | hg
    · exact Nat.le_refl _
    · exact h1 g hg
def lnS : List Ex → Nat
  | [] => 0
  | x :: r => x.ln + lnS r
theorem sumG_app : ∀ (a b : List Gp), sumG (a ++ b) = sumG a + sumG b
  | [], b => by simp [sumG]
  | g :: a, b => by rw [List.cons_append, sumG, sumG, sumG_app a b]; omega
theorem sumG_gaps (N : Nat) (hN : N ≤ 1000) : ∀ (l pre : List Ex), sumG (gpB pre l ++ [gpEnd N hN (pre ++ l)]) = (N : Int) - (endL pre : Int) - (lnS l : Int)
  | [], pre => by
    rw [List.append_nil]
    show (N : Int) - (endL pre : Int) + 0 = (N : Int) - (endL pre : Int) - ((0 : Nat) : Int)
    omega
  | x :: r, pre => by
    have ih := sumG_gaps N hN r (pre ++ [x])
    rw [List.append_assoc, List.singleton_append, endL_snoc] at ih
    rw [gpB, List.cons_append, sumG, ih, lnS]
    have e2 : (gpOf pre x).rm = (x.st : Int) - (endL pre : Int) := rfl
    rw [e2]
    omega
theorem endL_nil : endL [] = 0 := rfl
/-- How many sectors are left. -/
theorem left_eq (N : Nat) (hN : N ≤ 1000) (ns : List Ln) : sumG (gpL N hN ns) = (N : Int) - (lnS (ns.map Prod.snd) : Int) := by
  have := sumG_gaps N hN (ns.map Prod.snd) []
  rw [endL_nil, List.nil_append] at this
  rw [gpL, this]
  omega
theorem lnS_le {N : Nat} : ∀ (l : List Ex) (e : Nat), (∀ x ∈ l, e ≤ x.st) → l.Pairwise (fun x y => x.st + x.ln ≤ y.st) → (∀ x ∈ l, x.st + x.ln ≤ N) → e ≤ N → e + lnS l ≤ N
  | [], e, _, _, _, he => by simpa [lnS] using he
  | x :: r, e, h0, hp, hl, he => by
    rw [List.pairwise_cons] at hp
    have := lnS_le r (x.st + x.ln) hp.1 hp.2 (fun y hy => hl y (List.mem_cons_of_mem _ hy)) (hl x (List.mem_cons_self ..))
    have h1 := h0 x (List.mem_cons_self ..)
    rw [lnS]
    omega
theorem Xt.Ok.sum {s : Xt} (h : s.Ok) : lnS s.l ≤ s.N := by
  have := lnS_le s.l 0 (fun _ _ => Nat.zero_le _) h.srt (fun x hx => (h.ln x hx).2) (Nat.zero_le _)
  omega
/-- Whether they are free, as the program finds it. -/
theorem free_iff {s : Xt} (ok : s.Ok) (hN : s.N ≤ 1000) (ns : List Ln) (hl : ns.map Prod.snd = s.l) (start many : Int) (hm : 1 ≤ many) (h0 : 0 ≤ start) (h1 : start + many ≤ (s.N : Int)) :
    ((gpL s.N hN ns).find? (holds start many)).isSome = true ↔ freeX s.l start many := by
  have := gaps_free s.N hN start many hm s.l [] (fun x _ => by rw [endL_nil]; omega) ok.srt (fun x hx => (ok.ln x hx).2)
  rw [List.nil_append, endL_nil] at this
  rw [List.find?_isSome, gpL, hl]
  constructor
  · rintro ⟨g, hg, hq⟩
    exact (this.1 ⟨g, hg, holds_iff.1 hq⟩).2.1
  · intro h
    obtain ⟨g, hg, hq⟩ := this.2 ⟨by omega, h, h1⟩
    exact ⟨g, hg, holds_iff.2 hq⟩
theorem free_no' {s : Xt} (ok : s.Ok) (hN : s.N ≤ 1000) (ns : List Ln) (hl : ns.map Prod.snd = s.l) (start many : Int) (hm : 1 ≤ many) (h0 : 0 ≤ start) (h1 : start + many ≤ (s.N : Int)) (hf : ¬ freeX s.l start many) :
    ((gpL s.N hN ns).find? (holds start many)).isSome = false := by
  rw [← Bool.not_eq_true]
  exact fun h => hf ((free_iff ok hN ns hl start many hm h0 h1).1 h)
/-- What Room tells. -/
def RoomX (s : Xt) (many : Int) (r e : Int) : Prop :=
  (e = 0 ∧ 0 ≤ r ∧ freeX s.l r many ∧ r + many ≤ (s.N : Int) ∧ ∀ i : Int, 0 ≤ i → i < r → i + many ≤ (s.N : Int) → ¬ freeX s.l i many) ∨
  (e = 4 ∧ r = 0 ∧ ∀ i : Int, 0 ≤ i → i + many ≤ (s.N : Int) → ¬ freeX s.l i many)
theorem RoomX.uniq {s : Xt} {many r e r' e' : Int} (h : RoomX s many r e) (h' : RoomX s many r' e') : r = r' ∧ e = e' := by
  rcases h with ⟨rfl, h1, h2, h3, h4⟩ | ⟨rfl, rfl, h4⟩ <;> rcases h' with ⟨rfl, k1, k2, k3, k4⟩ | ⟨rfl, rfl, k4⟩
  · refine ⟨?_, rfl⟩
    rcases Int.lt_trichotomy r r' with h | h | h
    · exact absurd h2 (k4 r h1 h h3)
    · exact h
    · exact absurd k2 (h4 r' k1 h k3)
  · exact absurd h2 (k4 r h1 h3)
  · exact absurd k2 (h4 r' k1 k3)
  · exact ⟨rfl, rfl⟩
theorem room_iff {s : Xt} (ok : s.Ok) (hN : s.N ≤ 1000) (ns : List Ln) (hl : ns.map Prod.snd = s.l) (many : Int) (hm : 1 ≤ many) :
    RoomX s many (roomO ((gpL s.N hN ns).find? (longer many))).1 (roomO ((gpL s.N hN ns).find? (longer many))).2 := by
  have key : ∀ start : Int, _ := fun start => gaps_free s.N hN start many hm s.l [] (fun x _ => by rw [endL_nil]; omega) ok.srt (fun x hx => (ok.ln x hx).2)
  have hso := (gaps_srt s.N hN s.l [] (fun x _ => by rw [endL_nil]; omega) ok.srt).2
  simp only [List.nil_append, endL_nil] at key hso
  rw [gpL, hl]
  cases hf : (gpB [] s.l ++ [gpEnd s.N hN s.l]).find? (longer many) with
  | none =>
    refine .inr ⟨rfl, rfl, fun i h0 h1 h2 => ?_⟩
    obtain ⟨g, hg, h3, h4⟩ := (key i).2 ⟨by omega, h2, h1⟩
    have := List.find?_eq_none.1 hf g hg
    exact this (decide_eq_true (by omega))
  | some g =>
    obtain ⟨hg, qa, qb, hs, has⟩ := List.find?_eq_some_iff_append.1 hf
    have hg' : many ≤ g.rm := of_decide_eq_true hg
    have hin : g ∈ gpB [] s.l ++ [gpEnd s.N hN s.l] := by rw [hs]; simp
    obtain ⟨h1, h2, h3⟩ := (key (g.fr : Int)).1 ⟨g, hin, Int.le_refl _, by omega⟩
    refine .inl ⟨rfl, by show (0 : Int) ≤ (g.fr : Int); omega, h2, h3, fun i k0 k1 k2 k3 => ?_⟩
    have k1' : i < (g.fr : Int) := k1
    obtain ⟨g', hg1, h4, h5⟩ := (key i).2 ⟨by omega, k3, k2⟩
    rw [hs] at hg1 hso
    rcases List.mem_append.1 hg1 with h6 | h6
    · have := has g' h6
      rw [show longer many g' = true from decide_eq_true (by omega)] at this
      cases this
    · rcases List.mem_cons.1 h6 with rfl | h6
      · omega
      · have := (List.pairwise_cons.1 (List.pairwise_append.1 hso).2.1).1 g' h6
        omega
/-- Where a new one belongs. -/
theorem cut_at (st : Nat) : ∀ l : List Ex, l.Pairwise (fun x y => x.st + x.ln ≤ y.st) → (∀ x ∈ l, 1 ≤ x.ln) → (∀ x ∈ l, x.st ≠ st) →
    ∃ pre post, l = pre ++ post ∧ (∀ y ∈ pre, y.st < st) ∧ (∀ y ∈ post, st < y.st)
  | [], _, _, _ => ⟨[], [], rfl, by simp, by simp⟩
  | x :: r, hp, h1, hn => by
    rw [List.pairwise_cons] at hp
    have hx := hn x (List.mem_cons_self ..)
    by_cases h : x.st < st
    · obtain ⟨pre, post, e, ha, hb⟩ := cut_at st r hp.2 (fun y hy => h1 y (List.mem_cons_of_mem _ hy)) (fun y hy => hn y (List.mem_cons_of_mem _ hy))
      refine ⟨x :: pre, post, by rw [e, List.cons_append], fun y hy => ?_, hb⟩
      rcases List.mem_cons.1 hy with rfl | hy
      · exact h
      · exact ha y hy
    · refine ⟨[], x :: r, rfl, by simp, fun y hy => ?_⟩
      rcases List.mem_cons.1 hy with rfl | hy
      · omega
      · have := hp.1 y hy; omega
/-- Where one with a number lies. -/
theorem fnd_at (id : Nat) : ∀ l : List Ex, (∀ y ∈ l, y.id ≠ id) ∨ ∃ pre x post, l = pre ++ x :: post ∧ (∀ y ∈ pre, y.id ≠ id) ∧ x.id = id
  | [] => .inl (by simp)
  | x :: r => by
    by_cases h : x.id = id
    · exact .inr ⟨[], x, r, rfl, by simp, h⟩
    · rcases fnd_at id r with k | ⟨pre, z, post, e, h1, h2⟩
      · refine .inl fun y hy => ?_
        rcases List.mem_cons.1 hy with rfl | hy
        · exact h
        · exact k y hy
      · refine .inr ⟨x :: pre, z, post, by rw [e, List.cons_append], fun y hy => ?_, h2⟩
        rcases List.mem_cons.1 hy with rfl | hy
        · exact h
        · exact h1 y hy
/-- The link that is come to. -/
theorem pst_at (p : Ex → Bool) : ∀ (pre : List Ex) (post : List Ex) (a : Ln) (ns : List Ln), ns.map Prod.snd = pre ++ post → (∀ y ∈ pre, p y = true) → (∀ y r, post = y :: r → p y = false) →
    ∃ q b y r, pst p a ns = ((b, y), r) ∧ a :: ns = q ++ (b, y) :: r ∧ r.map Prod.snd = post ∧ (q ++ [(b, y)]).map Prod.snd = a.2 :: pre
  | [], post, a, ns, hs, _, hn => by
    obtain ⟨b, y⟩ := a
    refine ⟨[], b, y, ns, ?_, rfl, by simpa using hs, by simp⟩
    cases ns with
    | nil => rfl
    | cons c r =>
      rw [List.nil_append] at hs
      exact pst_no p _ c r (hn c.2 (r.map Prod.snd) hs.symm)
  | x :: pre, post, a, ns, hs, hp, hn => by
    cases ns with
    | nil => cases hs
    | cons c r =>
      rw [List.map_cons, List.cons_append, List.cons.injEq] at hs
      obtain ⟨q, b, y, r', h1, h2, h3, h4⟩ := pst_at p pre post c r hs.2 (fun z hz => hp z (List.mem_cons_of_mem _ hz)) hn
      refine ⟨a :: q, b, y, r', ?_, by rw [List.cons_append, ← h2], h3, ?_⟩
      · rw [pst_go p a c r (by rw [hs.1]; exact hp x (List.mem_cons_self ..))]
        exact h1
      · rw [List.cons_append, List.map_cons, h4, hs.1]
end Go.Proofs.Ytdegjmceeggldaa
namespace Go.Proofs.Ytdegjmceeggldaa
open Go.RowKit Go.Shelf Go.Maps
set_option linter.unusedVariables false
set_option maxRecDepth 100000
/-- Where it lies: the table, the first link, the others. -/
structure Lo where
  t : Nat
  h : Nat
  ns : List Ln
def Lo.all (L : Lo) : List Ln := (L.h, zEx) :: L.ns
/-- The blocks that it has. -/
def XT (L : Lo) (k : Nat) : Prop := k = L.t ∨ k ∈ L.all.map Prod.fst
structure Pt (B : Nat) (w : World) (L : Lo) (s : Xt) : Prop where
  t : Tp w.heap.size w L.t L.h s.N s.last L.ns
  l : L.ns.map Prod.snd = s.l
  n : L.t ∉ L.all.map Prod.fst
  g : ∀ k, XT L k → B ≤ k
  ok : s.Ok
theorem Pt.below {B : Nat} {w w' : World} {L : Lo} {s : Xt} (h : Pt B w L s) (k : Below w.heap.size w w') : Pt B w' L s := ⟨(h.t.below k).up k.size, h.l, h.n, h.g, h.ok⟩
theorem Pt.lt {B : Nat} {w : World} {L : Lo} {s : Xt} (h : Pt B w L s) {k : Nat} (hk : XT L k) : k < w.heap.size := by
  rcases hk with rfl | hk
  · exact h.t.tl
  · obtain ⟨p, hp, rfl⟩ := List.mem_map.1 hk
    exact h.t.l.l p hp
theorem Lks.tys {w : World} : ∀ {ns : List Ln}, Lks w ns → ∀ p ∈ ns, ∃ c, Cl w p.1 41 c
  | [], _, p, hp => by cases hp
  | q :: r, h, p, hp => by
    rcases List.mem_cons.1 hp with rfl | hp
    · exact ⟨_, h.1⟩
    · exact Lks.tys h.2 p hp
/-- Of which type its blocks are. -/
theorem Pt.ty {B : Nat} {w : World} {L : Lo} {s : Xt} (h : Pt B w L s) {k : Nat} (hk : XT L k) : ∃ t c, Cl w k t c ∧ (t = 43 ∨ t = 41) := by
  rcases hk with rfl | hk
  · exact ⟨_, _, h.t.t, .inl rfl⟩
  · obtain ⟨p, hp, rfl⟩ := List.mem_map.1 hk
    obtain ⟨c, hc⟩ := Lks.tys h.t.l.k p hp
    exact ⟨_, _, hc, .inr rfl⟩
theorem Pt.stay {B : Nat} {w w' : World} {L : Lo} {s : Xt} {X : Nat → Prop} (h : Pt B w L s) (k : Apart X w w') (hx : ∀ i, XT L i → ¬ X i) : Pt B w' L s :=
  ⟨⟨h.t.t.stay k (hx _ (.inl rfl)), Nat.lt_of_lt_of_le h.t.tl k.size, ⟨Lks.stay h.t.l.k (fun i hi => k.block i (h.lt (.inr hi)) (hx i (.inr hi))), h.t.l.u, fun p hp => Nat.lt_of_lt_of_le (h.t.l.l p hp) k.size⟩⟩, h.l, h.n, h.g, h.ok⟩
/-- What a call comes to. -/
structure TStp (B : Nat) (w w' : World) (L : Lo) (s' : Xt) : Prop where
  out : ∃ L', L'.t = L.t ∧ Pt B w' L' s' ∧ ∀ k, XT L' k → XT L k ∨ w.heap.size ≤ k
  ap : Apart (XT L) w w'
theorem TStp.same {B : Nat} {w w' : World} {L : Lo} {s : Xt} (h : Pt B w L s) (k : Below w.heap.size w w') : TStp B w w' L s := ⟨⟨L, rfl, h.below k, fun _ => .inl⟩, Apart.of_below k⟩
theorem TStp.pre {B : Nat} {a b c : World} {L : Lo} {s' : Xt} (h : Below a.heap.size a b) (k : TStp B b c L s') : TStp B a c L s' :=
  ⟨k.out.elim fun L' hL => ⟨L', hL.1, hL.2.1, fun i hi => (hL.2.2 i hi).imp id (Nat.le_trans h.size)⟩, (Apart.of_below h).trans k.ap⟩
theorem TStp.post {B : Nat} {a b c : World} {L : Lo} {s' : Xt} (k : TStp B a b L s') (h : Below b.heap.size b c) : TStp B a c L s' :=
  ⟨k.out.elim fun L' hL => ⟨L', hL.1, hL.2.1.below h, hL.2.2⟩, k.ap.trans (Apart.of_below h)⟩
theorem TStp.low {B : Nat} {w w' : World} {L : Lo} {s s' : Xt} (k : TStp B w w' L s') (h : Pt B w L s) (hB : B ≤ w.heap.size) : Below B w w' := k.ap.below B (fun i hi => h.g i hi) hB
/-- A table whose list is another one. -/
theorem TStp.mk' {B : Nat} {w w' : World} {L : Lo} {s s' : Xt} (h : Pt B w L s) (hB : B ≤ w.heap.size) (ok : s'.Ok) (full : List Ln) (hk : Lks w' full) (hl : full.map Prod.snd = zEx :: s'.l) (hh : (full.head?.map Prod.fst) = some L.h)
    (hu : (full.map Prod.fst).Nodup) (hx : ∀ k ∈ full.map Prod.fst, k ∈ L.all.map Prod.fst ∨ w.heap.size ≤ k)
    (ht : Cl w' L.t 43 [.int .i64 s'.N, .pointer (some ⟨L.h, 0, none⟩), .int .u32 s'.last]) (ap : Apart (XT L) w w') : TStp B w w' L s' := by
  cases full with
  | nil => cases hl
  | cons a ns =>
    obtain ⟨b, y⟩ := a
    rw [List.map_cons, List.cons.injEq] at hl
    have hb : b = L.h := by simpa using hh
    have hy : y = zEx := hl.1
    subst hy
    subst hb
    have hX : ∀ k, XT ⟨L.t, L.h, ns⟩ k → XT L k ∨ w.heap.size ≤ k := by
      rintro k (rfl | hk2)
      · exact .inl (.inl rfl)
      · exact (hx k hk2).imp .inr id
    have hlt := hk.lt
    refine ⟨⟨⟨L.t, L.h, ns⟩, rfl, ⟨⟨ht, ht.lt, ⟨hk, hu, hlt⟩⟩, hl.2, ?_, ?_, ok⟩, hX⟩, ap⟩
    · intro hm
      rcases hx _ hm with h1 | h1
      · exact h.n h1
      · have h2 : w.heap.size ≤ L.t := h1
        have := h.t.tl
        omega
    · intro k hk2
      rcases hX k hk2 with h1 | h1
      · exact h.g k h1
      · omega
theorem Xt.Ok.of_l {s : Xt} {l : List Ex} (h : s.Ok) (hs : l.Sublist s.l) : ({ s with l := l } : Xt).Ok :=
  ⟨h.n1, h.n2, h.srt.sublist hs, fun x hx => h.ln x (hs.subset hx), h.ids.sublist (hs.map _), fun x hx => h.idl x (hs.subset hx), Nat.le_trans hs.length_le h.len⟩
/-- One of them is another one, in the same place, with the same number. -/
theorem Xt.Ok.one {s : Xt} {pre post : List Ex} {x x' : Ex} (h : s.Ok) (hl : s.l = pre ++ x :: post) (h1 : x'.st = x.st) (h2 : x'.id = x.id) (h3 : 1 ≤ x'.ln) (h4 : x'.st + x'.ln ≤ s.N) (h5 : ∀ y ∈ post, x'.st + x'.ln ≤ y.st) :
    ({ s with l := pre ++ x' :: post } : Xt).Ok := by
  obtain ⟨n1, n2, srt, ln, ids, idl, len⟩ := h
  rw [hl] at srt ln ids idl len
  have sp := List.pairwise_append.1 srt
  have sq := List.pairwise_cons.1 sp.2.1
  refine ⟨n1, n2, ?_, ?_, ?_, ?_, by simpa using len⟩
  · refine List.pairwise_append.2 ⟨sp.1, List.pairwise_cons.2 ⟨h5, sq.2⟩, fun a ha c hc => ?_⟩
    rcases List.mem_cons.1 hc with rfl | hc
    · rw [h1]; exact sp.2.2 a ha x (List.mem_cons_self ..)
    · exact sp.2.2 a ha c (List.mem_cons_of_mem _ hc)
  · intro a ha
    rcases List.mem_append.1 ha with ha | ha
    · exact ln a (List.mem_append_left _ ha)
    · rcases List.mem_cons.1 ha with rfl | ha
      · exact ⟨h3, h4⟩
      · exact ln a (List.mem_append_right _ (List.mem_cons_of_mem _ ha))
  · show ((pre ++ x' :: post).map Ex.id).Nodup
    rw [List.map_append, List.map_cons] at ids ⊢
    rw [h2]; exact ids
  · intro a ha
    rcases List.mem_append.1 ha with ha | ha
    · exact idl a (List.mem_append_left _ ha)
    · rcases List.mem_cons.1 ha with rfl | ha
      · rw [h2]; exact idl x (List.mem_append_right _ (List.mem_cons_self ..))
      · exact idl a (List.mem_append_right _ (List.mem_cons_of_mem _ ha))
/-- One more, with the next number. -/
theorem Xt.Ok.add {s : Xt} {pre post : List Ex} (x : Ex) (h : s.Ok) (hl : s.l = pre ++ post) (h1 : ∀ y ∈ pre, y.st + y.ln ≤ x.st) (h2 : ∀ y ∈ post, x.st + x.ln ≤ y.st) (h3 : 1 ≤ x.ln) (h4 : x.st + x.ln ≤ s.N) (h5 : s.l.length < 24) :
    (⟨s.N, pre ++ x.num (s.last + 1) :: post, s.last + 1⟩ : Xt).Ok := by
  obtain ⟨n1, n2, srt, ln, ids, idl, len⟩ := h
  rw [hl] at srt ln ids idl len h5
  have sp := List.pairwise_append.1 srt
  refine ⟨n1, n2, ?_, ?_, ?_, ?_, ?_⟩
  · refine List.pairwise_append.2 ⟨sp.1, List.pairwise_cons.2 ⟨h2, sp.2.1⟩, fun a ha c hc => ?_⟩
    rcases List.mem_cons.1 hc with rfl | hc
    · exact h1 a ha
    · exact sp.2.2 a ha c hc
  · intro a ha
    rcases List.mem_append.1 ha with ha | ha
    · exact ln a (List.mem_append_left _ ha)
    · rcases List.mem_cons.1 ha with rfl | ha
      · exact ⟨h3, h4⟩
      · exact ln a (List.mem_append_right _ ha)
  · show ((pre ++ x.num (s.last + 1) :: post).map Ex.id).Nodup
    rw [List.map_append] at ids ⊢
    rw [List.map_cons]
    have ip := List.nodup_append.1 ids
    have hn : ∀ i ∈ (pre ++ post).map Ex.id, i ≤ s.last := fun i hi => by
      obtain ⟨a, ha, rfl⟩ := List.mem_map.1 hi
      exact (idl a ha).2
    refine List.nodup_append.2 ⟨ip.1, List.nodup_cons.2 ⟨fun hm => ?_, ip.2.1⟩, fun a ha c hc => ?_⟩
    · have := hn _ (by rw [List.map_append]; exact List.mem_append_right _ hm)
      have e : (x.num (s.last + 1)).id = s.last + 1 := rfl
      omega
    · rcases List.mem_cons.1 hc with rfl | hc
      · have := hn a (by rw [List.map_append]; exact List.mem_append_left _ ha)
        have e : (x.num (s.last + 1)).id = s.last + 1 := rfl
        rw [e]
        omega
      · exact ip.2.2 a ha c hc
  · intro a ha
    show 1 ≤ a.id ∧ a.id ≤ s.last + 1
    rcases List.mem_append.1 ha with ha | ha
    · have := idl a (List.mem_append_left _ ha); omega
    · rcases List.mem_cons.1 ha with rfl | ha
      · exact ⟨Nat.succ_le_succ (Nat.zero_le _), Nat.le_refl _⟩
      · have := idl a (List.mem_append_right _ ha); omega
  · show (pre ++ x.num (s.last + 1) :: post).length ≤ 24
    simp at h5 ⊢
    omega
/-- The place of one with a number: the link ahead, its own, those behind. -/
theorem Pt.at {B : Nat} {w : World} {L : Lo} {s : Xt} (h : Pt B w L s) (id : Nat) (pre post : List Ex) (x : Ex) (hl : s.l = pre ++ x :: post) (hp : ∀ y ∈ pre, y.id ≠ id) (hx : x.id = id) :
    ∃ q b y d r, pst (notId id) (L.h, zEx) L.ns = ((b, y), (d, x) :: r) ∧ (L.h, zEx) :: L.ns = (q ++ [(b, y)]) ++ (d, x) :: r ∧ r.map Prod.snd = post ∧ (q ++ [(b, y)]).map Prod.snd = zEx :: pre := by
  obtain ⟨q, b, y, r, h1, h2, h3, h4⟩ := pst_at (notId id) pre (x :: post) (L.h, zEx) L.ns (h.l.trans hl) (fun z hz => decide_eq_true (hp z hz)) (fun z r e => by
    cases e
    exact decide_eq_false (by simpa using hx))
  cases r with
  | nil => cases h3
  | cons c r =>
    obtain ⟨d, x'⟩ := c
    rw [List.map_cons, List.cons.injEq] at h3
    have e : x' = x := h3.1
    subst e
    exact ⟨q, b, y, d, r, h1, by rw [h2]; simp, h3.2, h4⟩
theorem Pt.none {B : Nat} {w : World} {L : Lo} {s : Xt} (h : Pt B w L s) (id : Nat) (hp : ∀ y ∈ s.l, y.id ≠ id) : (pst (notId id) (L.h, zEx) L.ns).2 = [] := by
  obtain ⟨q, b, y, r, h1, h2, h3, h4⟩ := pst_at (notId id) s.l [] (L.h, zEx) L.ns (by rw [h.l]; simp) (fun z hz => decide_eq_true (hp z hz)) (fun z r e => by cases e)
  rw [h1]
  exact List.map_eq_nil_iff.1 h3
end Go.Proofs.Ytdegjmceeggldaa
