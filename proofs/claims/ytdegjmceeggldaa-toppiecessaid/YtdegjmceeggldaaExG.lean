/- How many sectors belong to nobody; whether some do; where so many lie first. Where so many sectors lie first that belong to nobody; whether some belong to nobody. Whether so many sectors from one on belong to nobody. -/
import Derived.Test.YtdegjmceeggldaaExD
namespace Go.Proofs.Ytdegjmceeggldaa
open Go.RowKit Go.Shelf Go.Maps
set_option linter.unusedVariables false
set_option maxRecDepth 100000
attribute [local go_sem] Oper.semAt_some
def sumG : List Gp → Int
  | [] => 0
  | g :: r => g.rm + sumG r
theorem sumG_snoc : ∀ (l : List Gp) (g : Gp), sumG (l ++ [g]) = sumG l + g.rm
  | [], g => by simp [sumG]
  | h :: r, g => by rw [List.cons_append, sumG, sumG, sumG_snoc r g]; omega
theorem sumG_le : ∀ (l : List Gp), sumG l ≤ 1000 * (l.length : Int) ∧ -(1000 * (l.length : Int)) ≤ sumG l
  | [] => by simp [sumG]
  | h :: r => by
    have := sumG_le r
    have := h.lo
    have := h.hi
    simp only [sumG, List.length_cons]
    omega
/-- All gaps. -/
def gpL (N : Nat) (hN : N ≤ 1000) (ns : List Ln) : List Gp := gpB [] (ns.map Prod.snd) ++ [gpEnd N hN (ns.map Prod.snd)]
end Go.Proofs.Ytdegjmceeggldaa
namespace Go.Proofs.Ytdegjmceeggldaa
open Go.RowKit Go.Shelf Go.Maps
set_option linter.unusedVariables false
set_option maxRecDepth 100000
attribute [local go_sem] Oper.semAt_some
theorem find_at {p : Gp → Bool} {gs q t : List Gp} {g : Gp} (h : gs = (q ++ [g]) ++ t) (hq : ∀ x ∈ q, p x = false) (hg : p g = true) : gs.find? p = some g := by
  subst h
  rw [List.append_assoc, List.find?_append, List.find?_eq_none.2 (by intro x hx; rw [hq x hx]; simp)]
  simp [hg]
theorem find_no {p : Gp → Bool} {gs : List Gp} (hq : ∀ x ∈ gs, p x = false) : gs.find? p = none := List.find?_eq_none.2 (by intro x hx; rw [hq x hx]; simp)
def longer (many : Int) (g : Gp) : Bool := decide (many ≤ g.rm)
def holds (start many : Int) (g : Gp) : Bool := decide ((g.fr : Int) ≤ start) && decide (start + many ≤ (g.fr : Int) + g.rm)
def roomO : Option Gp → Int × Int
  | some g => (g.fr, 0)
  | none => (0, 4)
end Go.Proofs.Ytdegjmceeggldaa
namespace Go.Proofs.Ytdegjmceeggldaa
open Go.RowKit Go.Shelf Go.Maps
set_option linter.unusedVariables false
set_option maxRecDepth 100000
attribute [local go_sem] Oper.semAt_some
set_option maxHeartbeats 1000000 in
theorem free_in (n : Nat) (hn : 8 ≤ n) (n₀ tb hb N last : Nat) (hN : N ≤ 1000) (ns : List Ln) (start many : Int) (hs0 : 0 ≤ start) (hs1 : start ≤ 1000) (hm : 1 ≤ many) (hm2 : many ≤ 1000) (w : World) (h : Tp n₀ w tb hb N last ns) (hn0 : n₀ ≤ w.heap.size) :
    CallsIn Fence.wide n Try.prog 12 #[.pointer (some ⟨tb, 0, none⟩), .int .i64 start, .int .i64 many] w fun e w' =>
      e = .returned (.bool ((gpL N hN ns).find? (holds start many)).isSome) ∧ Below w.heap.size w w' := by
  have hro : Fence.wide.round = none := rfl
  have cG := fun w => gaps_in (n - 1) tb w
  have hw1 : IntKind.i64.wrap (start + many) = start + many := by rw [IntKind.wrap_i64]; omega
  refine callsIn_of_wp_marks Try.func12 rfl trivial ?_ rfl
  simp only [Try.ntmps12, List.size_toArray, List.length_cons, List.length_nil, Nat.reduceAdd, Nat.reduceSub, Array.replicate_succ, Array.replicate_zero, List.push_toArray, List.append_toArray, List.nil_append, List.cons_append]
  gi_wp2_with (refine ⟨trivial, fun _ => by omega, ?_⟩; refine (cG _).mono ?_; rintro e w' ⟨rfl, rfl⟩)
  have b1 := (((Boxed.new w 3 (.int .i64 start)).alloc (.cells #[.int .i64 many] 3)).alloc (.cells #[.bool false] 4)).alloc (.cells #[.pointer (some ⟨tb, 0, none⟩)] 22)
  have b2 := ((Boxed.new (w.alloc (.cells #[.int .i64 start] 3)) 3 (.int .i64 many)).alloc (.cells #[.bool false] 4)).alloc (.cells #[.pointer (some ⟨tb, 0, none⟩)] 22)
  have b3 := (Boxed.new ((w.alloc (.cells #[.int .i64 start] 3)).alloc (.cells #[.int .i64 many] 3)) 4 (.bool false)).alloc (.cells #[.pointer (some ⟨tb, 0, none⟩)] 22)
  have b4 := Boxed.new (((w.alloc (.cells #[.int .i64 start] 3)).alloc (.cells #[.int .i64 many] 3)).alloc (.cells #[.bool false] 4)) 22 (.pointer (some ⟨tb, 0, none⟩))
  have hB : Below w.heap.size w ((((w.alloc (.cells #[.int .i64 start] 3)).alloc (.cells #[.int .i64 many] 3)).alloc (.cells #[.bool false] 4)).alloc (.cells #[.pointer (some ⟨tb, 0, none⟩)] 22)) := ((((Below.refl _ w).alloc (Nat.le_refl _) _).alloc (by simp) _).alloc (by simp; omega) _).alloc (by simp; omega) _
  have hz : ((((w.alloc (.cells #[.int .i64 start] 3)).alloc (.cells #[.int .i64 many] 3)).alloc (.cells #[.bool false] 4)).alloc (.cells #[.pointer (some ⟨tb, 0, none⟩)] 22)).heap.size = w.heap.size + 4 := by simp
  simp only [World.size_alloc] at b2 b3 b4
  generalize ((((w.alloc (.cells #[.int .i64 start] 3)).alloc (.cells #[.int .i64 many] 3)).alloc (.cells #[.bool false] 4)).alloc (.cells #[.pointer (some ⟨tb, 0, none⟩)] 22)) = W at *
  have hT : Tp n₀ W tb hb N last ns := h.below hB
  refine wpIn_rangeFunc_U (n := n) (w := W) (ps := #[11, 12]) (encs := gpA) hro (by omega) (gf := 30) (lb := #[.pointer (some ⟨w.heap.size + 1 + 1 + 1, 0, none⟩)]) rfl trivial (enters_of Try.func30 (by kernel_rfl) rfl)
    (Y := fun k => k = w.heap.size + 1 + 1)
    (gaps_seq (n - 1) (by omega) (w.heap.size + 1 + 1 + 1) n₀ tb hb N last hN ns (fun k => k = w.heap.size + 1 + 1 ∨ k = W.heap.size + 1) W (by rintro k (rfl | rfl) <;> omega) (by rintro (h | h) <;> omega) (by omega) b4.cell hT)
    (fun k hk e => by omega) (Below.refl _ _) (fun _ => rfl)
    (fun pre V => (((Boxed V w.heap.size 3 (.int .i64 start) ∧ Boxed V (w.heap.size + 1) 3 (.int .i64 many)) ∧ Boxed V (w.heap.size + 1 + 1) 4 (.bool false)) ∧ Below w.heap.size w V) ∧ ∀ g ∈ pre, holds start many g = false)
    (fun c pre V => (((c = .ret ∧ ∃ q g, pre = q ++ [g] ∧ (∀ x ∈ q, holds start many x = false) ∧ holds start many g = true) ∧ Boxed V (w.heap.size + 1 + 1) 4 (.bool true)) ∧ Below w.heap.size w V))
    (fun s A C hs hb => ⟨⟨⟨⟨(hb.block _ (by omega)).trans hs.1.1.1.1, (hb.block _ (by omega)).trans hs.1.1.1.2⟩, (hb.block _ (by omega)).trans hs.1.1.2⟩, hs.1.2.trans (hb.mono (by omega))⟩, hs.2⟩)
    (fun c s A C hs hb => ⟨⟨hs.1.1, (hb.block _ (by omega)).trans hs.1.2⟩, hs.2.trans (hb.mono (by omega))⟩)
    ⟨⟨⟨⟨b1, b2⟩, b3⟩, hB⟩, by simp⟩
    (fun x => { tmps := #[.pointer (some ⟨tb, 0, none⟩), .int .i64 start, .int .i64 many, undef, .pointer (some ⟨w.heap.size, 0, none⟩), .pointer (some ⟨w.heap.size + 1, 0, none⟩), .pointer (some ⟨w.heap.size + 1 + 1, 0, none⟩), .int .i64 x.fr, .int .i64 x.rm, .pointer (some ⟨tb, 0, none⟩), .func (.func 30) #[] #[.pointer (some ⟨w.heap.size + 1 + 1 + 1, 0, none⟩)], .int .i64 x.fr, .int .i64 x.rm, undef, undef, undef, undef, undef, undef, undef, undef, undef, undef, undef, undef], defers := [] }) ?assign ?body ?done ?stop
  case assign =>
    intro l x V K hK
    simp only [gpA]
    gi_wp2
    exact hK
  case body =>
    rintro l pre x V ⟨⟨⟨⟨h1, h2⟩, h3⟩, hbl⟩, hpre⟩ hlen
    have c1 := h1.cell
    have c2 := h2.cell
    have c3 := h3.cell
    have f3 := h3.frozen
    have hb1 := x.b
    have hb2 := x.lo
    have hb3 := x.hi
    have hw2 : IntKind.i64.wrap ((x.fr : Int) + x.rm) = (x.fr : Int) + x.rm := by rw [IntKind.wrap_i64]; omega
    have no : ∀ (hl : holds start many x = false) (V' : World), Apart (fun k => k = w.heap.size + 1 + 1) V V' → V' = V → postU (fun k => k = w.heap.size + 1 + 1) (fun pre V => (((Boxed V w.heap.size 3 (.int .i64 start) ∧ Boxed V (w.heap.size + 1) 3 (.int .i64 many)) ∧ Boxed V (w.heap.size + 1 + 1) 4 (.bool false)) ∧ Below w.heap.size w V) ∧ ∀ g ∈ pre, holds start many g = false)
        (fun c pre V => (((c = .ret ∧ ∃ q g, pre = q ++ [g] ∧ (∀ x ∈ q, holds start many x = false) ∧ holds start many g = true) ∧ Boxed V (w.heap.size + 1 + 1) 4 (.bool true)) ∧ Below w.heap.size w V)) (pre ++ [x]) V .normal { tmps := #[], defers := [] } V' := by
      rintro hl V' ha rfl
      refine ⟨ha, ⟨⟨⟨h1, h2⟩, h3⟩, hbl⟩, ?_⟩
      intro g hg
      rcases List.mem_append.1 hg with hg | hg
      · exact hpre g hg
      · rw [List.mem_singleton.1 hg]; exact hl
    by_cases hx : (x.fr : Int) ≤ start
    · have hx' : ¬ start < (x.fr : Int) := by omega
      by_cases hy : start + many ≤ (x.fr : Int) + x.rm
      · have hl : holds start many x = true := by unfold holds; rw [decide_eq_true hx, decide_eq_true hy]; rfl
        have hy' : ¬ (x.fr : Int) + x.rm < start + many := by omega
        clear no
        gi_wp2
        exact ⟨Apart.at V _ _ _ rfl, ⟨⟨rfl, pre, x, rfl, hpre, hl⟩, h3.set _⟩, hbl.trans (below_setC _ _ _ _ (by omega))⟩
      · have hl : holds start many x = false := by unfold holds; rw [decide_eq_false hy, Bool.and_false]
        have hy' : (x.fr : Int) + x.rm < start + many := by omega
        have N := no hl V (Apart.refl _ _) rfl
        clear no
        gi_wp2
        exact N
    · have hl : holds start many x = false := by unfold holds; rw [decide_eq_false hx]; rfl
      have hx' : start < (x.fr : Int) := by omega
      have N := no hl V (Apart.refl _ _) rfl
      clear no
      gi_wp2
      exact N
  case done =>
    rintro D ys V hD rfl ⟨⟨⟨⟨h1, h2⟩, h3⟩, hbl⟩, hpre⟩ hK
    have c3 := h3.cell
    have f3 := h3.frozen
    have r3 := h3.set (.bool false)
    have hF := find_no hpre
    gi_wp2
    have hK2 := (Below.heap_setCell V ⟨w.heap.size + 1 + 1, 0, none⟩ (.bool false) D (by show D ≠ w.heap.size + 1 + 1; omega)).trans hK
    have hbl2 := hbl.trans (below_setC _ V (w.heap.size + 1 + 1) (.bool false) (by omega))
    generalize V.setCell ⟨w.heap.size + 1 + 1, 0, none⟩ (.bool false) = V2 at *
    have hp := below_put (B := w.heap.size + 4) (W := V2) (l := D) (.deferred none) (by omega)
    have j3 : Boxed (V2.putObj D (.deferred none)) _ _ _ := (hp.block _ (by omega)).trans r3
    have k3 := j3.cell
    refine ⟨by simp, .inl ⟨_, _, rfl, run_takeDeferred hK2, ?_⟩⟩
    exact ⟨.bool false, by simp [results, Try.f12, go_sem, k3], by rw [show (gpL N hN ns).find? (holds start many) = none from hF]; rfl, hbl2.trans (hp.mono (by omega))⟩
  case stop =>
    rintro D c pre V hD hpre ⟨⟨⟨rfl, q, g, rfl, hq, hg⟩, h3⟩, hbl⟩ hK
    obtain ⟨t, ht⟩ := hpre
    have hF : (gpL N hN ns).find? (holds start many) = some g := find_at ht.symm hq hg
    gi_wp2
    have hp := below_put (B := w.heap.size + 4) (W := V) (l := D) (.deferred none) (by omega)
    have j3 : Boxed (V.putObj D (.deferred none)) _ _ _ := (hp.block _ (by omega)).trans h3
    have k3 := j3.cell
    refine ⟨by simp, .inl ⟨_, _, rfl, run_takeDeferred hK, ?_⟩⟩
    exact ⟨.bool true, by simp [results, Try.f12, go_sem, k3], by rw [hF]; rfl, hbl.trans (hp.mono (by omega))⟩
theorem free_any (n₀ tb hb N last : Nat) (hN : N ≤ 1000) (ns : List Ln) (start many : Int) (hs0 : 0 ≤ start) (hs1 : start ≤ 1000) (hm : 1 ≤ many) (hm2 : many ≤ 1000) (w : World) (h : Tp n₀ w tb hb N last ns) (hn0 : n₀ ≤ w.heap.size) :
    Calls Try.prog 12 #[.pointer (some ⟨tb, 0, none⟩), .int .i64 start, .int .i64 many] w fun e w' =>
      e = .returned (.bool ((gpL N hN ns).find? (holds start many)).isSome) ∧ Below w.heap.size w w' :=
  (callsIn_wide (n := 8)).1 (free_in 8 (by decide) n₀ tb hb N last hN ns start many hs0 hs1 hm hm2 w h hn0)
end Go.Proofs.Ytdegjmceeggldaa
