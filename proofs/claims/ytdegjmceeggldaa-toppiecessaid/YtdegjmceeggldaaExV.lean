/- An extent is split. Two extents are made one. -/
import Derived.Test.YtdegjmceeggldaaExT
import Derived.Deep.DeepCutAuto
import Derived.Lib.QuietBelow
namespace Go.Proofs.Ytdegjmceeggldaa
open Go.RowKit Go.Shelf Go.Maps
set_option linter.unusedVariables false
set_option maxRecDepth 100000
def Ex.cut (x : Ex) (a : Nat) (h : a ≤ x.st + x.ln) : Ex := { x with st := a, ln := x.st + x.ln - a, b := by have := x.b; omega }
theorem ins_nodup {A r : List Ln} {a c : Ln} {n : Nat} (hU : ((A ++ a :: r).map Prod.fst).Nodup) (hl : ∀ q ∈ A ++ a :: r, q.1 < n) (hc : n ≤ c.1) : ((A ++ a :: c :: r).map Prod.fst).Nodup := by
  have hn : c.1 ∉ (A ++ a :: r).map Prod.fst := fun hm => by
    obtain ⟨q, hq, e⟩ := List.mem_map.1 hm
    have := hl q hq
    omega
  have p : (A ++ a :: c :: r).Perm (c :: (A ++ a :: r)) := by
    have := List.perm_middle (a := c) (l₁ := A ++ [a]) (l₂ := r)
    simpa using this
  exact (p.map Prod.fst).nodup_iff.2 (List.nodup_cons.2 ⟨hn, hU⟩)
theorem xsplit_no (n₀ tb hb N last : Nat) (ns : List Ln) (ow id : Nat) (a : Int) (v : Value) (c : Int) (w : World) (h : Tp n₀ w tb hb N last ns) (hn0 : n₀ ≤ w.heap.size)
    (hr : hadR ow (pst (notId id) (hb, zEx) ns).2 = (v, c)) (hc : c ≠ 0) :
    Calls Try.prog 6 #[.pointer (some ⟨tb, 0, none⟩), .int .u8 ow, .int .u32 id, .int .i64 a] w fun e w' => e = .returned (.tuple #[.int .u32 0, .int .i64 c]) ∧ Below w.heap.size w w' := by
  have cH := had_any n₀ tb hb N last ns ow id w h hn0
  rw [hr] at cH
  clear h hr
  go_enter Try.func6, Try.ntmps6
  go_wp2_with fail
  refine cH.mono ?_
  rintro e W1 ⟨rfl, hB1⟩
  go_wp2
  go_ret2
  exact ⟨rfl, hB1⟩
set_option maxHeartbeats 1000000 in
theorem xsplit_far (n₀ tb hb N last : Nat) (ns : List Ln) (ow id b d : Nat) (a : Int) (y x : Ex) (pre r : List Ln) (w : World) (h : Tp n₀ w tb hb N last ns) (hn0 : n₀ ≤ w.heap.size)
    (hp : pst (notId id) (hb, zEx) ns = ((b, y), (d, x) :: r)) (hs : (hb, zEx) :: ns = (pre ++ [(b, y)]) ++ (d, x) :: r) (ho : x.ow = ow) (ha : a ≤ (x.st : Int) ∨ ((x.st + x.ln : Nat) : Int) ≤ a) :
    Calls Try.prog 6 #[.pointer (some ⟨tb, 0, none⟩), .int .u8 ow, .int .u32 id, .int .i64 a] w fun e w' => e = .returned (.tuple #[.int .u32 0, .int .i64 2]) ∧ Below w.heap.size w w' := by
  have cH := had_any n₀ tb hb N last ns ow id w h hn0
  have hxb := x.b
  rw [hp] at cH
  subst ho
  simp only [hadR, if_true] at cH
  have cE := fun w => end_any x w
  unfold exV at cE
  obtain ⟨E, hE⟩ : ∃ E : Int, ((x.st + x.ln : Nat) : Int) = E := ⟨_, rfl⟩
  have HEv : Hid3 (E = (x.st : Int) + (x.ln : Int)) := ⟨by omega⟩
  rw [hE] at cE
  rw [hE] at ha
  clear hE
  by_cases h1 : a ≤ (x.st : Int)
  · clear ha
    go_enter Try.func6, Try.ntmps6
    go_wp2_with fail
    refine cH.mono ?_
    rintro e W1 ⟨rfl, hB1⟩
    have hT1 := h.below hB1
    have hL : Lks W1 ((pre ++ [(b, y)]) ++ (d, x) :: r) := by rw [← hs]; exact hT1.l.k
    have hc := hL.drop.c
    have c0 := hc.c0
    have c1 := hc.c1
    have c2 := hc.c2
    have c3 := hc.c3
    have c4 := hc.c4
    have c5 := hc.c5
    have hX := Cl.new W1 37 (exCs x)
    have HB1 := Hid3.mk hB1
    clear cH hc hL hT1 hB1
    go_wp2
    go_ret2
    exact ⟨rfl, HB1.out.trans ((below_new W1 (.cells (exCs x).toArray 37)).mono HB1.out.size)⟩
  · have h2 : E ≤ a := ha.resolve_left h1
    have h1' : decide (a ≤ (x.st : Int)) = false := decide_eq_false h1
    clear ha
    go_enter Try.func6, Try.ntmps6
    go_wp2_with fail
    refine cH.mono ?_
    rintro e W1 ⟨rfl, hB1⟩
    have hT1 := h.below hB1
    have hL : Lks W1 ((pre ++ [(b, y)]) ++ (d, x) :: r) := by rw [← hs]; exact hT1.l.k
    have hc := hL.drop.c
    have c0 := hc.c0
    have c1 := hc.c1
    have c2 := hc.c2
    have c3 := hc.c3
    have c4 := hc.c4
    have c5 := hc.c5
    have hX := Cl.new W1 37 (exCs x)
    have HB1 := Hid3.mk hB1
    clear cH hc hL hT1 hB1
    go_wp2_with fail
    refine (cE _).mono ?_
    rintro e W2 ⟨rfl, hW2⟩
    have HB2 : Hid3 (Below w.heap.size w W2) := ⟨by rw [hW2]; exact (HB1.out.trans ((below_new W1 (.cells (exCs x).toArray 37)).mono HB1.out.size)).alloc (by simp; have := HB1.out.size; omega) _⟩
    clear hW2 c0 c1 c2 c3 c4 c5
    go_wp2
    go_ret2
    exact ⟨rfl, HB2.out⟩
set_option maxHeartbeats 2000000 in
theorem xsplit_full (n₀ tb hb N last : Nat) (ns : List Ln) (ow id b d a : Nat) (y x : Ex) (pre r : List Ln) (w : World) (h : Tp n₀ w tb hb N last ns) (hn0 : n₀ ≤ w.heap.size)
    (hp : pst (notId id) (hb, zEx) ns = ((b, y), (d, x) :: r)) (hs : (hb, zEx) :: ns = (pre ++ [(b, y)]) ++ (d, x) :: r) (ho : x.ow = ow) (ha1 : x.st < a) (ha2 : a < x.st + x.ln) (hlen : 24 ≤ ns.length) (hl2 : ns.length ≤ 100) :
    Calls Try.prog 6 #[.pointer (some ⟨tb, 0, none⟩), .int .u8 ow, .int .u32 id, .int .i64 a] w fun e w' => e = .returned (.tuple #[.int .u32 0, .int .i64 4]) ∧ Below w.heap.size w w' := by
  have cH := had_any n₀ tb hb N last ns ow id w h hn0
  have hxb := x.b
  rw [hp] at cH
  subst ho
  simp only [hadR, if_true] at cH
  have cE := fun w => end_any x w
  unfold exV at cE
  obtain ⟨E, hE⟩ : ∃ E : Int, ((x.st + x.ln : Nat) : Int) = E := ⟨_, rfl⟩
  have HEv : Hid3 (E = (x.st : Int) + (x.ln : Int)) := ⟨by omega⟩
  rw [hE] at cE
  clear hE
  have h1 : ¬ (a : Int) ≤ (x.st : Int) := by omega
  have h2 : ¬ E ≤ (a : Int) := by have := HEv.out; omega
  have hw1 : IntKind.i64.wrap (E - (a : Int)) = E - (a : Int) := by have := HEv.out; rw [IntKind.wrap_i64]; omega
  go_enter Try.func6, Try.ntmps6
  go_wp2_with fail
  refine cH.mono ?_
  rintro e W1 ⟨rfl, hB1⟩
  have hT1 := h.below hB1
  have hL : Lks W1 ((pre ++ [(b, y)]) ++ (d, x) :: r) := by rw [← hs]; exact hT1.l.k
  have hc := hL.drop.c
  have c0 := hc.c0
  have c1 := hc.c1
  have c2 := hc.c2
  have c3 := hc.c3
  have c4 := hc.c4
  have c5 := hc.c5
  have hX := Cl.new W1 37 (exCs x)
  have HB1 := Hid3.mk hB1
  clear cH hc hL hT1 hB1
  go_wp2_with fail
  refine (cE _).mono ?_
  rintro e W2 ⟨rfl, hW2⟩
  have hx2 : Cl W2 W1.heap.size 37 (exCs x) := by rw [hW2]; exact hX.alloc _
  have HB2 : Hid3 (Below w.heap.size w W2) := ⟨by rw [hW2]; exact (HB1.out.trans ((below_new W1 (.cells (exCs x).toArray 37)).mono HB1.out.size)).alloc (by simp; have := HB1.out.size; omega) _⟩
  have v0 := hx2.cell 0
  have v1 := hx2.cell 1
  have v2 := hx2.cell 2
  have v3 := hx2.cell 3
  have v4 := hx2.cell 4
  have v5 := hx2.cell 5
  simp only [List.getElem?_cons_zero, List.getElem?_cons_succ, exCs] at v0 v1 v2 v3 v4 v5
  have hl2 := hx2.lt
  clear hW2 c0 c1 c2 c3 c4 c5
  go_wp2_with fail
  refine (cE _).mono ?_
  rintro e W3 ⟨rfl, hW3⟩
  have hx3 : Cl W3 W1.heap.size 37 (exCs x) := by rw [hW3]; exact hx2.alloc _
  have HB3 : Hid3 (Below w.heap.size w W3) := ⟨by rw [hW3]; exact HB2.out.alloc HB2.out.size _⟩
  clear hW3 v0 v1 v2 v3 v4 v5 hl2 hx2 cE
  have hl3 := hx3.lt
  have f1 := hx3.thaw 1
  have f2 := (hx3.set 1 (.int .i64 (a : Int))).thaw 2
  have hx4 := (hx3.set 1 (.int .i64 (a : Int))).set 2 (.int .i64 (E - (a : Int)))
  have u1 := hx3.cell 1
  have u2 := hx3.cell 2
  have g2' := hx3.thaw 2
  have u0 := hx3.cell 0
  have u3 := hx3.cell 3
  have u4 := hx3.cell 4
  have u5 := hx3.cell 5
  simp only [List.getElem?_cons_zero, List.getElem?_cons_succ, exCs] at u0 u1 u2 u3 u4 u5
  have hnW : w.heap.size ≤ W1.heap.size := HB1.out.size
  have HB4 : Hid3 (Below w.heap.size w ((W3.setCell ⟨W1.heap.size, 1, none⟩ (.int .i64 (a : Int))).setCell ⟨W1.heap.size, 2, none⟩ (.int .i64 (E - (a : Int))))) :=
    ⟨(HB3.out.trans (Apart.at (X := fun k => k = W1.heap.size) W3 W1.heap.size 1 _ rfl |>.below _ (fun k e => by rw [e]; exact hnW) HB3.out.size)).trans (Apart.at (X := fun k => k = W1.heap.size) _ W1.heap.size 2 _ rfl |>.below _ (fun k e => by rw [e]; exact hnW) (by rw [size_setCell]; exact HB3.out.size))⟩
  have hnum : exV (x.cut a (Nat.le_of_lt ha2)) = .agg #[.int .u32 x.id, .int .i64 (a : Int), .int .i64 (E - (a : Int)), .int .u8 x.ow, .string x.nm, .int .u8 x.rt.toNat] := by
    rw [show E - (a : Int) = ((x.st + x.ln - a : Nat) : Int) by have := HEv.out; omega]
    rfl
  have cP := add_full n₀ tb hb N last ns (.pointer (some ⟨d, 0, none⟩)) (x.cut a (Nat.le_of_lt ha2)) _ (h.below HB4.out) (Nat.le_trans hn0 HB4.out.size) hlen hl2
  rw [hnum] at cP
  clear hnum h hp hs
  go_wp2_with fail
  refine cP.mono ?_
  rintro e W5 ⟨rfl, hB5⟩
  have HB5 : Hid3 (Below w.heap.size w W5) := ⟨HB4.out.trans (hB5.mono HB4.out.size)⟩
  clear cP hB5 hx3 hx4 u0 u1 u2 u3 u4 u5 g2' f1 f2 hX
  go_wp2
  go_ret2
  exact ⟨rfl, HB5.out⟩
set_option maxHeartbeats 2000000 in
theorem xsplit_ok (n₀ tb hb N last : Nat) (ns : List Ln) (ow id b d a : Nat) (y x : Ex) (pre r : List Ln) (w : World) (h : Tp n₀ w tb hb N last ns) (hn0 : n₀ ≤ w.heap.size)
    (hp : pst (notId id) (hb, zEx) ns = ((b, y), (d, x) :: r)) (hs : (hb, zEx) :: ns = (pre ++ [(b, y)]) ++ (d, x) :: r) (ho : x.ow = ow) (ha1 : x.st < a) (ha2 : a < x.st + x.ln) (hlen : ns.length < 24) (hlast : last < 1000000) (htb : tb ∉ ((hb, zEx) :: ns).map Prod.fst) (hxa : x.st + (a - x.st) ≤ 1000) :
    Calls Try.prog 6 #[.pointer (some ⟨tb, 0, none⟩), .int .u8 ow, .int .u32 id, .int .i64 a] w fun e w' => e = .returned (.tuple #[.int .u32 (last + 1 : Nat), .int .i64 0]) ∧
      ∃ d', AddC w w' tb hb N last d (x.len (a - x.st) hxa) (x.cut a (Nat.le_of_lt ha2)) (pre ++ [(b, y)]) r d' := by
  have cH := had_any n₀ tb hb N last ns ow id w h hn0
  have hxb := x.b
  rw [hp] at cH
  subst ho
  simp only [hadR, if_true] at cH
  have cE := fun w => end_any x w
  unfold exV at cE
  obtain ⟨E, hE⟩ : ∃ E : Int, ((x.st + x.ln : Nat) : Int) = E := ⟨_, rfl⟩
  have HEv : Hid3 (E = (x.st : Int) + (x.ln : Int)) := ⟨by omega⟩
  rw [hE] at cE
  clear hE
  have h1 : ¬ (a : Int) ≤ (x.st : Int) := by omega
  have h2 : ¬ E ≤ (a : Int) := by have := HEv.out; omega
  have hw1 : IntKind.i64.wrap (E - (a : Int)) = E - (a : Int) := by have := HEv.out; rw [IntKind.wrap_i64]; omega
  have hw2 : IntKind.i64.wrap ((x.ln : Int) - (E - (a : Int))) = (x.ln : Int) - (E - (a : Int)) := by have := HEv.out; rw [IntKind.wrap_i64]; omega
  go_enter Try.func6, Try.ntmps6
  go_wp2_with fail
  refine cH.mono ?_
  rintro e W1 ⟨rfl, hB1⟩
  have hT1 := h.below hB1
  have hL : Lks W1 ((pre ++ [(b, y)]) ++ (d, x) :: r) := by rw [← hs]; exact hT1.l.k
  have hc := hL.drop.c
  have c0 := hc.c0
  have c1 := hc.c1
  have c2 := hc.c2
  have c3 := hc.c3
  have c4 := hc.c4
  have c5 := hc.c5
  have hX := Cl.new W1 37 (exCs x)
  have HB1 := Hid3.mk hB1
  clear cH hc hL hT1 hB1
  go_wp2_with fail
  refine (cE _).mono ?_
  rintro e W2 ⟨rfl, hW2⟩
  have hx2 : Cl W2 W1.heap.size 37 (exCs x) := by rw [hW2]; exact hX.alloc _
  have HB2 : Hid3 (Below w.heap.size w W2) := ⟨by rw [hW2]; exact (HB1.out.trans ((below_new W1 (.cells (exCs x).toArray 37)).mono HB1.out.size)).alloc (by simp; have := HB1.out.size; omega) _⟩
  have v0 := hx2.cell 0
  have v1 := hx2.cell 1
  have v2 := hx2.cell 2
  have v3 := hx2.cell 3
  have v4 := hx2.cell 4
  have v5 := hx2.cell 5
  simp only [List.getElem?_cons_zero, List.getElem?_cons_succ, exCs] at v0 v1 v2 v3 v4 v5
  have hl2 := hx2.lt
  clear hW2 c0 c1 c2 c3 c4 c5
  go_wp2_with fail
  refine (cE _).mono ?_
  rintro e W3 ⟨rfl, hW3⟩
  have hx3 : Cl W3 W1.heap.size 37 (exCs x) := by rw [hW3]; exact hx2.alloc _
  have HB3 : Hid3 (Below w.heap.size w W3) := ⟨by rw [hW3]; exact HB2.out.alloc HB2.out.size _⟩
  clear hW3 v0 v1 v2 v3 v4 v5 hl2 hx2 cE
  have hl3 := hx3.lt
  have f1 := hx3.thaw 1
  have f2 := (hx3.set 1 (.int .i64 (a : Int))).thaw 2
  have hx4 := (hx3.set 1 (.int .i64 (a : Int))).set 2 (.int .i64 (E - (a : Int)))
  have u1 := hx3.cell 1
  have u2 := hx3.cell 2
  have g2' := hx3.thaw 2
  have u0 := hx3.cell 0
  have u3 := hx3.cell 3
  have u4 := hx3.cell 4
  have u5 := hx3.cell 5
  simp only [List.getElem?_cons_zero, List.getElem?_cons_succ, exCs] at u0 u1 u2 u3 u4 u5
  have hnW : w.heap.size ≤ W1.heap.size := HB1.out.size
  have HB4 : Hid3 (Below w.heap.size w ((W3.setCell ⟨W1.heap.size, 1, none⟩ (.int .i64 (a : Int))).setCell ⟨W1.heap.size, 2, none⟩ (.int .i64 (E - (a : Int))))) :=
    ⟨(HB3.out.trans (Apart.at (X := fun k => k = W1.heap.size) W3 W1.heap.size 1 _ rfl |>.below _ (fun k e => by rw [e]; exact hnW) HB3.out.size)).trans (Apart.at (X := fun k => k = W1.heap.size) _ W1.heap.size 2 _ rfl |>.below _ (fun k e => by rw [e]; exact hnW) (by rw [size_setCell]; exact HB3.out.size))⟩
  have hnum : exV (x.cut a (Nat.le_of_lt ha2)) = .agg #[.int .u32 x.id, .int .i64 (a : Int), .int .i64 (E - (a : Int)), .int .u8 x.ow, .string x.nm, .int .u8 x.rt.toNat] := by
    rw [show E - (a : Int) = ((x.st + x.ln - a : Nat) : Int) by have := HEv.out; omega]
    rfl
  have cP := add_any n₀ tb hb N last ns (pre ++ [(b, y)]) d x (x.cut a (Nat.le_of_lt ha2)) r _ (h.below HB4.out) (Nat.le_trans hn0 HB4.out.size) hs hlen hlast htb
  rw [hnum] at cP
  have hdn : d < n₀ := h.l.l (d, x) (by rw [hs]; simp)
  have htn : tb < n₀ := h.tl
  have hU : (((pre ++ [(b, y)]) ++ (d, x) :: r).map Prod.fst).Nodup := by rw [← hs]; exact h.l.u
  have hlow := h.l.l
  have htb' : tb ≠ d := fun e => htb (by rw [hs, e]; simp)
  clear hnum h hp
  go_wp2_with fail
  refine cP.mono ?_
  rintro e W5 ⟨rfl, d', hA⟩
  have hU5 : (((pre ++ [(b, y)]) ++ (d, x) :: (d', (x.cut a (Nat.le_of_lt ha2)).num (last + 1)) :: r).map Prod.fst).Nodup :=
    ins_nodup hU (fun q hq => hlow q (by rw [hs]; exact hq)) (Nat.le_trans (Nat.le_trans hn0 HB4.out.size) hA.d0)
  have hbox : ¬ (W1.heap.size = tb ∨ W1.heap.size = d) := by omega
  have hx5 := hx4.stay hA.ap hbox
  have z2 := hx5.cell 2
  simp only [List.getElem?_cons_zero, List.getElem?_cons_succ, exCs, List.set_cons_zero, List.set_cons_succ] at z2
  have d2 := hA.k.drop.c.c2
  have g2 := hA.k.drop.1.thaw 2
  have hL6 := set_lks (y := x) (y' := x.len (a - x.st) hxa) 2 (.int .i64 ((x.ln : Int) - (E - (a : Int)))) (by rw [show (x.ln : Int) - (E - (a : Int)) = ((a - x.st : Nat) : Int) by have := HEv.out; omega]; rfl) hA.k hU5
  have HA : Hid3 (AddC w ((W5.setCell ⟨d, 2, none⟩ (.int .i64 ((x.ln : Int) - (E - (a : Int))))).drew) tb hb N last d (x.len (a - x.st) hxa) (x.cut a (Nat.le_of_lt ha2)) (pre ++ [(b, y)]) r d') :=
    ⟨⟨(((Apart.of_below HB4.out).trans (hA.ap)).trans (Apart.at (X := fun k => k = tb ∨ k = d) W5 d 2 _ (.inr rfl))).drew, Nat.le_trans HB4.out.size hA.d0, by
      show d' < (W5.setCell ⟨d, 2, none⟩ _).heap.size
      rw [size_setCell]; exact hA.d1, (hA.t.other htb' 2 _).drew, hL6.stay (fun _ _ => rfl)⟩⟩
  clear cP hA hx3 hx4 hx5 u0 u1 u2 u3 u4 u5 g2' f1 f2 hX hL6 hU5 hU
  go_wp2
  go_region
  all_goals
    go_wp2
    go_ret2
    exact ⟨rfl, d', HA.out⟩
end Go.Proofs.Ytdegjmceeggldaa
namespace Go.Proofs.Ytdegjmceeggldaa
open Go.RowKit Go.Shelf Go.Maps Go.Sort
set_option linter.unusedVariables false
set_option maxRecDepth 100000
theorem eqGuardC : Try.prog.eqGuardType Try.prog.depth 29 = false := by kernel_rfl
set_option maxHeartbeats 2000000 in
theorem eqC (w : World) (n m : ByteArray) (r q : Int) : (Op.equalIn 10000 29 (.agg #[.string n, .int .u8 r]) (.agg #[.string m, .int .u8 q])).run Try.prog w = .ok (n.toList == m.toList && r == q) w := by
  show (Op.equalIn (9998 + 1 + 1) 29 _ _).run Try.prog w = _
  rw [Op.equalIn]
  simp only [Sem.run_bind, run_underlying Try.underlying29, Result.andThen_ok]
  cases h0 : (n.toList == m.toList) <;> by_cases h1 : r = q <;> simp [go_sem, h0, h1]
/-- Have both the same guard? -/
def sameG (x y : Ex) : Bool := x.nm.toList == y.nm.toList && (x.rt.toNat : Int) == (y.rt.toNat : Int)
theorem end_b (x : Ex) (w : World) : Calls Try.prog 17 #[exV x] w fun e w' => e = .returned (.int .i64 ((x.st + x.ln : Nat) : Int)) ∧ Below w.heap.size w w' :=
  (end_any x w).mono fun e w' h => ⟨h.1, by rw [h.2]; exact below_new w _⟩
/-- The two, copied into blocks of their own. -/
structure Bx (W W' : World) (i j : Nat) (x y : Ex) : Prop where
  xi : Cl W' i 37 (exCs x)
  yj : Cl W' j 37 (exCs y)
  bl : Below W.heap.size W W'
  gi : W.heap.size ≤ i
  gj : W.heap.size ≤ j
theorem Bx.low {W W' V : World} {i j : Nat} {x y : Ex} (h : Bx W W' i j x y) (k : Below W'.heap.size W' V) : Bx W V i j x y := ⟨h.xi.below k, h.yj.below k, h.bl.trans (k.mono h.bl.size), h.gi, h.gj⟩
theorem Bx.one (W : World) (x y : Ex) : Bx W ((W.alloc (.cells (exCs x).toArray 37)).alloc (.cells (exCs y).toArray 37)).drew W.heap.size (W.heap.size + 1) x y := by
  have h1 := Cl.new W 37 (exCs x)
  have h2 := Cl.new (W.alloc (.cells (exCs x).toArray 37)) 37 (exCs y)
  rw [World.size_alloc] at h2
  exact ⟨(h1.alloc _).drew, h2.drew, (((Below.refl _ W).alloc (Nat.le_refl _) _).alloc (by simp) _).drew, Nat.le_refl _, Nat.le_succ _⟩
theorem Bx.two (W : World) (x y : Ex) : Bx W ((W.alloc (.cells (exCs y).toArray 37)).alloc (.cells (exCs x).toArray 37)).drew (W.heap.size + 1) W.heap.size x y := by
  have h := Bx.one W y x
  exact ⟨h.yj, h.xi, h.bl, h.gj, h.gi⟩
theorem merge_no (n₀ tb hb N last : Nat) (ns : List Ln) (ow id ib : Nat) (v : Value) (c : Int) (w : World) (h : Tp n₀ w tb hb N last ns) (hn0 : n₀ ≤ w.heap.size)
    (hr : hadR ow (pst (notId id) (hb, zEx) ns).2 = (v, c)) (hc : c ≠ 0) :
    Calls Try.prog 9 #[.pointer (some ⟨tb, 0, none⟩), .int .u8 ow, .int .u32 id, .int .u32 ib] w fun e w' => e = .returned (.int .i64 c) ∧ Below w.heap.size w w' := by
  have cH := had_any n₀ tb hb N last ns ow id w h hn0
  rw [hr] at cH
  clear h hr
  go_enter Try.func9, Try.ntmps9
  go_wp2_with fail
  refine cH.mono ?_
  rintro e W1 ⟨rfl, hB1⟩
  go_wp2
  go_ret
  exact ⟨rfl, hB1⟩
theorem merge_no2 (n₀ tb hb N last : Nat) (ns : List Ln) (ow ia ib b d : Nat) (y x : Ex) (r : List Ln) (v : Value) (c : Int) (w : World) (h : Tp n₀ w tb hb N last ns) (hn0 : n₀ ≤ w.heap.size)
    (hp : pst (notId ia) (hb, zEx) ns = ((b, y), (d, x) :: r)) (ho : x.ow = ow) (hr : hadR ow (pst (notId ib) (hb, zEx) ns).2 = (v, c)) (hc : c ≠ 0) :
    Calls Try.prog 9 #[.pointer (some ⟨tb, 0, none⟩), .int .u8 ow, .int .u32 ia, .int .u32 ib] w fun e w' => e = .returned (.int .i64 c) ∧ Below w.heap.size w w' := by
  have cH := had_any n₀ tb hb N last ns ow ia w h hn0
  have cH' := fun w h h2 => had_any n₀ tb hb N last ns ow ib w h h2
  rw [hp] at cH
  rw [hr] at cH'
  subst ho
  simp only [hadR, if_true] at cH
  go_enter Try.func9, Try.ntmps9
  go_wp2_with fail
  refine cH.mono ?_
  rintro e W1 ⟨rfl, hB1⟩
  have cH2 := cH' _ (h.below hB1) (Nat.le_trans hn0 hB1.size)
  clear cH cH'
  go_wp2_with fail
  refine cH2.mono ?_
  rintro e W2 ⟨rfl, hB2⟩
  have HB : Hid3 (Below w.heap.size w W2) := ⟨hB1.trans (hB2.mono hB1.size)⟩
  clear cH2 hB1 hB2 h hp hr
  go_wp2
  go_ret
  exact ⟨rfl, HB.out⟩
set_option maxHeartbeats 4000000 in
theorem merge_far (n₀ tb hb N last : Nat) (ns : List Ln) (ow ia ib b d b' d' : Nat) (y x y' z : Ex) (r r' : List Ln) (pre pre' : List Ln) (w : World) (h : Tp n₀ w tb hb N last ns) (hn0 : n₀ ≤ w.heap.size)
    (hp : pst (notId ia) (hb, zEx) ns = ((b, y), (d, x) :: r)) (hs : (hb, zEx) :: ns = (pre ++ [(b, y)]) ++ (d, x) :: r) (ho : x.ow = ow)
    (hp' : pst (notId ib) (hb, zEx) ns = ((b', y'), (d', z) :: r')) (hs' : (hb, zEx) :: ns = (pre' ++ [(b', y')]) ++ (d', z) :: r') (ho' : z.ow = ow)
    (hne : x.st + x.ln ≠ z.st) :
    Calls Try.prog 9 #[.pointer (some ⟨tb, 0, none⟩), .int .u8 ow, .int .u32 ia, .int .u32 ib] w fun e w' => e = .returned (.int .i64 9) ∧ Below w.heap.size w w' := by
  have cH := had_any n₀ tb hb N last ns ow ia w h hn0
  have cH' := fun w h h2 => had_any n₀ tb hb N last ns ow ib w h h2
  rw [hp] at cH
  rw [hp'] at cH'
  subst ho
  simp only [hadR, if_true, ho'] at cH cH'
  have cE := fun W => end_b x W
  obtain ⟨E, hE⟩ : ∃ E : Int, ((x.st + x.ln : Nat) : Int) = E := ⟨_, rfl⟩
  rw [hE] at cE
  have hd : (E != (z.st : Int)) = true := by rw [bne_iff_ne]; omega
  clear hE hne
  unfold exV at cE
  have eG := eqGuardC
  have eM := fun W => eqC W x.nm z.nm (x.rt.toNat : Int) (z.rt.toNat : Int)
  clear eM eG
  have HH : Hid3 (Tp n₀ w tb hb N last ns) := ⟨h⟩
  have HS : Hid3 ((hb, zEx) :: ns = (pre ++ [(b, y)]) ++ (d, x) :: r) := ⟨hs⟩
  go_enter Try.func9, Try.ntmps9
  go_wp2_with fail
  refine cH.mono ?_
  rintro e W1 ⟨rfl, hB1⟩
  have cH2 := cH' _ (h.below hB1) (Nat.le_trans hn0 hB1.size)
  clear cH cH'
  go_wp2_with fail
  refine cH2.mono ?_
  rintro e W2 ⟨rfl, hB2⟩
  have HB : Hid3 (Below w.heap.size w W2) := ⟨hB1.trans (hB2.mono hB1.size)⟩
  have hT := h.below HB.out
  have hL : Lks W2 ((pre ++ [(b, y)]) ++ (d, x) :: r) := by rw [← hs]; exact hT.l.k
  have hL' : Lks W2 ((pre' ++ [(b', y')]) ++ (d', z) :: r') := by rw [← hs']; exact hT.l.k
  have hc := hL.drop.c
  have c0 := hc.c0
  have c1 := hc.c1
  have c2 := hc.c2
  have c3 := hc.c3
  have c4 := hc.c4
  have c5 := hc.c5
  have hc' := hL'.drop.c
  have e0 := hc'.c0
  have e1 := hc'.c1
  have e2 := hc'.c2
  have e3 := hc'.c3
  have e4 := hc'.c4
  have e5 := hc'.c5
  have hdl := hL.drop.1.lt
  have hdl' := hL'.drop.1.lt
  have F1 := Hid3.mk (Bx.one W2 x z)
  have F2 := Hid3.mk (Bx.two W2 x z)
  have hX : (exCs x).toArray = #[.int .u32 x.id, .int .i64 x.st, .int .i64 x.ln, .int .u8 x.ow, .string x.nm, .int .u8 x.rt.toNat] := rfl
  have hZ : (exCs z).toArray = #[.int .u32 z.id, .int .i64 z.st, .int .i64 z.ln, .int .u8 z.ow, .string z.nm, .int .u8 z.rt.toNat] := rfl
  rw [hX, hZ] at F1 F2
  clear hc hc' hL hL' hT cH2 hB1 hB2 h hp hp' hs hs' ho' hX hZ
  go_wp2_with fail
  go_cut [12, 13] (fun p q wx => ∃ i j W', W' = wx ∧ p = .pointer (some ⟨i, 0, none⟩) ∧ q = .pointer (some ⟨j, 0, none⟩) ∧ Hid3 (Bx W2 W' i j x z))
  case first =>
    go_region
    all_goals
      go_wp2_with fail
      go_meet
      case rel => first | exact ⟨_, _, _, rfl, rfl, rfl, F1⟩ | exact ⟨_, _, _, rfl, rfl, rfl, F2⟩
  case rest =>
    obtain ⟨i, j, W3, rfl, rfl, rfl, HX⟩ := hcut
    clear c0 c1 c2 c3 c4 c5 e0 e1 e2 e3 e4 e5 hdl hdl' F1 F2
    have hxi := HX.out.xi
    have hyj := HX.out.yj
    have c0 := hxi.cell 0
    have c1 := hxi.cell 1
    have c2 := hxi.cell 2
    have c3 := hxi.cell 3
    have c4 := hxi.cell 4
    have c5 := hxi.cell 5
    have e1 := hyj.cell 1
    have e4 := hyj.cell 4
    have e5 := hyj.cell 5
    simp only [List.getElem?_cons_zero, List.getElem?_cons_succ, exCs] at c0 c1 c2 c3 c4 c5 e1 e4 e5
    have k0 := fun d os => cell_regrown c0 d os
    have k1 := fun d os => cell_regrown c1 d os
    have k2 := fun d os => cell_regrown c2 d os
    have k3 := fun d os => cell_regrown c3 d os
    have k4 := fun d os => cell_regrown c4 d os
    have k5 := fun d os => cell_regrown c5 d os
    have m1 := fun d os => cell_regrown e1 d os
    have m4 := fun d os => cell_regrown e4 d os
    have m5 := fun d os => cell_regrown e5 d os
    have dN := fun d os => Calls.regrown_of (cE (grow (redrawn W3 d) os))
    clear hxi hyj cE
    go_wp2_with fail
    refine wp_region_quiet_below (by kernel_rfl) (by kernel_rfl) ?_
    repeat (quiet_step (exact dN _ _))
    refine wpQuiet_nil ?_
    intro _ hw'
    obtain ⟨⟨dq, osq⟩, hw''⟩ := hw'
    subst hw''
    have HX4 := Hid3.mk (HX.out.low (below_regrown W3 dq osq))
    clear k0 k1 k2 k3 k4 k5 m1 m4 m5 dN c0 c1 c2 c3 c4 c5 e1 e4 e5 HX
    generalize grow (redrawn W3 dq) osq = W4 at *
    go_wp2
    go_ret
    exact ⟨rfl, HB.out.trans (HX4.out.bl.mono HB.out.size)⟩
set_option maxHeartbeats 4000000 in
theorem merge_grd (n₀ tb hb N last : Nat) (ns : List Ln) (ow ia ib b d b' d' : Nat) (y x y' z : Ex) (r r' : List Ln) (pre pre' : List Ln) (w : World) (h : Tp n₀ w tb hb N last ns) (hn0 : n₀ ≤ w.heap.size)
    (hp : pst (notId ia) (hb, zEx) ns = ((b, y), (d, x) :: r)) (hs : (hb, zEx) :: ns = (pre ++ [(b, y)]) ++ (d, x) :: r) (ho : x.ow = ow)
    (hp' : pst (notId ib) (hb, zEx) ns = ((b', y'), (d', z) :: r')) (hs' : (hb, zEx) :: ns = (pre' ++ [(b', y')]) ++ (d', z) :: r') (ho' : z.ow = ow)
    (hne : x.st + x.ln = z.st) (hgd : sameG x z = false) :
    Calls Try.prog 9 #[.pointer (some ⟨tb, 0, none⟩), .int .u8 ow, .int .u32 ia, .int .u32 ib] w fun e w' => e = .returned (.int .i64 9) ∧ Below w.heap.size w w' := by
  have cH := had_any n₀ tb hb N last ns ow ia w h hn0
  have cH' := fun w h h2 => had_any n₀ tb hb N last ns ow ib w h h2
  rw [hp] at cH
  rw [hp'] at cH'
  subst ho
  simp only [hadR, if_true, ho'] at cH cH'
  have cE := fun W => end_b x W
  obtain ⟨E, hE⟩ : ∃ E : Int, ((x.st + x.ln : Nat) : Int) = E := ⟨_, rfl⟩
  rw [hE] at cE
  have hd : (E != (z.st : Int)) = false := by rw [bne_eq_false_iff_eq]; omega
  clear hE hne
  unfold exV at cE
  have eG := eqGuardC
  have eM := fun W => eqC W x.nm z.nm (x.rt.toNat : Int) (z.rt.toNat : Int)
  unfold sameG at hgd
  rw [hgd] at eM
  clear hgd
  have HH : Hid3 (Tp n₀ w tb hb N last ns) := ⟨h⟩
  have HS : Hid3 ((hb, zEx) :: ns = (pre ++ [(b, y)]) ++ (d, x) :: r) := ⟨hs⟩
  go_enter Try.func9, Try.ntmps9
  go_wp2_with fail
  refine cH.mono ?_
  rintro e W1 ⟨rfl, hB1⟩
  have cH2 := cH' _ (h.below hB1) (Nat.le_trans hn0 hB1.size)
  clear cH cH'
  go_wp2_with fail
  refine cH2.mono ?_
  rintro e W2 ⟨rfl, hB2⟩
  have HB : Hid3 (Below w.heap.size w W2) := ⟨hB1.trans (hB2.mono hB1.size)⟩
  have hT := h.below HB.out
  have hL : Lks W2 ((pre ++ [(b, y)]) ++ (d, x) :: r) := by rw [← hs]; exact hT.l.k
  have hL' : Lks W2 ((pre' ++ [(b', y')]) ++ (d', z) :: r') := by rw [← hs']; exact hT.l.k
  have hc := hL.drop.c
  have c0 := hc.c0
  have c1 := hc.c1
  have c2 := hc.c2
  have c3 := hc.c3
  have c4 := hc.c4
  have c5 := hc.c5
  have hc' := hL'.drop.c
  have e0 := hc'.c0
  have e1 := hc'.c1
  have e2 := hc'.c2
  have e3 := hc'.c3
  have e4 := hc'.c4
  have e5 := hc'.c5
  have hdl := hL.drop.1.lt
  have hdl' := hL'.drop.1.lt
  have F1 := Hid3.mk (Bx.one W2 x z)
  have F2 := Hid3.mk (Bx.two W2 x z)
  have hX : (exCs x).toArray = #[.int .u32 x.id, .int .i64 x.st, .int .i64 x.ln, .int .u8 x.ow, .string x.nm, .int .u8 x.rt.toNat] := rfl
  have hZ : (exCs z).toArray = #[.int .u32 z.id, .int .i64 z.st, .int .i64 z.ln, .int .u8 z.ow, .string z.nm, .int .u8 z.rt.toNat] := rfl
  rw [hX, hZ] at F1 F2
  clear hc hc' hL hL' hT cH2 hB1 hB2 h hp hp' hs hs' ho' hX hZ
  go_wp2_with fail
  go_cut [12, 13] (fun p q wx => ∃ i j W', W' = wx ∧ p = .pointer (some ⟨i, 0, none⟩) ∧ q = .pointer (some ⟨j, 0, none⟩) ∧ Hid3 (Bx W2 W' i j x z))
  case first =>
    go_region
    all_goals
      go_wp2_with fail
      go_meet
      case rel => first | exact ⟨_, _, _, rfl, rfl, rfl, F1⟩ | exact ⟨_, _, _, rfl, rfl, rfl, F2⟩
  case rest =>
    obtain ⟨i, j, W3, rfl, rfl, rfl, HX⟩ := hcut
    clear c0 c1 c2 c3 c4 c5 e0 e1 e2 e3 e4 e5 hdl hdl' F1 F2
    have hxi := HX.out.xi
    have hyj := HX.out.yj
    have c0 := hxi.cell 0
    have c1 := hxi.cell 1
    have c2 := hxi.cell 2
    have c3 := hxi.cell 3
    have c4 := hxi.cell 4
    have c5 := hxi.cell 5
    have e1 := hyj.cell 1
    have e4 := hyj.cell 4
    have e5 := hyj.cell 5
    simp only [List.getElem?_cons_zero, List.getElem?_cons_succ, exCs] at c0 c1 c2 c3 c4 c5 e1 e4 e5
    have k0 := fun d os => cell_regrown c0 d os
    have k1 := fun d os => cell_regrown c1 d os
    have k2 := fun d os => cell_regrown c2 d os
    have k3 := fun d os => cell_regrown c3 d os
    have k4 := fun d os => cell_regrown c4 d os
    have k5 := fun d os => cell_regrown c5 d os
    have m1 := fun d os => cell_regrown e1 d os
    have m4 := fun d os => cell_regrown e4 d os
    have m5 := fun d os => cell_regrown e5 d os
    have dN := fun d os => Calls.regrown_of (cE (grow (redrawn W3 d) os))
    clear hxi hyj cE
    go_wp2_with fail
    refine wp_region_quiet_below (by kernel_rfl) (by kernel_rfl) ?_
    repeat (quiet_step (exact dN _ _))
    refine wpQuiet_nil ?_
    intro _ hw'
    obtain ⟨⟨dq, osq⟩, hw''⟩ := hw'
    subst hw''
    have HX4 := Hid3.mk (HX.out.low (below_regrown W3 dq osq))
    clear k0 k1 k2 k3 k4 k5 m1 m4 m5 dN c0 c1 c2 c3 c4 c5 e1 e4 e5 eM eG HX
    generalize grow (redrawn W3 dq) osq = W4 at *
    go_wp2
    go_ret
    exact ⟨rfl, HB.out.trans (HX4.out.bl.mono HB.out.size)⟩
set_option maxHeartbeats 4000000 in
theorem merge_ok (n₀ tb hb N last : Nat) (ns : List Ln) (ow ia ib b d b' d' : Nat) (y x y' z : Ex) (r r' : List Ln) (pre pre' : List Ln) (w : World) (h : Tp n₀ w tb hb N last ns) (hn0 : n₀ ≤ w.heap.size)
    (hp : pst (notId ia) (hb, zEx) ns = ((b, y), (d, x) :: r)) (hs : (hb, zEx) :: ns = (pre ++ [(b, y)]) ++ (d, x) :: r) (ho : x.ow = ow)
    (hp' : pst (notId ib) (hb, zEx) ns = ((b', y'), (d', z) :: r')) (hs' : (hb, zEx) :: ns = (pre' ++ [(b', y')]) ++ (d', z) :: r') (ho' : z.ow = ow)
    (hr : r = (d', z) :: r') (hne : x.st + x.ln = z.st) (hgd : sameG x z = true) (hxz : x.st + (x.ln + z.ln) ≤ 1000) :
    Calls Try.prog 9 #[.pointer (some ⟨tb, 0, none⟩), .int .u8 ow, .int .u32 ia, .int .u32 ib] w fun e w' => e = .returned (.int .i64 0) ∧ Apart (fun k => k = d) w w' ∧ Lks w' ((pre ++ [(b, y)]) ++ (d, x.len (x.ln + z.ln) hxz) :: r') := by
  have cH := had_any n₀ tb hb N last ns ow ia w h hn0
  have cH' := fun w h h2 => had_any n₀ tb hb N last ns ow ib w h h2
  rw [hp] at cH
  rw [hp'] at cH'
  subst ho
  simp only [hadR, if_true, ho'] at cH cH'
  have cE := fun W => end_b x W
  obtain ⟨E, hE⟩ : ∃ E : Int, ((x.st + x.ln : Nat) : Int) = E := ⟨_, rfl⟩
  rw [hE] at cE
  have hd : (E != (z.st : Int)) = false := by rw [bne_eq_false_iff_eq]; omega
  have hw2 : IntKind.i64.wrap ((x.ln : Int) + (z.ln : Int)) = (x.ln : Int) + (z.ln : Int) := by rw [IntKind.wrap_i64]; omega
  clear hE hne
  unfold exV at cE
  have eG := eqGuardC
  have eM := fun W => eqC W x.nm z.nm (x.rt.toNat : Int) (z.rt.toNat : Int)
  unfold sameG at hgd
  rw [hgd] at eM
  clear hgd
  have HH : Hid3 (Tp n₀ w tb hb N last ns) := ⟨h⟩
  have HS : Hid3 ((hb, zEx) :: ns = (pre ++ [(b, y)]) ++ (d, x) :: r) := ⟨hs⟩
  go_enter Try.func9, Try.ntmps9
  go_wp2_with fail
  refine cH.mono ?_
  rintro e W1 ⟨rfl, hB1⟩
  have cH2 := cH' _ (h.below hB1) (Nat.le_trans hn0 hB1.size)
  clear cH cH'
  go_wp2_with fail
  refine cH2.mono ?_
  rintro e W2 ⟨rfl, hB2⟩
  have HB : Hid3 (Below w.heap.size w W2) := ⟨hB1.trans (hB2.mono hB1.size)⟩
  have hT := h.below HB.out
  have hL : Lks W2 ((pre ++ [(b, y)]) ++ (d, x) :: r) := by rw [← hs]; exact hT.l.k
  have hL' : Lks W2 ((pre' ++ [(b', y')]) ++ (d', z) :: r') := by rw [← hs']; exact hT.l.k
  have hc := hL.drop.c
  have c0 := hc.c0
  have c1 := hc.c1
  have c2 := hc.c2
  have c3 := hc.c3
  have c4 := hc.c4
  have c5 := hc.c5
  have hc' := hL'.drop.c
  have e0 := hc'.c0
  have e1 := hc'.c1
  have e2 := hc'.c2
  have e3 := hc'.c3
  have e4 := hc'.c4
  have e5 := hc'.c5
  have hdl := hL.drop.1.lt
  have hdl' := hL'.drop.1.lt
  have F1 := Hid3.mk (Bx.one W2 x z)
  have F2 := Hid3.mk (Bx.two W2 x z)
  have hX : (exCs x).toArray = #[.int .u32 x.id, .int .i64 x.st, .int .i64 x.ln, .int .u8 x.ow, .string x.nm, .int .u8 x.rt.toNat] := rfl
  have hZ : (exCs z).toArray = #[.int .u32 z.id, .int .i64 z.st, .int .i64 z.ln, .int .u8 z.ow, .string z.nm, .int .u8 z.rt.toNat] := rfl
  rw [hX, hZ] at F1 F2
  clear hc hc' hL hL' hT cH2 hB1 hB2 h hp hp' hs hs' ho' hX hZ
  go_wp2_with fail
  go_cut [12, 13] (fun p q wx => ∃ i j W', W' = wx ∧ p = .pointer (some ⟨i, 0, none⟩) ∧ q = .pointer (some ⟨j, 0, none⟩) ∧ Hid3 (Bx W2 W' i j x z))
  case first =>
    go_region
    all_goals
      go_wp2_with fail
      go_meet
      case rel => first | exact ⟨_, _, _, rfl, rfl, rfl, F1⟩ | exact ⟨_, _, _, rfl, rfl, rfl, F2⟩
  case rest =>
    obtain ⟨i, j, W3, rfl, rfl, rfl, HX⟩ := hcut
    clear c0 c1 c2 c3 c4 c5 e0 e1 e2 e3 e4 e5 hdl hdl' F1 F2
    have hxi := HX.out.xi
    have hyj := HX.out.yj
    have c0 := hxi.cell 0
    have c1 := hxi.cell 1
    have c2 := hxi.cell 2
    have c3 := hxi.cell 3
    have c4 := hxi.cell 4
    have c5 := hxi.cell 5
    have e1 := hyj.cell 1
    have e4 := hyj.cell 4
    have e5 := hyj.cell 5
    simp only [List.getElem?_cons_zero, List.getElem?_cons_succ, exCs] at c0 c1 c2 c3 c4 c5 e1 e4 e5
    have k0 := fun d os => cell_regrown c0 d os
    have k1 := fun d os => cell_regrown c1 d os
    have k2 := fun d os => cell_regrown c2 d os
    have k3 := fun d os => cell_regrown c3 d os
    have k4 := fun d os => cell_regrown c4 d os
    have k5 := fun d os => cell_regrown c5 d os
    have m1 := fun d os => cell_regrown e1 d os
    have m4 := fun d os => cell_regrown e4 d os
    have m5 := fun d os => cell_regrown e5 d os
    have dN := fun d os => Calls.regrown_of (cE (grow (redrawn W3 d) os))
    clear hxi hyj cE
    go_wp2_with fail
    refine wp_region_quiet_below (by kernel_rfl) (by kernel_rfl) ?_
    repeat (quiet_step (exact dN _ _))
    refine wpQuiet_nil ?_
    intro _ hw'
    obtain ⟨⟨dq, osq⟩, hw''⟩ := hw'
    subst hw''
    have HX4 := Hid3.mk (HX.out.low (below_regrown W3 dq osq))
    clear k0 k1 k2 k3 k4 k5 m1 m4 m5 dN c0 c1 c2 c3 c4 c5 e1 e4 e5 eM eG HX
    generalize grow (redrawn W3 dq) osq = W4 at *
    have hT4 := HH.out.below (HB.out.trans (HX4.out.bl.mono HB.out.size))
    have hL4 : Lks W4 ((pre ++ [(b, y)]) ++ (d, x) :: (d', z) :: r') := by rw [← hr, ← HS.out]; exact hT4.l.k
    have hU4 : (((pre ++ [(b, y)]) ++ (d, x) :: (d', z) :: r').map Prod.fst).Nodup := by rw [← hr, ← HS.out]; exact hT4.l.u
    have hdn : d < n₀ := HH.out.l.l (d, x) (by rw [HS.out]; simp)
    have cC := cut_any d d' x z r' W4 hL4.drop
    have hL5 := cut_lks hL4 hU4
    have hU5 : (((pre ++ [(b, y)]) ++ (d, x) :: r').map Prod.fst).Nodup := hU4.sublist (List.Sublist.map _ (List.Sublist.append_left (List.Sublist.cons_cons _ (List.sublist_cons_self _ _)) _))
    have hyj := HX4.out.yj.other (d := d) (by have := HX4.out.gj; have := HB.out.size; omega) 6 (nxP r')
    have ap5 : Apart (fun k => k = d) w (W4.setCell ⟨d, 6, none⟩ (nxP r')) := (Apart.of_below (HB.out.trans (HX4.out.bl.mono HB.out.size))).trans (Apart.at (X := fun k => k = d) W4 d 6 _ rfl)
    go_wp2_with fail
    refine cC.mono ?_
    rintro e W5 ⟨⟨v, rfl⟩, hW5⟩
    rw [← hW5] at hL5 hyj ap5
    have c2 := hL5.drop.c.c2
    have f2 := hL5.drop.1.thaw 2
    have e2 := hyj.cell 2
    simp only [List.getElem?_cons_zero, List.getElem?_cons_succ, exCs] at e2 c2
    have hdl := hL5.drop.1.lt
    have HA : Hid3 (Apart (fun k => k = d) w (W5.setCell ⟨d, 2, none⟩ (.int .i64 ((x.ln : Int) + (z.ln : Int)))).drew ∧ Lks (W5.setCell ⟨d, 2, none⟩ (.int .i64 ((x.ln : Int) + (z.ln : Int)))).drew ((pre ++ [(b, y)]) ++ (d, x.len (x.ln + z.ln) hxz) :: r')) :=
      ⟨(ap5.trans (Apart.at (X := fun k => k = d) W5 d 2 _ rfl)).drew, (set_lks (y := x) (y' := x.len (x.ln + z.ln) hxz) 2 _ (by simp [lkCs, Ex.len]) hL5 hU5).stay (fun _ _ => rfl)⟩
    clear cC hL5 hyj ap5 hW5 hT4 hL4 hU4 hU5 HX4
    go_wp2
    go_region
    all_goals
      go_wp2
      go_ret
      exact ⟨rfl, HA.out⟩
end Go.Proofs.Ytdegjmceeggldaa
