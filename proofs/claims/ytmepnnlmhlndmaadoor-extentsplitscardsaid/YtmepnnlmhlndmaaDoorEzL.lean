/- The document's Split. The document's Alloc. -/
import Derived.Test.YtmepnnlmhlndmaaDoorEzH
import Derived.Test.YtmepnnlmhlndmaaDoorEzK
import Derived.Test.YtmepnnlmhlndmaaDoorRefU
namespace Go.Proofs.YtmepnnlmhlndmaaDoor
open Go.RowKit Go.Maps
set_option linter.unusedVariables false
set_option maxRecDepth 100000
theorem splitR_no {B : Nat} {w : World} {b : Nat} {s : Xt} (h : Rt B w b s) (ow id : Nat) (a : Int) (c : Int) (k : NoX s ow id c) :
    Calls Tryd.prog 53 #[.pointer (some ⟨b, 0, none⟩), .int .u8 ow, .int .u32 id, .int .i64 a] w fun e w' => e = .returned (.tuple #[.int .u32 0, .int .i64 c]) ∧ RStp B w w' b s := by
  have cF := rfind_no h ow id c k
  have hc := k.ne
  have HR := Hid3.mk (RStp.same h (Below.refl _ w))
  clear h k
  go_enter Tryd.func53, Tryd.ntmps53
  go_wp2_with fail
  refine cF.mono ?_
  rintro e W1 ⟨rfl, hW⟩
  rw [hW]
  clear cF hW
  go_wp2
  go_ret2
  exact ⟨rfl, HR.out⟩
set_option maxHeartbeats 4000000 in
theorem splitR_far {B : Nat} {w : World} {b : Nat} {s : Xt} (h : Rt B w b s) (ow id : Nat) (a : Int) (pre post : List Ex) (x : Ex) (k : AtX s ow id pre x post) (ha : a ≤ (x.st : Int) ∨ ((x.st + x.ln : Nat) : Int) ≤ a) :
    Calls Tryd.prog 53 #[.pointer (some ⟨b, 0, none⟩), .int .u8 ow, .int .u32 id, .int .i64 a] w fun e w' => e = .returned (.tuple #[.int .u32 0, .int .i64 2]) ∧ RStp B w w' b s := by
  have cF := rfind_ok h ow id pre post x k
  obtain ⟨g, n, cap, c1, hKn, hbl, hE, hnl, c0⟩ := k.el h
  have e0 := hE.e0
  have e1 := hE.e1
  have e2 := hE.e2
  have e3 := hE.e3
  have e4 := hE.e4
  have e5 := hE.e5
  have hg := hE.l
  have hKl : pre.length < s.l.length := by rw [k.l]; simp
  have hxb := x.b
  have hX := Cl.new w 36 (exCs x)
  have hX0 := below_new w (.cells (exCs x).toArray 36)
  rw [exs_agg] at hX hX0
  obtain ⟨K, hK⟩ : ∃ K, pre.length = K := ⟨_, rfl⟩
  have HK := Hid3.mk hK
  have HH := Hid3.mk h
  have HKK := Hid3.mk k
  have HKL := Hid3.mk hKl
  rw [hK] at cF e0 e1 e2 e3 e4 e5 hKn
  have HX0 := Hid3.mk hX0
  have HX := Hid3.mk hX
  obtain ⟨E, hEE⟩ : ∃ E : Int, (x.st : Int) + (x.ln : Int) = E := ⟨_, rfl⟩
  have hw3 : IntKind.i64.wrap ((x.st : Int) + (x.ln : Int)) = E := by rw [IntKind.wrap_i64]; omega
  have HR : Hid3 (∀ W, Below w.heap.size w W → RStp B w W b s) := ⟨fun W hW => RStp.same h hW⟩
  by_cases h1 : a ≤ (x.st : Int)
  · clear hX hX0 hE h k hnl hKl hK hEE ha
    go_enter Tryd.func53, Tryd.ntmps53
    go_wp2_with fail
    refine cF.mono ?_
    rintro e W1 ⟨rfl, hW⟩
    rw [hW]
    clear cF hW
    go_wp2
    go_ret2
    exact ⟨rfl, HR.out _ HX0.out⟩
  · have h2 : E ≤ a := by have := ha.resolve_left h1; omega
    have h1' : decide (a ≤ (x.st : Int)) = false := decide_eq_false h1
    clear hX hX0 hE h k hnl hKl hK hEE ha
    go_enter Tryd.func53, Tryd.ntmps53
    go_wp2_with fail
    refine cF.mono ?_
    rintro e W1 ⟨rfl, hW⟩
    rw [hW]
    clear cF hW
    go_wp2
    go_ret2
    exact ⟨rfl, HR.out _ HX0.out⟩
set_option maxHeartbeats 4000000 in
theorem splitR_full {B : Nat} {w : World} {b : Nat} {s : Xt} (h : Rt B w b s) (ow id : Nat) (a : Nat) (pre post : List Ex) (x : Ex) (k : AtX s ow id pre x post) (ha1 : x.st < a) (ha2 : a < x.st + x.ln) (hlen : 24 ≤ s.l.length) :
    Calls Tryd.prog 53 #[.pointer (some ⟨b, 0, none⟩), .int .u8 ow, .int .u32 id, .int .i64 a] w fun e w' => e = .returned (.tuple #[.int .u32 0, .int .i64 4]) ∧ RStp B w w' b s := by
  have cF := rfind_ok h ow id pre post x k
  obtain ⟨g, n, cap, c1, hKn, hbl, hE, hnl, c0⟩ := k.el h
  have e0 := hE.e0
  have e1 := hE.e1
  have e2 := hE.e2
  have e3 := hE.e3
  have e4 := hE.e4
  have e5 := hE.e5
  have hg := hE.l
  have hKl : pre.length < s.l.length := by rw [k.l]; simp
  have hxb := x.b
  have hX := Cl.new w 36 (exCs x)
  have hX0 := below_new w (.cells (exCs x).toArray 36)
  rw [exs_agg] at hX hX0
  obtain ⟨K, hK⟩ : ∃ K, pre.length = K := ⟨_, rfl⟩
  have HK := Hid3.mk hK
  have HH := Hid3.mk h
  have HKK := Hid3.mk k
  have HKL := Hid3.mk hKl
  rw [hK] at cF e0 e1 e2 e3 e4 e5 hKn
  have HX0 := Hid3.mk hX0
  have HX := Hid3.mk hX
  obtain ⟨E, hEE⟩ : ∃ E : Int, (x.st : Int) + (x.ln : Int) = E := ⟨_, rfl⟩
  have hw3 : IntKind.i64.wrap ((x.st : Int) + (x.ln : Int)) = E := by rw [IntKind.wrap_i64]; omega
  have h1 : ¬ (a : Int) ≤ (x.st : Int) := by omega
  have h2 : ¬ E ≤ (a : Int) := by omega
  have HR : Hid3 (∀ W, Below w.heap.size w W → RStp B w W b s) := ⟨fun W hW => RStp.same h hW⟩
  have hn24 : (24 : Int) ≤ (n : Int) := by omega
  have c1' : (w.alloc (.cells #[.int .u32 x.id, .int .i64 x.st, .int .i64 x.ln, .int .u8 x.ow, .string x.nm, .int .u8 x.rt.toNat] 36)).cell? ⟨b, 1, none⟩ = some (.slice (some ⟨g, 0, none⟩) n cap) := (hX0.cell (p := ⟨b, 1, none⟩) hbl).trans c1
  clear hX hX0 hE h k hnl hKl hK hEE ha1 ha2 hlen
  go_enter Tryd.func53, Tryd.ntmps53
  go_wp2_with fail
  refine cF.mono ?_
  rintro e W1 ⟨rfl, hW⟩
  rw [hW]
  clear cF hW
  go_wp2
  go_ret2
  exact ⟨rfl, HR.out _ HX0.out⟩
set_option maxHeartbeats 4000000 in
theorem splitR_ok {B : Nat} {w : World} {b : Nat} {s : Xt} (h : Rt B w b s) (ow id : Nat) (a : Nat) (pre post : List Ex) (x : Ex) (k : AtX s ow id pre x post) (ha1 : x.st < a) (ha2 : a < x.st + x.ln) (hlen : s.l.length < 24) (hlast : s.last < 1000000) (hx : x.st + (a - x.st) ≤ 1000) :
    Calls Tryd.prog 53 #[.pointer (some ⟨b, 0, none⟩), .int .u8 ow, .int .u32 id, .int .i64 a] w fun e w' => e = .returned (.tuple #[.int .u32 (s.last + 1 : Nat), .int .i64 0]) ∧ RStp B w w' b ⟨s.N, pre ++ x.len (a - x.st) hx :: (x.cut a (Nat.le_of_lt ha2)).num (s.last + 1) :: post, s.last + 1⟩ := by
  have cF := rfind_ok h ow id pre post x k
  obtain ⟨g, n, cap, c1, hKn, hbl, hE, hnl, c0⟩ := k.el h
  have e0 := hE.e0
  have e1 := hE.e1
  have e2 := hE.e2
  have e3 := hE.e3
  have e4 := hE.e4
  have e5 := hE.e5
  have hg := hE.l
  have hKl : pre.length < s.l.length := by rw [k.l]; simp
  have hxb := x.b
  have hX := Cl.new w 36 (exCs x)
  have hX0 := below_new w (.cells (exCs x).toArray 36)
  rw [exs_agg] at hX hX0
  obtain ⟨K, hK⟩ : ∃ K, pre.length = K := ⟨_, rfl⟩
  have HK := Hid3.mk hK
  have HH := Hid3.mk h
  have HKK := Hid3.mk k
  have HKL := Hid3.mk hKl
  rw [hK] at cF e0 e1 e2 e3 e4 e5 hKn
  have HX0 := Hid3.mk hX0
  have HX := Hid3.mk hX
  obtain ⟨E, hEE⟩ : ∃ E : Int, (x.st : Int) + (x.ln : Int) = E := ⟨_, rfl⟩
  have hw3 : IntKind.i64.wrap ((x.st : Int) + (x.ln : Int)) = E := by rw [IntKind.wrap_i64]; omega
  have h1 : ¬ (a : Int) ≤ (x.st : Int) := by omega
  have h2 : ¬ E ≤ (a : Int) := by omega
  have hn24 : ¬ (24 : Int) ≤ (n : Int) := by omega
  have c1' : (w.alloc (.cells #[.int .u32 x.id, .int .i64 x.st, .int .i64 x.ln, .int .u8 x.ow, .string x.nm, .int .u8 x.rt.toNat] 36)).cell? ⟨b, 1, none⟩ = some (.slice (some ⟨g, 0, none⟩) n cap) := (hX0.cell (p := ⟨b, 1, none⟩) hbl).trans c1
  have hw4 : IntKind.i64.wrap (E - (a : Int)) = E - (a : Int) := by rw [IntKind.wrap_i64]; omega
  have hw5 : IntKind.i64.wrap ((a : Int) - (x.st : Int)) = (a : Int) - (x.st : Int) := by rw [IntKind.wrap_i64]; omega
  have hok2 := ok_split h.ok k ha1 ha2 hlen hx
  have hok1 : ({ s with l := pre ++ x.len (a - x.st) hx :: post } : Xt).Ok := by
    have hxm : x ∈ s.l := by rw [k.l]; simp
    have hp := h.ok.srt
    rw [k.l] at hp
    have hpo := (List.pairwise_cons.1 (List.pairwise_append.1 hp).2.1).1
    have hxl := h.ok.ln x hxm
    exact h.ok.one k.l rfl rfl (by show 1 ≤ a - x.st; omega) (by show x.st + (a - x.st) ≤ s.N; omega) (fun y hy => by have := hpo y hy; show x.st + (a - x.st) ≤ y.st; omega)
  have hpre : ∀ y ∈ pre ++ [x.len (a - x.st) hx], y.st ≤ (x.cut a (Nat.le_of_lt ha2)).st := by
    intro y hy
    have hp := h.ok.srt
    rw [k.l] at hp
    rcases List.mem_append.1 hy with hy | hy
    · have := (List.pairwise_append.1 hp).2.2 y hy x (List.mem_cons_self ..)
      show y.st ≤ a
      omega
    · rw [List.mem_singleton.1 hy]
      show x.st ≤ a
      omega
  have hpost : ∀ y ∈ post, (x.cut a (Nat.le_of_lt ha2)).st < y.st := by
    intro y hy
    have hp := h.ok.srt
    rw [k.l] at hp
    have := (List.pairwise_cons.1 (List.pairwise_append.1 hp).2.1).1 y hy
    show a < y.st
    omega
  have hl2 : s.l.set pre.length (x.len (a - x.st) hx) = pre ++ x.len (a - x.st) hx :: post := by rw [k.l]; exact set_at
  have hlen1 : (pre ++ x.len (a - x.st) hx :: post).length < 24 := by rw [k.l] at hlen; simpa using hlen
  have hB3 : Below w.heap.size w ((w.alloc (.cells (exCs (x.len (a - x.st) hx)).toArray 36)).alloc (.cells (exCs (x.cut a (Nat.le_of_lt ha2))).toArray 36)).drew := (((Below.refl _ w).alloc (Nat.le_refl _) _).alloc (by simp) _).drew
  have hY := Cl.new (w.alloc (.cells (exCs (x.len (a - x.st) hx)).toArray 36)) 36 (exCs (x.cut a (Nat.le_of_lt ha2)))
  rw [World.size_alloc] at hY
  have hY := hY.drew
  have cS := rset_any B b s pre.length (x.len (a - x.st) hx) _ (h.below hB3) hKl (by rw [hl2]; exact hok1)
  rw [hl2, hK] at cS
  have eX : exV (x.len (a - x.st) hx) = .agg #[.int .u32 x.id, .int .i64 x.st, .int .i64 ((a : Int) - (x.st : Int)), .int .u8 x.ow, .string x.nm, .int .u8 x.rt.toNat] := by
    rw [show (a : Int) - (x.st : Int) = ((a - x.st : Nat) : Int) by omega]
    rfl
  have eX2 : (exCs (x.len (a - x.st) hx)).toArray = #[.int .u32 x.id, .int .i64 x.st, .int .i64 ((a : Int) - (x.st : Int)), .int .u8 x.ow, .string x.nm, .int .u8 x.rt.toNat] := by
    rw [show (a : Int) - (x.st : Int) = ((a - x.st : Nat) : Int) by omega]
    rfl
  have eY : exV (x.cut a (Nat.le_of_lt ha2)) = .agg #[.int .u32 x.id, .int .i64 (a : Int), .int .i64 (E - (a : Int)), .int .u8 x.ow, .string x.nm, .int .u8 x.rt.toNat] := by
    rw [show E - (a : Int) = ((x.st + x.ln - a : Nat) : Int) by omega]
    rfl
  have eY3 : exCs (x.cut a (Nat.le_of_lt ha2)) = [.int .u32 x.id, .int .i64 (a : Int), .int .i64 (E - (a : Int)), .int .u8 x.ow, .string x.nm, .int .u8 x.rt.toNat] := by
    rw [show E - (a : Int) = ((x.st + x.ln - a : Nat) : Int) by omega]
    rfl
  rw [eX, eX2, eY3] at cS
  rw [eX2, eY3] at hB3 hY
  have HB3 := Hid3.mk hB3
  have HY := Hid3.mk hY
  have HA : Hid3 (∀ W, Rt B W b { s with l := pre ++ x.len (a - x.st) hx :: post } → Calls Tryd.prog 67 #[.pointer (some ⟨b, 0, none⟩), .agg #[.int .u32 x.id, .int .i64 (a : Int), .int .i64 (E - (a : Int)), .int .u8 x.ow, .string x.nm, .int .u8 x.rt.toNat]] W fun e w' => e = .returned (.int .u32 (s.last + 1 : Nat)) ∧ RStp B W w' b ⟨s.N, pre ++ x.len (a - x.st) hx :: (x.cut a (Nat.le_of_lt ha2)).num (s.last + 1) :: post, s.last + 1⟩) := ⟨fun W hW => by
    have e : pre ++ x.len (a - x.st) hx :: (x.cut a (Nat.le_of_lt ha2)).num (s.last + 1) :: post = (pre ++ [x.len (a - x.st) hx]) ++ (x.cut a (Nat.le_of_lt ha2)).num (s.last + 1) :: post := by simp
    have := radd_any B b _ (x.cut a (Nat.le_of_lt ha2)) (pre ++ [x.len (a - x.st) hx]) post W hW (by simp) hpre hpost hlast hlen1 (by rw [← e]; exact hok2)
    rw [eY] at this
    rw [e]
    exact this⟩
  clear hX hX0 hE h k hnl hKl hK hEE hlen hok1 hok2 hpre hpost hl2 hlen1 hB3 hY eX eX2 eY eY3 hlast
  go_enter Tryd.func53, Tryd.ntmps53
  go_wp2_with fail
  refine cF.mono ?_
  rintro e W1 ⟨rfl, hW⟩
  rw [hW]
  clear cF hW
  go_wp2_with fail
  go_region
  go_wp2_with fail
  refine cS.mono ?_
  rintro e W4 ⟨⟨v, rfl⟩, hR4⟩
  have hY4 := HY.out.stay hR4.ap (by omega)
  have u0 := hY4.cell 0
  have u1 := hY4.cell 1
  have u2 := hY4.cell 2
  have u3 := hY4.cell 3
  have u4 := hY4.cell 4
  have u5 := hY4.cell 5
  have hyl := hY4.lt
  simp only [List.getElem?_cons_zero, List.getElem?_cons_succ] at u0 u1 u2 u3 u4 u5
  have cA := HA.out W4 hR4.r
  have HR4 := Hid3.mk (RStp.pre HB3.out hR4)
  clear cS hR4 hY4 c1 c1' c0 hbl hg
  go_wp2_with fail
  refine cA.mono ?_
  rintro e W5 ⟨rfl, hR5⟩
  have HR := Hid3.mk (HR4.out.trans hR5)
  clear cA hR5 u0 u1 u2 u3 u4 u5
  go_wp2
  go_ret2
  exact ⟨rfl, HR.out⟩
end Go.Proofs.YtmepnnlmhlndmaaDoor
namespace Go.Proofs.YtmepnnlmhlndmaaDoor
open Go.RowKit Go.Maps
set_option linter.unusedVariables false
set_option maxRecDepth 100000
/-- The tables of utf8 lie below B. -/
structure Nt (B : Nat) (w : World) : Prop where
  out : ∃ w0 : World, w0.heap.size = B ∧ NTabs w0 ∧ Below B w0 w
theorem Nt.tabs {B : Nat} {w : World} (h : Nt B w) : NTabs w := by
  obtain ⟨w0, rfl, h1, h2⟩ := h.out
  exact h1.later h2
theorem Nt.size {B : Nat} {w : World} (h : Nt B w) : B ≤ w.heap.size := by
  obtain ⟨w0, rfl, h1, h2⟩ := h.out
  exact h2.size
theorem Nt.to {B : Nat} {w w' : World} (h : Nt B w) (k : Below B w w') : Nt B w' := by
  obtain ⟨w0, e, h1, h2⟩ := h.out
  exact ⟨w0, e, h1, h2.trans k⟩
theorem Nt.low {B : Nat} {w w' : World} (h : Nt B w) (k : Below w.heap.size w w') : Nt B w' := h.to (k.mono h.size)
theorem Nt.apart {B b : Nat} {w w' : World} (h : Nt B w) (k : Apart (fun i => i = b) w w') (hb : B ≤ b) : Nt B w' := h.to (k.below B (fun i e => e ▸ hb) h.size)
theorem Nt.new {w : World} (h : NTabs w) : Nt w.heap.size w := ⟨w, rfl, h, Below.refl _ _⟩
theorem Nt.low' {q : Nat} {w W : World} (h : Nt q w) (hq : q ≤ w.heap.size) (k : Below w.heap.size w W) : NTabs W := by
  obtain ⟨w0, h1, h2, h3⟩ := h.out
  exact Nt.tabs (B := q) ⟨w0, h1, h2, h3.trans (k.mono hq)⟩
set_option maxHeartbeats 2000000 in
theorem allocR_own {B : Nat} {w : World} {b : Nat} {s : Xt} (h : Rt B w b s) (ow : Nat) (start many : Int) (nm : ByteArray) (rt : BitVec 8) (ho : 6 ≤ ow) :
    Calls Tryd.prog 52 #[.pointer (some ⟨b, 0, none⟩), .int .u8 ow, .int .i64 start, .int .i64 many, .agg #[.string nm, .int .u8 rt.toNat]] w fun e w' => e = .returned (.tuple #[.int .u32 0, .int .i64 2]) ∧ RStp B w w' b s := by
  obtain ⟨a, cap, hc⟩ := h.c
  have hN := hc.nn
  have c0 := (hc.low (below_new w (.cells #[.string nm, .int .u8 rt.toNat] 34))).c0
  have hbl := (hc.low (below_new w (.cells #[.string nm, .int .u8 rt.toNat] 34))).l
  have hX0 := below_new w (.cells #[.string nm, .int .u8 rt.toNat] 34)
  have HX0 := Hid3.mk hX0
  have HR : Hid3 (∀ W, Below w.heap.size w W → RStp B w W b s) := ⟨fun W hW => RStp.same h hW⟩
  have hG := Cl.new w 34 [.string nm, .int .u8 rt.toNat]
  obtain ⟨N, hNe⟩ : ∃ N, s.N = N := ⟨_, rfl⟩
  have HNe := Hid3.mk hNe
  have HH := Hid3.mk h
  rw [hNe] at c0
  have ho' : (6 : Int) ≤ (ow : Int) := by omega
  clear h hc hX0 hNe hG ho
  go_enter Tryd.func52, Tryd.ntmps52
  go_wp2
  go_ret2
  exact ⟨rfl, HR.out _ HX0.out⟩
set_option maxHeartbeats 2000000 in
theorem allocR_far {B : Nat} {w : World} {b : Nat} {s : Xt} (h : Rt B w b s) (ow : Nat) (start many : Int) (nm : ByteArray) (rt : BitVec 8) (ho : ow < 6) (ht : thereB s.N start many = false) :
    Calls Tryd.prog 52 #[.pointer (some ⟨b, 0, none⟩), .int .u8 ow, .int .i64 start, .int .i64 many, .agg #[.string nm, .int .u8 rt.toNat]] w fun e w' => e = .returned (.tuple #[.int .u32 0, .int .i64 2]) ∧ RStp B w w' b s := by
  obtain ⟨a, cap, hc⟩ := h.c
  have hN := hc.nn
  have c0 := (hc.low (below_new w (.cells #[.string nm, .int .u8 rt.toNat] 34))).c0
  have hbl := (hc.low (below_new w (.cells #[.string nm, .int .u8 rt.toNat] 34))).l
  have hX0 := below_new w (.cells #[.string nm, .int .u8 rt.toNat] 34)
  have HX0 := Hid3.mk hX0
  have HR : Hid3 (∀ W, Below w.heap.size w W → RStp B w W b s) := ⟨fun W hW => RStp.same h hW⟩
  have hG := Cl.new w 34 [.string nm, .int .u8 rt.toNat]
  obtain ⟨N, hNe⟩ : ∃ N, s.N = N := ⟨_, rfl⟩
  have HNe := Hid3.mk hNe
  have HH := Hid3.mk h
  rw [hNe] at c0 hN
  have ho' : ¬ (6 : Int) ≤ (ow : Int) := by omega
  rw [hNe] at ht
  unfold thereB at ht
  rw [Bool.and_eq_false_iff, Bool.and_eq_false_iff, decide_eq_false_iff_not, decide_eq_false_iff_not, decide_eq_false_iff_not] at ht
  by_cases h1 : start < 0
  · have q1 : start < 0 := h1
    clear h hc hX0 hNe hG ho ht
    go_enter Tryd.func52, Tryd.ntmps52
    go_wp2
    go_ret2
    exact ⟨rfl, HR.out _ HX0.out⟩
  by_cases h2 : (N : Int) ≤ start
  · have q1 : ¬ start < 0 := h1
    have q2 : (N : Int) ≤ start := h2
    clear h hc hX0 hNe hG ho ht
    go_enter Tryd.func52, Tryd.ntmps52
    go_wp2
    go_ret2
    exact ⟨rfl, HR.out _ HX0.out⟩
  have hw : IntKind.i64.wrap ((N : Int) - start) = (N : Int) - start := by rw [IntKind.wrap_i64]; omega
  by_cases h3 : many < 1
  · have q3 : many < 1 := h3
    clear h hc hX0 hNe hG ho ht
    go_enter Tryd.func52, Tryd.ntmps52
    go_wp2
    go_ret2
    exact ⟨rfl, HR.out _ HX0.out⟩
  · have q4 : (N : Int) - start < many := by omega
    clear h hc hX0 hNe hG ho ht
    go_enter Tryd.func52, Tryd.ntmps52
    go_wp2
    go_ret2
    exact ⟨rfl, HR.out _ HX0.out⟩
set_option maxHeartbeats 2000000 in
theorem allocR_form {B : Nat} {w : World} {b : Nat} {s : Xt} (h : Rt B w b s) (ow : Nat) (start many : Int) (nm : ByteArray) (rt : BitVec 8) (ho : ow < 6) (st k : Nat) (hs : start = st) (hk : many = k) (hk1 : 1 ≤ k) (hk2 : st + k ≤ s.N) (hnm : nm.size ≤ 1000) {q : Nat} (hq : q ≤ w.heap.size) (hT : Nt q w) (hr : rightB nm.data.toList rt.toNat = false) :
    Calls Tryd.prog 52 #[.pointer (some ⟨b, 0, none⟩), .int .u8 ow, .int .i64 start, .int .i64 many, .agg #[.string nm, .int .u8 rt.toNat]] w fun e w' => e = .returned (.tuple #[.int .u32 0, .int .i64 3]) ∧ RStp B w w' b s := by
  obtain ⟨a, cap, hc⟩ := h.c
  have hN := hc.nn
  have c0 := (hc.low (below_new w (.cells #[.string nm, .int .u8 rt.toNat] 34))).c0
  have hbl := (hc.low (below_new w (.cells #[.string nm, .int .u8 rt.toNat] 34))).l
  have hX0 := below_new w (.cells #[.string nm, .int .u8 rt.toNat] 34)
  have HX0 := Hid3.mk hX0
  have HR : Hid3 (∀ W, Below w.heap.size w W → RStp B w W b s) := ⟨fun W hW => RStp.same h hW⟩
  have hG := Cl.new w 34 [.string nm, .int .u8 rt.toNat]
  obtain ⟨N, hNe⟩ : ∃ N, s.N = N := ⟨_, rfl⟩
  have HNe := Hid3.mk hNe
  have HH := Hid3.mk h
  rw [hNe] at c0 hN hk2
  have ho' : ¬ (6 : Int) ≤ (ow : Int) := by omega
  have h1 : ¬ start < 0 := by omega
  have h2 : ¬ (N : Int) ≤ start := by omega
  have h3 : ¬ many < 1 := by omega
  have h4 : ¬ (N : Int) - start < many := by omega
  have hw : IntKind.i64.wrap ((N : Int) - start) = (N : Int) - start := by rw [IntKind.wrap_i64]; omega
  have cR := rright_any nm rt.toNat _ hnm (hT.low' hq hX0)
  unfold capV at cR
  rw [hr] at cR
  have g0 := hG.cell 0
  have g1 := hG.cell 1
  have hgl := hG.lt
  simp only [List.getElem?_cons_zero, List.getElem?_cons_succ] at g0 g1
  have HG := Hid3.mk hG
  clear h hc hX0 hNe hG ho hs hk hk1 hk2 hnm hT hr hN
  go_enter Tryd.func52, Tryd.ntmps52
  go_wp2_with fail
  refine cR.mono ?_
  rintro e W1 ⟨rfl, hB1⟩
  have HB1 := Hid3.mk (HX0.out.trans (hB1.mono HX0.out.size))
  have HG1 := Hid3.mk (HG.out.below hB1)
  clear cR hB1 g0 g1 c0 hbl hgl
  go_wp2
  go_ret2
  exact ⟨rfl, HR.out _ HB1.out⟩
set_option maxHeartbeats 2000000 in
theorem allocR_busy {B : Nat} {w : World} {b : Nat} {s : Xt} (h : Rt B w b s) (ow : Nat) (start many : Int) (nm : ByteArray) (rt : BitVec 8) (ho : ow < 6) (st k : Nat) (hs : start = st) (hk : many = k) (hk1 : 1 ≤ k) (hk2 : st + k ≤ s.N) (hnm : nm.size ≤ 1000) {q : Nat} (hq : q ≤ w.heap.size) (hT : Nt q w) (hr : rightB nm.data.toList rt.toNat = true) (hf : ¬ freeX s.l start many) :
    Calls Tryd.prog 52 #[.pointer (some ⟨b, 0, none⟩), .int .u8 ow, .int .i64 start, .int .i64 many, .agg #[.string nm, .int .u8 rt.toNat]] w fun e w' => e = .returned (.tuple #[.int .u32 0, .int .i64 8]) ∧ RStp B w w' b s := by
  obtain ⟨a, cap, hc⟩ := h.c
  have hN := hc.nn
  have c0 := (hc.low (below_new w (.cells #[.string nm, .int .u8 rt.toNat] 34))).c0
  have hbl := (hc.low (below_new w (.cells #[.string nm, .int .u8 rt.toNat] 34))).l
  have hX0 := below_new w (.cells #[.string nm, .int .u8 rt.toNat] 34)
  have HX0 := Hid3.mk hX0
  have HR : Hid3 (∀ W, Below w.heap.size w W → RStp B w W b s) := ⟨fun W hW => RStp.same h hW⟩
  have hG := Cl.new w 34 [.string nm, .int .u8 rt.toNat]
  obtain ⟨N, hNe⟩ : ∃ N, s.N = N := ⟨_, rfl⟩
  have HNe := Hid3.mk hNe
  have HH := Hid3.mk h
  rw [hNe] at c0 hN hk2
  have ho' : ¬ (6 : Int) ≤ (ow : Int) := by omega
  have h1 : ¬ start < 0 := by omega
  have h2 : ¬ (N : Int) ≤ start := by omega
  have h3 : ¬ many < 1 := by omega
  have h4 : ¬ (N : Int) - start < many := by omega
  have hw : IntKind.i64.wrap ((N : Int) - start) = (N : Int) - start := by rw [IntKind.wrap_i64]; omega
  have cR := rright_any nm rt.toNat _ hnm (hT.low' hq hX0)
  unfold capV at cR
  rw [hr] at cR
  have g0 := hG.cell 0
  have g1 := hG.cell 1
  have hgl := hG.lt
  simp only [List.getElem?_cons_zero, List.getElem?_cons_succ] at g0 g1
  have HG := Hid3.mk hG
  have cFr : ∀ W, Below w.heap.size w W → Calls Tryd.prog 58 #[.pointer (some ⟨b, 0, none⟩), .int .i64 start, .int .i64 many] W fun e w' => e = .returned (.bool false) ∧ Below W.heap.size W w' := fun W hW => by
    obtain ⟨a, cp, hc⟩ := (h.below hW).c
    exact rfree_no b s a cp start many W hc (by omega) (by omega) (by omega) (by omega) hf
  clear hf
  clear h hc hX0 hNe hG ho hs hk hk1 hk2 hnm hT hr hN
  go_enter Tryd.func52, Tryd.ntmps52
  go_wp2_with fail
  refine cR.mono ?_
  rintro e W1 ⟨rfl, hB1⟩
  have HB1 := Hid3.mk (HX0.out.trans (hB1.mono HX0.out.size))
  have HG1 := Hid3.mk (HG.out.below hB1)
  clear cR hB1 g0 g1 c0 hbl hgl
  have cF2 := cFr W1 HB1.out
  clear cFr
  go_wp2_with fail
  refine cF2.mono ?_
  rintro e W2 ⟨rfl, hB2⟩
  have HB2 := Hid3.mk (HB1.out.trans (hB2.mono HB1.out.size))
  have HG2 := Hid3.mk (HG1.out.below hB2)
  clear cF2 hB2 HG1
  go_wp2
  go_ret2
  exact ⟨rfl, HR.out _ HB2.out⟩
set_option maxHeartbeats 2000000 in
theorem allocR_full {B : Nat} {w : World} {b : Nat} {s : Xt} (h : Rt B w b s) (ow : Nat) (start many : Int) (nm : ByteArray) (rt : BitVec 8) (ho : ow < 6) (st k : Nat) (hs : start = st) (hk : many = k) (hk1 : 1 ≤ k) (hk2 : st + k ≤ s.N) (hnm : nm.size ≤ 1000) {q : Nat} (hq : q ≤ w.heap.size) (hT : Nt q w) (hr : rightB nm.data.toList rt.toNat = true) (hf : freeX s.l start many) (hlen : 24 ≤ s.l.length) :
    Calls Tryd.prog 52 #[.pointer (some ⟨b, 0, none⟩), .int .u8 ow, .int .i64 start, .int .i64 many, .agg #[.string nm, .int .u8 rt.toNat]] w fun e w' => e = .returned (.tuple #[.int .u32 0, .int .i64 4]) ∧ RStp B w w' b s := by
  obtain ⟨a, cap, hc⟩ := h.c
  have hN := hc.nn
  have c0 := (hc.low (below_new w (.cells #[.string nm, .int .u8 rt.toNat] 34))).c0
  have hbl := (hc.low (below_new w (.cells #[.string nm, .int .u8 rt.toNat] 34))).l
  have hX0 := below_new w (.cells #[.string nm, .int .u8 rt.toNat] 34)
  have HX0 := Hid3.mk hX0
  have HR : Hid3 (∀ W, Below w.heap.size w W → RStp B w W b s) := ⟨fun W hW => RStp.same h hW⟩
  have hG := Cl.new w 34 [.string nm, .int .u8 rt.toNat]
  obtain ⟨N, hNe⟩ : ∃ N, s.N = N := ⟨_, rfl⟩
  have HNe := Hid3.mk hNe
  have HH := Hid3.mk h
  rw [hNe] at c0 hN hk2
  have ho' : ¬ (6 : Int) ≤ (ow : Int) := by omega
  have h1 : ¬ start < 0 := by omega
  have h2 : ¬ (N : Int) ≤ start := by omega
  have h3 : ¬ many < 1 := by omega
  have h4 : ¬ (N : Int) - start < many := by omega
  have hw : IntKind.i64.wrap ((N : Int) - start) = (N : Int) - start := by rw [IntKind.wrap_i64]; omega
  have cR := rright_any nm rt.toNat _ hnm (hT.low' hq hX0)
  unfold capV at cR
  rw [hr] at cR
  have g0 := hG.cell 0
  have g1 := hG.cell 1
  have hgl := hG.lt
  simp only [List.getElem?_cons_zero, List.getElem?_cons_succ] at g0 g1
  have HG := Hid3.mk hG
  have cFr : ∀ W, Below w.heap.size w W → Calls Tryd.prog 58 #[.pointer (some ⟨b, 0, none⟩), .int .i64 start, .int .i64 many] W fun e w' => e = .returned (.bool true) ∧ Below W.heap.size W w' := fun W hW => by
    obtain ⟨a, cp, hc⟩ := (h.below hW).c
    exact rfree_yes b s a cp start many W hc (by omega) (by omega) (by omega) (by omega) hf
  clear hf
  have HLEN := Hid3.mk hlen
  clear h hc hX0 hNe hG ho hs hk hk1 hk2 hnm hT hr hN
  clear hlen
  go_enter Tryd.func52, Tryd.ntmps52
  go_wp2_with fail
  refine cR.mono ?_
  rintro e W1 ⟨rfl, hB1⟩
  have HB1 := Hid3.mk (HX0.out.trans (hB1.mono HX0.out.size))
  have HG1 := Hid3.mk (HG.out.below hB1)
  clear cR hB1 g0 g1 c0 hbl hgl
  have cF2 := cFr W1 HB1.out
  clear cFr
  go_wp2_with fail
  refine cF2.mono ?_
  rintro e W2 ⟨rfl, hB2⟩
  have HB2 := Hid3.mk (HB1.out.trans (hB2.mono HB1.out.size))
  have HG2 := Hid3.mk (HG1.out.below hB2)
  clear cF2 hB2 HG1
  obtain ⟨a2, cap2, hc2⟩ := (HH.out.below HB2.out).c
  have c1 := hc2.c1
  have hbl := hc2.l
  obtain ⟨n, hn⟩ : ∃ n, s.l.length = n := ⟨_, rfl⟩
  rw [hn] at c1
  have hnz : (24 : Int) ≤ (n : Int) := by have := HLEN.out; omega
  clear hc2 hn
  go_wp2
  go_ret2
  exact ⟨rfl, HR.out _ HB2.out⟩
set_option maxHeartbeats 2000000 in
theorem allocR_ok {B : Nat} {w : World} {b : Nat} {s : Xt} (h : Rt B w b s) (ow : Nat) (start many : Int) (nm : ByteArray) (rt : BitVec 8) (ho : ow < 6) (st k : Nat) (hs : start = st) (hk : many = k) (hk1 : 1 ≤ k) (hk2 : st + k ≤ s.N) (hnm : nm.size ≤ 1000) {q : Nat} (hq : q ≤ w.heap.size) (hT : Nt q w) (hr : rightB nm.data.toList rt.toNat = true) (hf : freeX s.l start many) (hlen : s.l.length < 24) (hlast : s.last < 1000000) (pre post : List Ex) (c : CutX s st k pre post) (hx : st + k ≤ 1000) :
    Calls Tryd.prog 52 #[.pointer (some ⟨b, 0, none⟩), .int .u8 ow, .int .i64 start, .int .i64 many, .agg #[.string nm, .int .u8 rt.toNat]] w fun e w' => e = .returned (.tuple #[.int .u32 (s.last + 1 : Nat), .int .i64 0]) ∧ RStp B w w' b ⟨s.N, pre ++ (nEx ow st k nm rt hx).num (s.last + 1) :: post, s.last + 1⟩ := by
  obtain ⟨a, cap, hc⟩ := h.c
  have hN := hc.nn
  have c0 := (hc.low (below_new w (.cells #[.string nm, .int .u8 rt.toNat] 34))).c0
  have hbl := (hc.low (below_new w (.cells #[.string nm, .int .u8 rt.toNat] 34))).l
  have hX0 := below_new w (.cells #[.string nm, .int .u8 rt.toNat] 34)
  have HX0 := Hid3.mk hX0
  have HR : Hid3 (∀ W, Below w.heap.size w W → RStp B w W b s) := ⟨fun W hW => RStp.same h hW⟩
  have hG := Cl.new w 34 [.string nm, .int .u8 rt.toNat]
  obtain ⟨N, hNe⟩ : ∃ N, s.N = N := ⟨_, rfl⟩
  have HNe := Hid3.mk hNe
  have HH := Hid3.mk h
  have HA : Hid3 (∀ W, Below w.heap.size w W → Calls Tryd.prog 67 #[.pointer (some ⟨b, 0, none⟩), .agg #[.int .u32 0, .int .i64 start, .int .i64 many, .int .u8 ow, .string nm, .int .u8 rt.toNat]] W fun e w' => e = .returned (.int .u32 (s.last + 1 : Nat)) ∧ RStp B W w' b ⟨s.N, pre ++ (nEx ow st k nm rt hx).num (s.last + 1) :: post, s.last + 1⟩) := ⟨fun W hW => by
    have := radd_any B b s (nEx ow st k nm rt hx) pre post W (h.below hW) c.l (fun y hy => Nat.le_of_lt (c.a y hy).2) (fun y hy => by have := c.b y hy; show st < y.st; omega) hlast hlen (ok_alloc h.ok c hk1 hk2 hx hlen)
    rw [nEx_v, ← hs, ← hk] at this
    exact this⟩
  rw [hNe] at c0 hN hk2
  have ho' : ¬ (6 : Int) ≤ (ow : Int) := by omega
  have h1 : ¬ start < 0 := by omega
  have h2 : ¬ (N : Int) ≤ start := by omega
  have h3 : ¬ many < 1 := by omega
  have h4 : ¬ (N : Int) - start < many := by omega
  have hw : IntKind.i64.wrap ((N : Int) - start) = (N : Int) - start := by rw [IntKind.wrap_i64]; omega
  have cR := rright_any nm rt.toNat _ hnm (hT.low' hq hX0)
  unfold capV at cR
  rw [hr] at cR
  have g0 := hG.cell 0
  have g1 := hG.cell 1
  have hgl := hG.lt
  simp only [List.getElem?_cons_zero, List.getElem?_cons_succ] at g0 g1
  have HG := Hid3.mk hG
  have cFr : ∀ W, Below w.heap.size w W → Calls Tryd.prog 58 #[.pointer (some ⟨b, 0, none⟩), .int .i64 start, .int .i64 many] W fun e w' => e = .returned (.bool true) ∧ Below W.heap.size W w' := fun W hW => by
    obtain ⟨a, cp, hc⟩ := (h.below hW).c
    exact rfree_yes b s a cp start many W hc (by omega) (by omega) (by omega) (by omega) hf
  clear hf
  have HLEN := Hid3.mk hlen
  clear h hc hX0 hNe hG ho hs hk hk1 hk2 hnm hT hr hN
  clear hlen c hlast
  go_enter Tryd.func52, Tryd.ntmps52
  go_wp2_with fail
  refine cR.mono ?_
  rintro e W1 ⟨rfl, hB1⟩
  have HB1 := Hid3.mk (HX0.out.trans (hB1.mono HX0.out.size))
  have HG1 := Hid3.mk (HG.out.below hB1)
  clear cR hB1 g0 g1 c0 hbl hgl
  have cF2 := cFr W1 HB1.out
  clear cFr
  go_wp2_with fail
  refine cF2.mono ?_
  rintro e W2 ⟨rfl, hB2⟩
  have HB2 := Hid3.mk (HB1.out.trans (hB2.mono HB1.out.size))
  have HG2 := Hid3.mk (HG1.out.below hB2)
  clear cF2 hB2 HG1
  obtain ⟨a2, cap2, hc2⟩ := (HH.out.below HB2.out).c
  have c1 := hc2.c1
  have hbl := hc2.l
  obtain ⟨n, hn⟩ : ∃ n, s.l.length = n := ⟨_, rfl⟩
  rw [hn] at c1
  have hnz : ¬ (24 : Int) ≤ (n : Int) := by have := HLEN.out; omega
  clear hc2 hn
  have cA := HA.out W2 HB2.out
  have g0 := HG2.out.cell 0
  have g1 := HG2.out.cell 1
  have hgl := HG2.out.lt
  simp only [List.getElem?_cons_zero, List.getElem?_cons_succ] at g0 g1
  go_wp2_with fail
  refine cA.mono ?_
  rintro e W3 ⟨rfl, hR⟩
  have HRR := Hid3.mk (RStp.pre HB2.out hR)
  clear cA hR g0 g1 c1
  go_wp2
  go_ret2
  exact ⟨rfl, HRR.out⟩
end Go.Proofs.YtmepnnlmhlndmaaDoor
