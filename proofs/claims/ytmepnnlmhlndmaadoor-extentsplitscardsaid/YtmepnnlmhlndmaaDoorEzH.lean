/- The document's Free, Give, Grow. -/
import Derived.Test.YtmepnnlmhlndmaaDoorEzG
namespace Go.Proofs.YtmepnnlmhlndmaaDoor
open Go.RowKit Go.Maps
set_option linter.unusedVariables false
set_option maxRecDepth 100000
theorem rfind_no {B : Nat} {w : World} {b : Nat} {s : Xt} (h : Rt B w b s) (ow id : Nat) (c : Int) (k : NoX s ow id c) :
    Calls Tryd.prog 68 #[.pointer (some ⟨b, 0, none⟩), .int .u8 ow, .int .u32 id] w fun e w' => e = .returned (.tuple #[.int .i64 0, .int .i64 c]) ∧ w' = w := by
  obtain ⟨a, cap, hc⟩ := h.c
  rcases k with ⟨rfl, k⟩ | ⟨rfl, pre, x, post, k1, k2, k3, k4⟩
  · exact rfind_none b s a cap ow id w hc k
  · have := rfind_some b s a cap ow id w hc pre post x k1 k2 k3 (0, 7) (by rw [if_neg k4])
    exact this
theorem rfind_ok {B : Nat} {w : World} {b : Nat} {s : Xt} (h : Rt B w b s) (ow id : Nat) (pre post : List Ex) (x : Ex) (k : AtX s ow id pre x post) :
    Calls Tryd.prog 68 #[.pointer (some ⟨b, 0, none⟩), .int .u8 ow, .int .u32 id] w fun e w' => e = .returned (.tuple #[.int .i64 pre.length, .int .i64 0]) ∧ w' = w := by
  obtain ⟨a, cap, hc⟩ := h.c
  exact rfind_some b s a cap ow id w hc pre post x k.l k.n k.i ((pre.length : Int), 0) (by rw [if_pos k.o])
theorem set_at {pre post : List Ex} {x x' : Ex} : (pre ++ x :: post).set pre.length x' = pre ++ x' :: post := by simp
/-- Its place, its cells. -/
theorem AtX.el {B : Nat} {w : World} {b : Nat} {s : Xt} {ow id : Nat} {pre post : List Ex} {x : Ex} (k : AtX s ow id pre x post) (h : Rt B w b s) : ∃ g n cap, w.cell? ⟨b, 1, none⟩ = some (.slice (some ⟨g, 0, none⟩) n cap) ∧ (pre.length : Int) < (n : Int) ∧ b < w.heap.size ∧ ExM w g pre.length x ∧ n = s.l.length ∧ w.cell? ⟨b, 0, none⟩ = some (.int .i64 s.N) := by
  obtain ⟨a, cap, hc⟩ := h.c
  obtain ⟨g, rfl, hE⟩ := hc.el pre.length x (by rw [k.l]; simp)
  exact ⟨g, s.l.length, cap, hc.c1, by rw [k.l]; simp; omega, hc.l, hE, rfl, hc.c0⟩
theorem freeR_no {B : Nat} {w : World} {b : Nat} {s : Xt} (h : Rt B w b s) (ow id : Nat) (c : Int) (k : NoX s ow id c) :
    Calls Tryd.prog 55 #[.pointer (some ⟨b, 0, none⟩), .int .u8 ow, .int .u32 id] w fun e w' => e = .returned (.int .i64 c) ∧ RStp B w w' b s := by
  have cF := rfind_no h ow id c k
  have hc := k.ne
  have HR := Hid3.mk (RStp.same h (Below.refl _ w))
  clear h k
  go_enter Tryd.func55, Tryd.ntmps55
  go_wp2_with fail
  refine cF.mono ?_
  rintro e W1 ⟨rfl, hW⟩
  rw [hW]
  clear cF hW
  go_wp2
  go_ret
  exact ⟨rfl, HR.out⟩
theorem giveR_no {B : Nat} {w : World} {b : Nat} {s : Xt} (h : Rt B w b s) (ow id : Nat) (tw : Nat) (c : Int) (k : NoX s ow id c) :
    Calls Tryd.prog 56 #[.pointer (some ⟨b, 0, none⟩), .int .u8 ow, .int .u32 id, .int .u8 tw] w fun e w' => e = .returned (.int .i64 c) ∧ RStp B w w' b s := by
  have cF := rfind_no h ow id c k
  have hc := k.ne
  have HR := Hid3.mk (RStp.same h (Below.refl _ w))
  clear h k
  go_enter Tryd.func56, Tryd.ntmps56
  go_wp2_with fail
  refine cF.mono ?_
  rintro e W1 ⟨rfl, hW⟩
  rw [hW]
  clear cF hW
  go_wp2
  go_ret
  exact ⟨rfl, HR.out⟩
theorem growR_no {B : Nat} {w : World} {b : Nat} {s : Xt} (h : Rt B w b s) (ow id : Nat) (m : Int) (c : Int) (k : NoX s ow id c) :
    Calls Tryd.prog 57 #[.pointer (some ⟨b, 0, none⟩), .int .u8 ow, .int .u32 id, .int .i64 m] w fun e w' => e = .returned (.int .i64 c) ∧ RStp B w w' b s := by
  have cF := rfind_no h ow id c k
  have hc := k.ne
  have HR := Hid3.mk (RStp.same h (Below.refl _ w))
  clear h k
  go_enter Tryd.func57, Tryd.ntmps57
  go_wp2_with fail
  refine cF.mono ?_
  rintro e W1 ⟨rfl, hW⟩
  rw [hW]
  clear cF hW
  go_wp2
  go_ret
  exact ⟨rfl, HR.out⟩
theorem freeR_ok {B : Nat} {w : World} {b : Nat} {s : Xt} (h : Rt B w b s) (ow id : Nat) (pre post : List Ex) (x : Ex) (k : AtX s ow id pre x post) :
    Calls Tryd.prog 55 #[.pointer (some ⟨b, 0, none⟩), .int .u8 ow, .int .u32 id] w fun e w' => e = .returned (.int .i64 0) ∧ RStp B w w' b { s with l := pre ++ post } := by
  have cF := rfind_ok h ow id pre post x k
  have cD := rdrop_any B b s pre post x w h k.l
  clear h k
  generalize ((pre.length : Nat) : Int) = K at *
  go_enter Tryd.func55, Tryd.ntmps55
  go_wp2_with fail
  refine cF.mono ?_
  rintro e W1 ⟨rfl, hW⟩
  rw [hW]
  clear cF hW
  go_wp2_with fail
  refine cD.mono ?_
  rintro e W2 ⟨⟨v, rfl⟩, hR⟩
  have HR := Hid3.mk hR
  clear cD hR
  go_wp2
  go_ret
  exact ⟨rfl, HR.out⟩
theorem giveR_far {B : Nat} {w : World} {b : Nat} {s : Xt} (h : Rt B w b s) (ow id tw : Nat) (pre post : List Ex) (x : Ex) (k : AtX s ow id pre x post) (ht : 6 ≤ tw) :
    Calls Tryd.prog 56 #[.pointer (some ⟨b, 0, none⟩), .int .u8 ow, .int .u32 id, .int .u8 tw] w fun e w' => e = .returned (.int .i64 2) ∧ RStp B w w' b s := by
  have cF := rfind_ok h ow id pre post x k
  have HR := Hid3.mk (RStp.same h (Below.refl _ w))
  have hto' : (6 : Int) ≤ (tw : Int) := by omega
  clear h k
  generalize ((pre.length : Nat) : Int) = K at *
  go_enter Tryd.func56, Tryd.ntmps56
  go_wp2_with fail
  refine cF.mono ?_
  rintro e W1 ⟨rfl, hW⟩
  rw [hW]
  clear cF hW
  go_wp2
  go_ret
  exact ⟨rfl, HR.out⟩
set_option maxHeartbeats 2000000 in
theorem giveR_ok {B : Nat} {w : World} {b : Nat} {s : Xt} (h : Rt B w b s) (ow id tw : Nat) (pre post : List Ex) (x : Ex) (k : AtX s ow id pre x post) (ht : tw < 6) :
    Calls Tryd.prog 56 #[.pointer (some ⟨b, 0, none⟩), .int .u8 ow, .int .u32 id, .int .u8 tw] w fun e w' => e = .returned (.int .i64 0) ∧ RStp B w w' b { s with l := pre ++ x.own tw :: post } := by
  have cF := rfind_ok h ow id pre post x k
  obtain ⟨g, n, cap, c1, hKn, hbl, hE, hnl, c0⟩ := k.el h
  have e0 := hE.e0
  have e1 := hE.e1
  have e2 := hE.e2
  have e3 := hE.e3
  have e4 := hE.e4
  have e5 := hE.e5
  have hg := hE.l
  have hKl : pre.length < s.l.length := by rw [k.l]; simp
  have hxb := x.b
  have hX := Cl.new w 36 (exCs x)
  have hX0 := below_new w (.cells (exCs x).toArray 36)
  rw [exs_agg] at hX hX0
  have hto' : ¬ (6 : Int) ≤ (tw : Int) := by omega
  have hB2 := below_new w (.cells (exCs (x.own tw)).toArray 36)
  have hl2 : s.l.set pre.length (x.own tw) = pre ++ x.own tw :: post := by rw [k.l]; exact set_at
  have cS := rset_any B b s pre.length (x.own tw) _ (h.below hB2) hKl (by rw [hl2]; exact ok_own h.ok k tw)
  rw [hl2] at cS
  rw [show exV (x.own tw) = .agg #[.int .u32 x.id, .int .i64 x.st, .int .i64 x.ln, .int .u8 tw, .string x.nm, .int .u8 x.rt.toNat] from rfl] at cS
  rw [show (exCs (x.own tw)).toArray = #[.int .u32 x.id, .int .i64 x.st, .int .i64 x.ln, .int .u8 tw, .string x.nm, .int .u8 x.rt.toNat] from rfl] at cS hB2
  have HB2 := Hid3.mk hB2
  clear h k hE hX hX0 hB2 hl2 hKl hnl hxb
  obtain ⟨K, hK⟩ : ∃ K, pre.length = K := ⟨_, rfl⟩
  rw [hK] at cF cS e0 e1 e2 e3 e4 e5 hKn
  clear hK
  go_enter Tryd.func56, Tryd.ntmps56
  go_wp2_with fail
  refine cF.mono ?_
  rintro e W1 ⟨rfl, hW⟩
  rw [hW]
  clear cF hW
  go_wp2_with fail
  refine cS.mono ?_
  rintro e W2 ⟨⟨v, rfl⟩, hR⟩
  have HR := Hid3.mk (RStp.pre HB2.out hR)
  clear cS hR
  go_wp2
  go_ret
  exact ⟨rfl, HR.out⟩
set_option maxHeartbeats 4000000 in
theorem growR_far {B : Nat} {w : World} {b : Nat} {s : Xt} (h : Rt B w b s) (ow id : Nat) (m : Int) (pre post : List Ex) (x : Ex) (k : AtX s ow id pre x post) (ht : thereB s.N ((x.st + x.ln : Nat) : Int) m = false) :
    Calls Tryd.prog 57 #[.pointer (some ⟨b, 0, none⟩), .int .u8 ow, .int .u32 id, .int .i64 m] w fun e w' => e = .returned (.int .i64 2) ∧ RStp B w w' b s := by
  have cF := rfind_ok h ow id pre post x k
  obtain ⟨g, n, cap, c1, hKn, hbl, hE, hnl, c0⟩ := k.el h
  have e0 := hE.e0
  have e1 := hE.e1
  have e2 := hE.e2
  have e3 := hE.e3
  have e4 := hE.e4
  have e5 := hE.e5
  have hg := hE.l
  have hKl : pre.length < s.l.length := by rw [k.l]; simp
  have hxb := x.b
  have hX := Cl.new w 36 (exCs x)
  have hX0 := below_new w (.cells (exCs x).toArray 36)
  rw [exs_agg] at hX hX0
  obtain ⟨K, hK⟩ : ∃ K, pre.length = K := ⟨_, rfl⟩
  have HK := Hid3.mk hK
  obtain ⟨N, hN⟩ : ∃ N, s.N = N := ⟨_, rfl⟩
  have HN := Hid3.mk hN
  have HH := Hid3.mk h
  have HKK := Hid3.mk k
  have HKL := Hid3.mk hKl
  rw [hK] at cF e0 e1 e2 e3 e4 e5 hKn
  rw [hN] at c0
  have hNb : N ≤ 64 := by rw [← hN]; exact h.ok.n2
  have HX0 := Hid3.mk hX0
  have HX := Hid3.mk hX
  have hw1 : IntKind.i64.wrap ((N : Int) - (x.st : Int)) = (N : Int) - (x.st : Int) := by rw [IntKind.wrap_i64]; omega
  have hw2 : IntKind.i64.wrap ((N : Int) - (x.st : Int) - (x.ln : Int)) = (N : Int) - (x.st : Int) - (x.ln : Int) := by rw [IntKind.wrap_i64]; omega
  have HR : Hid3 (∀ W, Below w.heap.size w W → RStp B w W b s) := ⟨fun W hW => RStp.same h hW⟩
  have hcase : m < 1 ∨ (N : Int) - (x.st : Int) - (x.ln : Int) < m := by
    rw [hN] at ht
    unfold thereB at ht
    rw [Bool.and_eq_false_iff, Bool.and_eq_false_iff, decide_eq_false_iff_not, decide_eq_false_iff_not, decide_eq_false_iff_not] at ht
    omega
  clear hX hX0 hE h k hnl hKl hK hN ht
  by_cases h1 : m < 1
  · have d1 : decide (m < 1) = true := decide_eq_true h1
    clear h1 hcase
    go_enter Tryd.func57, Tryd.ntmps57
    go_wp2_with fail
    refine cF.mono ?_
    rintro e W1 ⟨rfl, hW⟩
    rw [hW]
    clear cF hW
    go_wp2_with fail
    go_quiet (fail)
    go_wp2
    go_ret
    exact ⟨rfl, HR.out _ (belowN5 HX0.out _)⟩
  · have d1 : decide (m < 1) = false := decide_eq_false h1
    have d2 : decide ((N : Int) - (x.st : Int) - (x.ln : Int) < m) = true := decide_eq_true (hcase.resolve_left h1)
    clear h1 hcase
    go_enter Tryd.func57, Tryd.ntmps57
    go_wp2_with fail
    refine cF.mono ?_
    rintro e W1 ⟨rfl, hW⟩
    rw [hW]
    clear cF hW
    go_wp2_with fail
    go_quiet (fail)
    go_wp2
    go_ret
    exact ⟨rfl, HR.out _ (belowN5 HX0.out _)⟩
set_option maxHeartbeats 4000000 in
theorem growR_busy {B : Nat} {w : World} {b : Nat} {s : Xt} (h : Rt B w b s) (ow id : Nat) (m : Nat) (pre post : List Ex) (x : Ex) (k : AtX s ow id pre x post) (hm : 1 ≤ m) (hm2 : x.st + x.ln + m ≤ s.N) (hf : ¬ freeX s.l ((x.st + x.ln : Nat) : Int) m) :
    Calls Tryd.prog 57 #[.pointer (some ⟨b, 0, none⟩), .int .u8 ow, .int .u32 id, .int .i64 m] w fun e w' => e = .returned (.int .i64 8) ∧ RStp B w w' b s := by
  have cF := rfind_ok h ow id pre post x k
  obtain ⟨g, n, cap, c1, hKn, hbl, hE, hnl, c0⟩ := k.el h
  have e0 := hE.e0
  have e1 := hE.e1
  have e2 := hE.e2
  have e3 := hE.e3
  have e4 := hE.e4
  have e5 := hE.e5
  have hg := hE.l
  have hKl : pre.length < s.l.length := by rw [k.l]; simp
  have hxb := x.b
  have hX := Cl.new w 36 (exCs x)
  have hX0 := below_new w (.cells (exCs x).toArray 36)
  rw [exs_agg] at hX hX0
  obtain ⟨K, hK⟩ : ∃ K, pre.length = K := ⟨_, rfl⟩
  have HK := Hid3.mk hK
  obtain ⟨N, hN⟩ : ∃ N, s.N = N := ⟨_, rfl⟩
  have HN := Hid3.mk hN
  have HH := Hid3.mk h
  have HKK := Hid3.mk k
  have HKL := Hid3.mk hKl
  rw [hK] at cF e0 e1 e2 e3 e4 e5 hKn
  rw [hN] at c0
  have hNb : N ≤ 64 := by rw [← hN]; exact h.ok.n2
  have HX0 := Hid3.mk hX0
  have HX := Hid3.mk hX
  have hw1 : IntKind.i64.wrap ((N : Int) - (x.st : Int)) = (N : Int) - (x.st : Int) := by rw [IntKind.wrap_i64]; omega
  have hw2 : IntKind.i64.wrap ((N : Int) - (x.st : Int) - (x.ln : Int)) = (N : Int) - (x.st : Int) - (x.ln : Int) := by rw [IntKind.wrap_i64]; omega
  have HR : Hid3 (∀ W, Below w.heap.size w W → RStp B w W b s) := ⟨fun W hW => RStp.same h hW⟩
  rw [hN] at hm2
  have d1 : decide ((m : Int) < 1) = false := decide_eq_false (by omega)
  have d2 : decide ((N : Int) - (x.st : Int) - (x.ln : Int) < (m : Int)) = false := decide_eq_false (by omega)
  obtain ⟨E, hEE⟩ : ∃ E : Int, (x.st : Int) + (x.ln : Int) = E := ⟨_, rfl⟩
  have hw3 : IntKind.i64.wrap ((x.st : Int) + (x.ln : Int)) = E := by rw [IntKind.wrap_i64]; omega
  have cFr : ∀ W, Below w.heap.size w W → Calls Tryd.prog 58 #[.pointer (some ⟨b, 0, none⟩), .int .i64 E, .int .i64 m] W fun e w' => e = .returned (.bool false) ∧ Below W.heap.size W w' := fun W hW => by
    obtain ⟨a, cp, hc⟩ := (h.below hW).c
    have := rfree_no b s a cp ((x.st + x.ln : Nat) : Int) m W hc (by omega) (by omega) (by omega) (by omega) hf
    rw [show ((x.st + x.ln : Nat) : Int) = E by omega] at this
    exact this
  clear hX hX0 hE h k hnl hKl hK hN hf hm hm2 hEE
  go_enter Tryd.func57, Tryd.ntmps57
  go_wp2_with fail
  refine cF.mono ?_
  rintro e W1 ⟨rfl, hW⟩
  rw [hW]
  clear cF hW
  go_wp2_with fail
  go_quiet (fail)
  have hBq := belowN5 HX0.out nq
  have hXq := HX.out.below (belowN5 (Below.refl _ (w.alloc (.cells #[.int .u32 x.id, .int .i64 x.st, .int .i64 x.ln, .int .u8 x.ow, .string x.nm, .int .u8 x.rt.toNat] 36))) nq)
  generalize (w.alloc (.cells #[.int .u32 x.id, .int .i64 x.st, .int .i64 x.ln, .int .u8 x.ow, .string x.nm, .int .u8 x.rt.toNat] 36)).drewN nq = V at *
  clear e0 e1 e2 e3 e4 e5 c1 c0 hg hbl
  have u1 := hXq.cell 1
  have u2 := hXq.cell 2
  simp only [List.getElem?_cons_zero, List.getElem?_cons_succ, exCs] at u1 u2
  have hxl := hXq.lt
  have cF2 := cFr V hBq
  clear cFr
  go_wp2_with fail
  refine cF2.mono ?_
  rintro e V2 ⟨rfl, hB2⟩
  have HB2 := Hid3.mk (hBq.trans (hB2.mono hBq.size))
  clear cF2 hB2 hXq hBq u1 u2 hxl
  go_wp2
  go_ret
  exact ⟨rfl, HR.out _ HB2.out⟩
set_option maxHeartbeats 4000000 in
theorem growR_ok {B : Nat} {w : World} {b : Nat} {s : Xt} (h : Rt B w b s) (ow id : Nat) (m : Nat) (pre post : List Ex) (x : Ex) (k : AtX s ow id pre x post) (hm : 1 ≤ m) (hm2 : x.st + x.ln + m ≤ s.N) (hf : freeX s.l ((x.st + x.ln : Nat) : Int) m) (hx : x.st + (x.ln + m) ≤ 1000) :
    Calls Tryd.prog 57 #[.pointer (some ⟨b, 0, none⟩), .int .u8 ow, .int .u32 id, .int .i64 m] w fun e w' => e = .returned (.int .i64 0) ∧ RStp B w w' b { s with l := pre ++ x.len (x.ln + m) hx :: post } := by
  have cF := rfind_ok h ow id pre post x k
  obtain ⟨g, n, cap, c1, hKn, hbl, hE, hnl, c0⟩ := k.el h
  have e0 := hE.e0
  have e1 := hE.e1
  have e2 := hE.e2
  have e3 := hE.e3
  have e4 := hE.e4
  have e5 := hE.e5
  have hg := hE.l
  have hKl : pre.length < s.l.length := by rw [k.l]; simp
  have hxb := x.b
  have hX := Cl.new w 36 (exCs x)
  have hX0 := below_new w (.cells (exCs x).toArray 36)
  rw [exs_agg] at hX hX0
  obtain ⟨K, hK⟩ : ∃ K, pre.length = K := ⟨_, rfl⟩
  have HK := Hid3.mk hK
  obtain ⟨N, hN⟩ : ∃ N, s.N = N := ⟨_, rfl⟩
  have HN := Hid3.mk hN
  have HH := Hid3.mk h
  have HKK := Hid3.mk k
  have HKL := Hid3.mk hKl
  rw [hK] at cF e0 e1 e2 e3 e4 e5 hKn
  rw [hN] at c0
  have hNb : N ≤ 64 := by rw [← hN]; exact h.ok.n2
  have HX0 := Hid3.mk hX0
  have HX := Hid3.mk hX
  have hw1 : IntKind.i64.wrap ((N : Int) - (x.st : Int)) = (N : Int) - (x.st : Int) := by rw [IntKind.wrap_i64]; omega
  have hw2 : IntKind.i64.wrap ((N : Int) - (x.st : Int) - (x.ln : Int)) = (N : Int) - (x.st : Int) - (x.ln : Int) := by rw [IntKind.wrap_i64]; omega
  have HOK := Hid3.mk (ok_grow h.ok k hm hm2 hf hx)
  rw [hN] at hm2
  have d1 : decide ((m : Int) < 1) = false := decide_eq_false (by omega)
  have d2 : decide ((N : Int) - (x.st : Int) - (x.ln : Int) < (m : Int)) = false := decide_eq_false (by omega)
  obtain ⟨E, hEE⟩ : ∃ E : Int, (x.st : Int) + (x.ln : Int) = E := ⟨_, rfl⟩
  have hw3 : IntKind.i64.wrap ((x.st : Int) + (x.ln : Int)) = E := by rw [IntKind.wrap_i64]; omega
  have hw4 : IntKind.i64.wrap ((x.ln : Int) + (m : Int)) = (x.ln : Int) + (m : Int) := by rw [IntKind.wrap_i64]; omega
  have cFr : ∀ W, Below w.heap.size w W → Calls Tryd.prog 58 #[.pointer (some ⟨b, 0, none⟩), .int .i64 E, .int .i64 m] W fun e w' => e = .returned (.bool true) ∧ Below W.heap.size W w' := fun W hW => by
    obtain ⟨a, cp, hc⟩ := (h.below hW).c
    have := rfree_yes b s a cp ((x.st + x.ln : Nat) : Int) m W hc (by omega) (by omega) (by omega) (by omega) hf
    rw [show ((x.st + x.ln : Nat) : Int) = E by omega] at this
    exact this
  have hl2 : s.l.set pre.length (x.len (x.ln + m) hx) = pre ++ x.len (x.ln + m) hx :: post := by rw [k.l]; exact set_at
  have HL2 := Hid3.mk hl2
  clear hX hX0 hE h k hnl hKl hK hN hf hm hm2 hEE hl2
  go_enter Tryd.func57, Tryd.ntmps57
  go_wp2_with fail
  refine cF.mono ?_
  rintro e W1 ⟨rfl, hW⟩
  rw [hW]
  clear cF hW
  go_wp2_with fail
  go_quiet (fail)
  have hBq := belowN5 HX0.out nq
  have hXq := HX.out.below (belowN5 (Below.refl _ (w.alloc (.cells #[.int .u32 x.id, .int .i64 x.st, .int .i64 x.ln, .int .u8 x.ow, .string x.nm, .int .u8 x.rt.toNat] 36))) nq)
  generalize (w.alloc (.cells #[.int .u32 x.id, .int .i64 x.st, .int .i64 x.ln, .int .u8 x.ow, .string x.nm, .int .u8 x.rt.toNat] 36)).drewN nq = V at *
  clear e0 e1 e2 e3 e4 e5 c1 c0 hg hbl
  have u1 := hXq.cell 1
  have u2 := hXq.cell 2
  simp only [List.getElem?_cons_zero, List.getElem?_cons_succ, exCs] at u1 u2
  have hxl := hXq.lt
  have cF2 := cFr V hBq
  clear cFr
  go_wp2_with fail
  refine cF2.mono ?_
  rintro e V2 ⟨rfl, hB2⟩
  have HB2 := Hid3.mk (hBq.trans (hB2.mono hBq.size))
  have hX2 := hXq.below hB2
  clear cF2 hB2 hXq hBq u1 u2 hxl
  have hxl := hX2.lt
  have u0 := hX2.cell 0
  have u1 := hX2.cell 1
  have u2 := hX2.cell 2
  have u3 := hX2.cell 3
  have u4 := hX2.cell 4
  have u5 := hX2.cell 5
  have f2 := hX2.thaw 2
  simp only [List.getElem?_cons_zero, List.getElem?_cons_succ, exCs] at u0 u1 u2 u3 u4 u5
  have hB3 : Below w.heap.size w (V2.setCell ⟨w.heap.size, 2, none⟩ (.int .i64 ((x.ln : Int) + (m : Int)))) := HB2.out.trans (Apart.at (X := fun i => i = w.heap.size) _ w.heap.size 2 _ rfl |>.below _ (fun i e => by omega) HB2.out.size)
  have HB3 := Hid3.mk hB3
  have cS := rset_any B b s pre.length (x.len (x.ln + m) hx) _ (HH.out.below hB3) HKL.out (by rw [HL2.out]; exact HOK.out)
  rw [HL2.out, HK.out] at cS
  rw [show exV (x.len (x.ln + m) hx) = .agg #[.int .u32 x.id, .int .i64 x.st, .int .i64 ((x.ln : Int) + (m : Int)), .int .u8 x.ow, .string x.nm, .int .u8 x.rt.toNat] by simp [exV, Ex.len]] at cS
  clear hB3 hX2
  go_wp2_with fail
  refine cS.mono ?_
  rintro e W2 ⟨⟨v, rfl⟩, hR⟩
  have HR := Hid3.mk (RStp.pre HB3.out hR)
  clear cS hR u0 u1 u2 u3 u4 u5 f2 hxl
  go_wp2
  go_ret
  exact ⟨rfl, HR.out⟩
end Go.Proofs.YtmepnnlmhlndmaaDoor
