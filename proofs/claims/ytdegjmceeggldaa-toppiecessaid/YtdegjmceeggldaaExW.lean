/- An environment is given sectors. -/
import Derived.Test.YtdegjmceeggldaaExV
import Derived.Test.YtdegjmceeggldaaNameG
namespace Go.Proofs.Ytdegjmceeggldaa
open Go.RowKit Go.Shelf Go.Maps
set_option linter.unusedVariables false
set_option maxRecDepth 100000
theorem AddC.pre {w W w' : World} {tb hb N last b d : Nat} {y x : Ex} {pre r : List Ln} (h : Below w.heap.size w W) (k : AddC W w' tb hb N last b y x pre r d) : AddC w w' tb hb N last b y x pre r d :=
  ⟨(Apart.of_below h).trans k.ap, Nat.le_trans h.size k.d0, k.d1, k.t, k.k⟩
def nEx (ow st k : Nat) (nm : ByteArray) (rt : BitVec 8) (h : st + k ≤ 1000) : Ex := ⟨0, st, k, ow, nm, rt, h⟩
theorem nEx_v (ow st k : Nat) (nm : ByteArray) (rt : BitVec 8) (h : st + k ≤ 1000) : exV (nEx ow st k nm rt h) = .agg #[.int .u32 0, .int .i64 st, .int .i64 k, .int .u8 ow, .string nm, .int .u8 rt.toNat] := rfl
/-- What lies in the boxes of a call. -/
structure AlB (w W : World) (s : Int) (nm : ByteArray) (rt : Int) : Prop where
  s : Cl W w.heap.size 3 [.int .i64 s]
  g : Cl W (w.heap.size + 1) 29 [.string nm, .int .u8 rt]
  b : Below w.heap.size w W
theorem AlB.mk' (w : World) (s : Int) (nm : ByteArray) (rt : Int) : AlB w ((w.alloc (.cells #[.int .i64 s] 3)).alloc (.cells #[.string nm, .int .u8 rt] 29)) s nm rt := by
  have h1 := Cl.new w 3 [.int .i64 s]
  have h2 := Cl.new (w.alloc (.cells #[.int .i64 s] 3)) 29 [.string nm, .int .u8 rt]
  rw [World.size_alloc] at h2
  exact ⟨h1.alloc _, h2, ((Below.refl _ w).alloc (Nat.le_refl _) _).alloc (by simp) _⟩
theorem AlB.low {w W V : World} {s : Int} {nm : ByteArray} {rt : Int} (h : AlB w W s nm rt) (k : Below W.heap.size W V) : AlB w V s nm rt := ⟨h.s.below k, h.g.below k, h.b.trans (k.mono h.b.size)⟩
set_option maxHeartbeats 2000000 in
theorem alloc_own (n₀ tb hb N last : Nat) (hN : N ≤ 1000) (ns : List Ln) (ow : Nat) (start many : Int) (nm : ByteArray) (rt : BitVec 8) (w : World) (h : Tp n₀ w tb hb N last ns) (hn0 : n₀ ≤ w.heap.size) (ho : 6 ≤ ow) :
    Calls Try.prog 5 #[.pointer (some ⟨tb, 0, none⟩), .int .u8 ow, .int .i64 start, .int .i64 many, .agg #[.string nm, .int .u8 rt.toNat]] w fun e w' => e = .returned (.tuple #[.int .u32 0, .int .i64 2]) ∧ Below w.heap.size w w' := by
  have HA := Hid3.mk (AlB.mk' w start nm (rt.toNat : Int))
  generalize (rt.toNat : Int) = rn at *
  have ho' : (6 : Int) ≤ (ow : Int) := by omega
  clear h
  go_enter Try.func5, Try.ntmps5
  go_wp2
  go_ret2
  exact ⟨rfl, HA.out.b⟩
set_option maxHeartbeats 2000000 in
theorem alloc_far (n₀ tb hb N last : Nat) (hN : N ≤ 1000) (ns : List Ln) (ow : Nat) (start many : Int) (nm : ByteArray) (rt : BitVec 8) (w : World) (h : Tp n₀ w tb hb N last ns) (hn0 : n₀ ≤ w.heap.size) (ho : ow < 6) (hst : start ≤ 9223372036854775807) (ht : thereB N start many = false) :
    Calls Try.prog 5 #[.pointer (some ⟨tb, 0, none⟩), .int .u8 ow, .int .i64 start, .int .i64 many, .agg #[.string nm, .int .u8 rt.toNat]] w fun e w' => e = .returned (.tuple #[.int .u32 0, .int .i64 2]) ∧ Below w.heap.size w w' := by
  have HA := Hid3.mk (AlB.mk' w start nm (rt.toNat : Int))
  generalize (rt.toNat : Int) = rn at *
  have cT := fun w h => there_any n₀ tb hb N last hN ns start many (by omega) w h
  rw [ht] at cT
  have ho' : ¬ (6 : Int) ≤ (ow : Int) := by omega
  go_enter Try.func5, Try.ntmps5
  go_wp2_with fail
  generalize ((w.alloc (.cells #[.int .i64 start] 3)).alloc (.cells #[.string nm, .int .u8 rn] 29)) = W0 at *
  have cT0 := cT W0 (h.below HA.out.b)
  have c0 := HA.out.s.cell 0
  have g0 := HA.out.g.cell 0
  have g1 := HA.out.g.cell 1
  simp only [List.getElem?_cons_zero, List.getElem?_cons_succ] at c0 g0 g1
  clear cT
  refine cT0.mono ?_
  rintro e W9 ⟨rfl, hW9⟩
  rw [hW9]
  clear cT0 hW9
  go_wp2
  go_ret2
  exact ⟨rfl, HA.out.b⟩
set_option maxHeartbeats 2000000 in
theorem alloc_form (n₀ tb hb N last : Nat) (hN : N ≤ 1000) (ns : List Ln) (ow : Nat) (start many : Int) (nm : ByteArray) (rt : BitVec 8) (w : World) (h : Tp n₀ w tb hb N last ns) (hn0 : n₀ ≤ w.heap.size) (ho : ow < 6) (st k : Nat) (hs : start = st) (hk : many = k) (hk1 : 1 ≤ k) (hk2 : st + k ≤ N) (hnm : nm.size ≤ 1000) (hr : rightB nm.data.toList rt.toNat = false) :
    Calls Try.prog 5 #[.pointer (some ⟨tb, 0, none⟩), .int .u8 ow, .int .i64 start, .int .i64 many, .agg #[.string nm, .int .u8 rt.toNat]] w fun e w' => e = .returned (.tuple #[.int .u32 0, .int .i64 3]) ∧ Below w.heap.size w w' := by
  have cR := fun W => right_any nm rt.toNat W hnm
  unfold capV at cR
  rw [hr] at cR
  have cT := fun w h => there_any n₀ tb hb N last hN ns start many (by omega) w h
  rw [there_yes (N := N) (start := start) (many := many) (by omega) (by omega) (by omega)] at cT
  have ho' : ¬ (6 : Int) ≤ (ow : Int) := by omega
  have HA := Hid3.mk (AlB.mk' w start nm (rt.toNat : Int))
  generalize (rt.toNat : Int) = rn at *
  clear hs hk hr hk1 hk2 hnm
  go_enter Try.func5, Try.ntmps5
  go_wp2_with fail
  generalize ((w.alloc (.cells #[.int .i64 start] 3)).alloc (.cells #[.string nm, .int .u8 rn] 29)) = W0 at *
  have cT0 := cT W0 (h.below HA.out.b)
  have c0 := HA.out.s.cell 0
  have g0 := HA.out.g.cell 0
  have g1 := HA.out.g.cell 1
  simp only [List.getElem?_cons_zero, List.getElem?_cons_succ] at c0 g0 g1
  clear cT
  refine cT0.mono ?_
  rintro e W9 ⟨rfl, hW9⟩
  rw [hW9]
  clear cT0 hW9
  go_wp2_with fail
  refine (cR W0).mono ?_
  rintro e W1 ⟨rfl, hB1⟩
  have HA1 := Hid3.mk (HA.out.low hB1)
  clear cR hB1 HA c0 g0 g1
  go_wp2
  go_ret2
  exact ⟨rfl, HA1.out.b⟩
set_option maxHeartbeats 2000000 in
theorem alloc_busy (n₀ tb hb N last : Nat) (hN : N ≤ 1000) (ns : List Ln) (ow : Nat) (start many : Int) (nm : ByteArray) (rt : BitVec 8) (w : World) (h : Tp n₀ w tb hb N last ns) (hn0 : n₀ ≤ w.heap.size) (ho : ow < 6) (st k : Nat) (hs : start = st) (hk : many = k) (hk1 : 1 ≤ k) (hk2 : st + k ≤ N) (hnm : nm.size ≤ 1000) (hr : rightB nm.data.toList rt.toNat = true) (hf : ((gpL N hN ns).find? (holds start many)).isSome = false) :
    Calls Try.prog 5 #[.pointer (some ⟨tb, 0, none⟩), .int .u8 ow, .int .i64 start, .int .i64 many, .agg #[.string nm, .int .u8 rt.toNat]] w fun e w' => e = .returned (.tuple #[.int .u32 0, .int .i64 8]) ∧ Below w.heap.size w w' := by
  have cF := fun w h h2 => free_any n₀ tb hb N last hN ns start many (by omega) (by omega) (by omega) (by omega) w h h2
  rw [hf] at cF
  have cR := fun W => right_any nm rt.toNat W hnm
  unfold capV at cR
  rw [hr] at cR
  have cT := fun w h => there_any n₀ tb hb N last hN ns start many (by omega) w h
  rw [there_yes (N := N) (start := start) (many := many) (by omega) (by omega) (by omega)] at cT
  have ho' : ¬ (6 : Int) ≤ (ow : Int) := by omega
  have HA := Hid3.mk (AlB.mk' w start nm (rt.toNat : Int))
  generalize (rt.toNat : Int) = rn at *
  clear hs hk hr hk1 hk2 hnm
  go_enter Try.func5, Try.ntmps5
  go_wp2_with fail
  generalize ((w.alloc (.cells #[.int .i64 start] 3)).alloc (.cells #[.string nm, .int .u8 rn] 29)) = W0 at *
  have cT0 := cT W0 (h.below HA.out.b)
  have c0 := HA.out.s.cell 0
  have g0 := HA.out.g.cell 0
  have g1 := HA.out.g.cell 1
  simp only [List.getElem?_cons_zero, List.getElem?_cons_succ] at c0 g0 g1
  clear cT
  refine cT0.mono ?_
  rintro e W9 ⟨rfl, hW9⟩
  rw [hW9]
  clear cT0 hW9
  go_wp2_with fail
  refine (cR W0).mono ?_
  rintro e W1 ⟨rfl, hB1⟩
  have HA1 := Hid3.mk (HA.out.low hB1)
  clear cR hB1 HA c0 g0 g1
  have c0 := HA1.out.s.cell 0
  simp only [List.getElem?_cons_zero] at c0
  have cF1 := cF W1 (h.below HA1.out.b) (Nat.le_trans hn0 HA1.out.b.size)
  clear cF
  go_wp2_with fail
  refine cF1.mono ?_
  rintro e W2 ⟨rfl, hB2⟩
  have HA2 := Hid3.mk (HA1.out.low hB2)
  clear cF1 hB2 HA1 c0
  go_wp2
  go_ret2
  exact ⟨rfl, HA2.out.b⟩
set_option maxHeartbeats 2000000 in
theorem alloc_full (n₀ tb hb N last : Nat) (hN : N ≤ 1000) (ns : List Ln) (ow : Nat) (start many : Int) (nm : ByteArray) (rt : BitVec 8) (w : World) (h : Tp n₀ w tb hb N last ns) (hn0 : n₀ ≤ w.heap.size) (ho : ow < 6) (st k : Nat) (hs : start = st) (hk : many = k) (hk1 : 1 ≤ k) (hk2 : st + k ≤ N) (hnm : nm.size ≤ 1000) (hr : rightB nm.data.toList rt.toNat = true) (hf : ((gpL N hN ns).find? (holds start many)).isSome = true) (b : Nat) (y : Ex) (pre r : List Ln) (hp : pst (before start) (hb, zEx) ns = ((b, y), r)) (hs2 : (hb, zEx) :: ns = pre ++ (b, y) :: r) (hx : st + k ≤ 1000) (hlen : 24 ≤ ns.length) (hl2 : ns.length ≤ 100) :
    Calls Try.prog 5 #[.pointer (some ⟨tb, 0, none⟩), .int .u8 ow, .int .i64 start, .int .i64 many, .agg #[.string nm, .int .u8 rt.toNat]] w fun e w' => e = .returned (.tuple #[.int .u32 0, .int .i64 4]) ∧ Below w.heap.size w w' := by
  have cF := fun w h h2 => free_any n₀ tb hb N last hN ns start many (by omega) (by omega) (by omega) (by omega) w h h2
  rw [hf] at cF
  have cQ := fun W h h2 => add_full n₀ tb hb N last ns (.pointer (some ⟨b, 0, none⟩)) (nEx ow st k nm rt hx) W h h2 hlen hl2
  rw [nEx_v, ← hs, ← hk] at cQ
  have cR := fun W => right_any nm rt.toNat W hnm
  unfold capV at cR
  rw [hr] at cR
  have cT := fun w h => there_any n₀ tb hb N last hN ns start many (by omega) w h
  rw [there_yes (N := N) (start := start) (many := many) (by omega) (by omega) (by omega)] at cT
  have ho' : ¬ (6 : Int) ≤ (ow : Int) := by omega
  have HA := Hid3.mk (AlB.mk' w start nm (rt.toNat : Int))
  generalize (rt.toNat : Int) = rn at *
  clear hs hk hr hk1 hk2 hnm
  go_enter Try.func5, Try.ntmps5
  go_wp2_with fail
  generalize ((w.alloc (.cells #[.int .i64 start] 3)).alloc (.cells #[.string nm, .int .u8 rn] 29)) = W0 at *
  have cT0 := cT W0 (h.below HA.out.b)
  have c0 := HA.out.s.cell 0
  have g0 := HA.out.g.cell 0
  have g1 := HA.out.g.cell 1
  simp only [List.getElem?_cons_zero, List.getElem?_cons_succ] at c0 g0 g1
  clear cT
  refine cT0.mono ?_
  rintro e W9 ⟨rfl, hW9⟩
  rw [hW9]
  clear cT0 hW9
  go_wp2_with fail
  refine (cR W0).mono ?_
  rintro e W1 ⟨rfl, hB1⟩
  have HA1 := Hid3.mk (HA.out.low hB1)
  clear cR hB1 HA c0 g0 g1
  have c0 := HA1.out.s.cell 0
  simp only [List.getElem?_cons_zero] at c0
  have cF1 := cF W1 (h.below HA1.out.b) (Nat.le_trans hn0 HA1.out.b.size)
  clear cF
  go_wp2_with fail
  refine cF1.mono ?_
  rintro e W2 ⟨rfl, hB2⟩
  have HA2 := Hid3.mk (HA1.out.low hB2)
  clear cF1 hB2 HA1 c0
  have c0 := HA2.out.s.cell 0
  have g0 := HA2.out.g.cell 0
  have g1 := HA2.out.g.cell 1
  have hT2 := h.below HA2.out.b
  have t1 := hT2.t.cell 1
  simp only [List.getElem?_cons_zero, List.getElem?_cons_succ] at c0 g0 g1 t1
  have cP := pastS_any start w.heap.size n₀ hb ns W2 c0 hT2.l (Nat.le_trans hn0 HA2.out.b.size)
  rw [hp] at cP
  clear hT2
  go_wp2_with fail
  refine cP.mono ?_
  rintro e W3 ⟨rfl, hB3⟩
  have HA3 := Hid3.mk (HA2.out.low hB3)
  clear cP hB3 HA2 c0 g0 g1 t1
  have c0 := HA3.out.s.cell 0
  have g0 := HA3.out.g.cell 0
  have g1 := HA3.out.g.cell 1
  simp only [List.getElem?_cons_zero, List.getElem?_cons_succ] at c0 g0 g1
  have cQ3 := cQ W3 (h.below HA3.out.b) (Nat.le_trans hn0 HA3.out.b.size)
  clear cQ
  go_wp2_with fail
  refine cQ3.mono ?_
  rintro e W4 ⟨rfl, hB4⟩
  have HA4 := Hid3.mk (HA3.out.low hB4)
  clear cQ3 hB4 HA3 c0 g0 g1
  go_wp2
  go_ret2
  exact ⟨rfl, HA4.out.b⟩
set_option maxHeartbeats 2000000 in
theorem alloc_ok (n₀ tb hb N last : Nat) (hN : N ≤ 1000) (ns : List Ln) (ow : Nat) (start many : Int) (nm : ByteArray) (rt : BitVec 8) (w : World) (h : Tp n₀ w tb hb N last ns) (hn0 : n₀ ≤ w.heap.size) (ho : ow < 6) (st k : Nat) (hs : start = st) (hk : many = k) (hk1 : 1 ≤ k) (hk2 : st + k ≤ N) (hnm : nm.size ≤ 1000) (hr : rightB nm.data.toList rt.toNat = true) (hf : ((gpL N hN ns).find? (holds start many)).isSome = true) (b : Nat) (y : Ex) (pre r : List Ln) (hp : pst (before start) (hb, zEx) ns = ((b, y), r)) (hs2 : (hb, zEx) :: ns = pre ++ (b, y) :: r) (hx : st + k ≤ 1000) (hlen : ns.length < 24) (hlast : last < 1000000) (htb : tb ∉ ((hb, zEx) :: ns).map Prod.fst) :
    Calls Try.prog 5 #[.pointer (some ⟨tb, 0, none⟩), .int .u8 ow, .int .i64 start, .int .i64 many, .agg #[.string nm, .int .u8 rt.toNat]] w fun e w' => e = .returned (.tuple #[.int .u32 (last + 1 : Nat), .int .i64 0]) ∧ ∃ d, AddC w w' tb hb N last b y (nEx ow st k nm rt hx) pre r d := by
  have cF := fun w h h2 => free_any n₀ tb hb N last hN ns start many (by omega) (by omega) (by omega) (by omega) w h h2
  rw [hf] at cF
  have cQ := fun W h h2 => add_any n₀ tb hb N last ns pre b y (nEx ow st k nm rt hx) r W h h2 hs2 hlen hlast htb
  rw [nEx_v, ← hs, ← hk] at cQ
  have cR := fun W => right_any nm rt.toNat W hnm
  unfold capV at cR
  rw [hr] at cR
  have cT := fun w h => there_any n₀ tb hb N last hN ns start many (by omega) w h
  rw [there_yes (N := N) (start := start) (many := many) (by omega) (by omega) (by omega)] at cT
  have ho' : ¬ (6 : Int) ≤ (ow : Int) := by omega
  have HA := Hid3.mk (AlB.mk' w start nm (rt.toNat : Int))
  generalize (rt.toNat : Int) = rn at cR cQ HA ⊢
  clear hs hk hr hk1 hk2 hnm
  go_enter Try.func5, Try.ntmps5
  go_wp2_with fail
  generalize ((w.alloc (.cells #[.int .i64 start] 3)).alloc (.cells #[.string nm, .int .u8 rn] 29)) = W0 at cT HA ⊢
  have cT0 := cT W0 (h.below HA.out.b)
  have c0 := HA.out.s.cell 0
  have g0 := HA.out.g.cell 0
  have g1 := HA.out.g.cell 1
  simp only [List.getElem?_cons_zero, List.getElem?_cons_succ] at c0 g0 g1
  clear cT
  refine cT0.mono ?_
  rintro e W9 ⟨rfl, hW9⟩
  rw [hW9]
  clear cT0 hW9
  go_wp2_with fail
  refine (cR W0).mono ?_
  rintro e W1 ⟨rfl, hB1⟩
  have HA1 := Hid3.mk (HA.out.low hB1)
  clear cR hB1 HA c0 g0 g1
  have c0 := HA1.out.s.cell 0
  simp only [List.getElem?_cons_zero] at c0
  have cF1 := cF W1 (h.below HA1.out.b) (Nat.le_trans hn0 HA1.out.b.size)
  clear cF
  go_wp2_with fail
  refine cF1.mono ?_
  rintro e W2 ⟨rfl, hB2⟩
  have HA2 := Hid3.mk (HA1.out.low hB2)
  clear cF1 hB2 HA1 c0
  have c0 := HA2.out.s.cell 0
  have g0 := HA2.out.g.cell 0
  have g1 := HA2.out.g.cell 1
  have hT2 := h.below HA2.out.b
  have t1 := hT2.t.cell 1
  simp only [List.getElem?_cons_zero, List.getElem?_cons_succ] at c0 g0 g1 t1
  have cP := pastS_any start w.heap.size n₀ hb ns W2 c0 hT2.l (Nat.le_trans hn0 HA2.out.b.size)
  rw [hp] at cP
  clear hT2
  go_wp2_with fail
  refine cP.mono ?_
  rintro e W3 ⟨rfl, hB3⟩
  have HA3 := Hid3.mk (HA2.out.low hB3)
  clear cP hB3 HA2 c0 g0 g1 t1
  have c0 := HA3.out.s.cell 0
  have g0 := HA3.out.g.cell 0
  have g1 := HA3.out.g.cell 1
  simp only [List.getElem?_cons_zero, List.getElem?_cons_succ] at c0 g0 g1
  have cQ3 := cQ W3 (h.below HA3.out.b) (Nat.le_trans hn0 HA3.out.b.size)
  clear cQ
  go_wp2_with fail
  refine cQ3.mono ?_
  rintro e W4 ⟨rfl, d, hA⟩
  have HA4 := Hid3.mk (AddC.pre HA3.out.b hA)
  clear cQ3 hA HA3 c0 g0 g1
  go_wp2
  go_ret2
  exact ⟨rfl, d, HA4.out⟩
end Go.Proofs.Ytdegjmceeggldaa
