/- Two memories side by side, the program's and the document's; a deed on both. -/
import Derived.Test.YtajljppmkcjoiaaMemU
import Derived.Deep.RegionHeld3
namespace Go.Proofs.Ytajljppmkcjoiaa
open Go.RowKit Go.Maps
set_option linter.unusedVariables false
set_option maxRecDepth 100000
/-- But for two blocks a world is as it was. -/
structure OnlyT (b g : Nat) (w w' : World) : Prop where
  os : w'.os = w.os
  tape : w'.tape = w.tape
  output : w'.output = w.output
  size : w.heap.size ≤ w'.heap.size
  block : ∀ k, k < w.heap.size → k ≠ b → k ≠ g → w'.heap[k]? = w.heap[k]?
theorem OnlyT.trans {b g : Nat} {u v w : World} (h : OnlyT b g u v) (k : OnlyT b g v w) : OnlyT b g u w :=
  ⟨k.os.trans h.os, k.tape.trans h.tape, k.output.trans h.output, Nat.le_trans h.size k.size, fun i hi hx hy => (k.block i (Nat.lt_of_lt_of_le hi h.size) hx hy).trans (h.block i hi hx hy)⟩
theorem OnlyT.of_below {b g : Nat} {u v : World} (h : Below u.heap.size u v) : OnlyT b g u v := ⟨h.os, h.tape, h.output, h.size, fun k hk _ _ => h.block k hk⟩
theorem OnlyT.of1 {b g : Nat} {u v : World} (h : Only b u v) : OnlyT b g u v := ⟨h.os, h.tape, h.output, h.size, fun k hk hx _ => h.block k hk hx⟩
theorem OnlyT.of2 {b g : Nat} {u v : World} (h : Only g u v) : OnlyT b g u v := ⟨h.os, h.tape, h.output, h.size, fun k hk _ hx => h.block k hk hx⟩
theorem OnlyT.below {b g : Nat} {u v : World} (h : OnlyT b g u v) (B : Nat) (hb : B ≤ b) (hg : B ≤ g) (hB : B ≤ u.heap.size) : Below B u v :=
  ⟨h.os, h.tape, h.output, h.size, fun k hk => h.block k (by omega) (by omega) (by omega)⟩
theorem Mem.only {w w' : World} {b c : Nat} {n : Int} {L : List Int} (h : Mem w b n L) (k : Only c w w') (hne : b ≠ c) : Mem w' b n L := ⟨(k.block b h.lt hne).trans h.blk, h.len, h.lo, h.hi⟩
structure Both (B : Nat) (w : World) (b rb g N : Nat) (L : List Int) : Prop where
  p : Mem w b N L
  r : RMem w rb g (32 * N) L
  bB : B ≤ b
  rB : B ≤ rb
  gB : B ≤ g
  d1 : b ≠ rb
  d2 : b ≠ g
  by_ : ∀ x ∈ L, 0 ≤ x ∧ x ≤ 255
theorem Both.below {B : Nat} {w w' : World} {b rb g N : Nat} {L : List Int} (h : Both B w b rb g N L) (k : Below w.heap.size w w') : Both B w' b rb g N L := ⟨h.p.below k, h.r.below k, h.bB, h.rB, h.gB, h.d1, h.d2, h.by_⟩
/-- Another pair stays. -/
theorem Both.other {B : Nat} {w w' : World} {b rb g N b' g' : Nat} {L : List Int} (h : Both B w b rb g N L) (k : OnlyT b' g' w w') (h1 : b ≠ b') (h2 : b ≠ g') (h3 : rb ≠ b') (h4 : rb ≠ g') (h5 : g ≠ b') (h6 : g ≠ g') : Both B w' b rb g N L :=
  ⟨⟨(k.block b h.p.lt h1 h2).trans h.p.blk, h.p.len, h.p.lo, h.p.hi⟩, h.r.keep (k.block rb h.r.lt h3 h4) (k.block g h.r.ltg h5 h6), h.bB, h.rB, h.gB, h.d1, h.d2, h.by_⟩
/-- The program's step, and then the document's. -/
theorem Both.mk' {B : Nat} {w W1 W2 : World} {b rb g N : Nat} {L L2 : List Int} (h : Both B w b rb g N L) (m1 : Mem W1 b N L2) (o1 : Only b w W1) (m2 : RMem W2 rb g (32 * N) L2) (o2 : Only g W1 W2) (hy : ∀ x ∈ L2, 0 ≤ x ∧ x ≤ 255) : Both B W2 b rb g N L2 ∧ OnlyT b g w W2 :=
  ⟨⟨m1.only o2 h.d2, m2, h.bB, h.rB, h.gB, h.d1, h.d2, hy⟩, (OnlyT.of1 o1).trans (OnlyT.of2 o2)⟩
theorem few_same (a : Option Addr) (n cap : Nat) (W : World) (hn : n ≤ 9223372036854775807) (hc : n ≤ cap) : Calls Try.prog 18 #[.slice a n cap] W fun e w' => e = .returned (.slice a (if 200 < n then 200 else n) cap) ∧ w' = W := by
  by_cases hl : 200 < n
  · have hlz : (200 : Int) < (n : Int) := by omega
    have hcz : (200 : Int) ≤ (cap : Int) := by omega
    rw [if_pos hl]
    go_enter Try.func18, Try.ntmps18
    go_wp2
    go_ret
    exact ⟨rfl, rfl⟩
  · have hlz : ¬ (200 : Int) < (n : Int) := by omega
    rw [if_neg hl]
    go_enter Try.func18, Try.ntmps18
    go_wp2
    go_ret
    exact ⟨rfl, rfl⟩
theorem Byts.few {B : Nat} {w : World} {v : Value} {vs : List Int} (h : Byts B w v vs) (hs : vs.length ≤ 9223372036854775807) : ∃ u, Byts B w u (vs.take 200) ∧ ∀ W, Calls Try.prog 18 #[v] W fun e w' => e = .returned u ∧ w' = W := by
  obtain ⟨a, cap, rfl, hcap, hby, hcell⟩ := h
  refine ⟨_, ⟨a, cap, ?_, ?_, fun x hx => hby x (List.mem_of_mem_take hx), fun j x hj => ?_⟩, fun W => few_same a vs.length cap W hs hcap⟩
  · rw [List.length_take]
    congr 1
    split <;> omega
  · rw [List.length_take]
    omega
  · rw [List.getElem?_take] at hj
    split at hj
    · exact hcell j x hj
    · cases hj
def doL (N : Int) (k f o x : Int) (bs : List Int) (L : List Int) : List Int :=
  if k = 0 then swL N L f o x else if k = 1 then sbL N L f o (x % 256) else if k = 2 then zrL N L f else if k = 3 then cpL N L f o else if k = 4 then flL N L f o (bs.take 200) else L
theorem ite_bytes {c : Prop} [Decidable c] {L M : List Int} (h : ∀ x ∈ L, 0 ≤ x ∧ x ≤ 255) (h2 : ∀ x ∈ M, 0 ≤ x ∧ x ≤ 255) (x : Int) (hx : x ∈ (if c then L else M)) : 0 ≤ x ∧ x ≤ 255 := by
  split at hx
  · exact h x hx
  · exact h2 x hx
theorem two_bytes {a b : Int} (ha : 0 ≤ a ∧ a ≤ 255) (hb : 0 ≤ b ∧ b ≤ 255) (x : Int) (hx : x ∈ [a, b]) : 0 ≤ x ∧ x ≤ 255 := by
  rcases List.mem_cons.1 hx with rfl | hx
  · exact ha
  · rcases List.mem_cons.1 hx with rfl | hx
    · exact hb
    · cases hx
theorem doL_bytes {N k f o x : Int} {bs L : List Int} (hL : ∀ y ∈ L, 0 ≤ y ∧ y ≤ 255) (hx : 0 ≤ x ∧ x ≤ 65535) (hb : ∀ y ∈ bs, 0 ≤ y ∧ y ≤ 255) : ∀ y ∈ doL N k f o x bs L, 0 ≤ y ∧ y ≤ 255 := by
  unfold doL
  refine ite_bytes (ite_bytes (putL_bytes hL (two_bytes (by omega) (by omega))) hL) (ite_bytes (ite_bytes (putL_bytes hL ?_) hL) (ite_bytes (ite_bytes (putL_bytes hL ?_) hL) (ite_bytes (ite_bytes (putL_bytes hL ?_) hL) (ite_bytes (ite_bytes (putL_bytes hL ?_) hL) hL))))
  · intro y hy
    rw [List.mem_singleton] at hy
    omega
  · intro y hy
    rw [List.eq_of_mem_replicate hy]
    decide
  · intro y hy
    exact hL y (List.mem_of_mem_drop (List.mem_of_mem_take hy))
  · intro y hy
    exact hb y (List.mem_of_mem_take hy)
theorem b5m {W : World} {b : Nat} {x0 x1 x2 x3 x4 : Value} {t : TypeId} (h : W.heap[b]? = some (.cells #[x0, x1, x2, x3, x4] t)) : W.cell? ⟨b, 0, none⟩ = some x0 ∧ W.cell? ⟨b, 1, none⟩ = some x1 ∧ W.cell? ⟨b, 2, none⟩ = some x2 ∧ W.cell? ⟨b, 3, none⟩ = some x3 ∧ W.cell? ⟨b, 4, none⟩ = some x4 :=
  ⟨by rw [Lib.cell_of_heap h]; rfl, by rw [Lib.cell_of_heap h]; rfl, by rw [Lib.cell_of_heap h]; rfl, by rw [Lib.cell_of_heap h]; rfl, by rw [Lib.cell_of_heap h]; rfl⟩
set_option maxHeartbeats 8000000 in
theorem do_sw (B b rb g N : Nat) (k f o x : Int) (v : Value) (bs L : List Int) (w : World) (h : Both B w b rb g N L) (hB : B ≤ w.heap.size) (hx : 0 ≤ x ∧ x ≤ 65535) (hv : Byts B w v bs) (hs : bs.length ≤ 9223372036854775807) (hk : k = 0) :
    Calls Try.prog 27 #[.pointer (some ⟨b, 0, none⟩), .pointer (some ⟨rb, 0, none⟩), .agg #[.int .i64 k, .int .i64 f, .int .i64 o, .int .u16 x, v]] w fun e w' => e = .returned (.bool true) ∧ Both B w' b rb g N (swL N L f o x) ∧ OnlyT b g w w' := by
  subst hk
  have hy2 := doL_bytes (N := N) (k := 0) (f := f) (o := o) (bs := bs) h.by_ hx (by obtain ⟨_, _, _, _, e, _⟩ := hv; exact e)
  rw [show doL N 0 f o x bs L = swL N L f o x from rfl] at hy2
  have hb0 : Below w.heap.size w (w.alloc (.cells #[.int .i64 0, .int .i64 f, .int .i64 o, .int .u16 x, v] 41)) := (Below.refl _ w).alloc (Nat.le_refl _) _
  have hb1 : Below w.heap.size w (w.alloc (.cells #[.int .i64 0, .int .i64 f, .int .i64 o, .int .u16 x, v] 41)).drew := hb0.drew
  have HT0 : Hid3 (Both B (w.alloc (.cells #[.int .i64 0, .int .i64 f, .int .i64 o, .int .u16 x, v] 41)).drew b rb g N L) := ⟨h.below hb1⟩
  have HB0 : Hid3 (Below w.heap.size w (w.alloc (.cells #[.int .i64 0, .int .i64 f, .int .i64 o, .int .u16 x, v] 41)).drew) := ⟨hb1⟩
  have hbx : (w.alloc (.cells #[.int .i64 0, .int .i64 f, .int .i64 o, .int .u16 x, v] 41)).drew.heap[w.heap.size]? = some (.cells #[.int .i64 0, .int .i64 f, .int .i64 o, .int .u16 x, v] 41) := heap_alloc_last w _
  have hbl := h.p.lt
  have hgl := h.r.ltg
  have hbx' : Hid3 ((w.alloc (.cells #[.int .i64 0, .int .i64 f, .int .i64 o, .int .u16 x, v] 41)).drew.heap[w.heap.size]? = some (.cells #[.int .i64 0, .int .i64 f, .int .i64 o, .int .u16 x, v] 41)) := ⟨hbx⟩
  have hS0 : Hid3 ((w.alloc (.cells #[.int .i64 0, .int .i64 f, .int .i64 o, .int .u16 x, v] 41)).drew.cell? ⟨w.heap.size, 1, none⟩ = some (.int .i64 f) ∧ (w.alloc (.cells #[.int .i64 0, .int .i64 f, .int .i64 o, .int .u16 x, v] 41)).drew.cell? ⟨w.heap.size, 2, none⟩ = some (.int .i64 o) ∧ (w.alloc (.cells #[.int .i64 0, .int .i64 f, .int .i64 o, .int .u16 x, v] 41)).drew.cell? ⟨w.heap.size, 3, none⟩ = some (.int .u16 x) ∧ (w.alloc (.cells #[.int .i64 0, .int .i64 f, .int .i64 o, .int .u16 x, v] 41)).drew.cell? ⟨w.heap.size, 4, none⟩ = some (v)) := ⟨(b5m hbx).2⟩
  have hK1 : Hid3 (∀ W1, Only b (w.alloc (.cells #[.int .i64 0, .int .i64 f, .int .i64 o, .int .u16 x, v] 41)).drew W1 → W1.heap[w.heap.size]? = some (.cells #[.int .i64 0, .int .i64 f, .int .i64 o, .int .u16 x, v] 41)) := ⟨fun W1 o => (o.block w.heap.size (Array.getElem?_eq_some_iff.1 hbx).1 (by omega)).trans hbx⟩
  have hS1 : Hid3 (∀ W1, Only b (w.alloc (.cells #[.int .i64 0, .int .i64 f, .int .i64 o, .int .u16 x, v] 41)).drew W1 → W1.cell? ⟨w.heap.size, 1, none⟩ = some (.int .i64 f) ∧ W1.cell? ⟨w.heap.size, 2, none⟩ = some (.int .i64 o) ∧ W1.cell? ⟨w.heap.size, 3, none⟩ = some (.int .u16 x) ∧ W1.cell? ⟨w.heap.size, 4, none⟩ = some (v)) := ⟨fun W1 o => (b5m (hK1.out W1 o)).2⟩
  have hS2 : Hid3 (∀ W1 W2, Only b (w.alloc (.cells #[.int .i64 0, .int .i64 f, .int .i64 o, .int .u16 x, v] 41)).drew W1 → Only g W1 W2 → W2.cell? ⟨w.heap.size, 1, none⟩ = some (.int .i64 f) ∧ W2.cell? ⟨w.heap.size, 2, none⟩ = some (.int .i64 o) ∧ W2.cell? ⟨w.heap.size, 3, none⟩ = some (.int .u16 x) ∧ W2.cell? ⟨w.heap.size, 4, none⟩ = some (v)) := ⟨fun W1 W2 o1 o2 => (b5m ((o2.block w.heap.size (Array.getElem?_eq_some_iff.1 (hK1.out W1 o1)).1 (by omega)).trans (hK1.out W1 o1))).2⟩
  have hRd : Hid3 (∀ W1, Only b (w.alloc (.cells #[.int .i64 0, .int .i64 f, .int .i64 o, .int .u16 x, v] 41)).drew W1 → RMem W1 rb g (32 * N) L) := ⟨fun W1 o => HT0.out.r.only o (Ne.symm h.d1) (Ne.symm h.d2)⟩
  have cT := setword_any b N f o x L (w.alloc (.cells #[.int .i64 0, .int .i64 f, .int .i64 o, .int .u16 x, v] 41)).drew HT0.out.p hx
  have cR := fun W1 (o1 : Only b (w.alloc (.cells #[.int .i64 0, .int .i64 f, .int .i64 o, .int .u16 x, v] 41)).drew W1) => rsetword_any rb g (32 * N) N f o x L W1 (hRd.out W1 o1) rfl hx
  have HF : Hid3 (∀ W1 W2, Mem W1 b N (swL N L f o x) → Only b (w.alloc (.cells #[.int .i64 0, .int .i64 f, .int .i64 o, .int .u16 x, v] 41)).drew W1 → RMem W2 rb g (32 * N) (swL N L f o x) → Only g W1 W2 → Both B W2 b rb g N (swL N L f o x) ∧ OnlyT b g w W2) := ⟨fun W1 W2 m1 o1 m2 o2 => by
    obtain ⟨q1, q2⟩ := HT0.out.mk' m1 o1 m2 o2 hy2
    exact ⟨q1, (OnlyT.of_below hb1).trans q2⟩⟩
  generalize swL N L f o x = L2 at *
  generalize inE N f o 2 = q at *
  clear hbx hb0 hb1 h hy2 hv hbx' hK1
  go_enter Try.func27, Try.ntmps27
  go_wp2_with fail
  go_region_held3 (fun w' => w'.cell? ⟨w.heap.size, 1, none⟩ = some (.int .i64 f) ∧ w'.cell? ⟨w.heap.size, 2, none⟩ = some (.int .i64 o) ∧ w'.cell? ⟨w.heap.size, 3, none⟩ = some (.int .u16 x) ∧ w'.cell? ⟨w.heap.size, 4, none⟩ = some (v)) (first | exact hS0.out | exact hS2.out _ _ hO1 hO2 | exact hS1.out _ hO1) ((first | (go_at_call 17; refine (cT).mono ?_; rintro e W1 ⟨rfl, hM1, hO1⟩) | (go_at_call 41; refine (cR _ hO1).mono ?_; rintro e W2 ⟨rfl, hM2, hO2⟩)))
  have HM := HF.out _ _ hM1 hO1 hM2 hO2
  clear hM1 hM2 hO1 hO2 hS0 hS1 hS2 cT cR HF hRd
  go_wp2
  go_ret
  exact ⟨rfl, HM⟩
set_option maxHeartbeats 8000000 in
theorem do_zr (B b rb g N : Nat) (k f o x : Int) (v : Value) (bs L : List Int) (w : World) (h : Both B w b rb g N L) (hB : B ≤ w.heap.size) (hx : 0 ≤ x ∧ x ≤ 65535) (hv : Byts B w v bs) (hs : bs.length ≤ 9223372036854775807) (hk : k = 2) :
    Calls Try.prog 27 #[.pointer (some ⟨b, 0, none⟩), .pointer (some ⟨rb, 0, none⟩), .agg #[.int .i64 k, .int .i64 f, .int .i64 o, .int .u16 x, v]] w fun e w' => e = .returned (.bool true) ∧ Both B w' b rb g N (zrL N L f) ∧ OnlyT b g w w' := by
  subst hk
  have hy2 := doL_bytes (N := N) (k := 2) (f := f) (o := o) (bs := bs) h.by_ hx (by obtain ⟨_, _, _, _, e, _⟩ := hv; exact e)
  rw [show doL N 2 f o x bs L = zrL N L f from rfl] at hy2
  have hb0 : Below w.heap.size w (w.alloc (.cells #[.int .i64 2, .int .i64 f, .int .i64 o, .int .u16 x, v] 41)) := (Below.refl _ w).alloc (Nat.le_refl _) _
  have hb1 : Below w.heap.size w (w.alloc (.cells #[.int .i64 2, .int .i64 f, .int .i64 o, .int .u16 x, v] 41)).drew := hb0.drew
  have HT0 : Hid3 (Both B (w.alloc (.cells #[.int .i64 2, .int .i64 f, .int .i64 o, .int .u16 x, v] 41)).drew b rb g N L) := ⟨h.below hb1⟩
  have HB0 : Hid3 (Below w.heap.size w (w.alloc (.cells #[.int .i64 2, .int .i64 f, .int .i64 o, .int .u16 x, v] 41)).drew) := ⟨hb1⟩
  have hbx : (w.alloc (.cells #[.int .i64 2, .int .i64 f, .int .i64 o, .int .u16 x, v] 41)).drew.heap[w.heap.size]? = some (.cells #[.int .i64 2, .int .i64 f, .int .i64 o, .int .u16 x, v] 41) := heap_alloc_last w _
  have hbl := h.p.lt
  have hgl := h.r.ltg
  have hbx' : Hid3 ((w.alloc (.cells #[.int .i64 2, .int .i64 f, .int .i64 o, .int .u16 x, v] 41)).drew.heap[w.heap.size]? = some (.cells #[.int .i64 2, .int .i64 f, .int .i64 o, .int .u16 x, v] 41)) := ⟨hbx⟩
  have hS0 : Hid3 ((w.alloc (.cells #[.int .i64 2, .int .i64 f, .int .i64 o, .int .u16 x, v] 41)).drew.cell? ⟨w.heap.size, 1, none⟩ = some (.int .i64 f) ∧ (w.alloc (.cells #[.int .i64 2, .int .i64 f, .int .i64 o, .int .u16 x, v] 41)).drew.cell? ⟨w.heap.size, 2, none⟩ = some (.int .i64 o) ∧ (w.alloc (.cells #[.int .i64 2, .int .i64 f, .int .i64 o, .int .u16 x, v] 41)).drew.cell? ⟨w.heap.size, 3, none⟩ = some (.int .u16 x) ∧ (w.alloc (.cells #[.int .i64 2, .int .i64 f, .int .i64 o, .int .u16 x, v] 41)).drew.cell? ⟨w.heap.size, 4, none⟩ = some (v)) := ⟨(b5m hbx).2⟩
  have hK1 : Hid3 (∀ W1, Only b (w.alloc (.cells #[.int .i64 2, .int .i64 f, .int .i64 o, .int .u16 x, v] 41)).drew W1 → W1.heap[w.heap.size]? = some (.cells #[.int .i64 2, .int .i64 f, .int .i64 o, .int .u16 x, v] 41)) := ⟨fun W1 o => (o.block w.heap.size (Array.getElem?_eq_some_iff.1 hbx).1 (by omega)).trans hbx⟩
  have hS1 : Hid3 (∀ W1, Only b (w.alloc (.cells #[.int .i64 2, .int .i64 f, .int .i64 o, .int .u16 x, v] 41)).drew W1 → W1.cell? ⟨w.heap.size, 1, none⟩ = some (.int .i64 f) ∧ W1.cell? ⟨w.heap.size, 2, none⟩ = some (.int .i64 o) ∧ W1.cell? ⟨w.heap.size, 3, none⟩ = some (.int .u16 x) ∧ W1.cell? ⟨w.heap.size, 4, none⟩ = some (v)) := ⟨fun W1 o => (b5m (hK1.out W1 o)).2⟩
  have hS2 : Hid3 (∀ W1 W2, Only b (w.alloc (.cells #[.int .i64 2, .int .i64 f, .int .i64 o, .int .u16 x, v] 41)).drew W1 → Only g W1 W2 → W2.cell? ⟨w.heap.size, 1, none⟩ = some (.int .i64 f) ∧ W2.cell? ⟨w.heap.size, 2, none⟩ = some (.int .i64 o) ∧ W2.cell? ⟨w.heap.size, 3, none⟩ = some (.int .u16 x) ∧ W2.cell? ⟨w.heap.size, 4, none⟩ = some (v)) := ⟨fun W1 W2 o1 o2 => (b5m ((o2.block w.heap.size (Array.getElem?_eq_some_iff.1 (hK1.out W1 o1)).1 (by omega)).trans (hK1.out W1 o1))).2⟩
  have hRd : Hid3 (∀ W1, Only b (w.alloc (.cells #[.int .i64 2, .int .i64 f, .int .i64 o, .int .u16 x, v] 41)).drew W1 → RMem W1 rb g (32 * N) L) := ⟨fun W1 o => HT0.out.r.only o (Ne.symm h.d1) (Ne.symm h.d2)⟩
  have cT := zero_any b N f L (w.alloc (.cells #[.int .i64 2, .int .i64 f, .int .i64 o, .int .u16 x, v] 41)).drew HT0.out.p
  have cR := fun W1 (o1 : Only b (w.alloc (.cells #[.int .i64 2, .int .i64 f, .int .i64 o, .int .u16 x, v] 41)).drew W1) => rzero_any rb g (32 * N) N f L W1 (hRd.out W1 o1) rfl
  have HF : Hid3 (∀ W1 W2, Mem W1 b N (zrL N L f) → Only b (w.alloc (.cells #[.int .i64 2, .int .i64 f, .int .i64 o, .int .u16 x, v] 41)).drew W1 → RMem W2 rb g (32 * N) (zrL N L f) → Only g W1 W2 → Both B W2 b rb g N (zrL N L f) ∧ OnlyT b g w W2) := ⟨fun W1 W2 m1 o1 m2 o2 => by
    obtain ⟨q1, q2⟩ := HT0.out.mk' m1 o1 m2 o2 hy2
    exact ⟨q1, (OnlyT.of_below hb1).trans q2⟩⟩
  generalize zrL N L f = L2 at *
  generalize inE N f 0 1 = q at *
  clear hbx hb0 hb1 h hy2 hv hbx' hK1
  go_enter Try.func27, Try.ntmps27
  go_wp2_with fail
  go_region_held3 (fun w' => w'.cell? ⟨w.heap.size, 1, none⟩ = some (.int .i64 f) ∧ w'.cell? ⟨w.heap.size, 2, none⟩ = some (.int .i64 o) ∧ w'.cell? ⟨w.heap.size, 3, none⟩ = some (.int .u16 x) ∧ w'.cell? ⟨w.heap.size, 4, none⟩ = some (v)) (first | exact hS0.out | exact hS2.out _ _ hO1 hO2 | exact hS1.out _ hO1) ((first | (go_at_call 23; refine (cT).mono ?_; rintro e W1 ⟨rfl, hM1, hO1⟩) | (go_at_call 44; refine (cR _ hO1).mono ?_; rintro e W2 ⟨rfl, hM2, hO2⟩)))
  have HM := HF.out _ _ hM1 hO1 hM2 hO2
  clear hM1 hM2 hO1 hO2 hS0 hS1 hS2 cT cR HF hRd
  go_wp2
  go_ret
  exact ⟨rfl, HM⟩
set_option maxHeartbeats 8000000 in
theorem do_cp (B b rb g N : Nat) (k f o x : Int) (v : Value) (bs L : List Int) (w : World) (h : Both B w b rb g N L) (hB : B ≤ w.heap.size) (hx : 0 ≤ x ∧ x ≤ 65535) (hv : Byts B w v bs) (hs : bs.length ≤ 9223372036854775807) (hk : k = 3) :
    Calls Try.prog 27 #[.pointer (some ⟨b, 0, none⟩), .pointer (some ⟨rb, 0, none⟩), .agg #[.int .i64 k, .int .i64 f, .int .i64 o, .int .u16 x, v]] w fun e w' => e = .returned (.bool true) ∧ Both B w' b rb g N (cpL N L f o) ∧ OnlyT b g w w' := by
  subst hk
  have hy2 := doL_bytes (N := N) (k := 3) (f := f) (o := o) (bs := bs) h.by_ hx (by obtain ⟨_, _, _, _, e, _⟩ := hv; exact e)
  rw [show doL N 3 f o x bs L = cpL N L f o from rfl] at hy2
  have hb0 : Below w.heap.size w (w.alloc (.cells #[.int .i64 3, .int .i64 f, .int .i64 o, .int .u16 x, v] 41)) := (Below.refl _ w).alloc (Nat.le_refl _) _
  have hb1 : Below w.heap.size w (w.alloc (.cells #[.int .i64 3, .int .i64 f, .int .i64 o, .int .u16 x, v] 41)).drew := hb0.drew
  have HT0 : Hid3 (Both B (w.alloc (.cells #[.int .i64 3, .int .i64 f, .int .i64 o, .int .u16 x, v] 41)).drew b rb g N L) := ⟨h.below hb1⟩
  have HB0 : Hid3 (Below w.heap.size w (w.alloc (.cells #[.int .i64 3, .int .i64 f, .int .i64 o, .int .u16 x, v] 41)).drew) := ⟨hb1⟩
  have hbx : (w.alloc (.cells #[.int .i64 3, .int .i64 f, .int .i64 o, .int .u16 x, v] 41)).drew.heap[w.heap.size]? = some (.cells #[.int .i64 3, .int .i64 f, .int .i64 o, .int .u16 x, v] 41) := heap_alloc_last w _
  have hbl := h.p.lt
  have hgl := h.r.ltg
  have hbx' : Hid3 ((w.alloc (.cells #[.int .i64 3, .int .i64 f, .int .i64 o, .int .u16 x, v] 41)).drew.heap[w.heap.size]? = some (.cells #[.int .i64 3, .int .i64 f, .int .i64 o, .int .u16 x, v] 41)) := ⟨hbx⟩
  have hS0 : Hid3 ((w.alloc (.cells #[.int .i64 3, .int .i64 f, .int .i64 o, .int .u16 x, v] 41)).drew.cell? ⟨w.heap.size, 1, none⟩ = some (.int .i64 f) ∧ (w.alloc (.cells #[.int .i64 3, .int .i64 f, .int .i64 o, .int .u16 x, v] 41)).drew.cell? ⟨w.heap.size, 2, none⟩ = some (.int .i64 o) ∧ (w.alloc (.cells #[.int .i64 3, .int .i64 f, .int .i64 o, .int .u16 x, v] 41)).drew.cell? ⟨w.heap.size, 3, none⟩ = some (.int .u16 x) ∧ (w.alloc (.cells #[.int .i64 3, .int .i64 f, .int .i64 o, .int .u16 x, v] 41)).drew.cell? ⟨w.heap.size, 4, none⟩ = some (v)) := ⟨(b5m hbx).2⟩
  have hK1 : Hid3 (∀ W1, Only b (w.alloc (.cells #[.int .i64 3, .int .i64 f, .int .i64 o, .int .u16 x, v] 41)).drew W1 → W1.heap[w.heap.size]? = some (.cells #[.int .i64 3, .int .i64 f, .int .i64 o, .int .u16 x, v] 41)) := ⟨fun W1 o => (o.block w.heap.size (Array.getElem?_eq_some_iff.1 hbx).1 (by omega)).trans hbx⟩
  have hS1 : Hid3 (∀ W1, Only b (w.alloc (.cells #[.int .i64 3, .int .i64 f, .int .i64 o, .int .u16 x, v] 41)).drew W1 → W1.cell? ⟨w.heap.size, 1, none⟩ = some (.int .i64 f) ∧ W1.cell? ⟨w.heap.size, 2, none⟩ = some (.int .i64 o) ∧ W1.cell? ⟨w.heap.size, 3, none⟩ = some (.int .u16 x) ∧ W1.cell? ⟨w.heap.size, 4, none⟩ = some (v)) := ⟨fun W1 o => (b5m (hK1.out W1 o)).2⟩
  have hS2 : Hid3 (∀ W1 W2, Only b (w.alloc (.cells #[.int .i64 3, .int .i64 f, .int .i64 o, .int .u16 x, v] 41)).drew W1 → Only g W1 W2 → W2.cell? ⟨w.heap.size, 1, none⟩ = some (.int .i64 f) ∧ W2.cell? ⟨w.heap.size, 2, none⟩ = some (.int .i64 o) ∧ W2.cell? ⟨w.heap.size, 3, none⟩ = some (.int .u16 x) ∧ W2.cell? ⟨w.heap.size, 4, none⟩ = some (v)) := ⟨fun W1 W2 o1 o2 => (b5m ((o2.block w.heap.size (Array.getElem?_eq_some_iff.1 (hK1.out W1 o1)).1 (by omega)).trans (hK1.out W1 o1))).2⟩
  have hRd : Hid3 (∀ W1, Only b (w.alloc (.cells #[.int .i64 3, .int .i64 f, .int .i64 o, .int .u16 x, v] 41)).drew W1 → RMem W1 rb g (32 * N) L) := ⟨fun W1 o => HT0.out.r.only o (Ne.symm h.d1) (Ne.symm h.d2)⟩
  have cT := copy_any b N f o L (w.alloc (.cells #[.int .i64 3, .int .i64 f, .int .i64 o, .int .u16 x, v] 41)).drew HT0.out.p
  have cR := fun W1 (o1 : Only b (w.alloc (.cells #[.int .i64 3, .int .i64 f, .int .i64 o, .int .u16 x, v] 41)).drew W1) => rcopy_any rb g (32 * N) N f o L W1 (hRd.out W1 o1) rfl
  have HF : Hid3 (∀ W1 W2, Mem W1 b N (cpL N L f o) → Only b (w.alloc (.cells #[.int .i64 3, .int .i64 f, .int .i64 o, .int .u16 x, v] 41)).drew W1 → RMem W2 rb g (32 * N) (cpL N L f o) → Only g W1 W2 → Both B W2 b rb g N (cpL N L f o) ∧ OnlyT b g w W2) := ⟨fun W1 W2 m1 o1 m2 o2 => by
    obtain ⟨q1, q2⟩ := HT0.out.mk' m1 o1 m2 o2 hy2
    exact ⟨q1, (OnlyT.of_below hb1).trans q2⟩⟩
  generalize cpL N L f o = L2 at *
  generalize cpE N f o = q at *
  clear hbx hb0 hb1 h hy2 hv hbx' hK1
  go_enter Try.func27, Try.ntmps27
  go_wp2_with fail
  go_region_held3 (fun w' => w'.cell? ⟨w.heap.size, 1, none⟩ = some (.int .i64 f) ∧ w'.cell? ⟨w.heap.size, 2, none⟩ = some (.int .i64 o) ∧ w'.cell? ⟨w.heap.size, 3, none⟩ = some (.int .u16 x) ∧ w'.cell? ⟨w.heap.size, 4, none⟩ = some (v)) (first | exact hS0.out | exact hS2.out _ _ hO1 hO2 | exact hS1.out _ hO1) ((first | (go_at_call 20; refine (cT).mono ?_; rintro e W1 ⟨rfl, hM1, hO1⟩) | (go_at_call 45; refine (cR _ hO1).mono ?_; rintro e W2 ⟨rfl, hM2, hO2⟩)))
  have HM := HF.out _ _ hM1 hO1 hM2 hO2
  clear hM1 hM2 hO1 hO2 hS0 hS1 hS2 cT cR HF hRd
  go_wp2
  go_ret
  exact ⟨rfl, HM⟩
set_option maxHeartbeats 8000000 in
theorem do_fl (B b rb g N : Nat) (k f o x : Int) (v : Value) (bs L : List Int) (w : World) (h : Both B w b rb g N L) (hB : B ≤ w.heap.size) (hx : 0 ≤ x ∧ x ≤ 65535) (hv : Byts B w v bs) (hs : bs.length ≤ 9223372036854775807) (hk : k = 4) :
    Calls Try.prog 27 #[.pointer (some ⟨b, 0, none⟩), .pointer (some ⟨rb, 0, none⟩), .agg #[.int .i64 k, .int .i64 f, .int .i64 o, .int .u16 x, v]] w fun e w' => e = .returned (.bool true) ∧ Both B w' b rb g N (flL N L f o (bs.take 200)) ∧ OnlyT b g w w' := by
  subst hk
  have hy2 := doL_bytes (N := N) (k := 4) (f := f) (o := o) (bs := bs) h.by_ hx (by obtain ⟨_, _, _, _, e, _⟩ := hv; exact e)
  rw [show doL N 4 f o x bs L = flL N L f o (bs.take 200) from rfl] at hy2
  obtain ⟨u, hu, cW⟩ := hv.few hs
  have hlen : (bs.take 200).length ≤ 1000 := by rw [List.length_take]; omega
  have hb0 : Below w.heap.size w (w.alloc (.cells #[.int .i64 4, .int .i64 f, .int .i64 o, .int .u16 x, v] 41)) := (Below.refl _ w).alloc (Nat.le_refl _) _
  have hb1 : Below w.heap.size w (w.alloc (.cells #[.int .i64 4, .int .i64 f, .int .i64 o, .int .u16 x, v] 41)).drew := hb0.drew
  have HT0 : Hid3 (Both B (w.alloc (.cells #[.int .i64 4, .int .i64 f, .int .i64 o, .int .u16 x, v] 41)).drew b rb g N L) := ⟨h.below hb1⟩
  have HB0 : Hid3 (Below w.heap.size w (w.alloc (.cells #[.int .i64 4, .int .i64 f, .int .i64 o, .int .u16 x, v] 41)).drew) := ⟨hb1⟩
  have hbx : (w.alloc (.cells #[.int .i64 4, .int .i64 f, .int .i64 o, .int .u16 x, v] 41)).drew.heap[w.heap.size]? = some (.cells #[.int .i64 4, .int .i64 f, .int .i64 o, .int .u16 x, v] 41) := heap_alloc_last w _
  have hbl := h.p.lt
  have hgl := h.r.ltg
  have hbx' : Hid3 ((w.alloc (.cells #[.int .i64 4, .int .i64 f, .int .i64 o, .int .u16 x, v] 41)).drew.heap[w.heap.size]? = some (.cells #[.int .i64 4, .int .i64 f, .int .i64 o, .int .u16 x, v] 41)) := ⟨hbx⟩
  have hS0 : Hid3 ((w.alloc (.cells #[.int .i64 4, .int .i64 f, .int .i64 o, .int .u16 x, v] 41)).drew.cell? ⟨w.heap.size, 1, none⟩ = some (.int .i64 f) ∧ (w.alloc (.cells #[.int .i64 4, .int .i64 f, .int .i64 o, .int .u16 x, v] 41)).drew.cell? ⟨w.heap.size, 2, none⟩ = some (.int .i64 o) ∧ (w.alloc (.cells #[.int .i64 4, .int .i64 f, .int .i64 o, .int .u16 x, v] 41)).drew.cell? ⟨w.heap.size, 3, none⟩ = some (.int .u16 x) ∧ (w.alloc (.cells #[.int .i64 4, .int .i64 f, .int .i64 o, .int .u16 x, v] 41)).drew.cell? ⟨w.heap.size, 4, none⟩ = some (v)) := ⟨(b5m hbx).2⟩
  have hK1 : Hid3 (∀ W1, Only b (w.alloc (.cells #[.int .i64 4, .int .i64 f, .int .i64 o, .int .u16 x, v] 41)).drew W1 → W1.heap[w.heap.size]? = some (.cells #[.int .i64 4, .int .i64 f, .int .i64 o, .int .u16 x, v] 41)) := ⟨fun W1 o => (o.block w.heap.size (Array.getElem?_eq_some_iff.1 hbx).1 (by omega)).trans hbx⟩
  have hS1 : Hid3 (∀ W1, Only b (w.alloc (.cells #[.int .i64 4, .int .i64 f, .int .i64 o, .int .u16 x, v] 41)).drew W1 → W1.cell? ⟨w.heap.size, 1, none⟩ = some (.int .i64 f) ∧ W1.cell? ⟨w.heap.size, 2, none⟩ = some (.int .i64 o) ∧ W1.cell? ⟨w.heap.size, 3, none⟩ = some (.int .u16 x) ∧ W1.cell? ⟨w.heap.size, 4, none⟩ = some (v)) := ⟨fun W1 o => (b5m (hK1.out W1 o)).2⟩
  have hS2 : Hid3 (∀ W1 W2, Only b (w.alloc (.cells #[.int .i64 4, .int .i64 f, .int .i64 o, .int .u16 x, v] 41)).drew W1 → Only g W1 W2 → W2.cell? ⟨w.heap.size, 1, none⟩ = some (.int .i64 f) ∧ W2.cell? ⟨w.heap.size, 2, none⟩ = some (.int .i64 o) ∧ W2.cell? ⟨w.heap.size, 3, none⟩ = some (.int .u16 x) ∧ W2.cell? ⟨w.heap.size, 4, none⟩ = some (v)) := ⟨fun W1 W2 o1 o2 => (b5m ((o2.block w.heap.size (Array.getElem?_eq_some_iff.1 (hK1.out W1 o1)).1 (by omega)).trans (hK1.out W1 o1))).2⟩
  have hRd : Hid3 (∀ W1, Only b (w.alloc (.cells #[.int .i64 4, .int .i64 f, .int .i64 o, .int .u16 x, v] 41)).drew W1 → RMem W1 rb g (32 * N) L) := ⟨fun W1 o => HT0.out.r.only o (Ne.symm h.d1) (Ne.symm h.d2)⟩
  have cT := fill_any B b N f o L (bs.take 200) u (w.alloc (.cells #[.int .i64 4, .int .i64 f, .int .i64 o, .int .u16 x, v] 41)).drew HT0.out.p (hu.below (hb1.mono hB)) HT0.out.bB hlen
  have cR := fun W1 (o1 : Only b (w.alloc (.cells #[.int .i64 4, .int .i64 f, .int .i64 o, .int .u16 x, v] 41)).drew W1) => rfill_any B rb g (32 * N) N f o u L (bs.take 200) W1 (hRd.out W1 o1) rfl ((hu.below (HB0.out.mono hB)).only o1 HT0.out.bB) HT0.out.gB hlen
  have HF : Hid3 (∀ W1 W2, Mem W1 b N (flL N L f o (bs.take 200)) → Only b (w.alloc (.cells #[.int .i64 4, .int .i64 f, .int .i64 o, .int .u16 x, v] 41)).drew W1 → RMem W2 rb g (32 * N) (flL N L f o (bs.take 200)) → Only g W1 W2 → Both B W2 b rb g N (flL N L f o (bs.take 200)) ∧ OnlyT b g w W2) := ⟨fun W1 W2 m1 o1 m2 o2 => by
    obtain ⟨q1, q2⟩ := HT0.out.mk' m1 o1 m2 o2 hy2
    exact ⟨q1, (OnlyT.of_below hb1).trans q2⟩⟩
  generalize flL N L f o (bs.take 200) = L2 at *
  generalize flE N f o (bs.take 200).length = q at *
  clear hbx hb0 hb1 h hy2 hv hbx' hK1 hlen hu
  go_enter Try.func27, Try.ntmps27
  go_wp2_with fail
  go_region_held3 (fun w' => w'.cell? ⟨w.heap.size, 1, none⟩ = some (.int .i64 f) ∧ w'.cell? ⟨w.heap.size, 2, none⟩ = some (.int .i64 o) ∧ w'.cell? ⟨w.heap.size, 3, none⟩ = some (.int .u16 x) ∧ w'.cell? ⟨w.heap.size, 4, none⟩ = some (v)) (first | exact hS0.out | exact hS2.out _ _ hO1 hO2 | exact hS1.out _ hO1) ((first | (go_at_call 18; refine (cW _).mono ?_; rintro e Wf ⟨rfl, rfl⟩) | (go_at_call 19; refine (cT).mono ?_; rintro e W1 ⟨rfl, hM1, hO1⟩) | (go_at_call 46; refine (cR _ hO1).mono ?_; rintro e W2 ⟨rfl, hM2, hO2⟩)))
  have HM := HF.out _ _ hM1 hO1 hM2 hO2
  clear hM1 hM2 hO1 hO2 hS0 hS1 hS2 cT cR HF hRd
  go_wp2
  go_ret
  exact ⟨rfl, HM⟩
set_option maxHeartbeats 8000000 in
theorem do_else (B b rb g N : Nat) (k f o x : Int) (v : Value) (bs L : List Int) (w : World) (h : Both B w b rb g N L) (hB : B ≤ w.heap.size) (hx : 0 ≤ x ∧ x ≤ 65535) (hv : Byts B w v bs) (hs : bs.length ≤ 9223372036854775807) (h0 : k ≠ 0) (h1 : k ≠ 1) (h2 : k ≠ 2) (h3 : k ≠ 3) (h4 : k ≠ 4) :
    Calls Try.prog 27 #[.pointer (some ⟨b, 0, none⟩), .pointer (some ⟨rb, 0, none⟩), .agg #[.int .i64 k, .int .i64 f, .int .i64 o, .int .u16 x, v]] w fun e w' => e = .returned (.bool true) ∧ Both B w' b rb g N (L) ∧ OnlyT b g w w' := by
  have hb0 : Below w.heap.size w (w.alloc (.cells #[.int .i64 k, .int .i64 f, .int .i64 o, .int .u16 x, v] 41)) := (Below.refl _ w).alloc (Nat.le_refl _) _
  have HM : Both B (w.alloc (.cells #[.int .i64 k, .int .i64 f, .int .i64 o, .int .u16 x, v] 41)) b rb g N L ∧ OnlyT b g w (w.alloc (.cells #[.int .i64 k, .int .i64 f, .int .i64 o, .int .u16 x, v] 41)) := ⟨h.below hb0, OnlyT.of_below hb0⟩
  have q0 : (k == 0) = false := by simpa using h0
  have q1 : (k == 1) = false := by simpa using h1
  have q2 : (k == 2) = false := by simpa using h2
  have q3 : (k == 3) = false := by simpa using h3
  have q4 : (k == 4) = false := by simpa using h4
  clear h hb0 hv
  go_enter Try.func27, Try.ntmps27
  go_wp2
  go_ret
  exact ⟨rfl, HM⟩
end Go.Proofs.Ytajljppmkcjoiaa
