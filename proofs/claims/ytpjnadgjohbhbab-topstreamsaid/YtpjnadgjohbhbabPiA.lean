/- A pipe as plain data: bytes that go round in 24 cells; the document's: a text. -/
import Derived.Test.YtpjnadgjohbhbabGen
import Derived.Lib.Strings
import Derived.Lib.SliceRun
import Derived.Laws.CopyRow
import Derived.Laws.CopyOwn
import Derived.Laws.IdiomCopy
import Derived.Laws.IdiomStrings
import Derived.Laws.MakeOwn
import Derived.Deep.RegionLaw
namespace Go.Proofs.Ytpjnadgjohbhbab
open Go.RowKit Go.Maps
set_option linter.unusedVariables false
set_option maxRecDepth 100000
def bCs (l : List UInt8) : List Value := l.map fun b => Value.int .u8 (b.toNat : Int)
theorem bCs_length (l : List UInt8) : (bCs l).length = l.length := by simp [bCs]
theorem bCs_get (l : List UInt8) (j : Nat) : (bCs l)[j]? = (l[j]?).map fun b => Value.int .u8 (b.toNat : Int) := by simp [bCs]
theorem bCs_one (l : List UInt8) : ∀ v ∈ bCs l, v.oneCell' = true := by
  intro v hv
  obtain ⟨b, _, rfl⟩ := List.mem_map.1 hv
  rfl
/-- The cells of a pipe. -/
def piCs (C : List UInt8) (f m rd wr : Nat) : List Value := bCs C ++ [.int .i64 f, .int .i64 m, .int .i64 rd, .int .i64 wr]
/-- The bytes T go round in C, the first one at f. -/
structure Ring (C : List UInt8) (f : Nat) (T : List UInt8) : Prop where
  hc : C.length = 24
  hf : f < 24
  ht : T.length ≤ 24
  get : ∀ i, i < T.length → T[i]? = C[(f + i) % 24]?
/-- The first k bytes. -/
def firstK (C : List UInt8) (f k : Nat) : List UInt8 := (C.drop f ++ C).take k
theorem Ring.first {C : List UInt8} {f : Nat} {T : List UInt8} (h : Ring C f T) (k : Nat) (hk : k ≤ T.length) : firstK C f k = T.take k := by
  have hc := h.hc
  have hf := h.hf
  have ht := h.ht
  apply List.ext_getElem?
  intro i
  unfold firstK
  rw [List.getElem?_take, List.getElem?_take]
  by_cases hi : i < k
  · rw [if_pos hi, if_pos hi, h.get i (by omega)]
    by_cases h1 : i < 24 - f
    · rw [List.getElem?_append_left (by rw [List.length_drop]; omega), List.getElem?_drop, Nat.mod_eq_of_lt (by omega)]
    · rw [List.getElem?_append_right (by rw [List.length_drop]; omega), List.length_drop, hc]
      congr 1
      omega
  · rw [if_neg hi, if_neg hi]
/-- Bytes laid behind all others. -/
def putC (C : List UInt8) (a : Nat) (s : List UInt8) : List UInt8 :=
  let d := s.take (24 - a)
  let C1 := C.take a ++ d ++ C.drop (a + d.length)
  let e := s.drop (24 - a)
  e ++ C1.drop e.length
theorem putC_get (C : List UInt8) (a : Nat) (s : List UInt8) (hc : C.length = 24) (ha : a < 24) (hs : s.length ≤ 24) (j : Nat) (hj : j < 24) :
    (putC C a s)[j]? = if j + 24 - a < s.length then s[j + 24 - a]? else if a ≤ j ∧ j - a < s.length then s[j - a]? else C[j]? := by
  unfold putC
  dsimp only
  by_cases h1 : j + 24 - a < s.length
  · rw [if_pos h1, List.getElem?_append_left (by rw [List.length_drop]; omega), List.getElem?_drop]
    congr 1
    omega
  · rw [if_neg h1, List.getElem?_append_right (by rw [List.length_drop]; omega), List.getElem?_drop]
    have e0 : (List.drop (24 - a) s).length + (j - (List.drop (24 - a) s).length) = j := by rw [List.length_drop]; omega
    rw [e0]
    have hl : (List.take (24 - a) s).length = min (24 - a) s.length := List.length_take
    by_cases h2 : a ≤ j ∧ j - a < s.length
    · rw [if_pos h2, List.getElem?_append_left (by simp only [List.length_append, List.length_take]; omega), List.getElem?_append_right (by rw [List.length_take]; omega), List.length_take, List.getElem?_take, if_pos (by omega)]
      congr 1
      omega
    · rw [if_neg h2]
      by_cases h3 : j < a
      · rw [List.getElem?_append_left (by simp only [List.length_append, List.length_take]; omega), List.getElem?_append_left (by rw [List.length_take]; omega), List.getElem?_take, if_pos h3]
      · rw [List.getElem?_append_right (by simp only [List.length_append, List.length_take]; omega), List.getElem?_drop]
        congr 1
        simp only [List.length_append, List.length_take]
        omega
theorem putC_length (C : List UInt8) (a : Nat) (s : List UInt8) (hc : C.length = 24) (ha : a < 24) (hs : s.length ≤ 24) : (putC C a s).length = 24 := by
  unfold putC
  simp only [List.length_append, List.length_drop, List.length_take]
  omega
theorem Ring.put {C : List UInt8} {f : Nat} {T : List UInt8} (h : Ring C f T) (s : List UInt8) (hs : T.length + s.length ≤ 24) : Ring (putC C ((f + T.length) % 24) s) f (T ++ s) := by
  have hc := h.hc
  have hf := h.hf
  have ht := h.ht
  have ha : (f + T.length) % 24 < 24 := Nat.mod_lt _ (by decide)
  refine ⟨putC_length C _ s hc ha (by omega), hf, by rw [List.length_append]; exact hs, fun i hi => ?_⟩
  rw [List.length_append] at hi
  rw [putC_get C _ s hc ha (by omega) _ (Nat.mod_lt _ (by decide))]
  by_cases h1 : i < T.length
  · rw [List.getElem?_append_left h1, h.get i h1, if_neg (by omega), if_neg (by omega)]
  · rw [List.getElem?_append_right (by omega)]
    by_cases h2 : (f + i) % 24 + 24 - (f + T.length) % 24 < s.length
    · rw [if_pos h2]
      congr 1
      omega
    · rw [if_neg h2, if_pos (by omega)]
      congr 1
      omega
theorem Ring.drop {C : List UInt8} {f : Nat} {T : List UInt8} (h : Ring C f T) (k : Nat) (hk : k ≤ T.length) : Ring C ((f + k) % 24) (T.drop k) := by
  have hc := h.hc
  have hf := h.hf
  have ht := h.ht
  refine ⟨hc, Nat.mod_lt _ (by decide), by rw [List.length_drop]; omega, fun i hi => ?_⟩
  rw [List.length_drop] at hi
  rw [List.getElem?_drop, h.get (k + i) (by omega)]
  congr 1
  omega
theorem Ring.new : Ring (List.replicate 24 0) 0 [] := ⟨List.length_replicate, by decide, by simp, fun i hi => by simp at hi⟩
/-- The program's pipe in memory. -/
structure Pp (B : Nat) (w : World) (b : Nat) (T : List UInt8) (rd wr : Nat) : Prop where
  g : B ≤ b
  hr : rd ≤ 100
  hw : wr ≤ 100
  ex : ∃ C f, Cl w b 37 (piCs C f T.length rd wr) ∧ Ring C f T
/-- The document's. -/
structure Rp (B : Nat) (w : World) (b : Nat) (T : List UInt8) (rd wr : Nat) : Prop where
  g : B ≤ b
  t : T.length ≤ 24
  hr : rd ≤ 100
  hw : wr ≤ 100
  c : Cl w b 0 [.string ⟨T.toArray⟩, .int .i64 rd, .int .i64 wr]
theorem Pp.lt {B : Nat} {w : World} {b : Nat} {T : List UInt8} {rd wr : Nat} (h : Pp B w b T rd wr) : b < w.heap.size := by
  obtain ⟨C, f, h1, _⟩ := h.ex
  exact h1.lt
theorem Pp.len {B : Nat} {w : World} {b : Nat} {T : List UInt8} {rd wr : Nat} (h : Pp B w b T rd wr) : T.length ≤ 24 := by
  obtain ⟨C, f, _, h1⟩ := h.ex
  exact h1.ht
theorem Pp.below {B : Nat} {w w' : World} {b : Nat} {T : List UInt8} {rd wr : Nat} (h : Pp B w b T rd wr) (k : Below w.heap.size w w') : Pp B w' b T rd wr := by
  obtain ⟨C, f, h1, h2⟩ := h.ex
  exact ⟨h.g, h.hr, h.hw, C, f, h1.below k, h2⟩
theorem Pp.stay {B : Nat} {w w' : World} {b : Nat} {T : List UInt8} {rd wr : Nat} {X : Nat → Prop} (h : Pp B w b T rd wr) (k : Apart X w w') (hx : ¬ X b) : Pp B w' b T rd wr := by
  obtain ⟨C, f, h1, h2⟩ := h.ex
  exact ⟨h.g, h.hr, h.hw, C, f, h1.stay k hx, h2⟩
theorem Rp.lt {B : Nat} {w : World} {b : Nat} {T : List UInt8} {rd wr : Nat} (h : Rp B w b T rd wr) : b < w.heap.size := h.c.lt
theorem Rp.below {B : Nat} {w w' : World} {b : Nat} {T : List UInt8} {rd wr : Nat} (h : Rp B w b T rd wr) (k : Below w.heap.size w w') : Rp B w' b T rd wr := ⟨h.g, h.t, h.hr, h.hw, h.c.below k⟩
theorem Rp.stay {B : Nat} {w w' : World} {b : Nat} {T : List UInt8} {rd wr : Nat} {X : Nat → Prop} (h : Rp B w b T rd wr) (k : Apart X w w') (hx : ¬ X b) : Rp B w' b T rd wr := ⟨h.g, h.t, h.hr, h.hw, h.c.stay k hx⟩
/-- What a call that changes it comes to. -/
structure PStp (B : Nat) (w w' : World) (b : Nat) (T : List UInt8) (rd wr : Nat) : Prop where
  p : Pp B w' b T rd wr
  ap : Apart (fun k => k = b) w w'
structure RStp (B : Nat) (w w' : World) (b : Nat) (T : List UInt8) (rd wr : Nat) : Prop where
  p : Rp B w' b T rd wr
  ap : Apart (fun k => k = b) w w'
theorem PStp.same {B : Nat} {w w' : World} {b : Nat} {T : List UInt8} {rd wr : Nat} (h : Pp B w b T rd wr) (k : Below w.heap.size w w') : PStp B w w' b T rd wr := ⟨h.below k, Apart.of_below k⟩
theorem RStp.same {B : Nat} {w w' : World} {b : Nat} {T : List UInt8} {rd wr : Nat} (h : Rp B w b T rd wr) (k : Below w.heap.size w w') : RStp B w w' b T rd wr := ⟨h.below k, Apart.of_below k⟩
/-- copy of a text into a row. -/
theorem run_copy_str {P : Program} (w : World) (dT sT ty elem : TypeId) (g o dLen dCap : Nat) (l : List UInt8) (cur : List Value) (t : TypeId) (n : Nat)
    (hu : P.underlying dT = some (.slice elem)) (hs : (P.info? elem).map (·.size) = some 1) (hg : w.heap[g]? = some (.cells cur.toArray t (0, 0))) (hn : n = min l.length dLen) (hfit : o + n ≤ cur.length) :
    (Builtin.copy_ #[dT, sT] ty #[.slice (some ⟨g, o, none⟩) dLen dCap, .string ⟨l.toArray⟩]).run P w = .ok (.int .i64 (n : Int)) (w.setRow g (cur.take o ++ bCs (l.take n) ++ cur.drop (o + n)).toArray) := by
  have hlen : (bCs (l.take n)).length = n := by rw [bCs_length, List.length_take]; omega
  have hst := run_storeCells_at P g o t (bCs (l.take n)) 0 cur.toArray w hg (by rw [hlen]; simpa using hfit) (bCs_one _)
  have hsz : (⟨l.toArray⟩ : ByteArray).size = l.length := by simp [ByteArray.size]
  have hmin : Nat.min l.length dLen = n := hn.symm
  have htk : List.take n (List.map (fun b : UInt8 => Value.int IntKind.u8 (b.toNat : Int)) l) = bCs (l.take n) := by
    unfold bCs
    rw [List.map_take]
  rw [hlen] at hst
  simp only [Nat.add_zero] at hst
  cases hq : P.info? elem with
  | none => simp [hq] at hs
  | some i =>
    simp [Builtin.copy_, run_underlying hu, Builtin.lenOf, Builtin.firstCells, sizeOf, typeInfo, hq, hsz, hmin]
    rw [htk, hst]
    simp [Result.andThen]
    rfl
theorem wpList_copyR (w : World) {P : Program} {ops : Array Oper} {rest : List Oper} {o : Oper} {a : Act} {Q : Exit → Act → World → Prop} (hgd : o.guard = none) (d s : Operand) (t t' : TypeId)
    (ho : o.op = .call { callee := .builtin .copy, args := #[d, s], argTypes := #[t, t'] }) (v u : Value) (hd : a.eval d = v) (hs : a.eval s = u) {v' : Value} {w' : World}
    (hr : (Builtin.copy_ #[t, t'] o.type #[v, u]).run P w = .ok v' w') (h : wpList P ops Q rest (a.put o.dst v') w') : wpList P ops Q (o :: rest) a w :=
  wpList_plain hgd fun K hK => by
    unfold Oper.wp execOp
    simp only [ho, resolve, invoke, builtin, Sem.run_bind, Sem.run_pure, Result.andThen_ok, List.map_toArray, List.map_cons, List.map_nil, hd, hs, hr]
    exact hK _ _ h
theorem step_copyR {P : Program} {ops : Array Oper} {o : Oper} {a : Act} {w : World} {K : Act → World → Prop} {Q : Exit → Act → World → Prop} {E : Prop}
    (hg : o.guard = none) (d x : Operand) (dT sT : TypeId) (hop : o.op = Op.call { callee := Callee.builtin Builtin.copy, args := #[d, x], argTypes := #[dT, sT] })
    (v u : Value) (hd : a.eval d = v) (hx : a.eval x = u) {v' : Value} {w' : World} (hr : (Builtin.copy_ #[dT, sT] o.type #[v, u]).run P w = .ok v' w') (hK : K (a.put o.dst v') w') :
    if Region.wanted o (yielded ops a.tmps) = true then Oper.wp P o a w K Q else E := by
  have hw : Region.wanted o (yielded ops a.tmps) = true := by simp [Region.wanted, hg]
  rw [if_pos hw]
  unfold Oper.wp
  simp [execOp, hop, resolve, invoke, builtin, hd, hx, hr, Result.andThen]
  exact hK
theorem piCs_at (C : List UInt8) (f m rd wr : Nat) (hc : C.length = 24) : (piCs C f m rd wr)[24]? = some (.int .i64 f) ∧ (piCs C f m rd wr)[25]? = some (.int .i64 m) ∧ (piCs C f m rd wr)[26]? = some (.int .i64 rd) ∧ (piCs C f m rd wr)[27]? = some (.int .i64 wr) := by
  have h := bCs_length C
  unfold piCs
  refine ⟨?_, ?_, ?_, ?_⟩ <;> rw [List.getElem?_append_right (by omega), h, hc] <;> rfl
theorem piCs_byte (C : List UInt8) (f m rd wr : Nat) (hc : C.length = 24) (j : Nat) (hj : j < 24) : (piCs C f m rd wr)[j]? = (C[j]?).map fun b => Value.int .u8 (b.toNat : Int) := by
  unfold piCs
  rw [List.getElem?_append_left (by rw [bCs_length]; omega), bCs_get]
theorem piCs_set (C : List UInt8) (f m rd wr : Nat) (hc : C.length = 24) (x : Nat) : (piCs C f m rd wr).set 24 (.int .i64 x) = piCs C x m rd wr ∧ (piCs C f m rd wr).set 25 (.int .i64 x) = piCs C f x rd wr ∧ (piCs C f m rd wr).set 26 (.int .i64 x) = piCs C f m x wr ∧ (piCs C f m rd wr).set 27 (.int .i64 x) = piCs C f m rd x := by
  have h := bCs_length C
  unfold piCs
  refine ⟨?_, ?_, ?_, ?_⟩ <;> rw [List.set_append_right _ _ (by omega), h, hc] <;> rfl
end Go.Proofs.Ytpjnadgjohbhbab
