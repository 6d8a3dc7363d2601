/- A memory is written: bytes from a place on. -/
import Derived.Test.YtdmahmolhdbegaaMemB
import Derived.Laws.CopyOwn
namespace Go.Proofs.Ytdmahmolhdbegaa
open Go.RowKit Go.Maps
set_option linter.unusedVariables false
set_option maxRecDepth 100000

/-- Bytes laid from a place on. -/
def putL (L : List Int) (k : Nat) (vs : List Int) : List Int := L.take k ++ (vs ++ L.drop (k + vs.length))
theorem putL_length {L vs : List Int} {k : Nat} (h : k + vs.length ≤ L.length) : (putL L k vs).length = L.length := by
  simp only [putL, List.length_append, List.length_take, List.length_drop]
  omega
theorem putL_nil (L : List Int) (k : Nat) : putL L k [] = L := by simp [putL]
theorem putL_putL {L u v : List Int} {k : Nat} (h : k + u.length ≤ L.length) : putL (putL L k u) (k + u.length) v = putL L k (u ++ v) := by
  have e1 : (L.take k).length = k := by rw [List.length_take]; omega
  have e2 : (L.take k ++ u).length = k + u.length := by rw [List.length_append, e1]
  unfold putL
  rw [← List.append_assoc (L.take k) u, List.take_append_of_le_length (by omega), List.take_of_length_le (by omega), List.drop_append, List.drop_of_length_le (by omega), e2]
  simp only [List.nil_append, List.drop_drop, List.append_assoc, List.length_append]
  congr 4
  omega
theorem putL_mem (n : Int) (L : List Int) (k : Nat) (vs : List Int) : (memL n L).take (1 + k) ++ (vs.map (Value.int .u8) ++ (memL n L).drop (1 + k + (vs.map (Value.int .u8)).length)) = memL n (putL L k vs) := by
  have e : 1 + k + (vs.map (Value.int .u8)).length = (k + vs.length) + 1 := by rw [List.length_map]; omega
  rw [e, Nat.add_comm 1 k]
  simp only [memL, putL, List.take_succ_cons, List.drop_succ_cons, List.cons_append, List.map_append, List.map_take, List.map_drop]

/-- But for one block a world is as it was. -/
structure Only (b : Nat) (w w' : World) : Prop where
  os : w'.os = w.os
  tape : w'.tape = w.tape
  output : w'.output = w.output
  size : w.heap.size ≤ w'.heap.size
  block : ∀ k, k < w.heap.size → k ≠ b → w'.heap[k]? = w.heap[k]?
theorem Only.refl (b : Nat) (w : World) : Only b w w := ⟨rfl, rfl, rfl, Nat.le_refl _, fun _ _ _ => rfl⟩
theorem Only.trans {b : Nat} {u v w : World} (h : Only b u v) (k : Only b v w) : Only b u w :=
  ⟨k.os.trans h.os, k.tape.trans h.tape, k.output.trans h.output, Nat.le_trans h.size k.size, fun i hi hx => (k.block i (Nat.lt_of_lt_of_le hi h.size) hx).trans (h.block i hi hx)⟩
theorem Only.of_below {b : Nat} {u v : World} (h : Below u.heap.size u v) : Only b u v := ⟨h.os, h.tape, h.output, h.size, fun k hk _ => h.block k hk⟩
theorem Only.below {b : Nat} {u v : World} (h : Only b u v) (B : Nat) (hb : B ≤ b) (hB : B ≤ u.heap.size) : Below B u v :=
  ⟨h.os, h.tape, h.output, h.size, fun k hk => h.block k (by omega) (by omega)⟩
theorem Only.row (b : Nat) (w : World) (cs : Array Value) : Only b w (w.setRow b cs) := ⟨rfl, rfl, rfl, by simp, fun k _ hk => setRow_other w b k cs hk⟩
theorem Only.cell {b : Nat} {u v : World} (h : Only b u v) (g p : Nat) (hg : g < u.heap.size) (hb : g ≠ b) : v.cell? ⟨g, p, none⟩ = u.cell? ⟨g, p, none⟩ := by
  unfold World.cell?
  rw [h.block g hg hb]

theorem Only.set1 (w : World) (p : Addr) (u : Value) : Only p.block w (w.setCell p u) :=
  ⟨rfl, rfl, rfl, by simp [World.setCell], fun k _ hx => Below.heap_setCell w p u k hx⟩
theorem putL_one {L : List Int} {k : Nat} (x : Int) (hk : k < L.length) : putL L k [x] = L.set k x := by
  rw [List.set_eq_take_append_cons_drop, if_pos hk]
  rfl
theorem Mem.set1 {w : World} {b : Nat} {n : Int} {L : List Int} (h : Mem w b n L) (k : Nat) (hk : k < 2048) (x : Int) : Mem (w.setCell ⟨b, 1 + k, none⟩ (.int .u8 x)) b n (putL L k [x]) := by
  have hk2 : k < L.length := by rw [h.len]; exact hk
  refine ⟨?_, by rw [putL_length (by simp; omega)]; exact h.len, h.lo, h.hi⟩
  rw [putL_one x hk2]
  have hlt := h.lt
  have hb := h.blk
  rw [Array.getElem?_eq_getElem hlt] at hb
  injection hb with hb
  simp [World.setCell, Array.getElem_modify, hb, hlt, memL, Nat.add_comm 1 k]

theorem wpList_copy_mem {ops : Array Oper} {rest : List Oper} {o : Oper} {a : Act} {w : World} {Q : Exit → Act → World → Prop} (hgd : o.guard = none) (d s : Operand)
    (ho : o.op = .call { callee := .builtin .copy, args := #[d, s], argTypes := #[32, 32] }) (b k : Nat) (n : Int) (L : List Int) (hm : Mem w b n L) (vs : List Int)
    (dLen dCap sLen sCap g p : Nat) (hd : a.eval d = .slice (some ⟨b, 1 + k, none⟩) dLen dCap) (hs : a.eval s = .slice (some ⟨g, p, none⟩) sLen sCap) (hn : vs.length = Nat.min sLen dLen)
    (hsrc : ∀ j x, vs[j]? = some x → w.cell? ⟨g, p + j, none⟩ = some (.int .u8 x)) (hfit : k + vs.length ≤ 2048)
    (h : ∀ w', Mem w' b n (putL L k vs) → Only b w w' → wpList Try.prog ops Q rest (a.put o.dst (.int .i64 (vs.length : Int))) w') : wpList Try.prog ops Q (o :: rest) a w := by
  refine wpList_copy_own hgd d s _ _ ho 5 (by kernel_rfl) (by kernel_rfl) b (1 + k) dLen dCap ⟨g, p, none⟩ sLen sCap hd hs (memL n L).toArray _ hm.blk (vs.map (Value.int .u8)) (by simpa using hn) ?_ (by simp only [List.size_toArray, memL_length, List.length_map, hm.len]; omega) ?_ ?_
  · intro j v hv
    rw [List.getElem?_map] at hv
    cases hx : vs[j]? with
    | none => rw [hx] at hv; cases hv
    | some x =>
      rw [hx] at hv
      cases hv
      rw [Addr.add_mid]
      exact hsrc j x hx
  · intro v hv
    obtain ⟨x, _, rfl⟩ := List.mem_map.1 hv
    rfl
  · have e := putL_mem n L k vs
    rw [e, List.length_map]
    exact h _ ⟨setRow_heap w b _ _ _ _ hm.blk, by rw [putL_length (by rw [hm.len]; exact hfit)]; exact hm.len, hm.lo, hm.hi⟩ (Only.row b w _)
end Go.Proofs.Ytdmahmolhdbegaa
