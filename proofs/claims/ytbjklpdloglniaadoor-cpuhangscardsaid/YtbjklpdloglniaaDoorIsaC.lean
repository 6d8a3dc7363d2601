/- The bytes of instructions: the program. -/
import Derived.Test.YtbjklpdloglniaaDoorIsaQ
import Derived.Laws.BytesArg
import Derived.Lib.AppendStr
namespace Go.Proofs.YtbjklpdloglniaaDoor
open Go.RowKit
set_option linter.unusedVariables false

def bytV (x : UInt8) : Value := .int .u8 (x.toNat : Int)
/-- A slice holds these bytes. -/
def Bts (w : World) (v : Value) (bs : List UInt8) : Prop := ∃ a cap, v = .slice a bs.length cap ∧ bs.length ≤ cap ∧ cap ≤ maxLen ∧ ∀ j x, bs[j]? = some x → ∃ g off, a = some ⟨g, off, none⟩ ∧ w.cell? ⟨g, off + j, none⟩ = some (.int .u8 (x.toNat : Int))
theorem Bts.below {w w' : World} {v : Value} {bs : List UInt8} {B : Nat} (h : Bts w v bs) (hb : Below B w w') (hB : w.heap.size ≤ B) : Bts w' v bs := by
  obtain ⟨a, cap, rfl, hcap, hm, hc⟩ := h
  refine ⟨a, cap, rfl, hcap, hm, fun j x hx => ?_⟩
  obtain ⟨g, off, e, hcell⟩ := hc j x hx
  exact ⟨g, off, e, (hb.cell (p := ⟨g, off + j, none⟩) (Nat.lt_of_lt_of_le (World.block_lt_of_cell? _ _ hcell) hB)).trans hcell⟩
theorem Bts.nil (w : World) : Bts w (.slice none 0 0) [] := ⟨none, 0, rfl, Nat.le_refl _, Nat.zero_le _, fun j x h => by cases h⟩
theorem Bts.of_own {w : World} {base : Nat} {v : Value} {n : Nat} {bs : List UInt8} (h : w.ownsRow base 5 1 v n (bs.map bytV)) : Bts w v bs := by
  have hn : n = bs.length := by have := h.1; simpa using this.symm
  subst hn
  rcases h.2 with ⟨rfl, h0⟩ | ⟨g, cap, cur, rfl, _, hb, hk, hm, _, htk⟩
  · obtain rfl : bs = [] := List.eq_nil_of_length_eq_zero h0
    exact Bts.nil w
  · refine ⟨_, cap, rfl, hk, hm, fun j x hx => ⟨g, 0, rfl, ?_⟩⟩
    have h1 : (List.take (bs.length * 1) cur.toList)[j]? = some (bytV x) := by rw [htk, List.getElem?_map, hx]; rfl
    have hj : j < bs.length := (List.getElem?_eq_some_iff.1 hx).1
    rw [List.getElem?_take, if_pos (by omega)] at h1
    simp only [Nat.zero_add, World.cell?, hb]
    simpa [bytV] using h1
/-- A slice holds these instructions. -/
def Inss (w : World) (v : Value) (l : List (Int × Int × Int × Int)) : Prop := ∃ a cap, v = .slice a l.length cap ∧ ∀ j i, l[j]? = some i → ∃ g off, a = some ⟨g, off, none⟩ ∧ w.cell? ⟨g, off + j * 4, none⟩ = some (.int .u8 i.1) ∧ w.cell? ⟨g, off + j * 4 + 1, none⟩ = some (.int .u8 i.2.1) ∧ w.cell? ⟨g, off + j * 4 + 2, none⟩ = some (.int .u8 i.2.2.1) ∧ w.cell? ⟨g, off + j * 4 + 3, none⟩ = some (.int .u16 i.2.2.2)
theorem Inss.below {w w' : World} {v : Value} {l : List (Int × Int × Int × Int)} {B : Nat} (h : Inss w v l) (hb : Below B w w') (hB : w.heap.size ≤ B) : Inss w' v l := by
  obtain ⟨a, cap, rfl, hc⟩ := h
  refine ⟨a, cap, rfl, fun j i hi => ?_⟩
  obtain ⟨g, off, e, c0, c1, c2, c3⟩ := hc j i hi
  have hlt : g < B := Nat.lt_of_lt_of_le (World.block_lt_of_cell? _ _ c0) hB
  exact ⟨g, off, e, (hb.cell (p := ⟨g, off + j * 4, none⟩) hlt).trans c0, (hb.cell (p := ⟨g, off + j * 4 + 1, none⟩) hlt).trans c1, (hb.cell (p := ⟨g, off + j * 4 + 2, none⟩) hlt).trans c2, (hb.cell (p := ⟨g, off + j * 4 + 3, none⟩) hlt).trans c3⟩
theorem own_bel {w w' : World} {B base n size : Nat} {e : TypeId} {v : Value} {xs : List Value} (h : w.ownsRow base e size v n xs) (hb : Below B w w') (hB : w.heap.size ≤ B) : w'.ownsRow base e size v n xs := by
  refine ⟨h.1, ?_⟩
  rcases h.2 with h0 | ⟨g, cap, cur, hv, hg, hbk, rest⟩
  · exact .inl h0
  · exact .inr ⟨g, cap, cur, hv, hg, (hb.block g (Nat.lt_of_lt_of_le (Array.getElem?_eq_some_iff.1 hbk).1 hB)).trans hbk, rest⟩
theorem enc_cells (o a b m : Int) (hO : InsOk o a b m) (hR : insR o a b m = true) : (encL o a b m).map bytV = [.int .u8 o, .int .u8 (a * 16 + b), .int .u8 (m / 256), .int .u8 (m % 256)] := by
  obtain ⟨⟨r1, r2, r3⟩, _⟩ := (insR_iff o a b m).1 hR
  obtain ⟨o1, o2, a1, a2, b1, b2, m1, m2⟩ := hO
  have e1 := ofNat_toNat8 o.toNat (by omega)
  have e2 := ofNat_toNat8 (a * 16 + b).toNat (by omega)
  have e3 := ofNat_toNat8 (m / 256).toNat (by omega)
  have e4 := ofNat_toNat8 (m % 256).toNat (by omega)
  simp only [encL, List.map_cons, List.map_nil, bytV, e1, e2, e3, e4]
  rw [show ((o.toNat : Nat) : Int) = o by omega, show (((a * 16 + b).toNat : Nat) : Int) = a * 16 + b by omega, show (((m / 256).toNat : Nat) : Int) = m / 256 by omega, show (((m % 256).toNat : Nat) : Int) = m % 256 by omega]
theorem or_low (a b : Int) (a1 : 0 ≤ a) (a2 : a < 8) (b1 : 0 ≤ b) (b2 : b < 8) : bits BinOp.or IntKind.u8 (a * 16) b = a * 16 + b :=
  bits_join .u8 8 (by decide) (fun n g1 g2 => by rw [u8w]; omega) 4 _ _ (by omega) (by omega) (by omega) b1 (by omega) (by omega)
theorem cell_four_new (w : World) (x y z u : Value) (t : TypeId) : ∀ j v, [x, y, z, u][j]? = some v → (w.alloc (.cells #[x, y, z, u] t)).cell? ((⟨w.heap.size, 0, none⟩ : Addr).add j) = some v := by
  intro j v hj
  have h := World.alloc_heap_new w (.cells #[x, y, z, u] t)
  match j, hj with
  | 0, hj => simp at hj; subst hj; rw [show ((⟨w.heap.size, 0, none⟩ : Addr).add 0) = ⟨w.heap.size, 0, none⟩ from rfl, Lib.cell_of_heap h]; rfl
  | 1, hj => simp at hj; subst hj; rw [show ((⟨w.heap.size, 0, none⟩ : Addr).add 1) = ⟨w.heap.size, 1, none⟩ from rfl, Lib.cell_of_heap h]; rfl
  | 2, hj => simp at hj; subst hj; rw [show ((⟨w.heap.size, 0, none⟩ : Addr).add 2) = ⟨w.heap.size, 2, none⟩ from rfl, Lib.cell_of_heap h]; rfl
  | 3, hj => simp at hj; subst hj; rw [show ((⟨w.heap.size, 0, none⟩ : Addr).add 3) = ⟨w.heap.size, 3, none⟩ from rfl, Lib.cell_of_heap h]; rfl
  | n + 4, hj => simp at hj
theorem infoB : (Tryd.prog.info? 5).map (fun i => (i.zero, i.size, i.bytes)) = some (some (.int .u8 0), 1, 1) := by kernel_rfl
/-- Bytes and an error, as they are handed back. -/
def BytP (ok : Bool) (bs : List UInt8) (e : Ending) (w : World) : Prop := ∃ b, e = .returned (.tuple #[b, .int .i64 (if ok then 0 else 3)]) ∧ Bts w b (if ok then bs else [])
theorem strOf_bts (t : List UInt8) : strOfNums (t.map fun x => (x.toNat : Int)) = ⟨t.toArray⟩ := by
  unfold strOfNums
  congr 2
  rw [List.map_map]
  conv => rhs; rw [← List.map_id t]
  apply List.map_congr_left
  intro x _
  simp
theorem bts_text (w : World) (src : TypeId) (g off cap : Nat) (t : List UInt8) (hs : Tryd.prog.underlying src = some (.slice 5)) (hc : ∀ j x, t[j]? = some x → w.cell? ⟨g, off + j, none⟩ = some (.int .u8 (x.toNat : Int))) :
    (convert src 9 (.slice (some ⟨g, off, none⟩) t.length cap)).run Tryd.prog w = .ok (.string ⟨t.toArray⟩) w := by
  have := run_convert_bytes_arg (P := Tryd.prog) w src 5 hs Tryd.underlying5 g off t.length cap (t.map fun x => (x.toNat : Int)) (by simp) (fun i hi => by
    rw [hc i _ (List.getElem?_eq_getElem hi)]
    simp [List.getD, List.getElem?_eq_getElem hi])
  rw [strOf_bts] at this
  exact this 9 Tryd.underlying9
theorem nil_text (w : World) (a : Option Addr) (cap : Nat) : (convert 30 9 (.slice a 0 cap)).run Tryd.prog w = .ok (.string ⟨#[]⟩) w := by
  cases a with
  | none => exact run_convert_bytes_nil (P := Tryd.prog) w 30 5 Tryd.underlying30 Tryd.underlying5 0 cap 9 Tryd.underlying9
  | some ad =>
    have hl : (loadCells ad 0).run Tryd.prog w = .ok #[] w := run_loadCells_list (P := Tryd.prog) w ad [] (fun j v h => by cases h)
    rw [run_convert_bytes_string w 30 9 5 _ 0 cap Tryd.underlying30 Tryd.underlying5 Tryd.underlying9]
    simp [Conv.bytesToString, hl]
    rfl
theorem Bts.text {w : World} {v : Value} {bs : List UInt8} (h : Bts w v bs) : (convert 30 9 v).run Tryd.prog w = .ok (.string ⟨bs.toArray⟩) w := by
  obtain ⟨a, cap, rfl, hcap, hm, hc⟩ := h
  cases bs with
  | nil =>
    exact nil_text w a cap
  | cons x t =>
    obtain ⟨g, off, rfl, h0⟩ := hc 0 x rfl
    exact bts_text w 30 g off cap (x :: t) Tryd.underlying30 (fun j b hb => by
      obtain ⟨g', off', e, h⟩ := hc j b hb
      cases e
      exact h)
end Go.Proofs.YtbjklpdloglniaaDoor
