/- Bytes as they come in: how many they are, against what they read as. -/
import Derived.Test.YteoappoacapdhaaDoorIsaIn
namespace Go.Proofs.YteoappoacapdhaaDoor
open Go.ChangeShapes Go.WideShapes Go.ChangeAt Go.RowKit Go.ChangeMaps Go.Joins
theorem bulk_one {H : Type} (d : DataW H) : 1 ≤ Rows.uptoBulk d := by
  cases d with
  | lit l => cases l <;> simp [Rows.uptoBulk]
  | nil => simp [Rows.uptoBulk]
  | ptr d => simp [Rows.uptoBulk]
  | slice elems spare => simp [Rows.uptoBulk]
  | agg parts => simp [Rows.uptoBulk]
  | iface t d => simp [Rows.uptoBulk]
  | map entries => simp [Rows.uptoBulk]
  | held h => simp [Rows.uptoBulk]
theorem bulk_len {H : Type} (l : List (DataW H)) : l.length ≤ Rows.uptoBulkAll l := by
  induction l with
  | nil => simp [Rows.uptoBulkAll]
  | cons x r ih => have := bulk_one x; simp only [Rows.uptoBulkAll, List.length_cons]; omega
set_option maxRecDepth 100000 in
theorem bts_bulk {H : Type} {enc : TypeId × Value → H} {W : World} {base b0 : Nat} {r : Reach} {v : Value} {d : DataW H} {p : List MemPlace} {bs : List UInt8} (hv : Value.okWide Tryd.prog W r b0 27 v) (h : DataW.Trod enc Tryd.prog W base (fun _ => true) true 27 v d p) (hb : Bts W v bs) :
    bs.length ≤ Rows.uptoBulk d := by
  obtain ⟨a, cap, rfl, _, _, _⟩ := hb
  obtain ⟨fuel, hf⟩ := h
  rcases open_ints Tryd.underlying27 Tryd.underlying5 (by kernel_rfl) hf with ⟨hcs, _⟩ | ⟨a', len', cap', zs, hcs, _, hl, hm, hz, hx, _, _⟩
  · simp [Value.cells] at hcs
    have := bulk_one d
    omega
  · simp [Value.cells] at hcs
    obtain ⟨_, rfl, _⟩ := hcs
    have hd : d = .slice (lits .u8 (zs.take bs.length)) (lits .u8 (zs.drop bs.length)) := congrArg Prod.fst hx
    rw [hd]
    simp only [if_true] at hz
    have h1 := bulk_len (H := H) (lits .u8 (zs.take bs.length))
    have h2 : (lits (H := H) .u8 (zs.take bs.length)).length = bs.length := by
      simp [lits]
      omega
    simp only [Rows.uptoBulk]
    omega
end Go.Proofs.YteoappoacapdhaaDoor
