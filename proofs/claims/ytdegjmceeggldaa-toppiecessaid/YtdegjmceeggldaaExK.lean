/- The link of an extent that is an environment's. -/
import Derived.Test.YtdegjmceeggldaaExJ
namespace Go.Proofs.Ytdegjmceeggldaa
open Go.RowKit Go.Shelf Go.Maps
set_option linter.unusedVariables false
set_option maxRecDepth 100000
theorem pst_split (p : Ex → Bool) : ∀ (a : Ln) (r : List Ln), ∃ pre, a :: r = pre ++ (pst p a r).1 :: (pst p a r).2
  | a, [] => ⟨[], rfl⟩
  | a, b :: r => by
    by_cases h : p b.2 = true
    · obtain ⟨pre, e⟩ := pst_split p b r
      exact ⟨a :: pre, by rw [pst_go p a b r h, List.cons_append, ← e]⟩
    · exact ⟨[], by rw [pst_no p a b r (by simpa using h)]; rfl⟩
def hadR (ow : Nat) : List Ln → Value × Int
  | [] => (.pointer none, 5)
  | b :: _ => if b.2.ow = ow then (.pointer (some ⟨b.1, 0, none⟩), 0) else (.pointer none, 7)
set_option maxHeartbeats 1000000 in
theorem had_any (n₀ tb hb N last : Nat) (ns : List Ln) (ow id : Nat) (w : World) (h : Tp n₀ w tb hb N last ns) (hn0 : n₀ ≤ w.heap.size) :
    Calls Try.prog 16 #[.pointer (some ⟨tb, 0, none⟩), .int .u8 ow, .int .u32 id] w fun e w' =>
      e = .returned (.tuple #[(hadR ow (pst (notId id) (hb, zEx) ns).2).1, .int .i64 (hadR ow (pst (notId id) (hb, zEx) ns).2).2]) ∧ Below w.heap.size w w' := by
  have cA := ahead_any n₀ tb hb N last ns id w h hn0
  obtain ⟨pre, hs⟩ := pst_split (notId id) (hb, zEx) ns
  generalize pst (notId id) (hb, zEx) ns = q at *
  obtain ⟨⟨b, y⟩, r⟩ := q
  have hK : Lks w ((b, y) :: r) := by
    have := h.l.k
    rw [hs] at this
    exact this.drop
  clear hs h
  simp only at cA ⊢
  go_enter Try.func16, Try.ntmps16
  go_wp2_with fail
  refine cA.mono ?_
  rintro e W1 ⟨rfl, hB1⟩
  have hK1 := hK.below hB1
  have c6 := hK1.c.c6
  cases r with
  | nil =>
    rw [show nxP ([] : List Ln) = .pointer none from rfl] at c6
    clear cA hK hK1
    go_wp2
    go_ret2
    exact ⟨rfl, hB1⟩
  | cons d r =>
    obtain ⟨d, x⟩ := d
    rw [show nxP ((d, x) :: r) = .pointer (some ⟨d, 0, none⟩) from rfl] at c6
    have c3 := hK1.2.c.c3
    clear cA hK hK1
    simp only at c3
    by_cases ho : x.ow = ow
    · have ho' : (x.ow : Int) = (ow : Int) := by omega
      go_wp2
      go_ret2
      exact ⟨by simp [hadR, ho], hB1⟩
    · have ho' : ¬ (x.ow : Int) = (ow : Int) := by omega
      go_wp2
      go_ret2
      exact ⟨by simp [hadR, ho], hB1⟩
end Go.Proofs.Ytdegjmceeggldaa
