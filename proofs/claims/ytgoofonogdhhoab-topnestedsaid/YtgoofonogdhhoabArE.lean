/- The program's area: New, Set, Kill, Fork. -/
import Derived.Test.YtgoofonogdhhoabArD
namespace Go.Proofs.Ytgoofonogdhhoab
open Go.RowKit Go.Maps
set_option linter.unusedVariables false
set_option maxRecDepth 100000
set_option maxHeartbeats 1000000 in
theorem living_any (B b : Nat) (q : Ar) (w : World) (h : Ac B w b q) : Calls Try.prog 14 #[.pointer (some ⟨b, 0, none⟩)] w fun r w' => r = .returned (.int .i64 (if q.al then 0 else 9)) ∧ Below w.heap.size w w' := by
  have cA := alive_any B b q w h
  generalize q.al = al at *
  clear h
  cases al with
  | true =>
    go_enter Try.func14, Try.ntmps14
    go_wp2_with fail
    refine cA.mono ?_
    rintro r W ⟨rfl, hB⟩
    go_wp2
    go_ret
    exact ⟨rfl, hB⟩
  | false =>
    go_enter Try.func14, Try.ntmps14
    go_wp2_with fail
    refine cA.mono ?_
    rintro r W ⟨rfl, hB⟩
    go_wp2
    go_ret
    exact ⟨rfl, hB⟩
set_option maxHeartbeats 1000000 in
theorem new_any (s : Rg) (w : World) : Calls Try.prog 4 #[s.V] w fun r w' => r = .returned (.pointer (some ⟨w.heap.size + 1, 0, none⟩)) ∧ Ac (w.heap.size + 1) w' (w.heap.size + 1) (ar0 s) ∧ Below w.heap.size w w' := by
  obtain ⟨pc, a0, a1, a2, a3, a4, a5, a6, a7⟩ := s
  have HB := (below_new w (.cells (Rg.vs ⟨pc, a0, a1, a2, a3, a4, a5, a6, a7⟩).toArray 26)).alloc (by simp) (.cells (aCs (ar0 ⟨pc, a0, a1, a2, a3, a4, a5, a6, a7⟩)).toArray 44)
  have HC := Cl.new (w.alloc (.cells (Rg.vs ⟨pc, a0, a1, a2, a3, a4, a5, a6, a7⟩).toArray 26)) 44 (aCs (ar0 ⟨pc, a0, a1, a2, a3, a4, a5, a6, a7⟩))
  rw [World.size_alloc] at HC
  change Calls _ _ #[.agg #[.int .u16 pc, .int .u16 a0, .int .u16 a1, .int .u16 a2, .int .u16 a3, .int .u16 a4, .int .u16 a5, .int .u16 a6, .int .u16 a7]] _ _
  go_enter Try.func4, Try.ntmps4
  go_wp2
  go_ret
  exact ⟨rfl, ⟨Nat.le_refl _, HC, by simp [Ar.Ok, ar0]⟩, HB⟩
def setE (q : Ar) : Int := if q.al then 0 else 9
def setQ (s : Rg) (q : Ar) : Ar := if q.al then { q with s := s } else q
theorem store_life {B : Nat} {w : World} {b : Nat} {q : Ar} (h : Ac B w b q) : (Instr.storeAt 39 (.pointer (some ⟨b, 0, none⟩)) (.agg lz.toArray)).run Try.prog w = .ok () (w.setRow b (aCs ⟨false, rg0, [], q.en⟩).toArray) := by
  have := stores h.c 39 0 47 lz sizL rfl lz_one (by show 0 + 47 ≤ 57; omega)
  exact this
def killQ (q : Ar) : Ar := if q.al then ⟨false, rg0, [], q.en⟩ else q
theorem aCs_one (q : Ar) : ∀ v ∈ aCs q, v.oneCell' = true := by
  intro v hv
  have e5 : ∀ e, ∀ v ∈ entV e, v.oneCell' = true := fun e v hv => by
    simp only [entV, List.mem_cons, List.not_mem_nil, or_false] at hv
    rcases hv with h | h <;> (subst h; rfl)
  simp only [aCs, lCs, kCs, eCs, List.mem_append, List.mem_cons, List.not_mem_nil, or_false] at hv
  rcases hv with (h | h | (h | h | h | h) | h) | h | h | h | h | h
  all_goals first | (subst h; rfl) | exact vs_one _ v h | exact e5 _ v h
end Go.Proofs.Ytgoofonogdhhoab
