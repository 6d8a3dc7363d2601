/- What is made of a name's labels: how many, the name above, one below, whether one stands above another, what stands above both. -/
import Derived.Test.YtdegjmceeggldaaNameE
namespace Go.Proofs.Ytdegjmceeggldaa
open Go.RowKit Go.Shelf
set_option linter.unusedVariables false

theorem cutS_len (cur l : List UInt8) : ∀ x ∈ cutS cur l, x.length ≤ cur.length + l.length := by
  induction l generalizing cur with
  | nil => intro x hx; simp [cutS] at hx; subst hx; simp
  | cons b t ih =>
    intro x hx
    simp only [cutS] at hx
    split at hx
    · rcases List.mem_cons.1 hx with rfl | hx
      · simp
      · have := ih [] x hx; simp at this ⊢; omega
    · have := ih _ x hx; simp at this ⊢; omega
theorem splitO_some {l : List UInt8} {ls : List (List UInt8)} (h : splitO l = some ls) : ls.length ≤ 6 ∧ (∀ x ∈ ls, labB ⟨x.toArray⟩ = true) ∧ ∀ x ∈ ls, x.length ≤ l.length := by
  unfold splitO at h
  split at h
  · cases h; simp
  · split at h
    · cases h
    · unfold okO at h
      split at h
      · rename_i hl
        cases h
        have := (labelsB_iff _).1 hl
        refine ⟨this.1, this.2, fun x hx => ?_⟩
        have := cutS_len _ _ x hx
        simp at this
        omega
      · cases h
theorem split_some (s : ByteArray) (w : World) (hs : s.size ≤ 1000) {ls : List (List UInt8)} (h : splitO s.data.toList = some ls) :
    Calls Try.prog 20 #[.string s] w fun e W' => ∃ a cap, e = .returned (.tuple #[.slice a ls.length cap, .int .i64 0]) ∧ W'.ownsRow w.heap.size 9 1 (.slice a ls.length cap) ls.length (ls.map strV) ∧ Below w.heap.size w W' := by
  refine (split_any s w (by omega)).mono ?_
  rintro e W' ⟨v, err, rfl, hS, hB⟩
  rw [h] at hS
  obtain ⟨rfl, hown⟩ := hS
  obtain ⟨a, cap, rfl⟩ : ∃ a cap, v = .slice a ls.length cap := by
    rcases hown.2 with ⟨hv, h0⟩ | ⟨g, cap, cur, hv, _⟩
    · exact ⟨none, 0, by rw [h0]; exact hv⟩
    · exact ⟨_, _, hv⟩
  exact ⟨a, cap, rfl, hown, hB⟩
theorem split_none (s : ByteArray) (w : World) (hs : s.size ≤ 1000) (h : splitO s.data.toList = none) :
    Calls Try.prog 20 #[.string s] w fun e W' => e = .returned (.tuple #[.slice none 0 0, .int .i64 3]) ∧ Below w.heap.size w W' := by
  refine (split_any s w (by omega)).mono ?_
  rintro e W' ⟨v, err, rfl, hS, hB⟩
  rw [h] at hS
  obtain ⟨rfl, rfl⟩ := hS
  exact ⟨rfl, hB⟩

def depthN (l : List UInt8) : Nat := match splitO l with | some ls => ls.length | none => 0
def parentO (l : List UInt8) : List UInt8 × Int := match splitO l with
  | none => ([], 3)
  | some ls => if ls = [] then ([], 5) else joinO (ls.take (ls.length - 1))
def childO (l x : List UInt8) : List UInt8 × Int := match splitO l with
  | none => ([], 3)
  | some ls => if labB ⟨x.toArray⟩ then joinO (ls ++ [x]) else ([], 3)
def aboveB (a b : List UInt8) : Bool := match splitO a, splitO b with
  | some x, some y => decide (alikeN x y = x.length)
  | _, _ => false
def commonO (a b : List UInt8) : List UInt8 × Int := match splitO a, splitO b with
  | some x, some y => joinO (x.take (alikeN x y))
  | _, _ => ([], 3)

end Go.Proofs.Ytdegjmceeggldaa
