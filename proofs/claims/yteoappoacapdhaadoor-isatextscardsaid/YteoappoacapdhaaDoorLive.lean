/- What must be whatever is asked: it is. -/
import Derived.Test.YteoappoacapdhaaDoorParse
namespace Go.Proofs.YteoappoacapdhaaDoor
open Go.RowKit
set_option linter.unusedVariables false

theorem parse_minus1 (w : World) :
    Calls Tryd.prog 50 #[.string ⟨#[45, 49]⟩] w fun e w' => e = .returned (.tuple #[.int .u16 65535, .int .i64 0]) ∧ Below w.heap.size w w' :=
  parse_of ⟨#[45, 49]⟩ w (minO (digO [49])) (number_minus ⟨#[45, 49]⟩ w (by decide) (by decide) (by decide))
theorem parse_ae (w : World) (hT : Tabs w) :
    Calls Tryd.prog 50 #[.string ⟨#[39, 195, 164, 39]⟩] w fun e w' => e = .returned (.tuple #[.int .u16 228, .int .i64 0]) ∧ Below w.heap.size w w' := by
  have h := parse_of ⟨#[39, 195, 164, 39]⟩ w (signO [195, 164, 39]) (number_quote ⟨#[39, 195, 164, 39]⟩ w (by decide) (by decide) (by decide) hT)
  have e : signO [195, 164, 39] = some 228 := by decide
  rw [e] at h
  exact h
end Go.Proofs.YteoappoacapdhaaDoor
