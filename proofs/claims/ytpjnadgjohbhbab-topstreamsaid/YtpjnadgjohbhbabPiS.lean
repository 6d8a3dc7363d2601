/- The document's pipe: Write, Read, Fork; the program's Fork; short. -/
import Derived.Test.YtpjnadgjohbhbabPiR
import Derived.Test.YtpjnadgjohbhbabPiG
namespace Go.Proofs.Ytpjnadgjohbhbab
open Go.RowKit Go.Maps
set_option linter.unusedVariables false
set_option maxRecDepth 100000
theorem app_B (a b : List UInt8) : (⟨a.toArray⟩ : ByteArray) ++ ⟨b.toArray⟩ = ⟨(a ++ b).toArray⟩ := by
  apply ByteArray.ext
  simp
theorem ext_take (l : List UInt8) (n : Nat) (h : n ≤ l.length) : (⟨l.toArray⟩ : ByteArray).extract 0 n = ⟨(l.take n).toArray⟩ := by
  rw [mkB _ _ _ (by simpa [ByteArray.size] using h)]
  simp
theorem ext_drop (l : List UInt8) (n : Nat) : (⟨l.toArray⟩ : ByteArray).extract n l.length = ⟨(l.drop n).toArray⟩ := by
  rw [mkB _ _ _ (by simp [ByteArray.size])]
  simp
theorem short_le (l : List UInt8) : (l.take 100).length ≤ 1000 := by rw [List.length_take]; omega
end Go.Proofs.Ytpjnadgjohbhbab
