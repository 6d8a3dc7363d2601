/- DevNone: the law. -/
import Derived.Test.YtcffjlokmdddcaaLawDevN1
import Derived.Test.YtcffjlokmdddcaaLawDevN2
import Derived.Test.YtcffjlokmdddcaaLawDevN3
namespace Go.Proofs.Ytcffjlokmdddcaa
open Go.RowKit Go.Maps
theorem dnone_law (k i r0 : Int) (r1 : Bool) (r2 r3 r4 : Int) (bv : Value) (n : Int) (w : World) : Calls Try.prog 8 #[.agg #[.int .i64 k, .int .i64 i, .int .u32 r0, .bool r1, .int .i64 r2, .int .i64 r3, .int .u8 r4, bv], .int .i64 n] w fun e w' => e = .returned (.bool true) ∧ Below w.heap.size w w' := by
  by_cases h1 : n < 1
  · exact dnone_lo k i r0 r1 r2 r3 r4 bv n w h1
  by_cases h2 : 64 < n
  · exact dnone_hi k i r0 r1 r2 r3 r4 bv n w h1 h2
  obtain ⟨nn, rfl⟩ := Int.eq_ofNat_of_zero_le (show 0 ≤ n by omega)
  exact dnone_ok k i r0 r1 r2 r3 r4 bv nn w (by omega) (by omega)
end Go.Proofs.Ytcffjlokmdddcaa
