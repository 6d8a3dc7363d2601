/- The tables of UTF-8 out of what the row lists. -/
import Derived.Test.YtmepnnlmhlndmaaDoorTie
import Derived.Test.YtmepnnlmhlndmaaDoorRefL
import Derived.ProofKit
import Derived.OpenShut
import Derived.LaidMore
import Derived.Lay
import Derived.SevenTiedAt
import Derived.Stop.Joined
import Derived.PinnedBridge
import Derived.Lib.LaidU8T
namespace Go.Proofs.YtmepnnlmhlndmaaDoor
open Go.ChangeShapes Go.WideShapes Go.ChangeAt Go.RowKit
theorem nown : ownKnob Tryd.prog.godebug = none := by kernel_rfl
theorem naccept_eq : (Rows.laid_unicode_utf8_acceptRanges : DataW Unit) = Lib.acceptData := by kernel_rfl
theorem ntabs_of {W : World} (h : laidMetH Tryd.prog Rows.extentPlaysRow.laid W) : NTabs W := by
  rw [MakeChecks.laidMetH_plain _ _ _ (by kernel_rfl)] at h
  exact utf8Tabs_of_readsT (U8Types.of260 Tryd.lays260) ⟨by kernel_rfl, by kernel_rfl, by kernel_rfl, by kernel_rfl, by kernel_rfl, by kernel_rfl, by kernel_rfl⟩ (Pinned.utf8First_eq ▸ Lib.laidMet.reads h (.tail _ (.head _))) (naccept_eq ▸ Lib.laidMet.reads h (.head _))
end Go.Proofs.YtmepnnlmhlndmaaDoor
