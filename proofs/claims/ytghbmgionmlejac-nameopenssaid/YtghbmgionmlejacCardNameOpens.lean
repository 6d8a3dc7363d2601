/- NameOpens: for every input the law answers true and leaves its arguments as they were. -/
import Derived.Test.YtghbmgionmlejacCapFrame
import Derived.Test.YtghbmgionmlejacLawOpens
namespace Go.Proofs.Ytghbmgionmlejac
open Go.ChangeShapes Go.WideShapes Go.ChangeAt Go.RowKit Go.ChangeMaps
set_option maxRecDepth 100000 in
theorem nameOpens_lifted (os : Os) (started : os.Started) (H : Type) (enc : TypeId × Value → H) :
    ReturnsInHanded {} Try.checked os 5 .any (Rows.nameOpensSpec.pre6 enc Try.prog Try.f5 Rows.nameOpensRow.domain false) (Rows.nameOpensSpec.post enc Try.prog Try.f5 false true false false) := by
  refine returnsInHanded_of_change (C := Try.checked) own started (by kernel_rfl) Try.func5
    (ChangeSpec.witness6 (enc := enc) (C := Try.checked) false ⟨#[], #[.agg #[.string ⟨#[]⟩, .int .u8 0], .agg #[.string ⟨#[]⟩, .int .u8 0], .agg #[.string ⟨#[]⟩, .int .u8 0]], []⟩ 8 (by kernel_rfl) (by kernel_rfl) (by kernel_rfl) (by kernel_rfl)) ?_
  intro W base args ds gs before hval0 hW hcnd _
  have hval : ∀ (j : Nat) t v, Try.f5.params[j]? = some t → args[j]? = some v → Value.okWide Try.prog W .any base t v := hval0
  have hW' := hW
  obtain ⟨p, q, hA0, hV, rfl, _, _⟩ := hW
  have hA : DataW.TrodAll enc Try.prog W 0 (fun _ => true) true Try.f5.params.toList args.toList ds p := hA0
  rw [Try.params5] at hA hval
  obtain ⟨v0, v1, v2, d0, d1, d2, p0, p1, p2, rfl, rfl, rfl, h0, h1, h2⟩ := trodAll_three hA
  obtain ⟨rfl, rfl⟩ := trodVars_none hV
  obtain ⟨x0, r0, rfl, rfl, rfl, w0⟩ := cap_open (hval 0 23 v0 rfl rfl) h0
  obtain ⟨x1, r1, rfl, rfl, rfl, w1⟩ := cap_open (hval 1 23 v1 rfl rfl) h1
  obtain ⟨x2, r2, rfl, rfl, rfl, w2⟩ := cap_open (hval 2 23 v2 rfl rfl) h2
  simp only [List.append_nil] at hW'
  refine (opens_walk x0 r0 x1 r1 x2 r2 W ).mono fun e W' ⟨he, hb⟩ => ?_
  subst he
  exact ⟨_, rfl, _, _, _, [], [], [], hW', trodAll_mk1 (shut_bool Try.underlying4 _), trodAll_mk3 (cap_shut x0 r0 w0) (cap_shut x1 r1 w1) (cap_shut x2 r2 w2), rfl, hb.frame _, fun h => by cases h⟩
theorem nameOpens_holds : Rows.NameOpensSaid :=
  OpenClaim.holds_of_wide 5 Try.f5 rfl rfl rfl rfl rfl rfl rfl ⟨rfl, rfl, rfl, rfl, rfl⟩ rfl rfl rfl rfl rfl (by kernel_rfl) Try.func5 (by kernel_rfl)
    (of_decide_eq_true (by kernel_rfl)) (by unfold Func.isWrapper; first | (rw [if_pos (by decide +kernel)]; kernel_rfl) | (rw [if_neg (by decide +kernel)]; exact ⟨rfl, rfl⟩))
    (fun os started H enc _ => nameOpens_lifted os started H enc)
#print axioms nameOpens_holds
end Go.Proofs.Ytghbmgionmlejac
