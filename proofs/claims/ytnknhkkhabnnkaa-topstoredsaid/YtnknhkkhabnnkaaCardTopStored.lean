/- TopStored: the law, by cases; the card: for every input the law answers true. -/
import Derived.Test.YtnknhkkhabnnkaaLawTopB
import Derived.Test.YtnknhkkhabnnkaaLawTopC
import Derived.ProofKit
import Derived.OpenShut
import Derived.Lib.SmallJoins
namespace Go.Proofs.Ytnknhkkhabnnkaa
open Go.ChangeShapes Go.WideShapes Go.ChangeAt Go.RowKit Go.ChangeMaps Go.Joins
theorem stored_law (x rg at_ : Int) (w : World) (hx : 0 ≤ x ∧ x ≤ 65535) (hr : 0 ≤ rg ∧ rg ≤ 255) (ha : 0 ≤ at_ ∧ at_ ≤ 65535) :
    Calls Try.prog 3 #[.int .u16 x, .int .u8 rg, .int .u16 at_] w fun e w' => e = .returned (.bool true) ∧ Below w.heap.size w w' := by
  have e7 : rg.tmod 7 = rg % 7 := Int.tmod_eq_emod_of_nonneg hr.1
  have eA : at_.tmod 511 = at_ % 511 := Int.tmod_eq_emod_of_nonneg ha.1
  obtain ⟨m, hm⟩ : ∃ m, m = at_ % 511 := ⟨_, rfl⟩
  have hm0 : 0 ≤ m ∧ m ≤ 510 := by omega
  rw [← hm] at eA
  have cs : rg % 7 = 0 ∨ rg % 7 = 1 ∨ rg % 7 = 2 ∨ rg % 7 = 3 ∨ rg % 7 = 4 ∨ rg % 7 = 5 ∨ rg % 7 = 6 := by omega
  by_cases h31 : m % 32 = 31
  · have h2 : m.tmod 32 = 31 := by rw [Int.tmod_eq_emod_of_nonneg hm0.1]; exact h31
    have hw : IntKind.u16.wrap (m - 1) = m - 1 := by simp only [IntKind.wrap, IntKind.signed, IntKind.bits]; simp; omega
    obtain ⟨f, hf⟩ : ∃ f : Nat, (f : Int) = (m - 1) / 32 := ⟨((m - 1) / 32).toNat, by omega⟩
    obtain ⟨o, ho⟩ : ∃ o : Nat, (o : Int) = (m - 1) % 32 := ⟨((m - 1) % 32).toNat, by omega⟩
    have d1 : (m - 1).tdiv 32 = f := by rw [Int.tdiv_eq_ediv_of_nonneg (by omega)]; exact hf.symm
    have d2 : (m - 1).tmod 32 = o := by rw [Int.tmod_eq_emod_of_nonneg (by omega)]; exact ho.symm
    have Hq : Hid3 (m - 1 = 32 * f + o) := ⟨by omega⟩
    rcases cs with c | c | c | c | c | c | c
    · exact stored_0_1 x rg at_ (m - 1) f o w hx (e7.trans c) m eA h2 hw Hq (by omega) (by omega) d1 d2
    · exact stored_1_1 x rg at_ (m - 1) f o w hx (e7.trans c) m eA h2 hw Hq (by omega) (by omega) d1 d2
    · exact stored_2_1 x rg at_ (m - 1) f o w hx (e7.trans c) m eA h2 hw Hq (by omega) (by omega) d1 d2
    · exact stored_3_1 x rg at_ (m - 1) f o w hx (e7.trans c) m eA h2 hw Hq (by omega) (by omega) d1 d2
    · exact stored_4_1 x rg at_ (m - 1) f o w hx (e7.trans c) m eA h2 hw Hq (by omega) (by omega) d1 d2
    · exact stored_5_1 x rg at_ (m - 1) f o w hx (e7.trans c) m eA h2 hw Hq (by omega) (by omega) d1 d2
    · exact stored_6_1 x rg at_ (m - 1) f o w hx (e7.trans c) m eA h2 hw Hq (by omega) (by omega) d1 d2
  · obtain ⟨f, hf⟩ : ∃ f : Nat, (f : Int) = m / 32 := ⟨(m / 32).toNat, by omega⟩
    obtain ⟨o, ho⟩ : ∃ o : Nat, (o : Int) = m % 32 := ⟨(m % 32).toNat, by omega⟩
    have d1 : m.tdiv 32 = f := by rw [Int.tdiv_eq_ediv_of_nonneg (by omega)]; exact hf.symm
    have d2 : m.tmod 32 = o := by rw [Int.tmod_eq_emod_of_nonneg (by omega)]; exact ho.symm
    have Hq : Hid3 (m = 32 * f + o) := ⟨by omega⟩
    rcases cs with c | c | c | c | c | c | c
    · exact stored_0_0 x rg at_ m f o w hx (e7.trans c) eA Hq (by omega) (by omega) d1 d2
    · exact stored_1_0 x rg at_ m f o w hx (e7.trans c) eA Hq (by omega) (by omega) d1 d2
    · exact stored_2_0 x rg at_ m f o w hx (e7.trans c) eA Hq (by omega) (by omega) d1 d2
    · exact stored_3_0 x rg at_ m f o w hx (e7.trans c) eA Hq (by omega) (by omega) d1 d2
    · exact stored_4_0 x rg at_ m f o w hx (e7.trans c) eA Hq (by omega) (by omega) d1 d2
    · exact stored_5_0 x rg at_ m f o w hx (e7.trans c) eA Hq (by omega) (by omega) d1 d2
    · exact stored_6_0 x rg at_ m f o w hx (e7.trans c) eA Hq (by omega) (by omega) d1 d2
theorem own : ownKnob Try.prog.godebug = none := by kernel_rfl
set_option maxRecDepth 100000 in
theorem topStored_lifted (os : Os) (started : os.Started) (H : Type) (enc : TypeId × Value → H) :
    ReturnsInHanded {} Try.checked os 3 .any (Rows.topStoredSpec.pre6 enc Try.prog Try.f3 Rows.topStoredRow.domain false) (Rows.topStoredSpec.post enc Try.prog Try.f3 false true false false) := by
  refine returnsInHanded_of_change (C := Try.checked) own started (by kernel_rfl) Try.func3
    (ChangeSpec.witness6 (enc := enc) (C := Try.checked) false ⟨#[], #[.int .u16 0, .int .u8 0, .int .u16 0], []⟩ 8 (by kernel_rfl) (by kernel_rfl) (by kernel_rfl) (by kernel_rfl)) ?_
  intro W base args ds gs before hval0 hW hcnd _
  have hval : ∀ (j : Nat) t v, Try.f3.params[j]? = some t → args[j]? = some v → Value.okWide Try.prog W .any base t v := hval0
  have hW' := hW
  obtain ⟨p, q, hA0, hV, rfl, _, _⟩ := hW
  have hA : DataW.TrodAll enc Try.prog W 0 (fun _ => true) true Try.f3.params.toList args.toList ds p := hA0
  rw [Try.params3] at hA hval
  obtain ⟨v0, v1, v2, d0, d1, d2, p0, p1, p2, rfl, rfl, rfl, h0, h1, h2⟩ := trodAll_three hA
  obtain ⟨rfl, rfl⟩ := trodVars_none hV
  obtain ⟨y0, rfl, rfl, rfl, w0⟩ := open_int Try.underlying23 (hval 0 23 v0 rfl rfl) h0
  obtain ⟨y1, rfl, rfl, rfl, w1⟩ := open_int Try.underlying5 (hval 1 5 v1 rfl rfl) h1
  obtain ⟨y2, rfl, rfl, rfl, w2⟩ := open_int Try.underlying22 (hval 2 22 v2 rfl rfl) h2
  have b0 : 0 ≤ y0 ∧ y0 ≤ 65535 := by simpa [Lit.wf, IntKind.min, IntKind.max, IntKind.signed, IntKind.bits] using w0
  have b1 : 0 ≤ y1 ∧ y1 ≤ 255 := by simpa [Lit.wf, IntKind.min, IntKind.max, IntKind.signed, IntKind.bits] using w1
  have b2 : 0 ≤ y2 ∧ y2 ≤ 65535 := by simpa [Lit.wf, IntKind.min, IntKind.max, IntKind.signed, IntKind.bits] using w2
  simp only [List.append_nil] at hW'
  refine (stored_law y0 y1 y2 W b0 b1 b2).mono fun e W' ⟨he, hb⟩ => ?_
  subst he
  exact ⟨_, rfl, _, _, _, [], [], [], hW', trodAll_mk1 (shut_bool Try.underlying4 _), trodAll_mk3 (shut_int Try.underlying23 w0) (shut_int Try.underlying5 w1) (shut_int Try.underlying22 w2), rfl, hb.frame _, fun h => by cases h⟩
theorem topStored_holds : Rows.TopStoredSaid :=
  OpenClaim.holds_of_wide 3 Try.f3 rfl rfl rfl rfl rfl rfl rfl ⟨rfl, rfl, rfl, rfl, rfl⟩ rfl rfl rfl rfl rfl (by kernel_rfl) Try.func3 (by kernel_rfl)
    (of_decide_eq_true (by kernel_rfl)) (by unfold Func.isWrapper; first | (rw [if_pos (by decide +kernel)]; kernel_rfl) | (rw [if_neg (by decide +kernel)]; exact ⟨rfl, rfl⟩))
    (fun os started H enc _ => topStored_lifted os started H enc)
#print axioms topStored_holds
end Go.Proofs.Ytnknhkkhabnnkaa
