/- The tables out of what the row lists; an instruction as it comes in and goes out. -/
import Derived.Test.YteoappoacapdhaaDoorTie
import Derived.Test.YteoappoacapdhaaDoorIsaS
import Derived.ProofKit
import Derived.OpenShut
import Derived.LaidMore
import Derived.Lay
import Derived.SevenTiedAt
import Derived.Stop.Joined
import Derived.PinnedBridge
import Derived.Lib.LaidU8T
import Derived.Lib.LaidTab
import Derived.Lib.SmallJoins
namespace Go.Proofs.YteoappoacapdhaaDoor
open Go.ChangeShapes Go.WideShapes Go.ChangeAt Go.RowKit Go.ChangeMaps Go.Joins
theorem iown : ownKnob Tryd.prog.godebug = none := by kernel_rfl
theorem iaccept_eq : (Rows.laid_unicode_utf8_acceptRanges : DataW Unit) = Lib.acceptData := by kernel_rfl
theorem ipow_eq : (Rows.laid_internal_strconv_uint64pow10 : DataW Unit) = Lib.tabData .u64 Lib.pow10Tab := by kernel_rfl
theorem iwords_eq : (Rows.laid_embrasure_isa_words : DataW Unit) = .agg (wordsL.map fun x => .lit (.string x)) := by kernel_rfl
/-- An array of texts that reads as these holds them, cell for cell. -/
theorem cells_of_strs {H : Type} {enc : TypeId × Value → H} {P : Program} {w : World} {base : Nat} {sp : Nat → Bool} {held : Bool} {fuel : Nat} {t e : TypeId} {n : Nat} {cs : List Value} {zs : List (List UInt8)} {p : List MemPlace}
    (ht : P.underlying t = some (.array n e)) (he : P.underlying e = some .string) (hce : P.cellsOf e = 1) (hct : P.cellsOf t = n)
    (h : DataW.trod enc P w base sp held fuel t cs = some (.agg (zs.map fun z => .lit (.string z)), p)) : cs = zs.map fun z => Value.string ⟨z.toArray⟩ := by
  cases fuel with
  | zero => simp [DataW.trod] at h
  | succ fuel =>
    simp only [DataW.trod, ht, hce, hct, Nat.mul_one] at h
    split at h
    · rename_i hl
      obtain ⟨xs, hm, hx⟩ := Option.map_eq_some_iff.1 h
      have hxs : xs.map (·.1) = zs.map fun z => (DataW.lit (.string z) : DataW H) := by
        have := congrArg Prod.fst hx
        simpa using this
      have hxl : xs.length = n := by simpa using Lib.mapM_length hm
      have hzl : zs.length = n := by
        have := congrArg List.length hxs
        simp at this
        omega
      apply List.ext_getElem?
      intro i
      by_cases hi : i < n
      · obtain ⟨b, hb, hf⟩ := Lib.mapM_at hm i i (by simp [hi])
        obtain ⟨z, hc, rfl, _⟩ := DataW.trod_string he hf
        have h1 : cs[i]? = some (.string z) := by
          have := congrArg (·[0]?) hc
          simpa [List.getElem?_take, List.getElem?_drop] using this
        have h2 : (xs.map (·.1))[i]? = some (DataW.lit (.string z.data.toList) : DataW H) := by simp [hb]
        rw [hxs] at h2
        simp only [List.getElem?_map, Option.map_eq_some_iff, DataW.lit.injEq, Lit.string.injEq] at h2
        obtain ⟨z', hz', e'⟩ := h2
        simp only [List.getElem?_map, h1, hz', Option.map_some]
        subst e'
        rfl
      · rw [List.getElem?_eq_none (by omega), List.getElem?_eq_none (by simp; omega)]
    · cases h
theorem iwords_at : Tryd.prog.globalNamed "embrasure/isa.words" = some 0 := by kernel_rfl
theorem iwords_ty : (Tryd.prog.globals[0]?).map (·.type) = some 66 := by kernel_rfl
theorem ipow_ty : (Tryd.prog.globals[4]?).map (·.type) = some 118 := by kernel_rfl
theorem itabs_of {W : World} (h : laidMetH Tryd.prog Rows.isaCodesRow.laid W) : Tabs W ∧ Wds W ∧ Pow W := by
  rw [MakeChecks.laidMetH_plain _ _ _ (by kernel_rfl)] at h
  refine ⟨utf8Tabs_of_readsT (U8Types.of196 Tryd.laysValid) ⟨by kernel_rfl, by kernel_rfl, by kernel_rfl, by kernel_rfl, by kernel_rfl, by kernel_rfl, by kernel_rfl⟩ (Pinned.utf8First_eq ▸ Lib.laidMet.reads h (.tail _ (.tail _ (.tail _ (.tail _ (.tail _ (.head _))))))) (iaccept_eq ▸ Lib.laidMet.reads h (.tail _ (.tail _ (.tail _ (.head _))))), ?_, ?_⟩
  · obtain ⟨g, t, cs, fuel, p, hg, ht, hvar, hd⟩ := Lib.laidMet.reads h (.tail _ (.tail _ (.tail _ (.tail _ (.head _)))))
    obtain rfl := Option.some.inj (iwords_at.symm.trans hg)
    obtain rfl := Option.some.inj (iwords_ty.symm.trans ht)
    rw [iwords_eq] at hd
    have hcs := cells_of_strs Tryd.underlying66 Tryd.underlying9 (by kernel_rfl) (by kernel_rfl) hd
    intro k x hx
    have hv := World.var?_cell iwords_at hvar k
    rw [hv, ← Array.getElem?_toList, hcs]
    simp [hx]
  · obtain ⟨g, t, cs, fuel, p, hg, ht, hvar, hd⟩ := Lib.laidMet.reads h (.tail _ (.tail _ (.head _)))
    obtain rfl := Option.some.inj (pow_at.symm.trans hg)
    obtain rfl := Option.some.inj (ipow_ty.symm.trans ht)
    rw [ipow_eq] at hd
    unfold Pow Lib.TabIs
    rw [hvar, ← Lib.cells_of_tab Tryd.underlying118 Tryd.underlying105 (by kernel_rfl) (by kernel_rfl) hd]
section
variable {H : Type} {enc : TypeId × Value → H} {W : World} {base : Nat} {spare : Nat → Bool} {held : Bool}
def insD (o a b m : Int) : DataW H := .agg [.lit (.int .u8 o), .lit (.int .u8 a), .lit (.int .u8 b), .lit (.int .u16 m)]
theorem wf8 {x : Int} (h : (Lit.int .u8 x).wf = true) : 0 ≤ x ∧ x ≤ 255 := by simpa [Lit.wf, IntKind.min, IntKind.max, IntKind.signed, IntKind.bits] using h
theorem wf16 {x : Int} (h : (Lit.int .u16 x).wf = true) : 0 ≤ x ∧ x ≤ 65535 := by simpa [Lit.wf, IntKind.min, IntKind.max, IntKind.signed, IntKind.bits] using h
theorem fw8 {x : Int} (h : 0 ≤ x ∧ x ≤ 255) : (Lit.int .u8 x).wf = true := by simpa [Lit.wf, IntKind.min, IntKind.max, IntKind.signed, IntKind.bits] using h
theorem fw16 {x : Int} (h : 0 ≤ x ∧ x ≤ 65535) : (Lit.int .u16 x).wf = true := by simpa [Lit.wf, IntKind.min, IntKind.max, IntKind.signed, IntKind.bits] using h
set_option maxRecDepth 100000 in
theorem ins_open {r : Reach} {b0 : Nat} {v : Value} {d : DataW H} {p : List MemPlace} (hv : Value.okWide Tryd.prog W r b0 26 v) (h : DataW.Trod enc Tryd.prog W base spare held 26 v d p) :
    ∃ o a b m, v = insV o a b m ∧ d = insD o a b m ∧ p = [] ∧ InsOk o a b m := by
  obtain ⟨v0, v1, v2, v3, y0, y1, y2, y3, n, rfl, rfl, rfl, h0, h1, h2, h3⟩ := open_agg4 Tryd.underlying26 (by kernel_rfl) (by kernel_rfl) hv h
  obtain ⟨o, e0, rfl, w0⟩ := DataW.trod_int Tryd.underlying22 h0
  obtain ⟨a, e1, rfl, w1⟩ := DataW.trod_int Tryd.underlying5 h1
  obtain ⟨b, e2, rfl, w2⟩ := DataW.trod_int Tryd.underlying5 h2
  obtain ⟨m, e3, rfl, w3⟩ := DataW.trod_int Tryd.underlying24 h3
  cases e0
  cases e1
  cases e2
  cases e3
  exact ⟨o, a, b, m, rfl, rfl, rfl, (wf8 w0).1, (wf8 w0).2, (wf8 w1).1, (wf8 w1).2, (wf8 w2).1, (wf8 w2).2, (wf16 w3).1, (wf16 w3).2⟩
set_option maxRecDepth 100000 in
theorem ins_shut (o a b m : Int) (hO : InsOk o a b m) : DataW.Trod enc Tryd.prog W base spare held 26 (insV o a b m) (insD o a b m) [] := by
  obtain ⟨o1, o2, a1, a2, b1, b2, m1, m2⟩ := hO
  obtain ⟨m0, t0⟩ := shut_int (enc := enc) (w := W) (base := base) (spare := spare) (held := held) Tryd.underlying22 (fw8 ⟨o1, o2⟩)
  obtain ⟨m1', t1⟩ := shut_int (enc := enc) (w := W) (base := base) (spare := spare) (held := held) Tryd.underlying5 (fw8 ⟨a1, a2⟩)
  obtain ⟨m2', t2⟩ := shut_int (enc := enc) (w := W) (base := base) (spare := spare) (held := held) Tryd.underlying5 (fw8 ⟨b1, b2⟩)
  obtain ⟨m3, t3⟩ := shut_int (enc := enc) (w := W) (base := base) (spare := spare) (held := held) Tryd.underlying24 (fw16 ⟨m1, m2⟩)
  exact shut_agg4 (y0 := (_, [])) (y1 := (_, [])) (y2 := (_, [])) (y3 := (_, [])) Tryd.underlying26 (by kernel_rfl) (by kernel_rfl) ⟨m0, t0⟩ ⟨m1', t1⟩ ⟨m2', t2⟩ ⟨m3, t3⟩
end
end Go.Proofs.YteoappoacapdhaaDoor
