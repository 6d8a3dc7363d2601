/- IsaTexts: an instruction as text, what a text says, or the errors: as the document says. -/
import Derived.Test.YteoappoacapdhaaDoorLawIsaUses
import Derived.Test.YteoappoacapdhaaDoorIsaRefX
namespace Go.Proofs.YteoappoacapdhaaDoor
open Go.RowKit
set_option linter.unusedVariables false

theorem txtEV_form (o a b m : Int) : ∃ (t : ByteArray) (e : Int), txtEV o a b m = .tuple #[.string t, .int .i64 e] := by
  unfold txtEV
  split
  · exact ⟨_, _, rfl⟩
  · exact ⟨_, _, rfl⟩
theorem insEV_dec (r : Option (Int × Int × Int × Int)) : insEV r = decEV r := by
  cases r with
  | none => rfl
  | some i => rfl
theorem decEV_form3 (r : Option (Int × Int × Int × Int)) : ∃ d0 d1 d2 d3 de, decEV r = .tuple #[.agg #[.int .u8 d0, .int .u8 d1, .int .u8 d2, .int .u16 d3], .int .i64 de] := by
  cases r with
  | none => exact ⟨0, 0, 0, 0, 3, rfl⟩
  | some i => exact ⟨_, _, _, _, 0, rfl⟩
set_option maxHeartbeats 8000000 in
set_option maxRecDepth 100000 in
theorem itexts_walk (o a b m : Int) (s : ByteArray) (w : World) (hO : InsOk o a b m) (hs : s.size ≤ 9223372036854775807) (hW : Wds w) (hT : Tabs w) (hP : Pow w) (hM : Mx w) :
    Calls Tryd.prog 6 #[.agg #[.int .u8 o, .int .u8 a, .int .u8 b, .int .u16 m], .string s] w fun e w' => e = .returned (.bool true) ∧ Below w.heap.size w w' := by
  have cV := fun w h1 h2 h3 => ilive_any w h1 h2 h3
  have c0 := fun w => ishort_any s w hs
  have c1 := fun w h1 h2 => print_any o a b m w hO h1 h2
  have c2 := fun w => rprint_any o a b m w hO
  have hl : (s.data.toList.take 300).length ≤ 300 := by rw [List.length_take]; omega
  have c3 := fun w h1 h2 => iparse_any (s.data.toList.take 300) w (by omega) h1 h2
  have c4 := fun w h1 h2 => irparse_any (s.data.toList.take 300) w (by omega) h1 h2
  rw [insEV_dec] at c3
  obtain ⟨tx, te, htx⟩ := txtEV_form o a b m
  rw [htx] at c1 c2
  obtain ⟨d0, d1, d2, d3, de, hd⟩ := decEV_form3 (insO (s.data.toList.take 300))
  rw [hd] at c3 c4
  have e0 : shortI s = ⟨(s.data.toList.take 300).toArray⟩ := rfl
  rw [e0] at c0
  clear hd htx hO hl e0
  generalize (⟨(s.data.toList.take 300).toArray⟩ : ByteArray) = ss at *
  have hF := Four.new w (.int .u8 o) (.int .u8 a) (.int .u8 b) (.int .u16 m)
  have b0 : Below w.heap.size w (w.alloc (.cells #[.int .u8 o, .int .u8 a, .int .u8 b, .int .u16 m] 26)) := (Below.refl _ w).alloc (Nat.le_refl _) _
  have hz0 : (w.alloc (.cells #[.int .u8 o, .int .u8 a, .int .u8 b, .int .u16 m] 26)).heap.size = w.heap.size + 1 := by simp
  go_enter Tryd.func6, Tryd.ntmps6
  go_wp2_with fail
  refine (c0 _).mono ?_
  rintro e W0 ⟨rfl, hw⟩
  rw [hw]
  clear hw W0 c0
  go_wp2_with fail
  refine (c1 _ (hW.later b0) (hP.later b0)).mono ?_
  rintro e W1 ⟨rfl, hB1⟩
  rw [hz0] at hB1
  replace hF := hF.below hB1 (by omega)
  have b1 := b0.trans (hB1.mono (by omega))
  have hs1 : w.heap.size < W1.heap.size := (Array.getElem?_eq_some_iff.1 hF).1
  have g0 := hF.c0
  have g1 := hF.c1
  have g2 := hF.c2
  have g3 := hF.c3
  clear c1 hB1 b0 hz0
  go_wp2_with fail
  refine (c2 _).mono ?_
  rintro e W2 ⟨rfl, hB2⟩
  have b2 := b1.trans (hB2.mono b1.size)
  clear c2 hB2 b1 g0 g1 g2 g3 hF
  go_wp2_with fail
  refine (c3 _ (hW.later b2) (hT.later b2)).mono ?_
  rintro e W3 ⟨rfl, hB3⟩
  have hG := Four.new W3 (.int .u8 d0) (.int .u8 d1) (.int .u8 d2) (.int .u16 d3)
  have b3' := b2.trans (hB3.mono b2.size)
  have b3 := b3'.alloc b3'.size (.cells #[.int .u8 d0, .int .u8 d1, .int .u8 d2, .int .u16 d3] 26)
  have hz3 : W3.heap.size < (W3.alloc (.cells #[.int .u8 d0, .int .u8 d1, .int .u8 d2, .int .u16 d3] 26)).heap.size := by simp
  clear c3 hB3 b2
  go_wp2_with fail
  generalize W3.alloc (.cells #[.int .u8 d0, .int .u8 d1, .int .u8 d2, .int .u16 d3] 26) = W4 at *
  refine (c4 _ (hT.later b3) (hM.later b3)).mono ?_
  rintro e W5 ⟨rfl, hB5⟩
  replace hG := (hG.below hB5 hz3).alloc (.cells #[.int .u8 d0, .int .u8 d1, .int .u8 d2, .int .u16 d3] 26)
  have hH := Four.new W5 (.int .u8 d0) (.int .u8 d1) (.int .u8 d2) (.int .u16 d3)
  have b5' := b3.trans (hB5.mono b3.size)
  have b5 := b5'.alloc b5'.size (.cells #[.int .u8 d0, .int .u8 d1, .int .u8 d2, .int .u16 d3] 26)
  have hz5 : W5.heap.size < (W5.alloc (.cells #[.int .u8 d0, .int .u8 d1, .int .u8 d2, .int .u16 d3] 26)).heap.size := by simp
  have hz6 := hB5.size
  clear c4 hB5 b3 b3' b5'
  go_wp2_with fail
  generalize W5.alloc (.cells #[.int .u8 d0, .int .u8 d1, .int .u8 d2, .int .u16 d3] 26) = W6 at *
  refine (cV _ (hW.later b5) (hT.later b5) (hP.later b5)).mono ?_
  rintro e W7 ⟨rfl, hB7⟩
  replace hG := hG.below hB7 (by omega)
  replace hH := hH.below hB7 (by omega)
  have k0 := hG.c0
  have k1 := hG.c1
  have k2 := hG.c2
  have k3 := hG.c3
  have k4 := hH.c0
  have k5 := hH.c1
  have k6 := hH.c2
  have k7 := hH.c3
  have eI : ∀ w, (Op.equalIn 10000 26 (.agg #[.int .u8 d0, .int .u8 d1, .int .u8 d2, .int .u16 d3]) (.agg #[.int .u8 d0, .int .u8 d1, .int .u8 d2, .int .u16 d3])).run Tryd.prog w = .ok true w := fun w => by rw [eqIns]; simp
  have eG := eqGuardI
  go_wp2
  go_ret
  exact ⟨rfl, b5.trans (hB7.mono b5.size)⟩
end Go.Proofs.YteoappoacapdhaaDoor
