/- NameSplits: a name's labels, how many, the name above, one below, or the errors; whether a text may be a label: as the document says. -/
import Derived.Test.YtghbmgionmlejabDoorRefT
namespace Go.Proofs.YtghbmgionmlejabDoor
open Go.RowKit Go.Shelf
set_option linter.unusedVariables false

/-- Whatever a name's labels are, both ways: what they are as values, and the error. -/
theorem split_vals (s : ByteArray) (w : World) (hs : s.size ≤ 1000) :
    Calls Tryd.prog 16 #[.string s] w fun e W' => ∃ a n cap, e = .returned (.tuple #[.slice a n cap, .int .i64 (match splitO s.data.toList with | some _ => 0 | none => 3)]) ∧ Row W' (.slice a n cap) ((splitO s.data.toList).getD []) ∧ Below w.heap.size w W' := by
  cases h : splitO s.data.toList with
  | some ls =>
    refine (split_some s w hs h).mono ?_
    rintro e W' ⟨a, cap, rfl, hown, hB⟩
    exact ⟨a, _, cap, rfl, Row.of_own hown, hB⟩
  | none =>
    refine (split_none s w hs h).mono ?_
    rintro e W' ⟨rfl, hB⟩
    exact ⟨none, 0, 0, rfl, Row.nil _, hB⟩
theorem rsplit_vals (s : ByteArray) (w : World) (hs : s.size ≤ 1000) (hT : NTabs w) :
    Calls Tryd.prog 17 #[.string s] w fun e W' => ∃ a n cap, e = .returned (.tuple #[.slice a n cap, .int .i64 (match splitO s.data.toList with | some _ => 0 | none => 3)]) ∧ Row W' (.slice a n cap) ((splitO s.data.toList).getD []) ∧ Below w.heap.size w W' := by
  cases h : splitO s.data.toList with
  | some ls =>
    refine (rsplit_some s w hs hT h).mono ?_
    rintro e W' ⟨a, cap, rfl, hown, hB⟩
    exact ⟨a, _, cap, rfl, Row.of_own hown, hB⟩
  | none =>
    refine (rsplit_none s w hs hT h).mono ?_
    rintro e W' ⟨rfl, hB⟩
    exact ⟨none, 0, 0, rfl, Row.nil _, hB⟩

set_option maxHeartbeats 4000000 in
theorem splits_walk (n0 n1 : ByteArray) (W : World) (h0 : n0.size ≤ 9223372036854775807) (h1 : n1.size ≤ 9223372036854775807) (hT : NTabs W) :
    Calls Tryd.prog 4 #[.string n0, .string n1] W fun e W' => e = .returned (.bool true) ∧ Below W.heap.size W W' := by
  have c0 := fun w => short_any n0 w
  have c1 := fun w => short_any n1 w
  have s0 := shortS_size n0
  have s1 := shortS_size n1
  generalize shortS n0 = m0 at *
  generalize shortS n1 = m1 at *
  have cA := fun w => split_vals m0 w (by omega)
  have cB := fun w hT => rsplit_vals m0 w (by omega) hT
  have cC := fun w => parent_any m0 w (by omega)
  have cD := fun w hT => rparent_any m0 w (by omega) hT
  have cE := fun w => child_any m0 m1 w (by omega) (by omega)
  have cF := fun w hT => rchild_any m0 m1 w (by omega) (by omega) hT
  have cV := fun w => live2_any w
  have cG := fun w => depth_any m0 w (by omega)
  have cH := fun w hT => rdepth_any m0 w (by omega) hT
  have cI := fun w => label_any m1 w
  have cJ := fun w hT => rlabel_any m1 w (by omega) hT
  have hlen : ((splitO m0.data.toList).getD []).length ≤ 1000 := by
    cases h : splitO m0.data.toList with
    | none => simp
    | some ls => have := (splitO_some h).1; simp; omega
  obtain ⟨o1, o2, hO⟩ : ∃ o1 o2, parentO m0.data.toList = (o1, o2) := ⟨_, _, rfl⟩
  obtain ⟨p1, p2, hP⟩ : ∃ p1 p2, childO m0.data.toList m1.data.toList = (p1, p2) := ⟨_, _, rfl⟩
  rw [hO] at cC cD
  rw [hP] at cE cF
  unfold textV at cC cD cE cF
  simp only at cC cD cE cF
  clear hO hP
  generalize (splitO m0.data.toList).getD [] = LS at *
  generalize (match splitO m0.data.toList with | some _ => (0 : Int) | none => 3) = er at *
  generalize depthN m0.data.toList = dn at *
  generalize labB m1 = lb at *
  have cS := fun u v w ha hb => same_any u v LS LS w ha hb hlen hlen
  rw [decide_eq_true rfl] at cS
  have HS : Hid (∀ u v w, Row w u LS → Row w v LS → Calls Tryd.prog 23 #[u, v] w fun e w' => e = .returned (.bool true) ∧ Below w.heap.size w w') := cS
  clear cS
  go_enter Tryd.func4, Tryd.ntmps4
  go_wp2_with (go_at_call 15; (first | refine (c0 _).mono ?_ | refine (c1 _).mono ?_); rintro e w' ⟨rfl, rfl⟩)
  refine (cA _).mono ?_
  rintro e W1 ⟨a, n, cap, rfl, hR1, hB1⟩
  go_wp2_with fail
  refine (cB _ (hT.later hB1)).mono ?_
  rintro e W2 ⟨a2, n2, cap2, rfl, hR2, hB2⟩
  have hR1' := hR1.below hB2 (Nat.le_refl _)
  have hB2' := hB1.trans (hB2.mono hB1.size)
  clear hR1 hB1 hB2
  go_wp2_with fail
  refine (cC _).mono ?_
  rintro e W3 ⟨rfl, hB3⟩
  have hRa := hR1'.below hB3 (Nat.le_refl _)
  have hRb := hR2.below hB3 (Nat.le_refl _)
  have hB3' := hB2'.trans (hB3.mono hB2'.size)
  clear hR1' hR2 hB3 hB2'
  go_wp2_with fail
  refine (cD _ (hT.later hB3')).mono ?_
  rintro e W4 ⟨rfl, hB4⟩
  have hRc := hRa.below hB4 (Nat.le_refl _)
  have hRd := hRb.below hB4 (Nat.le_refl _)
  have hB4' := hB3'.trans (hB4.mono hB3'.size)
  clear hRa hRb hB4 hB3'
  go_wp2_with fail
  refine (cE _).mono ?_
  rintro e W5 ⟨rfl, hB5⟩
  have hRa := hRc.below hB5 (Nat.le_refl _)
  have hRb := hRd.below hB5 (Nat.le_refl _)
  have hB5' := hB4'.trans (hB5.mono hB4'.size)
  clear hRc hRd hB5 hB4'
  go_wp2_with fail
  refine (cF _ (hT.later hB5')).mono ?_
  rintro e W6 ⟨rfl, hB6⟩
  have hRc := hRa.below hB6 (Nat.le_refl _)
  have hRd := hRb.below hB6 (Nat.le_refl _)
  have hB6' := hB5'.trans (hB6.mono hB5'.size)
  clear hRa hRb hB6 hB5'
  go_wp2_with fail
  refine (cV _).mono ?_
  rintro e W7 ⟨rfl, hB7⟩
  have hRa := hRc.below hB7 (Nat.le_refl _)
  have hRb := hRd.below hB7 (Nat.le_refl _)
  have hB7' := hB6'.trans (hB7.mono hB6'.size)
  clear hRc hRd hB7 hB6'
  go_wp2_with fail
  refine (HS.out _ _ _ hRa hRb).mono ?_
  rintro e W8 ⟨rfl, hB8⟩
  have hB8' := hB7'.trans (hB8.mono hB7'.size)
  clear hB8 hB7' hRa hRb
  go_wp2_with fail
  refine (cG _).mono ?_
  rintro e W9 ⟨rfl, hB9⟩
  have hB9' := hB8'.trans (hB9.mono hB8'.size)
  clear hB9 hB8'
  go_wp2_with fail
  refine (cH _ (hT.later hB9')).mono ?_
  rintro e Wa ⟨rfl, hBa⟩
  have hBa' := hB9'.trans (hBa.mono hB9'.size)
  clear hBa hB9'
  go_wp2_with fail
  refine (cI _).mono ?_
  rintro e Wb ⟨rfl, pos, rfl⟩
  have hBb' := hBa'.trans ((iter_below Wa m1 pos).mono hBa'.size)
  clear hBa'
  generalize Wa.iter m1 pos = Wb at *
  go_wp2_with fail
  refine (cJ _ (hT.later hBb')).mono ?_
  rintro e Wc ⟨rfl, hBc⟩
  have hBc' := hBb'.trans (hBc.mono hBb'.size)
  go_wp2
  go_ret
  exact ⟨rfl, hBc'⟩
end Go.Proofs.YtghbmgionmlejabDoor
