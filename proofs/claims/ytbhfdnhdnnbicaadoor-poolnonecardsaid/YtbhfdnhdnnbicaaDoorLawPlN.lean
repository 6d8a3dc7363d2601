/- PoolNone, if a set's list of none is an empty one. -/
import Derived.Test.YtbhfdnhdnnbicaaDoorPlN
import Derived.Test.YtbhfdnhdnnbicaaDoorPlM
namespace Go.Proofs.YtbhfdnhdnnbicaaDoor
open Go.RowKit Go.Maps
set_option linter.unusedVariables false
set_option maxRecDepth 100000
def ListNone : Prop := ∀ w : World, Calls Tryd.prog 29 #[.int .u64 0] w fun r w' => (∃ a cap, r = .returned (.slice a 0 cap)) ∧ Below w.heap.size w w'
theorem nil_Owners (hL : ListNone) (f : Int) (w : World) : Calls Tryd.prog 12 #[.pointer none, .int .u8 f] w fun r w' => (∃ a cap, r = .returned (.slice a 0 cap)) ∧ Below w.heap.size w w' := by
  have cO := nil_owners f w
  have cL := hL w
  clear hL
  go_enter Tryd.func12, Tryd.ntmps12
  go_wp2_with fail
  refine cO.mono ?_
  rintro r w' ⟨rfl, rfl⟩
  clear cO
  go_wp2_with fail
  refine cL.mono ?_
  rintro r W ⟨⟨a, cap, rfl⟩, hB⟩
  have HB := Hid3.mk hB
  clear cL hB
  go_wp2
  go_ret
  exact ⟨⟨a, cap, rfl⟩, HB.out⟩
theorem new_all (n : Int) (w : World) : Calls Tryd.prog 19 #[.int .i64 n] w fun r w' => ∃ p : Option Addr, r = .returned (.pointer p) ∧ (p.isNone = decide (n < 1 ∨ 64 < n)) ∧ Below w.heap.size w w' := by
  by_cases h : n < 1 ∨ 64 < n
  · refine (new_out n h w).mono ?_
    rintro r w' ⟨rfl, rfl⟩
    exact ⟨none, rfl, by rw [decide_eq_true h]; rfl, Below.refl _ _⟩
  · obtain ⟨m, rfl⟩ : ∃ m : Nat, n = (m : Int) := ⟨n.toNat, by omega⟩
    refine (new_in m (by omega) (by omega) w).mono ?_
    rintro r w' ⟨b, fb, rfl, hN⟩
    exact ⟨some _, rfl, by rw [decide_eq_false h]; rfl, hN.bl⟩
structure Pn (w W : World) (x : Nat) (l : List Value) : Prop where
  d : Cl W x 25 l
  bl : Below w.heap.size w W
theorem Pn.low {w W W' : World} {x : Nat} {l : List Value} (h : Pn w W x l) (k : Below W.heap.size W W') : Pn w W' x l := ⟨h.d.below k, h.bl.trans (k.mono h.bl.size)⟩
set_option maxHeartbeats 8000000 in
theorem pnone_law (hL : ListNone) (kd nn : Int) (en to fr : Nat) (s : ByteArray) (rr : Int) (n : Int) (w : World) : Calls Tryd.prog 3 #[.agg #[.int .i64 kd, .int .i64 nn, .int .u8 en, .int .u8 to, .int .u8 fr, .string s, .int .u8 rr], .int .i64 n] w fun r w' => r = .returned (.bool true) ∧ Below w.heap.size w w' := by
  have H0 : Hid3 (Pn w (w.alloc (.cells [.int .i64 kd, .int .i64 nn, .int .u8 en, .int .u8 to, .int .u8 fr, .string s, .int .u8 rr].toArray 25)) w.heap.size [.int .i64 kd, .int .i64 nn, .int .u8 en, .int .u8 to, .int .u8 fr, .string s, .int .u8 rr]) := ⟨⟨Cl.new w _ _, below_new w _⟩⟩
  have cO := fun W => nil_Owners hL fr W
  clear hL
  go_enter Tryd.func3, Tryd.ntmps3
  go_wp2_with fail
  refine (nil_free _ _ _).mono ?_
  rintro r w' ⟨rfl, rfl⟩
  go_wp2_with fail
  refine (nil_repo _ _ _).mono ?_
  rintro r w' ⟨rfl, rfl⟩
  go_wp2_with fail
  refine (nil_guard _ _).mono ?_
  rintro r W1 ⟨rfl, hB⟩
  have H1 := Hid3.mk (H0.out.low hB)
  clear H0 hB
  generalize w.heap.size = xb at *
  have HX := Hid3.mk (below_new W1 (.cells #[.string ⟨#[]⟩, .int .u8 0] 23))
  have H2 : Hid3 (Pn w (W1.alloc (.cells #[.string ⟨#[]⟩, .int .u8 0] 23)) xb [.int .i64 kd, .int .i64 nn, .int .u8 en, .int .u8 to, .int .u8 fr, .string s, .int .u8 rr] ∧ Two (W1.alloc (.cells #[.string ⟨#[]⟩, .int .u8 0] 23)) W1.heap.size 23 (.string ⟨#[]⟩) (.int .u8 0)) := ⟨H1.out.low HX.out, Two.new W1 _ _ _⟩
  have cV := plive_any (W1.alloc (.cells #[.string ⟨#[]⟩, .int .u8 0] 23))
  go_wp2_with fail
  refine cV.mono ?_
  rintro r W3 ⟨rfl, hB⟩
  have H3 : Hid3 (Pn w W3 xb [.int .i64 kd, .int .i64 nn, .int .u8 en, .int .u8 to, .int .u8 fr, .string s, .int .u8 rr] ∧ Two W3 W1.heap.size 23 (.string ⟨#[]⟩) (.int .u8 0)) := ⟨H2.out.1.low hB, H2.out.2.below hB (two_lt H2.out.2)⟩
  clear cV H1 H2 HX hB
  generalize W1.heap.size = cb at *
  have d1 : W3.cell? ⟨xb, 1, none⟩ = some (.int .i64 nn) := H3.out.1.d.cell 1
  have d2 : W3.cell? ⟨xb, 2, none⟩ = some (.int .u8 en) := H3.out.1.d.cell 2
  have d3 : W3.cell? ⟨xb, 3, none⟩ = some (.int .u8 to) := H3.out.1.d.cell 3
  have d4 : W3.cell? ⟨xb, 4, none⟩ = some (.int .u8 fr) := H3.out.1.d.cell 4
  have d5 : W3.cell? ⟨xb, 5, none⟩ = some (.string s) := H3.out.1.d.cell 5
  have d6 : W3.cell? ⟨xb, 6, none⟩ = some (.int .u8 rr) := H3.out.1.d.cell 6
  have k0 := H3.out.2.c0
  have k1 := H3.out.2.c1
  go_wp2_with fail
  refine (nil_quota _ _ _).mono ?_
  rintro r w' ⟨rfl, rfl⟩
  go_wp2_with fail
  refine (nil_grant _ _ _ _ _).mono ?_
  rintro r W4 ⟨rfl, hB⟩
  have H4 : Hid3 (Pn w W4 xb [.int .i64 kd, .int .i64 nn, .int .u8 en, .int .u8 to, .int .u8 fr, .string s, .int .u8 rr] ∧ Two W4 cb 23 (.string ⟨#[]⟩) (.int .u8 0)) := ⟨H3.out.1.low hB, H3.out.2.below hB (two_lt H3.out.2)⟩
  clear H3 hB d1 d2 d3 d4 d5 d6 k0 k1
  have d1 : W4.cell? ⟨xb, 1, none⟩ = some (.int .i64 nn) := H4.out.1.d.cell 1
  have d2 : W4.cell? ⟨xb, 2, none⟩ = some (.int .u8 en) := H4.out.1.d.cell 2
  have d3 : W4.cell? ⟨xb, 3, none⟩ = some (.int .u8 to) := H4.out.1.d.cell 3
  have d4 : W4.cell? ⟨xb, 4, none⟩ = some (.int .u8 fr) := H4.out.1.d.cell 4
  have d5 : W4.cell? ⟨xb, 5, none⟩ = some (.string s) := H4.out.1.d.cell 5
  have d6 : W4.cell? ⟨xb, 6, none⟩ = some (.int .u8 rr) := H4.out.1.d.cell 6
  have k0 := H4.out.2.c0
  have k1 := H4.out.2.c1
  go_wp2_with fail
  refine (nil_share _ _ _ _).mono ?_
  rintro r w' ⟨rfl, rfl⟩
  go_wp2_with fail
  refine (cO _).mono ?_
  rintro r W5 ⟨⟨oa, oc, rfl⟩, hB⟩
  have H5 : Hid3 (Pn w W5 xb [.int .i64 kd, .int .i64 nn, .int .u8 en, .int .u8 to, .int .u8 fr, .string s, .int .u8 rr] ∧ Two W5 cb 23 (.string ⟨#[]⟩) (.int .u8 0)) := ⟨H4.out.1.low hB, H4.out.2.below hB (two_lt H4.out.2)⟩
  clear H4 hB d1 d2 d3 d4 d5 d6 k0 k1
  have d1 : W5.cell? ⟨xb, 1, none⟩ = some (.int .i64 nn) := H5.out.1.d.cell 1
  have d2 : W5.cell? ⟨xb, 2, none⟩ = some (.int .u8 en) := H5.out.1.d.cell 2
  have d3 : W5.cell? ⟨xb, 3, none⟩ = some (.int .u8 to) := H5.out.1.d.cell 3
  have d4 : W5.cell? ⟨xb, 4, none⟩ = some (.int .u8 fr) := H5.out.1.d.cell 4
  have d5 : W5.cell? ⟨xb, 5, none⟩ = some (.string s) := H5.out.1.d.cell 5
  have d6 : W5.cell? ⟨xb, 6, none⟩ = some (.int .u8 rr) := H5.out.1.d.cell 6
  have k0 := H5.out.2.c0
  have k1 := H5.out.2.c1
  go_wp2_with fail
  refine (nil_frames _ _).mono ?_
  rintro r W6 ⟨rfl, hB⟩
  have H6 : Hid3 (Pn w W6 xb [.int .i64 kd, .int .i64 nn, .int .u8 en, .int .u8 to, .int .u8 fr, .string s, .int .u8 rr] ∧ Two W6 cb 23 (.string ⟨#[]⟩) (.int .u8 0)) := ⟨H5.out.1.low hB, H5.out.2.below hB (two_lt H5.out.2)⟩
  clear H5 hB d1 d2 d3 d4 d5 d6 k0 k1
  have d1 : W6.cell? ⟨xb, 1, none⟩ = some (.int .i64 nn) := H6.out.1.d.cell 1
  have d2 : W6.cell? ⟨xb, 2, none⟩ = some (.int .u8 en) := H6.out.1.d.cell 2
  have d3 : W6.cell? ⟨xb, 3, none⟩ = some (.int .u8 to) := H6.out.1.d.cell 3
  have d4 : W6.cell? ⟨xb, 4, none⟩ = some (.int .u8 fr) := H6.out.1.d.cell 4
  have d5 : W6.cell? ⟨xb, 5, none⟩ = some (.string s) := H6.out.1.d.cell 5
  have d6 : W6.cell? ⟨xb, 6, none⟩ = some (.int .u8 rr) := H6.out.1.d.cell 6
  have k0 := H6.out.2.c0
  have k1 := H6.out.2.c1
  go_wp2_with fail
  refine (nil_holds _ _ _).mono ?_
  rintro r w' ⟨rfl, rfl⟩
  go_wp2_with fail
  refine (nil_room _).mono ?_
  rintro r w' ⟨rfl, rfl⟩
  go_wp2_with fail
  refine (nil_events _).mono ?_
  rintro r w' ⟨rfl, rfl⟩
  go_wp2_with fail
  refine (nil_size _).mono ?_
  rintro r w' ⟨rfl, rfl⟩
  go_wp2_with fail
  refine (nil_fork _).mono ?_
  rintro r w' ⟨rfl, rfl⟩
  go_wp2_with fail
  refine (new_all _ _).mono ?_
  rintro r W7 ⟨p, rfl, hp, hB⟩
  have H7 := Hid3.mk (H6.out.1.low hB).bl
  clear H6 hB d1 d2 d3 d4 d5 d6 k0 k1 cO
  by_cases h1 : n < 1
  · rw [decide_eq_true (.inl h1)] at hp
    cases p with
    | some _ => cases hp
    | none =>
      clear hp
      go_wp2
      go_ret
      exact ⟨rfl, H7.out⟩
  · by_cases h2 : 64 < n
    · rw [decide_eq_true (.inr h2)] at hp
      cases p with
      | some _ => cases hp
      | none =>
        clear hp
        go_wp2
        go_ret
        exact ⟨rfl, H7.out⟩
    · rw [decide_eq_false (by omega)] at hp
      cases p with
      | none => cases hp
      | some _ =>
        clear hp
        go_wp2
        go_ret
        exact ⟨by
          show Ending.returned (.bool (!decide (n < 1) && !decide (64 < n))) = _
          rw [decide_eq_false (by omega : ¬ n < 1), decide_eq_false (by omega : ¬ 64 < n)]
          rfl, H7.out⟩
end Go.Proofs.YtbhfdnhdnnbicaaDoor
