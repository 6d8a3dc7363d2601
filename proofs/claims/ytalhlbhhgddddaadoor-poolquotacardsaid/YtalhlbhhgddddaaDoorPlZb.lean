/- The program's pool: Owners, Frames, Room as rows. -/
import Derived.Test.YtalhlbhhgddddaaDoorPlZa
namespace Go.Proofs.YtalhlbhhgddddaaDoor
open Go.RowKit Go.Maps
set_option linter.unusedVariables false
set_option maxRecDepth 100000
theorem room1_any (s : Nat) (w : World) : Calls Tryd.prog 52 #[.int .u64 s] w fun r w' => r = .returned (.bool (decide (s = 0))) ∧ w' = w := by
  have hz : ((s : Int) == 0) = decide (s = 0) := by
    by_cases h : s = 0
    · subst h; rfl
    · rw [decide_eq_false h]; simpa using h
  generalize decide (s = 0) = z at *
  go_enter Tryd.func52, Tryd.ntmps52
  go_wp2
  go_ret
  exact ⟨rfl, rfl⟩
set_option maxHeartbeats 4000000 in
theorem room_those (B b fb n : Nat) (v : Value) (q : Ps) (w : World) (h : Pl B w b fb n v q) : Calls Tryd.prog 51 #[.pointer (some ⟨b, 0, none⟩), .func (.func 52) #[] #[]] w fun r w' => r = .returned (.int .u64 (roomN q.O n)) ∧ Below w.heap.size w w' := by
  have c0 := h.cells.1
  have hb := h.c.lt
  have HP := Hid3.mk h
  clear h
  go_enter Tryd.func51, Tryd.ntmps51
  go_wp2_with fail
  go_loopw [5, 13] (fun s5 s13 wr => ∃ k : Nat, k ≤ n ∧ s13 = .int .i64 k ∧ s5 = .int .u64 (roomN q.O k) ∧ Hid3 (Below w.heap.size w wr)) (fun _ s _ => n - (intOf s).toNat)
  case atStart => exact ⟨0, Nat.zero_le _, rfl, rfl, ⟨Below.refl _ _⟩⟩
  case round =>
    obtain ⟨k, hk, rfl, rfl, HB⟩ := hrel
    by_cases hlt : k < n
    · have hltz : (k : Int) < (n : Int) := by omega
      have hn9 := HP.out.n9
      have hP := HP.out.low HB.out
      obtain ⟨f0, f1, f2⟩ := hP.f.at k hlt
      have hfl := hP.f.lt
      have ho := hP.o k hlt
      have hE : roomN q.O (k + 1) = if (q.O k) = 0 then roomN q.O k ||| 2 ^ k else roomN q.O k := rfl
      have hh := roomN_lt q.O k
      have hp2 : 2 ^ k ≤ 2 ^ 9 := Nat.pow_le_pow_right (by omega) (by omega)
      have hor := bits_or_u64_nat (roomN q.O k) (powZ k) (by omega) (powZ_lt k)
      have hpz : powZ k = 2 ^ k := by unfold powZ; rw [if_pos (by omega)]
      have cO := fun W => of_all k W
      have hwk : IntKind.u8.wrap (k : Int) = (k : Int) := by rw [IntKind.wrap_u8]; omega
      have hwi : IntKind.i64.wrap ((k : Int) + 1) = ((k + 1 : Nat) : Int) := by rw [IntKind.wrap_i64]; omega
      have HX := Hid3.mk (HB.out.alloc HB.out.size (.cells #[.int .u64 (q.O k), .string (q.G k).1, .int .u8 (q.G k).2] 78))
      have cF := room1_any (q.O k) (wr.alloc (.cells #[.int .u64 (q.O k), .string (q.G k).1, .int .u8 (q.G k).2] 78))
      rw [hpz] at hor cO
      have HE := Hid3.mk hE
      generalize q.O k = ok at *
      generalize (q.G k).1 = gk at *
      generalize (q.G k).2 = rk at *
      clear hP hE hpz hp2 hh
      generalize roomN q.O k = hk0 at *
      generalize 2 ^ k = pk at *
      by_cases ht : ok = 0
      · rw [decide_eq_true ht] at cF
        have HE2 : Hid3 (roomN q.O (k + 1) = hk0 ||| pk) := ⟨by rw [HE.out, if_pos ht]⟩
        clear ht HE
        generalize hk0 ||| pk = hk1 at *
        go_wp2_with fail
        refine cF.mono ?_
        rintro r w' ⟨rfl, rfl⟩
        clear cF
        go_wp2_with fail
        refine (cO _).mono ?_
        rintro r w' ⟨rfl, rfl⟩
        clear cO
        go_wp2
        go_roundw
        case rel => exact ⟨k + 1, by omega, by go_num, by rw [HE2.out], HX⟩
        case measure => simp [intOf]; omega
      · rw [decide_eq_false ht] at cF
        have HE2 : Hid3 (roomN q.O (k + 1) = hk0) := ⟨by rw [HE.out, if_neg ht]⟩
        clear ht HE hor
        go_wp2_with fail
        refine cF.mono ?_
        rintro r w' ⟨rfl, rfl⟩
        clear cF
        go_wp2
        go_roundw
        case rel => exact ⟨k + 1, by omega, by go_num, by rw [HE2.out], HX⟩
        case measure => simp [intOf]; omega
    · obtain rfl : k = n := by omega
      go_wp2
      go_ret
      exact ⟨rfl, HB.out⟩
theorem own_base {w : World} {B B' t size n : Nat} {v : Value} {xs : List Value} (h : w.ownsRow B t size v n xs) (hB : B' ≤ B) : w.ownsRow B' t size v n xs := by
  refine ⟨h.1, ?_⟩
  rcases h.2 with h0 | ⟨g, cap, cur, h1, h2, h3⟩
  · exact .inl h0
  · exact .inr ⟨g, cap, cur, h1, Nat.le_trans hB h2, h3⟩
/-- A world above another one whose tables lie. -/
def Tbs (B : Nat) (w : World) : Prop := ∀ W, Below B w W → TzTab W
set_option maxHeartbeats 1000000 in
theorem owners_nr (B b fb : Nat) (v : Value) (q : Ps) (f : Nat) (hf : f ≤ 255) (w : World) (h : Pl B w b fb 8 v q) (hT : TzTab w) : Calls Tryd.prog 21 #[.pointer (some ⟨b, 0, none⟩), .int .u8 f] w fun r w' => ∃ u, r = .returned u ∧ NR w w' u (bitsL (oF 8 q f)) := by
  have cO := owners_any B b fb 8 v q f hf w h
  have cL := list_any (oF 8 q f) (by have := oF_lt h f; omega) w hT
  generalize bitsL (oF 8 q f) = BL at *
  generalize oF 8 q f = o at *
  clear h
  go_enter Tryd.func21, Tryd.ntmps21
  go_wp2_with fail
  refine cO.mono ?_
  rintro r w' ⟨rfl, hW⟩
  rw [hW]
  clear cO hW
  go_wp2_with fail
  refine cL.mono ?_
  rintro r W ⟨u, rfl, h1, h2⟩
  have HH : Hid3 (NR w W u BL) := ⟨⟨h1, h2⟩⟩
  clear cL h1 h2
  go_wp2
  go_ret
  exact ⟨u, rfl, HH.out⟩
set_option maxHeartbeats 1000000 in
theorem frames_nr (B b fb : Nat) (v : Value) (q : Ps) (e : Nat) (w : World) (h : Pl B w b fb 8 v q) (hT : TzTab w) : Calls Tryd.prog 14 #[.pointer (some ⟨b, 0, none⟩), .int .u8 e] w fun r w' => ∃ u, r = .returned u ∧ NR w w' u (bitsL (heldN q.O e 8)) := by
  have cO := held_any B b fb 8 v q e w h
  have HL : Hid3 (∀ W, Below w.heap.size w W → Calls Tryd.prog 43 #[.int .u64 (heldN q.O e 8)] W fun r w' => ∃ v, r = .returned v ∧ w'.ownsRow W.heap.size 5 1 v (bitsL (heldN q.O e 8)).length ((bitsL (heldN q.O e 8)).map u8V) ∧ Below W.heap.size W w') := ⟨fun W hW => list_any _ (by have := heldN_256 q.O e; omega) W (hT.low hW)⟩
  generalize bitsL (heldN q.O e 8) = BL at *
  generalize heldN q.O e 8 = o at *
  clear h hT
  go_enter Tryd.func14, Tryd.ntmps14
  go_wp2_with fail
  refine cO.mono ?_
  rintro r W1 ⟨rfl, hb⟩
  have HB := Hid3.mk hb
  have cL := HL.out W1 hb
  clear cO hb HL
  go_wp2_with fail
  refine cL.mono ?_
  rintro r W ⟨u, rfl, h1, h2⟩
  have HH : Hid3 (NR w W u BL) := ⟨⟨own_base h1 HB.out.size, HB.out.trans (h2.mono HB.out.size)⟩⟩
  clear cL h1 h2
  go_wp2
  go_ret
  exact ⟨u, rfl, HH.out⟩
set_option maxHeartbeats 1000000 in
theorem room_nr (B b fb : Nat) (v : Value) (q : Ps) (w : World) (h : Pl B w b fb 8 v q) (hT : TzTab w) : Calls Tryd.prog 23 #[.pointer (some ⟨b, 0, none⟩)] w fun r w' => ∃ u, r = .returned u ∧ NR w w' u (bitsL (roomN q.O 8)) := by
  have cO := room_those B b fb 8 v q w h
  have HL : Hid3 (∀ W, Below w.heap.size w W → Calls Tryd.prog 43 #[.int .u64 (roomN q.O 8)] W fun r w' => ∃ v, r = .returned v ∧ w'.ownsRow W.heap.size 5 1 v (bitsL (roomN q.O 8)).length ((bitsL (roomN q.O 8)).map u8V) ∧ Below W.heap.size W w') := ⟨fun W hW => list_any _ (by have := roomN_lt q.O 8; omega) W (hT.low hW)⟩
  generalize bitsL (roomN q.O 8) = BL at *
  generalize roomN q.O 8 = o at *
  clear h hT
  go_enter Tryd.func23, Tryd.ntmps23
  go_wp2_with fail
  refine cO.mono ?_
  rintro r W1 ⟨rfl, hb⟩
  have HB := Hid3.mk hb
  have cL := HL.out W1 hb
  clear cO hb HL
  go_wp2_with fail
  refine cL.mono ?_
  rintro r W ⟨u, rfl, h1, h2⟩
  have HH : Hid3 (NR w W u BL) := ⟨⟨own_base h1 HB.out.size, HB.out.trans (h2.mono HB.out.size)⟩⟩
  clear cL h1 h2
  go_wp2
  go_ret
  exact ⟨u, rfl, HH.out⟩
end Go.Proofs.YtalhlbhhgddddaaDoor
