/- IsaUses: what an operation has, its word, the operation of a word: as the document says. -/
import Derived.Test.YteoappoacapdhaaDoorIsaL
import Derived.Test.YteoappoacapdhaaDoorIsaRefW
namespace Go.Proofs.YteoappoacapdhaaDoor
open Go.RowKit
set_option linter.unusedVariables false

def shortI (s : ByteArray) : ByteArray := ⟨(s.data.toList.take 300).toArray⟩
set_option maxRecDepth 100000 in
theorem ishort_any (s : ByteArray) (w : World) (hs : s.size ≤ 9223372036854775807) :
    Calls Tryd.prog 22 #[.string s] w fun e w' => e = .returned (.string (shortI s)) ∧ w' = w := by
  by_cases h : 300 < s.size
  · have h1 : (300 : Int) < (s.size : Int) := by omega
    have h2 : (300 : Int) ≤ (s.size : Int) := by omega
    have e : s.extract 0 300 = shortI s := by
      rw [extract_mkW s 0 300 (by omega)]
      rfl
    go_enter Tryd.func22, Tryd.ntmps22
    go_wp2
    go_ret
    exact ⟨by rw [← e]; rfl, rfl⟩
  · have h1 : ¬ (300 : Int) < (s.size : Int) := by omega
    have e : Hid (s = shortI s) := by
      show _ = _
      unfold shortI
      rw [List.take_of_length_le (by rw [← Lib.size_eq]; omega)]
    go_enter Tryd.func22, Tryd.ntmps22
    go_wp2
    go_ret
    exact ⟨by rw [← e.out]; rfl, rfl⟩
set_option maxHeartbeats 8000000 in
set_option maxRecDepth 100000 in
theorem iuses_of (o : Int) (s : ByteArray) (ss t : List UInt8) (n r : Int) (is has : Bool) (ua ub um : Bool) (w : World) (h0 : 0 ≤ o) (h255 : o ≤ 255)
    (ho : (¬ 23 < o ∧ (t == []) = false ∧ r = o ∧ has = true) ∨ (23 < o ∧ t = [] ∧ has = false))
    (hW : Wds w) (hT : Tabs w) (hP : Pow w)
    (c0 : ∀ w, Calls Tryd.prog 22 #[.string s] w fun e w' => e = .returned (.string ⟨ss.toArray⟩) ∧ w' = w)
    (c1 : ∀ w, Calls Tryd.prog 23 #[.int .u8 o] w fun e w' => e = .returned (.tuple #[.bool ua, .bool ub, .bool um]) ∧ w' = w)
    (c2 : ∀ w, Calls Tryd.prog 24 #[.int .u8 o] w fun e w' => e = .returned (.tuple #[.bool ua, .bool ub, .bool um]) ∧ w' = w)
    (c3 : ∀ w, Wds w → Calls Tryd.prog 25 #[.string ⟨ss.toArray⟩] w fun e w' => e = .returned (.tuple #[.int .u8 n, .bool is]) ∧ Below w.heap.size w w')
    (c4 : ∀ w, Calls Tryd.prog 26 #[.string ⟨ss.toArray⟩] w fun e w' => e = .returned (.tuple #[.int .u8 n, .bool is]) ∧ Below w.heap.size w w')
    (c5 : ∀ w, Wds w → Calls Tryd.prog 27 #[.int .u8 o] w fun e w' => e = .returned (.string ⟨t.toArray⟩) ∧ w' = w)
    (c6 : ∀ w, Wds w → Calls Tryd.prog 25 #[.string ⟨t.toArray⟩] w fun e w' => e = .returned (.tuple #[.int .u8 r, .bool has]) ∧ Below w.heap.size w w')
    (c7 : ∀ w, Calls Tryd.prog 28 #[.int .u8 o] w fun e w' => e = .returned (.string ⟨t.toArray⟩) ∧ Below w.heap.size w w') :
    Calls Tryd.prog 5 #[.int .u8 o, .string s] w fun e w' => e = .returned (.bool true) ∧ Below w.heap.size w w' := by
  have cV := fun w h1 h2 h3 => ilive_any w h1 h2 h3
  rcases ho with ⟨q1, q2, rfl, rfl⟩ | ⟨q1, rfl, rfl⟩
  all_goals
    go_enter Tryd.func5, Tryd.ntmps5
    go_wp2_with fail
    refine (c0 _).mono ?_
    rintro e W0 ⟨rfl, hw⟩
    rw [hw]
    clear hw W0
    go_wp2_with fail
    refine (c1 _).mono ?_
    rintro e W0 ⟨rfl, hw⟩
    rw [hw]
    clear hw W0
    go_wp2_with fail
    refine (c2 _).mono ?_
    rintro e W0 ⟨rfl, hw⟩
    rw [hw]
    clear hw W0
    go_wp2_with fail
    refine (c3 _ hW).mono ?_
    rintro e W1 ⟨rfl, b1⟩
    go_wp2_with fail
    refine (c4 _).mono ?_
    rintro e W2 ⟨rfl, hB2⟩
    have b2 := b1.trans (hB2.mono b1.size)
    go_wp2_with fail
    refine (c5 _ (hW.later b2)).mono ?_
    rintro e W0 ⟨rfl, hw⟩
    rw [hw]
    clear hw W0
    go_wp2_with fail
    refine (c6 _ (hW.later b2)).mono ?_
    rintro e W3 ⟨rfl, hB3⟩
    have b3 := b2.trans (hB3.mono b2.size)
    clear c0 c1 c2 c3 c4 c5 c6 b1 b2 hB2 hB3
    go_wp2_with fail
    refine (cV _ (hW.later b3) (hT.later b3) (hP.later b3)).mono ?_
    rintro e W4 ⟨rfl, hB4⟩
    have b4 := b3.trans (hB4.mono b3.size)
    clear cV hB4 b3
    go_wp2_with fail
    refine (c7 _).mono ?_
    rintro e W5 ⟨rfl, hB5⟩
    have b5 := b4.trans (hB5.mono b4.size)
    go_wp2
    go_ret
    refine ⟨?_, b5⟩
    first
      | rfl
      | (simp; omega)
theorem iuses_walk (o : Int) (s : ByteArray) (w : World) (h0 : 0 ≤ o) (h255 : o ≤ 255) (hs : s.size ≤ 9223372036854775807) (hW : Wds w) (hT : Tabs w) (hP : Pow w) :
    Calls Tryd.prog 5 #[.int .u8 o, .string s] w fun e w' => e = .returned (.bool true) ∧ Below w.heap.size w w' := by
  refine iuses_of o s (s.data.toList.take 300) (wordT o) (opN (s.data.toList.take 300)) (opN (wordT o)) (opO (s.data.toList.take 300)).isSome (opO (wordT o)).isSome (useA o) (useB o) (useM o) w h0 h255 ?_ hW hT hP
    (fun w => ishort_any s w hs) (fun w => uses_any o w h0 h255) (fun w => ruses_any o w h0 h255) (fun w h => readw_any ⟨(s.data.toList.take 300).toArray⟩ w (by show (s.data.toList.take 300).length ≤ _; rw [List.length_take]; omega) h) (fun w => rreadw_any _ w)
    (fun w h => word_any o w h0 h) (fun w h => readw_any ⟨(wordT o).toArray⟩ w (by show (wordT o).length ≤ _; have := word_len o; omega) h) (fun w => rword_any o w h0 h255)
  by_cases h : o ≤ 23
  · refine .inl ⟨by omega, by rw [beq_eq_false_iff_ne]; exact word_some o h0 h, ?_, ?_⟩
    · unfold opN
      rw [word_op o h0 h]
      show ((o.toNat : Nat) : Int) = o
      omega
    · rw [word_op o h0 h]; rfl
  · refine .inr ⟨by omega, word_none o (by omega), ?_⟩
    rw [word_none o (by omega)]
    decide +kernel
end Go.Proofs.YteoappoacapdhaaDoor
