/- A pool of two frames of which one is handed round (TopHanded). -/
import Derived.Test.YtjfphdhapopkaaaDoorPlR
namespace Go.Proofs.YtjfphdhapopkaaaDoor
open Go.RowKit Go.Maps
set_option linter.unusedVariables false
set_option maxRecDepth 100000
structure Th (w W : World) (b fb o m : Nat) : Prop where
  ex : ∃ v q, Lv w W b fb 2 v q ∧ q.O 0 = 0 ∧ q.O 1 = o ∧ q.E.length = m ∧ q.M = mayK 2 6
theorem Th.bl {w W : World} {b fb o m : Nat} (h : Th w W b fb o m) : Below w.heap.size w W := by
  obtain ⟨v, q, h1, _⟩ := h.ex
  exact h1.bl
theorem Th.low {w W W' : World} {b fb o m : Nat} (h : Th w W b fb o m) (k : Below W.heap.size W W') : Th w W' b fb o m := by
  obtain ⟨v, q, h1, h2⟩ := h.ex
  exact ⟨v, q, h1.low k, h2⟩
theorem Th.lt {w W : World} {b fb o m : Nat} (h : Th w W b fb o m) : o < 64 := by
  obtain ⟨v, q, h1, _, h2, _⟩ := h.ex
  rw [← h2]
  exact h1.p.o 1 (by omega)
theorem th_holds (b fb o m e : Nat) (w W : World) (h : Th w W b fb o m) : Calls Tryd.prog 7 #[.pointer (some ⟨b, 0, none⟩), .int .u8 e, .int .u8 1] W fun r w' => r = .returned (.bool (o.testBit e)) ∧ w' = W := by
  obtain ⟨v, q, h1, _, h2, _⟩ := h.ex
  have := holds_any w.heap.size b fb 2 v q e 1 (by omega) W h1.p
  rw [show oF 2 q 1 = o by unfold oF; rw [if_pos (by omega), h2]] at this
  exact this
theorem th_free_no (b fb o m e : Nat) (he : e < 6) (hb : o.testBit e = false) (hm : m ≤ 1000) (w W : World) (h : Th w W b fb o m) : Calls Tryd.prog 8 #[.pointer (some ⟨b, 0, none⟩), .int .u8 e, .int .u8 1] W fun r w' => r = .returned (.tuple #[.bool false, .int .i64 7]) ∧ Th w w' b fb o m := by
  obtain ⟨v, q, h1, h0, h2, h3, h4⟩ := h.ex
  have c := free_any w.heap.size b fb 2 v q e 1 W h1.p (by omega) (by omega) h1.bl.size
  have ho : oF 2 q 1 = o := by unfold oF; rw [if_pos (by omega), h2]
  have hE : hadE 2 q e 1 = 7 := by unfold hadE; rw [if_neg (by omega), ho, if_pos hb]
  unfold frB frQ at c
  rw [hE, if_neg (by decide), if_neg (by decide)] at c
  refine c.mono ?_
  rintro r w' ⟨hr, hs⟩
  obtain ⟨v', hv'⟩ := h1.step hs
  exact ⟨hr, ⟨v', q, hv', h0, h2, h3, h4⟩⟩
theorem th_free_ok (b fb o m e : Nat) (he : e < 6) (hb : o.testBit e = true) (hm : m ≤ 1000) (w W : World) (h : Th w W b fb o m) : Calls Tryd.prog 8 #[.pointer (some ⟨b, 0, none⟩), .int .u8 e, .int .u8 1] W fun r w' => r = .returned (.tuple #[.bool (decide (clr o e = 0)), .int .i64 0]) ∧ Th w w' b fb (clr o e) (m + 1) := by
  obtain ⟨v, q, h1, h0, h2, h3, h4⟩ := h.ex
  have c := free_any w.heap.size b fb 2 v q e 1 W h1.p (by omega) (by omega) h1.bl.size
  have ho : oF 2 q 1 = o := by unfold oF; rw [if_pos (by omega), h2]
  have hE : hadE 2 q e 1 = 0 := by unfold hadE; rw [if_neg (by omega), ho, if_neg (by rw [hb]; decide)]
  unfold frB frQ at c
  rw [hE, if_pos rfl, if_pos rfl, h2] at c
  refine c.mono ?_
  rintro r w' ⟨hr, hs⟩
  obtain ⟨v', hv'⟩ := h1.step hs
  refine ⟨hr, ⟨v', _, hv', ?_, ?_, ?_, h4⟩⟩
  · show updN q.O 1 (clr (q.O 1) e) 0 = 0
    unfold updN
    rw [if_neg (by omega)]
    exact h0
  · show updN q.O 1 (clr (q.O 1) e) 1 = clr o e
    unfold updN
    rw [if_pos rfl, h2]
  · show (q.E ++ [((3 : Int), (e : Int), ((1 : Nat) : Int))]).length = m + 1
    rw [List.length_append, h3]
    rfl
set_option maxHeartbeats 1000000 in
theorem th_owners (b fb o m : Nat) (w W : World) (h : Th w W b fb o m) (hT : TzTab W) : Calls Tryd.prog 9 #[.pointer (some ⟨b, 0, none⟩), .int .u8 1] W fun r w' => (∃ a cap, r = .returned (.slice a (pop9 o) cap)) ∧ Below W.heap.size W w' := by
  have hlt := h.lt
  obtain ⟨v, q, h1, h0, h2, _⟩ := h.ex
  have cO := owners_any w.heap.size b fb 2 v q 1 (by omega) W h1.p
  rw [show oF 2 q 1 = o by unfold oF; rw [if_pos (by omega), h2]] at cO
  have cL := list_any o (by omega) W hT
  rw [bitsL_len o (by omega)] at cL
  clear h h1 h0 h2 hT
  change Calls _ _ #[_, .int .u8 1] _ _ at cO
  go_enter Tryd.func9, Tryd.ntmps9
  go_wp2_with fail
  refine cO.mono ?_
  rintro r w' ⟨rfl, rfl⟩
  clear cO
  go_wp2_with fail
  refine cL.mono ?_
  rintro r W2 ⟨v', rfl, hown, hB⟩
  obtain ⟨a, cap, rfl⟩ : ∃ a cap, v' = .slice a (pop9 o) cap := by
    rcases hown.2 with ⟨hv0, hk0⟩ | ⟨g, cap, cur, hv0, _⟩
    · exact ⟨none, 0, by rw [hk0]; exact hv0⟩
    · exact ⟨_, _, hv0⟩
  have HB := Hid3.mk hB
  clear cL hown hB
  go_wp2
  go_ret
  exact ⟨⟨a, cap, rfl⟩, HB.out⟩
theorem pop_clr : ∀ o : Nat, o < 64 → ∀ e : Nat, e < 6 → o.testBit e = true → pop9 (clr o e) + 1 = pop9 o := by decide +kernel
theorem pop_zero : ∀ o : Nat, o < 64 → (pop9 o = 0 ↔ o = 0) := by decide +kernel
theorem held_two (O : Nat → Nat) (e : Nat) (h0 : O 0 = 0) (h1 : (O 1).testBit e = false) : heldN O e 2 = 0 := by
  simp [heldN, h0, h1]
theorem sh_bits : ∀ k : Nat, k < 6 → (2 ^ k - 1).testBit k = false ∧ (k ≠ 0 → (2 ^ k - 1).testBit (k - 1) = true) ∧ (2 ^ k - 1 ||| 2 ^ k) = 2 ^ (k + 1) - 1 := by decide +kernel
theorem full_two (q : Ps) (k : Nat) (hk : k < 6) (h0 : q.O 0 = 0) (h1 : (q.O 1).testBit k = false) (h4 : q.M = mayK 2 6) : fullN 2 q k = false := by
  unfold fullN MN
  rw [dif_pos hk, held_two q.O k h0 h1, h4]
  unfold mayK
  rw [if_pos hk]
  decide
theorem give_th {w W W' : World} {b fb o m : Nat} {v : Value} {q q2 : Ps} (kd : Int) (e : Nat) (h1 : Lv w W b fb 2 v q) (h0 : q.O 0 = 0) (h2 : q.O 1 = o) (h3 : q.E.length = m) (h4 : q.M = mayK 2 6) (e1 : q2.O = q.O) (e2 : q2.E = q.E) (e3 : q2.M = q.M) (hs : PStp w.heap.size W W' b fb 2 v (giveQ kd e 1 q2)) : Th w W' b fb (o ||| 2 ^ e) (m + 1) := by
  obtain ⟨v', hv'⟩ := h1.step hs
  refine ⟨v', _, hv', ?_, ?_, ?_, ?_⟩
  · show updN q2.O 1 (q2.O 1 ||| 2 ^ e) 0 = 0
    unfold updN
    rw [if_neg (by omega), e1]
    exact h0
  · show updN q2.O 1 (q2.O 1 ||| 2 ^ e) 1 = o ||| 2 ^ e
    unfold updN
    rw [if_pos rfl, e1, h2]
  · show (q2.E ++ [(kd, (e : Int), ((1 : Nat) : Int))]).length = m + 1
    rw [List.length_append, e2, h3]
    rfl
  · show q2.M = mayK 2 6
    rw [e3, h4]
theorem th_share (b fb k : Nat) (hk : k < 6) (hk0 : k ≠ 0) (w W : World) (h : Th w W b fb (2 ^ k - 1) k) : Calls Tryd.prog 6 #[.pointer (some ⟨b, 0, none⟩), .int .u8 ((k - 1 : Nat) : Int), .int .u8 k, .int .u8 1] W fun r w' => r = .returned (.int .i64 0) ∧ Th w w' b fb (2 ^ (k + 1) - 1) (k + 1) := by
  obtain ⟨v, q, h1, h0, h2, h3, h4⟩ := h.ex
  obtain ⟨s1, s2, s3⟩ := sh_bits k hk
  have c := share_any w.heap.size b fb 2 v q (k - 1) k 1 W h1.p (by omega) (by omega) h1.bl.size
  have ho : oF 2 q 1 = 2 ^ k - 1 := by unfold oF; rw [if_pos (by omega), h2]
  have hf := full_two q k hk h0 (by rw [h2]; exact s1) h4
  have hE : shE 2 q (k - 1) k 1 = 0 := by
    unfold shE
    rw [if_neg (by omega), ho, if_neg (by rw [s2 hk0]; decide), if_neg (by rw [s1]; decide), if_neg (by rw [hf]; decide)]
  unfold shQ at c
  rw [hE, if_pos rfl] at c
  refine c.mono ?_
  rintro r w' ⟨hr, hs⟩
  have := give_th 2 k h1 h0 h2 h3 h4 rfl rfl rfl hs
  rw [s3] at this
  exact ⟨hr, this⟩
theorem th_grant (b fb : Nat) (w W : World) (h : Th w W b fb 0 0) : Calls Tryd.prog 5 #[.pointer (some ⟨b, 0, none⟩), .int .u8 0, .int .u8 1, .agg #[.string ⟨#[47, 97]⟩, .int .u8 0]] W fun r w' => r = .returned (.int .i64 0) ∧ Th w w' b fb 1 1 := by
  obtain ⟨v, q, h1, h0, h2, h3, h4⟩ := h.ex
  have c := grant_any w.heap.size b fb 2 v q 0 1 (⟨#[47, 97]⟩, 0) W h1.p (by omega) (by decide) (by omega) h1.bl.size
  have hf := full_two q 0 (by omega) h0 (by rw [h2]; rfl) h4
  have hE : grE 2 q 0 1 (⟨#[47, 97]⟩, 0) = 0 := by
    unfold grE
    rw [if_neg (by omega), if_neg (by decide +kernel), if_neg (by rw [h2]; decide), if_neg (by rw [hf]; decide)]
  unfold grQ at c
  rw [hE, if_pos rfl] at c
  refine c.mono ?_
  rintro r w' ⟨hr, hs⟩
  exact ⟨hr, give_th (q2 := ⟨q.O, updN q.G 1 (⟨#[47, 97]⟩, 0), q.M, q.E⟩) 1 0 h1 h0 h2 h3 h4 rfl rfl rfl hs⟩
theorem th_new (w : World) : Calls Tryd.prog 4 #[.int .i64 2] w fun r w' => ∃ b fb, r = .returned (.pointer (some ⟨b, 0, none⟩)) ∧ Th w w' b fb 0 0 := by
  refine (new_in 2 (by omega) (by omega) w).mono ?_
  rintro r w' ⟨b, fb, hr, hN⟩
  exact ⟨b, fb, hr, ⟨_, newP 2, ⟨hN.pl (by omega), hN.bl⟩, rfl, rfl, rfl, rfl⟩⟩
theorem th_guard (b fb o m : Nat) (w W : World) (h : Th w W b fb o m) : Calls Tryd.prog 10 #[.pointer (some ⟨b, 0, none⟩), .int .u8 1] W fun r w' => (∃ c : ByteArray × Int, r = .returned (.tuple #[.agg #[.string c.1, .int .u8 c.2], .bool (decide (o ≠ 0))])) ∧ Below W.heap.size W w' := by
  obtain ⟨v, q, h1, h0, h2, h3, h4⟩ := h.ex
  refine (guard_any w.heap.size b fb 2 v q 1 (by omega) W h1.p).mono ?_
  rw [show oF 2 q 1 = o by unfold oF; rw [if_pos (by omega), h2]]
  rintro r w' ⟨hr, hb⟩
  exact ⟨⟨_, hr⟩, hb⟩
theorem th_events (b fb o m : Nat) (hm : m ≤ 1000) (w W : World) (h : Th w W b fb o m) : Calls Tryd.prog 11 #[.pointer (some ⟨b, 0, none⟩)] W fun r w' => (∃ a cap, r = .returned (.slice a m cap)) ∧ Below W.heap.size W w' := by
  obtain ⟨v, q, h1, h0, h2, h3, h4⟩ := h.ex
  refine (events_any w.heap.size b fb 2 v q W h1.p (by omega)).mono ?_
  rintro r w' ⟨v', hr, hown, hb⟩
  rw [h3] at hown
  refine ⟨?_, hb⟩
  rcases hown.2 with ⟨hv0, hk0⟩ | ⟨g, cap, cur, hv0, _⟩
  · exact ⟨none, 0, by rw [hr, hv0, hk0]⟩
  · exact ⟨_, _, by rw [hr, hv0]⟩
end Go.Proofs.YtjfphdhapopkaaaDoor
