/- PipeAtomic: the walk. -/
import Derived.Test.YtpjnadgjohbhbaaLawPiA
namespace Go.Proofs.Ytpjnadgjohbhbaa
open Go.RowKit Go.Maps
set_option linter.unusedVariables false
set_option maxRecDepth 100000
/-- What a text of at most 8 bytes comes to. -/
theorem wr_few (m rd k : Nat) (hk : k ≤ 8) (hm : m ≤ 24) : (wrE m rd k = 9 ∧ wrN m rd k = 0 ∧ rd = 0) ∨ (wrE m rd k = 12 ∧ wrN m rd k = 0 ∧ 24 < m + k) ∨ (wrE m rd k = 0 ∧ wrN m rd k = k) := by
  unfold wrE wrN
  by_cases h0 : rd = 0
  · left; simp [h0]
  · rw [if_neg h0, if_neg h0]
    right
    by_cases h1 : k = 0
    · right
      subst h1
      refine ⟨by simp, ?_⟩
      split <;> simp
    · by_cases h2 : stuck m k = true
      · left
        rw [if_neg h1, if_pos h2, if_pos h2]
        unfold stuck at h2
        simp only [Bool.or_eq_true, decide_eq_true_eq, Bool.and_eq_true] at h2
        exact ⟨rfl, rfl, by omega⟩
      · right
        rw [if_neg h1, if_neg h2, if_neg h2]
        unfold stuck at h2
        simp only [Bool.or_eq_true, decide_eq_true_eq, Bool.and_eq_true, not_or, not_and, Nat.not_lt] at h2
        have := h2.2 hk
        exact ⟨rfl, by omega⟩
set_option maxHeartbeats 4000000 in
theorem atomic_law (v : Value) (l : List Dd) (s : List UInt8) (w : World) (hd : Dds w v l) : Calls Try.prog 5 #[v, .string ⟨s.toArray⟩] w fun r w' => r = .returned (.bool true) ∧ Below w.heap.size w w' := by
  have cP := play_any v l w hd
  obtain ⟨ad, cap, rfl, _⟩ := id hd
  have hsz : (⟨s.toArray⟩ : ByteArray).size = s.length := by simp [ByteArray.size]
  clear hd
  go_enter Try.func5, Try.ntmps5
  go_wp2_with fail
  refine cP.mono ?_
  rintro r W1 ⟨b, rb, rfl, hBo⟩
  have HB := Hid3.mk hBo
  have cL := live_any W1
  clear cP hBo
  go_wp2_with fail
  refine cL.mono ?_
  rintro r W2 ⟨rfl, hb⟩
  obtain ⟨T, rd, wn, hT⟩ := HB.out.ex
  have HT := Hid3.mk (hT.below hb)
  have HL := Hid3.mk (HB.out.bl.trans (hb.mono HB.out.bl.size))
  clear cL hb hT HB
  by_cases hl : 8 < s.length
  · have hlz : (8 : Int) < (s.length : Int) := by omega
    have ex : (⟨s.toArray⟩ : ByteArray).extract 0 8 = ⟨(s.take 8).toArray⟩ := ext_take s 8 (by omega)
    have hs8 : (⟨(s.take 8).toArray⟩ : ByteArray).size = (s.take 8).length := by simp [ByteArray.size]
    have h8 : (s.take 8).length ≤ 8 := by rw [List.length_take]; omega
    generalize s.take 8 = s8 at *
    generalize s.length = sl at *
    have hTl := HT.out.p.len
    have c1 := text_any _ b T rd wn W2 HT.out.p
    go_wp2_with fail
    refine c1.mono ?_
    rintro r W3 ⟨rfl, hb⟩
    have HP : Hid3 (Po w W3 b T rd wn) := ⟨⟨HT.out.p.below hb, HL.out.trans (hb.mono HL.out.size)⟩⟩
    have c2 := write_any _ b T rd wn s8 (by omega) W3 HP.out.p
    have hsm : (⟨T.toArray⟩ : ByteArray).size = T.length := by simp [ByteArray.size]
    have hTT : (T == T) = true := by simp
    have hw := wr_few T.length rd s8.length h8 hTl
    clear c1 hb HT
    rcases hw with ⟨e1, e2, e3⟩ | ⟨e1, e2, e3⟩ | ⟨e1, e2⟩
    · rw [e1, e2, List.take_zero, List.append_nil] at c2
      subst e3
      clear e1 e2
      go_wp2_with fail
      refine c2.mono ?_
      rintro r W4 ⟨rfl, hS⟩
      have HP2 : Hid3 (Po w W4 b T 0 wn) := ⟨HP.out.step hS⟩
      have c3 := text_any _ b T 0 wn W4 HP2.out.p
      clear c2 hS
      go_wp2_with fail
      refine c3.mono ?_
      rintro r W5 ⟨rfl, hb⟩
      have HP3 : Hid3 (Po w W5 b T 0 wn) := ⟨HP2.out.low hb⟩
      have c4 := count_any _ b T 0 wn false W5 HP3.out.p
      rw [show cnt false 0 wn = 0 from rfl] at c4
      clear c3 hb
      go_wp2_with fail
      refine c4.mono ?_
      rintro r W6 ⟨rfl, hW⟩
      rw [hW]
      clear c4 hW
      go_wp2
      go_ret
      exact ⟨rfl, HP3.out.bl⟩
    · rw [e1, e2, List.take_zero, List.append_nil] at c2
      have h24 : (24 : Int) < (T.length : Int) + (s8.length : Int) := by omega
      clear e1 e2
      go_wp2_with fail
      refine c2.mono ?_
      rintro r W4 ⟨rfl, hS⟩
      have HP2 : Hid3 (Po w W4 b T rd wn) := ⟨HP.out.step hS⟩
      have c3 := text_any _ b T rd wn W4 HP2.out.p
      clear c2 hS
      go_wp2_with fail
      refine c3.mono ?_
      rintro r W5 ⟨rfl, hb⟩
      have HP3 : Hid3 (Po w W5 b T rd wn) := ⟨HP2.out.low hb⟩
      clear c3 hb
      go_wp2
      go_ret
      exact ⟨rfl, HP3.out.bl⟩
    · rw [e1, e2, List.take_length] at c2
      have ea : (⟨T.toArray⟩ : ByteArray) ++ ⟨s8.toArray⟩ = ⟨(T ++ s8).toArray⟩ := app_B _ _
      have hN : ((s8.length : Int) == (s8.length : Int)) = true := by simp
      have hU : (T ++ s8 == T ++ s8) = true := by simp
      clear e1 e2
      go_wp2_with fail
      refine c2.mono ?_
      rintro r W4 ⟨rfl, hS⟩
      have HP2 : Hid3 (Po w W4 b (T ++ s8) rd wn) := ⟨HP.out.step hS⟩
      have c3 := text_any _ b (T ++ s8) rd wn W4 HP2.out.p
      clear c2 hS
      generalize T ++ s8 = T2 at *
      go_wp2_with fail
      refine c3.mono ?_
      rintro r W5 ⟨rfl, hb⟩
      have HP3 : Hid3 (Po w W5 b T2 rd wn) := ⟨HP2.out.low hb⟩
      clear c3 hb
      go_wp2
      go_ret
      exact ⟨rfl, HP3.out.bl⟩
  · have hlz : ¬ (8 : Int) < (s.length : Int) := by omega
    have h8 : s.length ≤ 8 := by omega
    obtain ⟨s8, rfl⟩ : ∃ s8, s8 = s := ⟨_, rfl⟩
    have hTl := HT.out.p.len
    have c1 := text_any _ b T rd wn W2 HT.out.p
    go_wp2_with fail
    refine c1.mono ?_
    rintro r W3 ⟨rfl, hb⟩
    have HP : Hid3 (Po w W3 b T rd wn) := ⟨⟨HT.out.p.below hb, HL.out.trans (hb.mono HL.out.size)⟩⟩
    have c2 := write_any _ b T rd wn s8 (by omega) W3 HP.out.p
    have hsm : (⟨T.toArray⟩ : ByteArray).size = T.length := by simp [ByteArray.size]
    have hTT : (T == T) = true := by simp
    have hw := wr_few T.length rd s8.length h8 hTl
    clear c1 hb HT
    rcases hw with ⟨e1, e2, e3⟩ | ⟨e1, e2, e3⟩ | ⟨e1, e2⟩
    · rw [e1, e2, List.take_zero, List.append_nil] at c2
      subst e3
      clear e1 e2
      go_wp2_with fail
      refine c2.mono ?_
      rintro r W4 ⟨rfl, hS⟩
      have HP2 : Hid3 (Po w W4 b T 0 wn) := ⟨HP.out.step hS⟩
      have c3 := text_any _ b T 0 wn W4 HP2.out.p
      clear c2 hS
      go_wp2_with fail
      refine c3.mono ?_
      rintro r W5 ⟨rfl, hb⟩
      have HP3 : Hid3 (Po w W5 b T 0 wn) := ⟨HP2.out.low hb⟩
      have c4 := count_any _ b T 0 wn false W5 HP3.out.p
      rw [show cnt false 0 wn = 0 from rfl] at c4
      clear c3 hb
      go_wp2_with fail
      refine c4.mono ?_
      rintro r W6 ⟨rfl, hW⟩
      rw [hW]
      clear c4 hW
      go_wp2
      go_ret
      exact ⟨rfl, HP3.out.bl⟩
    · rw [e1, e2, List.take_zero, List.append_nil] at c2
      have h24 : (24 : Int) < (T.length : Int) + (s8.length : Int) := by omega
      clear e1 e2
      go_wp2_with fail
      refine c2.mono ?_
      rintro r W4 ⟨rfl, hS⟩
      have HP2 : Hid3 (Po w W4 b T rd wn) := ⟨HP.out.step hS⟩
      have c3 := text_any _ b T rd wn W4 HP2.out.p
      clear c2 hS
      go_wp2_with fail
      refine c3.mono ?_
      rintro r W5 ⟨rfl, hb⟩
      have HP3 : Hid3 (Po w W5 b T rd wn) := ⟨HP2.out.low hb⟩
      clear c3 hb
      go_wp2
      go_ret
      exact ⟨rfl, HP3.out.bl⟩
    · rw [e1, e2, List.take_length] at c2
      have ea : (⟨T.toArray⟩ : ByteArray) ++ ⟨s8.toArray⟩ = ⟨(T ++ s8).toArray⟩ := app_B _ _
      have hN : ((s8.length : Int) == (s8.length : Int)) = true := by simp
      have hU : (T ++ s8 == T ++ s8) = true := by simp
      clear e1 e2
      go_wp2_with fail
      refine c2.mono ?_
      rintro r W4 ⟨rfl, hS⟩
      have HP2 : Hid3 (Po w W4 b (T ++ s8) rd wn) := ⟨HP.out.step hS⟩
      have c3 := text_any _ b (T ++ s8) rd wn W4 HP2.out.p
      clear c2 hS
      generalize T ++ s8 = T2 at *
      go_wp2_with fail
      refine c3.mono ?_
      rintro r W5 ⟨rfl, hb⟩
      have HP3 : Hid3 (Po w W5 b T2 rd wn) := ⟨HP2.out.low hb⟩
      clear c3 hb
      go_wp2
      go_ret
      exact ⟨rfl, HP3.out.bl⟩
end Go.Proofs.Ytpjnadgjohbhbaa
