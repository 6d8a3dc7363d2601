/- TopStream: the walk. -/
import Derived.Test.YtpjnadgjohbhbabLawPiC
namespace Go.Proofs.Ytpjnadgjohbhbab
open Go.RowKit Go.Maps
set_option linter.unusedVariables false
set_option maxRecDepth 100000
theorem wr_some (k : Nat) (hk : 0 < k) : 0 < wrN 0 1 k := by
  unfold wrN
  rw [if_neg (by decide)]
  have hs : ¬ stuck 0 k = true := by
    unfold stuck
    simp only [Bool.or_eq_true, decide_eq_true_eq, Bool.and_eq_true, not_or, not_and, Nat.not_lt]
    exact ⟨by omega, fun _ => by omega⟩
  rw [if_neg hs]
  omega
/-- What goes through: what was read, what is in, what is to be written yet. -/
structure St (w W : World) (b i : Nat) (s O T R : List UInt8) : Prop where
  p : Po w W b T 1 1
  e : O ++ (T ++ R) = s
  n : i ≤ O.length
theorem St.lens {w W : World} {b i : Nat} {s O T R : List UInt8} (h : St w W b i s O T R) : i + (T.length + R.length) ≤ s.length ∧ O.length ≤ s.length ∧ R.length ≤ s.length := by
  have := congrArg List.length h.e
  rw [List.length_append, List.length_append] at this
  have := h.n
  exact ⟨by omega, by omega, by omega⟩
/-- A round: N bytes are written, at most p are read. -/
theorem St.round {w W W3 W5 : World} {b i N p : Nat} {s O T R : List UInt8} (h : St w W b i s O T R) (hp : 1 ≤ p) (hN : N ≤ R.length) (hne : 0 < (T ++ R.take N).length) (h1 : Po w W5 b ((T ++ R.take N).drop p) 1 1) : St w W5 b (i + 1) s (O ++ (T ++ R.take N).take p) ((T ++ R.take N).drop p) (R.drop N) := by
  refine ⟨h1, ?_, ?_⟩
  · rw [List.append_assoc, ← List.append_assoc ((T ++ R.take N).take p), List.take_append_drop, List.append_assoc T, List.take_append_drop, h.e]
  · have := h.n
    rw [List.length_append, List.length_take]
    omega
set_option maxHeartbeats 8000000 in
theorem stream_law (s : List UInt8) (x : Nat) (hx : x ≤ 255) (w : World) : Calls Try.prog 3 #[.string ⟨s.toArray⟩, .int .u8 x] w fun r w' => r = .returned (.bool true) ∧ Below w.heap.size w w' := by
  have hsz := bsz s
  obtain ⟨y0, hy0⟩ : ∃ y : Nat, y = x % 30 := ⟨_, rfl⟩
  have hyz : (x : Int) % 30 = (y0 : Int) := by omega
  have hyt : (x : Int).tmod 30 = (y0 : Int) := by rw [Int.tmod_eq_emod_of_nonneg (by omega)]; exact hyz
  obtain ⟨y, hy⟩ : ∃ y : Nat, y = y0 + 1 := ⟨_, rfl⟩
  have hy2 : (y0 : Int) + 1 = (y : Int) := by omega
  have hy1 : 1 ≤ y := by omega
  have hy30 : y ≤ 30 := by omega
  clear hy hy0
  go_enter Try.func3, Try.ntmps3
  by_cases hl : 300 < s.length
  · have hlz : (300 : Int) < (s.length : Int) := by omega
    have ex : (⟨s.toArray⟩ : ByteArray).extract 0 300 = ⟨(s.take 300).toArray⟩ := ext_take s 300 (by omega)
    obtain ⟨t, ht⟩ : ∃ t, t = s.take 300 := ⟨_, rfl⟩
    rw [← ht] at ex
    have ht3 : t.length ≤ 300 := by rw [ht, List.length_take]; omega
    clear ht
    generalize s.length = sl at *
    have cN := new_any w
    go_wp2_with fail
    refine cN.mono ?_
    rintro r W0 ⟨rfl, hP, hB0⟩
    have HP : Hid3 (Po w W0 w.heap.size [] 0 0) := ⟨⟨hP, hB0⟩⟩
    have c1 := open_any _ _ _ 0 0 true W0 hP
    rw [show openE (cnt true 0 0) = 0 from rfl, show setR true 0 (openC (cnt true 0 0)) = 0 from rfl, show setW true 0 (openC (cnt true 0 0)) = 1 from rfl] at c1
    clear cN hP hB0
    go_wp2_with fail
    refine c1.mono ?_
    rintro r W1 ⟨rfl, hS⟩
    have HP1 : Hid3 (Po w W1 w.heap.size [] 0 1) := ⟨HP.out.step hS⟩
    have c2 := open_any _ _ _ 0 1 false W1 hS.p
    rw [show openE (cnt false 0 1) = 0 from rfl, show setR false 0 (openC (cnt false 0 1)) = 1 from rfl, show setW false 1 (openC (cnt false 0 1)) = 1 from rfl] at c2
    clear c1 hS HP
    go_wp2_with fail
    refine c2.mono ?_
    rintro r W2 ⟨rfl, hS⟩
    have HP2 : Hid3 (St w W2 w.heap.size 0 t [] [] t) := ⟨⟨HP1.out.step hS, rfl, by simp⟩⟩
    clear c2 hS HP1
    go_wp2_with fail
    go_loopw [6, 7, 8] (fun s6 s7 s8 wq => ∃ (i : Nat) (O T R : List UInt8), s8 = .int .i64 i ∧ s6 = .string ⟨O.toArray⟩ ∧ s7 = .string ⟨R.toArray⟩ ∧ Hid3 (St w wq w.heap.size i t O T R)) (fun _ _ s8 _ => 700 - (intOf s8).toNat)
    case atStart => exact ⟨0, [], [], t, rfl, rfl, rfl, HP2⟩
    case round =>
      obtain ⟨i, O, T, R, rfl, rfl, rfl, HO⟩ := hrel
      clear HP2
      obtain ⟨l1, l2, l3⟩ := HO.out.lens
      have h700 : (i : Int) < 700 := by omega
      have cT := text_any _ _ T 1 1 _ HO.out.p.p
      by_cases hR : R = []
      · subst hR
        by_cases hT : T = []
        · subst hT
          have hOs : O = t := by have := HO.out.e; simpa using this
          go_wp2_with fail
          refine cT.mono ?_
          rintro r W3 ⟨rfl, hb⟩
          have HQ : Hid3 (Po w W3 w.heap.size [] 1 1) := ⟨HO.out.p.low hb⟩
          have c3 := read_any _ _ [] 1 1 5 _ HQ.out.p
          rw [show rdE ([] : List UInt8).length 1 5 = 12 by simp [rdE], show List.take (5 : Int).toNat ([] : List UInt8) = [] from rfl, show List.drop (5 : Int).toNat ([] : List UInt8) = [] from rfl] at c3
          clear cT hb
          go_wp2_with fail
          refine c3.mono ?_
          rintro r W4 ⟨rfl, hS⟩
          have HQ2 : Hid3 (Po w W4 w.heap.size [] 1 1) := ⟨HQ.out.step hS⟩
          have c4 := close_any _ _ [] 1 1 true _ HQ2.out.p
          rw [show closeE (cnt true 1 1) = 0 from rfl, show setR true 1 (cnt true 1 1 - 1) = 1 from rfl, show setW true 1 (cnt true 1 1 - 1) = 0 from rfl] at c4
          have hOO : (O == t) = true := by rw [hOs]; simp
          clear c3 hS HQ
          go_wp2_with fail
          refine c4.mono ?_
          rintro r W5 ⟨rfl, hS⟩
          have HQ3 : Hid3 (Po w W5 w.heap.size [] 1 0) := ⟨HQ2.out.step hS⟩
          clear c4 hS
          go_wp2
          go_ret
          exact ⟨rfl, HQ3.out.bl⟩
        · have hTn : (T != []) = true := by simpa using hT
          have hTq : (T == []) = false := by simpa using hT
          have hTe : T.isEmpty = false := by simpa using hT
          have hne : 0 < (T ++ ([] : List UInt8).take 0).length := by
            cases T with
            | nil => exact (hT rfl).elim
            | cons x xs => simp
          go_wp2_with fail
          refine cT.mono ?_
          rintro r W3 ⟨rfl, hb⟩
          have HQ : Hid3 (St w W3 w.heap.size i t O T []) := ⟨⟨HO.out.p.low hb, HO.out.e, HO.out.n⟩⟩
          clear cT hb HO
          have c3 := write_any _ _ T 1 1 [] (by simp) _ HQ.out.p.p
          rw [show wrN T.length 1 ([] : List UInt8).length = 0 by (have := wrN_le T.length 1 ([] : List UInt8).length; simpa using this), show wrE T.length 1 ([] : List UInt8).length = 0 by simp [wrE]] at c3
          have c5 := fun W5 (h5 : Pp w.heap.size W5 w.heap.size (T ++ ([] : List UInt8).take 0) 1 1) => read_any _ _ (T ++ ([] : List UInt8).take 0) 1 1 (y : Int) W5 h5
          rw [show rdE (T ++ ([] : List UInt8).take 0).length 1 (y : Int) = 0 by (unfold rdE; rw [if_neg (by omega), if_neg (by omega), if_neg (by omega)]), Int.toNat_natCast] at c5
          have HE : Hid3 (∀ W5, Po w W5 w.heap.size ((T ++ ([] : List UInt8).take 0).drop y) 1 1 → St w W5 w.heap.size (i + 1) t (O ++ (T ++ ([] : List UInt8).take 0).take y) ((T ++ ([] : List UInt8).take 0).drop y) (([] : List UInt8).drop 0)) := ⟨fun W5 h5 => HQ.out.round (W3 := W3) hy1 (by simp) hne h5⟩
          have eb := app_B O ((T ++ ([] : List UInt8).take 0).take y)
          have hOz := bsz O
          have hAz := bsz ((T ++ ([] : List UInt8).take 0).take y)
          have hAl : ((T ++ ([] : List UInt8).take 0).take y).length ≤ 324 := by rw [List.length_take, List.length_append]; simp; omega
          have hOl : O.length ≤ 300 := by omega
          have HQp : Hid3 (Po w W3 w.heap.size T 1 1) := ⟨HQ.out.p⟩
          rw [show ([] : List UInt8).drop 0 = [] from rfl] at HE
          generalize O ++ (T ++ ([] : List UInt8).take 0).take y = O2 at *
          generalize (T ++ ([] : List UInt8).take 0).take y = TA at *
          generalize (T ++ ([] : List UInt8).take 0).drop y = TB at *
          generalize T ++ ([] : List UInt8).take 0 = T2 at *
          generalize O.length = ol at *
          generalize TA.length = al at *
          clear HQ hne l1 l2 l3
          go_wp2_with fail
          refine c3.mono ?_
          rintro r W4 ⟨rfl, hS⟩
          have HP4 : Hid3 (Po w W4 w.heap.size T2 1 1) := ⟨HQp.out.step hS⟩
          have c6 := c5 W4 HP4.out.p
          clear c3 c5 hS HQp
          go_wp2_with fail
          refine c6.mono ?_
          rintro r W5 ⟨rfl, hS⟩
          have HQ5 : Hid3 (St w W5 w.heap.size (i + 1) t O2 TB []) := ⟨HE.out W5 (HP4.out.step hS)⟩
          clear c6 hS HE HP4
          go_wp2
          go_roundw
          case rel => exact ⟨i + 1, O2, TB, [], by go_num, rfl, rfl, HQ5⟩
          case measure => simp [intOf]; omega
      · have hRn : (R != []) = true := by simpa using hR
        have hRb : ¬ R = [] := hR
        have hRl : 0 < R.length := by
          cases R with
          | nil => exact (hR rfl).elim
          | cons x xs => simp
        have c3 := write_any _ _ T 1 1 R (by omega) _ HO.out.p.p
        have hNle := wrN_le T.length 1 R.length
        have hw := wr_open T.length R.length
        have hne : 0 < (T ++ R.take (wrN T.length 1 R.length)).length := by
          rw [List.length_append, List.length_take]
          cases T with
          | nil =>
            have := wr_some R.length hRl
            simp only [List.length_nil] at *
            omega
          | cons x xs => simp only [List.length_cons]; omega
        have c5 := fun W5 (h5 : Pp w.heap.size W5 w.heap.size (T ++ R.take (wrN T.length 1 R.length)) 1 1) => read_any _ _ (T ++ R.take (wrN T.length 1 R.length)) 1 1 (y : Int) W5 h5
        rw [show rdE (T ++ R.take (wrN T.length 1 R.length)).length 1 (y : Int) = 0 by (unfold rdE; rw [if_neg (by omega), if_neg (by omega), if_neg (by omega)]), Int.toNat_natCast] at c5
        have HE : Hid3 (∀ W5, Po w W5 w.heap.size ((T ++ R.take (wrN T.length 1 R.length)).drop y) 1 1 → St w W5 w.heap.size (i + 1) t (O ++ (T ++ R.take (wrN T.length 1 R.length)).take y) ((T ++ R.take (wrN T.length 1 R.length)).drop y) (R.drop (wrN T.length 1 R.length))) := ⟨fun W5 h5 => HO.out.round (W3 := wr) hy1 hNle hne h5⟩
        have eb := app_B O ((T ++ R.take (wrN T.length 1 R.length)).take y)
        have hOz := bsz O
        have hAz := bsz ((T ++ R.take (wrN T.length 1 R.length)).take y)
        have hTl := HO.out.p.p.len
        have hAl : ((T ++ R.take (wrN T.length 1 R.length)).take y).length ≤ 324 := by rw [List.length_take, List.length_append, List.length_take]; omega
        have hOl : O.length ≤ 300 := by omega
        have hRz := bsz R
        have hRl2 : R.length ≤ 300 := by omega
        have exR := ext_drop R (wrN T.length 1 R.length)
        have HQp : Hid3 (Po w wr w.heap.size T 1 1) := ⟨HO.out.p⟩
        generalize wrN T.length 1 R.length = N at *
        generalize wrE T.length 1 R.length = z at *
        generalize O ++ (T ++ R.take N).take y = O2 at *
        generalize (T ++ R.take N).take y = TA at *
        generalize (T ++ R.take N).drop y = TB at *
        generalize T ++ R.take N = T2 at *
        generalize R.drop N = R2 at *
        generalize O.length = ol at *
        generalize TA.length = al at *
        generalize R.length = rl at *
        have hNz : (N : Int) ≤ (rl : Int) := by omega
        clear HO hne l1 l2 l3 hTl cT
        rcases hw with ⟨rfl, hN0⟩ | rfl
        first | clear hN0 | skip
        all_goals (
          go_wp2_with fail
          refine c3.mono ?_
          rintro r W4 ⟨rfl, hS⟩
          have HP4 : Hid3 (Po w W4 w.heap.size T2 1 1) := ⟨HQp.out.step hS⟩
          have c6 := c5 W4 HP4.out.p
          clear c3 c5 hS HQp
          go_wp2_with fail
          refine c6.mono ?_
          rintro r W5 ⟨rfl, hS⟩
          have HQ5 : Hid3 (St w W5 w.heap.size (i + 1) t O2 TB R2) := ⟨HE.out W5 (HP4.out.step hS)⟩
          clear c6 hS HE HP4
          go_wp2
          go_roundw
          case rel => exact ⟨i + 1, O2, TB, R2, by go_num, rfl, rfl, HQ5⟩
          case measure => simp [intOf]; omega)
  · have hlz : ¬ (300 : Int) < (s.length : Int) := by omega
    have ht3 : s.length ≤ 300 := by omega
    obtain ⟨t, rfl⟩ : ∃ t, t = s := ⟨_, rfl⟩
    have cN := new_any w
    go_wp2_with fail
    refine cN.mono ?_
    rintro r W0 ⟨rfl, hP, hB0⟩
    have HP : Hid3 (Po w W0 w.heap.size [] 0 0) := ⟨⟨hP, hB0⟩⟩
    have c1 := open_any _ _ _ 0 0 true W0 hP
    rw [show openE (cnt true 0 0) = 0 from rfl, show setR true 0 (openC (cnt true 0 0)) = 0 from rfl, show setW true 0 (openC (cnt true 0 0)) = 1 from rfl] at c1
    clear cN hP hB0
    go_wp2_with fail
    refine c1.mono ?_
    rintro r W1 ⟨rfl, hS⟩
    have HP1 : Hid3 (Po w W1 w.heap.size [] 0 1) := ⟨HP.out.step hS⟩
    have c2 := open_any _ _ _ 0 1 false W1 hS.p
    rw [show openE (cnt false 0 1) = 0 from rfl, show setR false 0 (openC (cnt false 0 1)) = 1 from rfl, show setW false 1 (openC (cnt false 0 1)) = 1 from rfl] at c2
    clear c1 hS HP
    go_wp2_with fail
    refine c2.mono ?_
    rintro r W2 ⟨rfl, hS⟩
    have HP2 : Hid3 (St w W2 w.heap.size 0 t [] [] t) := ⟨⟨HP1.out.step hS, rfl, by simp⟩⟩
    clear c2 hS HP1
    go_wp2_with fail
    go_loopw [6, 7, 8] (fun s6 s7 s8 wq => ∃ (i : Nat) (O T R : List UInt8), s8 = .int .i64 i ∧ s6 = .string ⟨O.toArray⟩ ∧ s7 = .string ⟨R.toArray⟩ ∧ Hid3 (St w wq w.heap.size i t O T R)) (fun _ _ s8 _ => 700 - (intOf s8).toNat)
    case atStart => exact ⟨0, [], [], t, rfl, rfl, rfl, HP2⟩
    case round =>
      obtain ⟨i, O, T, R, rfl, rfl, rfl, HO⟩ := hrel
      clear HP2
      obtain ⟨l1, l2, l3⟩ := HO.out.lens
      have h700 : (i : Int) < 700 := by omega
      have cT := text_any _ _ T 1 1 _ HO.out.p.p
      by_cases hR : R = []
      · subst hR
        by_cases hT : T = []
        · subst hT
          have hOs : O = t := by have := HO.out.e; simpa using this
          go_wp2_with fail
          refine cT.mono ?_
          rintro r W3 ⟨rfl, hb⟩
          have HQ : Hid3 (Po w W3 w.heap.size [] 1 1) := ⟨HO.out.p.low hb⟩
          have c3 := read_any _ _ [] 1 1 5 _ HQ.out.p
          rw [show rdE ([] : List UInt8).length 1 5 = 12 by simp [rdE], show List.take (5 : Int).toNat ([] : List UInt8) = [] from rfl, show List.drop (5 : Int).toNat ([] : List UInt8) = [] from rfl] at c3
          clear cT hb
          go_wp2_with fail
          refine c3.mono ?_
          rintro r W4 ⟨rfl, hS⟩
          have HQ2 : Hid3 (Po w W4 w.heap.size [] 1 1) := ⟨HQ.out.step hS⟩
          have c4 := close_any _ _ [] 1 1 true _ HQ2.out.p
          rw [show closeE (cnt true 1 1) = 0 from rfl, show setR true 1 (cnt true 1 1 - 1) = 1 from rfl, show setW true 1 (cnt true 1 1 - 1) = 0 from rfl] at c4
          have hOO : (O == t) = true := by rw [hOs]; simp
          clear c3 hS HQ
          go_wp2_with fail
          refine c4.mono ?_
          rintro r W5 ⟨rfl, hS⟩
          have HQ3 : Hid3 (Po w W5 w.heap.size [] 1 0) := ⟨HQ2.out.step hS⟩
          clear c4 hS
          go_wp2
          go_ret
          exact ⟨rfl, HQ3.out.bl⟩
        · have hTn : (T != []) = true := by simpa using hT
          have hTq : (T == []) = false := by simpa using hT
          have hTe : T.isEmpty = false := by simpa using hT
          have hne : 0 < (T ++ ([] : List UInt8).take 0).length := by
            cases T with
            | nil => exact (hT rfl).elim
            | cons x xs => simp
          go_wp2_with fail
          refine cT.mono ?_
          rintro r W3 ⟨rfl, hb⟩
          have HQ : Hid3 (St w W3 w.heap.size i t O T []) := ⟨⟨HO.out.p.low hb, HO.out.e, HO.out.n⟩⟩
          clear cT hb HO
          have c3 := write_any _ _ T 1 1 [] (by simp) _ HQ.out.p.p
          rw [show wrN T.length 1 ([] : List UInt8).length = 0 by (have := wrN_le T.length 1 ([] : List UInt8).length; simpa using this), show wrE T.length 1 ([] : List UInt8).length = 0 by simp [wrE]] at c3
          have c5 := fun W5 (h5 : Pp w.heap.size W5 w.heap.size (T ++ ([] : List UInt8).take 0) 1 1) => read_any _ _ (T ++ ([] : List UInt8).take 0) 1 1 (y : Int) W5 h5
          rw [show rdE (T ++ ([] : List UInt8).take 0).length 1 (y : Int) = 0 by (unfold rdE; rw [if_neg (by omega), if_neg (by omega), if_neg (by omega)]), Int.toNat_natCast] at c5
          have HE : Hid3 (∀ W5, Po w W5 w.heap.size ((T ++ ([] : List UInt8).take 0).drop y) 1 1 → St w W5 w.heap.size (i + 1) t (O ++ (T ++ ([] : List UInt8).take 0).take y) ((T ++ ([] : List UInt8).take 0).drop y) (([] : List UInt8).drop 0)) := ⟨fun W5 h5 => HQ.out.round (W3 := W3) hy1 (by simp) hne h5⟩
          have eb := app_B O ((T ++ ([] : List UInt8).take 0).take y)
          have hOz := bsz O
          have hAz := bsz ((T ++ ([] : List UInt8).take 0).take y)
          have hAl : ((T ++ ([] : List UInt8).take 0).take y).length ≤ 324 := by rw [List.length_take, List.length_append]; simp; omega
          have hOl : O.length ≤ 300 := by omega
          have HQp : Hid3 (Po w W3 w.heap.size T 1 1) := ⟨HQ.out.p⟩
          rw [show ([] : List UInt8).drop 0 = [] from rfl] at HE
          generalize O ++ (T ++ ([] : List UInt8).take 0).take y = O2 at *
          generalize (T ++ ([] : List UInt8).take 0).take y = TA at *
          generalize (T ++ ([] : List UInt8).take 0).drop y = TB at *
          generalize T ++ ([] : List UInt8).take 0 = T2 at *
          generalize O.length = ol at *
          generalize TA.length = al at *
          clear HQ hne l1 l2 l3
          go_wp2_with fail
          refine c3.mono ?_
          rintro r W4 ⟨rfl, hS⟩
          have HP4 : Hid3 (Po w W4 w.heap.size T2 1 1) := ⟨HQp.out.step hS⟩
          have c6 := c5 W4 HP4.out.p
          clear c3 c5 hS HQp
          go_wp2_with fail
          refine c6.mono ?_
          rintro r W5 ⟨rfl, hS⟩
          have HQ5 : Hid3 (St w W5 w.heap.size (i + 1) t O2 TB []) := ⟨HE.out W5 (HP4.out.step hS)⟩
          clear c6 hS HE HP4
          go_wp2
          go_roundw
          case rel => exact ⟨i + 1, O2, TB, [], by go_num, rfl, rfl, HQ5⟩
          case measure => simp [intOf]; omega
      · have hRn : (R != []) = true := by simpa using hR
        have hRb : ¬ R = [] := hR
        have hRl : 0 < R.length := by
          cases R with
          | nil => exact (hR rfl).elim
          | cons x xs => simp
        have c3 := write_any _ _ T 1 1 R (by omega) _ HO.out.p.p
        have hNle := wrN_le T.length 1 R.length
        have hw := wr_open T.length R.length
        have hne : 0 < (T ++ R.take (wrN T.length 1 R.length)).length := by
          rw [List.length_append, List.length_take]
          cases T with
          | nil =>
            have := wr_some R.length hRl
            simp only [List.length_nil] at *
            omega
          | cons x xs => simp only [List.length_cons]; omega
        have c5 := fun W5 (h5 : Pp w.heap.size W5 w.heap.size (T ++ R.take (wrN T.length 1 R.length)) 1 1) => read_any _ _ (T ++ R.take (wrN T.length 1 R.length)) 1 1 (y : Int) W5 h5
        rw [show rdE (T ++ R.take (wrN T.length 1 R.length)).length 1 (y : Int) = 0 by (unfold rdE; rw [if_neg (by omega), if_neg (by omega), if_neg (by omega)]), Int.toNat_natCast] at c5
        have HE : Hid3 (∀ W5, Po w W5 w.heap.size ((T ++ R.take (wrN T.length 1 R.length)).drop y) 1 1 → St w W5 w.heap.size (i + 1) t (O ++ (T ++ R.take (wrN T.length 1 R.length)).take y) ((T ++ R.take (wrN T.length 1 R.length)).drop y) (R.drop (wrN T.length 1 R.length))) := ⟨fun W5 h5 => HO.out.round (W3 := wr) hy1 hNle hne h5⟩
        have eb := app_B O ((T ++ R.take (wrN T.length 1 R.length)).take y)
        have hOz := bsz O
        have hAz := bsz ((T ++ R.take (wrN T.length 1 R.length)).take y)
        have hTl := HO.out.p.p.len
        have hAl : ((T ++ R.take (wrN T.length 1 R.length)).take y).length ≤ 324 := by rw [List.length_take, List.length_append, List.length_take]; omega
        have hOl : O.length ≤ 300 := by omega
        have hRz := bsz R
        have hRl2 : R.length ≤ 300 := by omega
        have exR := ext_drop R (wrN T.length 1 R.length)
        have HQp : Hid3 (Po w wr w.heap.size T 1 1) := ⟨HO.out.p⟩
        generalize wrN T.length 1 R.length = N at *
        generalize wrE T.length 1 R.length = z at *
        generalize O ++ (T ++ R.take N).take y = O2 at *
        generalize (T ++ R.take N).take y = TA at *
        generalize (T ++ R.take N).drop y = TB at *
        generalize T ++ R.take N = T2 at *
        generalize R.drop N = R2 at *
        generalize O.length = ol at *
        generalize TA.length = al at *
        generalize R.length = rl at *
        have hNz : (N : Int) ≤ (rl : Int) := by omega
        clear HO hne l1 l2 l3 hTl cT
        rcases hw with ⟨rfl, hN0⟩ | rfl
        first | clear hN0 | skip
        all_goals (
          go_wp2_with fail
          refine c3.mono ?_
          rintro r W4 ⟨rfl, hS⟩
          have HP4 : Hid3 (Po w W4 w.heap.size T2 1 1) := ⟨HQp.out.step hS⟩
          have c6 := c5 W4 HP4.out.p
          clear c3 c5 hS HQp
          go_wp2_with fail
          refine c6.mono ?_
          rintro r W5 ⟨rfl, hS⟩
          have HQ5 : Hid3 (St w W5 w.heap.size (i + 1) t O2 TB R2) := ⟨HE.out W5 (HP4.out.step hS)⟩
          clear c6 hS HE HP4
          go_wp2
          go_roundw
          case rel => exact ⟨i + 1, O2, TB, R2, by go_num, rfl, rfl, HQ5⟩
          case measure => simp [intOf]; omega)
end Go.Proofs.Ytpjnadgjohbhbab
