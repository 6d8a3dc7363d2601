/- The program's pool: had, Share. -/
import Derived.Test.YtalhlbhhgddddaaDoorPlE
namespace Go.Proofs.YtalhlbhhgddddaaDoor
open Go.RowKit Go.Maps
set_option linter.unusedVariables false
set_option maxRecDepth 100000
def hadE (n : Nat) (q : Ps) (e f : Nat) : Int := if 6 ≤ e ∨ n ≤ f then 2 else if (oF n q f).testBit e = false then 7 else 0
set_option maxHeartbeats 1000000 in
theorem had_any (B b fb n : Nat) (v : Value) (q : Ps) (e f : Nat) (hf : f ≤ 255) (w : World) (h : Pl B w b fb n v q) : Calls Tryd.prog 48 #[.pointer (some ⟨b, 0, none⟩), .int .u8 e, .int .u8 f] w fun r w' => r = .returned (.int .i64 (hadE n q e f)) ∧ w' = w := by
  have cT := there_any B b fb n v q e f hf w h
  have cH := holds_any B b fb n v q e f hf w h
  clear h
  unfold hadE
  unfold thE at cT
  by_cases hg : 6 ≤ e ∨ n ≤ f
  · rw [if_pos hg] at cT ⊢
    go_enter Tryd.func48, Tryd.ntmps48
    go_wp2_with fail
    refine cT.mono ?_
    rintro r w' ⟨rfl, rfl⟩
    clear cT cH
    go_wp2
    go_ret
    exact ⟨rfl, rfl⟩
  · rw [if_neg hg] at cT ⊢
    cases hh : (oF n q f).testBit e with
    | false =>
      rw [hh] at cH
      rw [if_pos rfl]
      go_enter Tryd.func48, Tryd.ntmps48
      go_wp2_with fail
      refine cT.mono ?_
      rintro r w' ⟨rfl, rfl⟩
      clear cT
      go_wp2_with fail
      refine cH.mono ?_
      rintro r w' ⟨rfl, rfl⟩
      clear cH
      go_wp2
      go_ret
      exact ⟨rfl, rfl⟩
    | true =>
      rw [hh] at cH
      rw [if_neg (by decide)]
      go_enter Tryd.func48, Tryd.ntmps48
      go_wp2_with fail
      refine cT.mono ?_
      rintro r w' ⟨rfl, rfl⟩
      clear cT
      go_wp2_with fail
      refine cH.mono ?_
      rintro r w' ⟨rfl, rfl⟩
      clear cH
      go_wp2
      go_ret
      exact ⟨rfl, rfl⟩
def shE (n : Nat) (q : Ps) (a c f : Nat) : Int := if (6 ≤ a ∨ 6 ≤ c) ∨ n ≤ f then 2 else if (oF n q f).testBit a = false then 7 else if (oF n q f).testBit c = true then 6 else if fullN n q c = true then 11 else 0
def shQ (n : Nat) (q : Ps) (a c f : Nat) : Ps := if shE n q a c f = 0 then giveQ 2 c f q else q
set_option maxHeartbeats 4000000 in
theorem share_any (B b fb n : Nat) (v : Value) (q : Ps) (a c f : Nat) (w : World) (h : Pl B w b fb n v q) (hf : f ≤ 255) (hl : q.E.length ≤ 1000) (hB : B ≤ w.heap.size) : Calls Tryd.prog 17 #[.pointer (some ⟨b, 0, none⟩), .int .u8 a, .int .u8 c, .int .u8 f] w fun r w' => r = .returned (.int .i64 (shE n q a c f)) ∧ PStp B w w' b fb n v (shQ n q a c f) := by
  have HP := Hid3.mk h
  have hm : ∃ m : Nat, max (a : Int) (c : Int) = (m : Int) ∧ (6 ≤ m ↔ (6 ≤ a ∨ 6 ≤ c)) := ⟨max a c, by omega, by omega⟩
  obtain ⟨m, hm, hm6⟩ := hm
  have cT := there_any B b fb n v q m f hf w h
  have cH := fun e => holds_any B b fb n v q e f hf w h
  have HQ : Hid3 (∀ W, Below w.heap.size w W → PStp B w W b fb n v q) := ⟨fun W hW => PStp.same HP.out hW⟩
  unfold shQ shE
  unfold thE at cT
  simp only [hm6] at cT
  have hbl := h.c.lt
  clear h hm6
  by_cases hg : (6 ≤ a ∨ 6 ≤ c) ∨ n ≤ f
  · rw [if_pos hg] at cT ⊢
    rw [if_neg (by decide)]
    go_enter Tryd.func17, Tryd.ntmps17
    go_wp2_with fail
    refine cT.mono ?_
    rintro r w' ⟨rfl, rfl⟩
    clear cT cH
    go_wp2
    go_ret
    exact ⟨rfl, HQ.out _ (Below.refl _ _)⟩
  · rw [if_neg hg] at cT ⊢
    have hc6 : c < 6 := by omega
    have hfn : f < n := by omega
    have cA := cH a
    have cC := cH c
    clear cH
    cases ha : (oF n q f).testBit a with
    | false =>
      rw [ha] at cA
      rw [if_pos rfl, if_neg (by decide)]
      go_enter Tryd.func17, Tryd.ntmps17
      go_wp2_with fail
      refine cT.mono ?_
      rintro r w' ⟨rfl, rfl⟩
      clear cT
      go_wp2_with fail
      refine cA.mono ?_
      rintro r w' ⟨rfl, rfl⟩
      clear cA cC
      go_wp2
      go_ret
      exact ⟨rfl, HQ.out _ (Below.refl _ _)⟩
    | true =>
      rw [ha] at cA
      rw [if_neg (by decide)]
      cases hc : (oF n q f).testBit c with
      | true =>
        rw [hc] at cC
        rw [if_pos rfl, if_neg (by decide)]
        go_enter Tryd.func17, Tryd.ntmps17
        go_wp2_with fail
        refine cT.mono ?_
        rintro r w' ⟨rfl, rfl⟩
        clear cT
        go_wp2_with fail
        refine cA.mono ?_
        rintro r w' ⟨rfl, rfl⟩
        clear cA
        go_wp2_with fail
        refine cC.mono ?_
        rintro r w' ⟨rfl, rfl⟩
        clear cC
        go_wp2
        go_ret
        exact ⟨rfl, HQ.out _ (Below.refl _ _)⟩
      | false =>
        rw [hc] at cC
        rw [if_neg (by decide)]
        have cF := fulln_any B b fb n v q c hc6 w HP.out
        cases hfu : fullN n q c with
        | true =>
          rw [hfu] at cF
          rw [if_pos rfl, if_neg (by decide)]
          go_enter Tryd.func17, Tryd.ntmps17
          go_wp2_with fail
          refine cT.mono ?_
          rintro r w' ⟨rfl, rfl⟩
          clear cT
          go_wp2_with fail
          refine cA.mono ?_
          rintro r w' ⟨rfl, rfl⟩
          clear cA
          go_wp2_with fail
          refine cC.mono ?_
          rintro r w' ⟨rfl, rfl⟩
          clear cC
          go_wp2_with fail
          refine cF.mono ?_
          rintro r W1 ⟨rfl, hB1⟩
          have HB1 := Hid3.mk hB1
          clear cF hB1
          go_wp2
          go_ret
          exact ⟨rfl, HQ.out _ HB1.out⟩
        | false =>
          rw [hfu] at cF
          rw [if_neg (by decide), if_pos rfl]
          go_enter Tryd.func17, Tryd.ntmps17
          go_wp2_with fail
          refine cT.mono ?_
          rintro r w' ⟨rfl, rfl⟩
          clear cT
          go_wp2_with fail
          refine cA.mono ?_
          rintro r w' ⟨rfl, rfl⟩
          clear cA
          go_wp2_with fail
          refine cC.mono ?_
          rintro r w' ⟨rfl, rfl⟩
          clear cC
          go_wp2_with fail
          refine cF.mono ?_
          rintro r W1 ⟨rfl, hB1⟩
          have HB1 := Hid3.mk hB1
          clear cF
          have cG := give_any B b fb n v q 2 c f W1 (HP.out.low hB1) hc6 hfn hl (Nat.le_trans hB hB1.size)
          clear hB1
          go_wp2_with fail
          refine cG.mono ?_
          rintro r W2 ⟨rfl, hG⟩
          have HG := Hid3.mk hG
          clear cG hG
          go_wp2
          go_ret
          exact ⟨rfl, PStp.pre HB1.out HG.out⟩
end Go.Proofs.YtalhlbhhgddddaaDoor
