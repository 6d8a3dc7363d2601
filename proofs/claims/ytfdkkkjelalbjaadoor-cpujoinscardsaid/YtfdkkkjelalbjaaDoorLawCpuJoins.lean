/- CpuJoins: Run of n, and then of m, is Run of both, unless something was asked for. -/
import Derived.Test.YtfdkkkjelalbjaaDoorLawCpuJa
import Derived.Test.YtfdkkkjelalbjaaDoorLawCpuJb
namespace Go.Proofs.YtfdkkkjelalbjaaDoor
open Go.RowKit
set_option linter.unusedVariables false
set_option maxRecDepth 100000
theorem run_cnt (bs : List UInt8) : ∀ (n : Nat) (pc : Int) (r : Nat → Int) (c : Int), c ≤ (runF bs n pc r c).2.2 ∧ (runF bs n pc r c).2.2 ≤ c + n
  | 0, pc, r, c => by show c ≤ c ∧ c ≤ c + ((0 : Nat) : Int); omega
  | n + 1, pc, r, c => by
    cases hN : nextP bs pc with
    | error e =>
      have e1 : runF bs (n + 1) pc r c = ((pc, r), (7, 0, 0, 0, e), c) := by rw [runF, hN]
      rw [e1]
      show c ≤ c ∧ c ≤ c + ((n + 1 : Nat) : Int)
      omega
    | ok i =>
      by_cases h0 : (execP pc r i.1 i.2.1 i.2.2.1 i.2.2.2).2.1 = 0
      · have e1 : runF bs (n + 1) pc r c = runF bs n (execP pc r i.1 i.2.1 i.2.2.1 i.2.2.2).1.1 (execP pc r i.1 i.2.1 i.2.2.1 i.2.2.2).1.2 (c + 1) := by rw [runF, hN]; simp only [h0, reduceIte]
        rw [e1]
        have ih := run_cnt bs n (execP pc r i.1 i.2.1 i.2.2.1 i.2.2.2).1.1 (execP pc r i.1 i.2.1 i.2.2.1 i.2.2.2).1.2 (c + 1)
        omega
      · have e1 : runF bs (n + 1) pc r c = ((execP pc r i.1 i.2.1 i.2.2.1 i.2.2.2).1, (execP pc r i.1 i.2.1 i.2.2.1 i.2.2.2).2, if (execP pc r i.1 i.2.1 i.2.2.1 i.2.2.2).2.1 = 7 then c else c + 1) := by rw [runF, hN]; simp only [h0, reduceIte]
        rw [e1]
        show c ≤ (if (execP pc r i.1 i.2.1 i.2.2.1 i.2.2.2).2.1 = 7 then c else c + 1) ∧ (if (execP pc r i.1 i.2.1 i.2.2.1 i.2.2.2).2.1 = 7 then c else c + 1) ≤ c + ((n + 1 : Nat) : Int)
        split <;> omega
theorem run_wd (bs : List UInt8) : ∀ (n : Nat) (pc : Int) (r : Nat → Int) (c : Int), Wd pc → (∀ k, Wd (r k)) → Wd (runF bs n pc r c).1.1 ∧ ∀ k, Wd ((runF bs n pc r c).1.2 k)
  | 0, pc, r, c, hp, hr => ⟨hp, hr⟩
  | n + 1, pc, r, c, hp, hr => by
    cases hN : nextP bs pc with
    | error e =>
      have e1 : runF bs (n + 1) pc r c = ((pc, r), (7, 0, 0, 0, e), c) := by rw [runF, hN]
      rw [e1]
      exact ⟨hp, hr⟩
    | ok i =>
      obtain ⟨hO, _⟩ := next_ok bs pc i hN
      have hw := exec_wd pc r i.1 i.2.1 i.2.2.1 i.2.2.2 hp hr ⟨hO.2.2.2.2.2.2.1, hO.2.2.2.2.2.2.2⟩
      by_cases h0 : (execP pc r i.1 i.2.1 i.2.2.1 i.2.2.2).2.1 = 0
      · have e1 : runF bs (n + 1) pc r c = runF bs n (execP pc r i.1 i.2.1 i.2.2.1 i.2.2.2).1.1 (execP pc r i.1 i.2.1 i.2.2.1 i.2.2.2).1.2 (c + 1) := by rw [runF, hN]; simp only [h0, reduceIte]
        rw [e1]
        exact run_wd bs n _ _ _ hw.1 hw.2
      · have e1 : runF bs (n + 1) pc r c = ((execP pc r i.1 i.2.1 i.2.2.1 i.2.2.2).1, (execP pc r i.1 i.2.1 i.2.2.1 i.2.2.2).2, if (execP pc r i.1 i.2.1 i.2.2.1 i.2.2.2).2.1 = 7 then c else c + 1) := by rw [runF, hN]; simp only [h0, reduceIte]
        rw [e1]
        exact hw
theorem cjoins_law (pc : Int) (r : Nat → Int) (v : Value) (bs : List UInt8) (x y : Int) (w : World) (hp : Wd pc) (hr : ∀ k, Wd (r k)) (hb : Bts w v bs) (hx : 0 ≤ x ∧ x ≤ 255) (hy : 0 ≤ y ∧ y ≤ 255) :
    Calls Tryd.prog 4 #[rgV pc r, v, .agg #[.int .u8 x, .int .u8 y]] w fun e w' => e = .returned (.bool true) ∧ Below w.heap.size w w' := by
  obtain ⟨n, hn⟩ : ∃ n : Nat, x % 40 = n := ⟨(x % 40).toNat, by omega⟩
  obtain ⟨m, hm⟩ : ∃ m : Nat, y % 40 = m := ⟨(y % 40).toNat, by omega⟩
  have wx : IntKind.i64.wrap x = x := by rw [IntKind.wrap_i64]; omega
  have wy : IntKind.i64.wrap y = y := by rw [IntKind.wrap_i64]; omega
  have hx' : (IntKind.i64.wrap x).tmod 40 = n := by rw [wx, Int.tmod_eq_emod_of_nonneg hx.1]; exact hn
  have hy' : (IntKind.i64.wrap y).tmod 40 = m := by rw [wy, Int.tmod_eq_emod_of_nonneg hy.1]; exact hm
  have cA := fun v' W (h : Bts W v' (bs.take 400)) => run_any pc r v' (bs.take 400) (n : Int) W hp hr h
  have cB := fun v' W (h : Bts W v' (bs.take 400)) => run_any pc r v' (bs.take 400) ((n : Int) + (m : Int)) W hp hr h
  rw [show (min (n : Int) 1000).toNat = n by omega] at cA
  rw [show (min ((n : Int) + (m : Int)) 1000).toNat = n + m by omega] at cB
  have hj := run_join (bs.take 400) m n pc r 0
  have hw := run_wd (bs.take 400) n pc r 0 hp hr
  obtain ⟨⟨⟨q, s⟩, ⟨x0, x1, x2, x3, x4⟩, c⟩, hE⟩ : ∃ E, runF (bs.take 400) n pc r 0 = E := ⟨_, rfl⟩
  rw [hE] at hj cA hw
  simp only at hj hw
  by_cases h0 : x0 = 0
  · obtain ⟨j1, j2, j3⟩ := hj.1 h0
    have cC := fun v' W (h : Bts W v' (bs.take 400)) => run_any q s v' (bs.take 400) (m : Int) W hw.1 hw.2 h
    rw [show (min (m : Int) 1000).toNat = m by omega] at cC
    have hs := run_shift (bs.take 400) (n : Int) m q s 0
    rw [hs] at j3
    have hcnt := run_cnt (bs.take 400) m q s 0
    obtain ⟨⟨⟨q3, s3⟩, ⟨z0, z1, z2, z3, z4⟩, c3⟩, hE3⟩ : ∃ E, runF (bs.take 400) m q s 0 = E := ⟨_, rfl⟩
    rw [hE3] at cC j3 hcnt
    simp only at j3 hcnt
    rw [j3, show c3 + (n : Int) = (n : Int) + c3 by omega] at cB
    rw [j1, j2, show (0 : Int) + (n : Int) = (n : Int) by omega] at cA
    exact cjoins_b pc r v bs x y n m w hp hr hb hx' hy' (by omega) (by omega) q s q3 s3 z0 z1 z2 z3 z4 c3 (by omega) cA cB cC
  · rw [hj.2 h0] at cB
    exact cjoins_a pc r v bs x y n m w hp hr hb hx' hy' (by omega) (by omega) q s x0 x1 x2 x3 x4 c cA cB (by rw [bne_iff_ne]; exact h0)
end Go.Proofs.YtfdkkkjelalbjaaDoor
