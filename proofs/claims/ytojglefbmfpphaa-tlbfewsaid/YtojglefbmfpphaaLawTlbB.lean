/- TlbFew: the walk. -/
import Derived.Test.YtojglefbmfpphaaTlbT
namespace Go.Proofs.Ytojglefbmfpphaa
open Go.RowKit Go.Maps
set_option linter.unusedVariables false
set_option maxRecDepth 100000
/-- START -/
theorem pl_good (l : List Dd) (h : ∀ d ∈ l, DdOk d) : Good (playL (l.take 60) []) := good_play _ _ (fun d hd => h d (List.mem_of_mem_take hd)) Good.nil
theorem bel_drewN {B : Nat} {a w : World} (n : Nat) (h : Below B a w) : Below B a (w.drewN n) := ⟨h.os, h.tape, h.output, h.size, h.block⟩
set_option maxHeartbeats 4000000 in
theorem few_law (v : Value) (l : List Dd) (w : World) (hd : Dds w v l) (hok : ∀ d ∈ l, DdOk d) : Calls Try.prog 5 #[v] w fun e w' => e = .returned (.bool true) ∧ Below w.heap.size w w' := by
  have hG := pl_good l hok
  have hL := hG.few
  have cP := play_any v l w hd hok
  generalize playL (l.take 60) [] = L at *
  clear hd hok
  go_enter Try.func5, Try.ntmps5
  go_wp2_with fail
  refine cP.mono ?_
  rintro e W1 ⟨tb, rb, x, y, rfl, hT, hB1⟩
  have cL := live_any W1
  go_wp2_with fail
  refine cL.mono ?_
  rintro e W2 ⟨rfl, hB2⟩
  have c1 := list_any _ tb x L W2 (hT.below hB2).t (by omega)
  have hb2 := hB1.trans (hB2.mono hB1.size)
  clear hT cP cL
  go_wp2_with fail
  refine c1.mono ?_
  rintro e W3 ⟨v1, rfl, hr1, hB3⟩
  have hb3 := hb2.trans (hB3.mono hb2.size)
  obtain ⟨ad, cap, rfl, hcap, _, hcell⟩ := Mps.of_own hr1
  have HC : Hid (∀ j m, L[j]? = some m → ∃ g off, ad = some ⟨g, off, none⟩ ∧ W3.cell? ⟨g, off + j * 4, none⟩ = some (.int .u8 m.1) ∧ W3.cell? ⟨g, off + j * 4 + 1, none⟩ = some (.int .u8 m.2.1) ∧ W3.cell? ⟨g, off + j * 4 + 2, none⟩ = some (.int .u8 m.2.2.1) ∧ W3.cell? ⟨g, off + j * 4 + 3, none⟩ = some (.bool m.2.2.2)) := hcell
  have HG : Hid (Good L) := hG
  have HB : Hid (Below w.heap.size w W3) := hb3
  clear hcell hr1 c1 hG hb3 hb2 hB1 hB2 hB3
  go_wp2_with fail
  go_loopw [7, 8] (fun s7 _ wr => ∃ i nq : Nat, i ≤ L.length ∧ s7 = .int .i64 i ∧ wr = W3.drewN nq) (fun s7 _ _ => L.length - (intOf s7).toNat)
  case atStart => exact ⟨0, 0, Nat.zero_le _, rfl, rfl⟩
  case round =>
    obtain ⟨i, nq, hil, rfl, rfl⟩ := hrel
    by_cases hlt : i < L.length
    · have hltz : (i : Int) < (L.length : Int) := by omega
      obtain ⟨g, off, rfl, c0, c1, c2, c3⟩ := HC.out i L[i] (List.getElem?_eq_getElem hlt)
      obtain ⟨hok, h16, h64⟩ := HG.out.ok L[i] (List.getElem_mem hlt)
      have HU : Hid (∀ j (hj : j < L.length), j < i → L[j].1 = L[i].1 → L[j].2.1 = L[i].2.1 → False) := fun j hj hji e1 e2 => by
        have := HG.out.kd.uniq j i hj hlt e1 e2
        omega
      obtain ⟨o1, o2, o3, o4, o5, o6⟩ := hok
      generalize L[i] = m at *
      obtain ⟨m0, m1, m2, m3⟩ := m
      simp only at c0 c1 c2 c3 h16 h64 o1 o2 o3 o4 o5 o6
      have q1 : ¬ 16 ≤ m1 := by omega
      have q2 : ¬ 64 ≤ m2 := by omega
      go_wp2_with fail
      go_loopw [8] (fun s8 wr => ∃ kk nq : Nat, kk ≤ i ∧ s8 = .int .i64 kk ∧ wr = W3.drewN nq) (fun s8 _ => i - (intOf s8).toNat)
      case atStart => exact ⟨0, nq, Nat.zero_le _, rfl, rfl⟩
      case round =>
        obtain ⟨kk, nq2, hki, rfl, rfl⟩ := hrel
        by_cases hk : kk < i
        · have hkz : (kk : Int) < (i : Int) := by omega
          have hkl : kk < L.length := by omega
          have hklz : (kk : Int) < (L.length : Int) := by omega
          obtain ⟨g2, off2, eg, d0, d1, d2, d3⟩ := HC.out kk L[kk] (List.getElem?_eq_getElem hkl)
          injection eg with eg
          injection eg with eg1 eg2
          subst eg1
          subst eg2
          have hU := HU.out kk hkl hk
          generalize L[kk] = z at *
          obtain ⟨z0, z1, z2, z3⟩ := z
          simp only at d0 d1 d2 d3 hU
          by_cases e0 : z0 = m0
          · have e1 : z1 ≠ m1 := fun e => hU e0 e
            have p0 : (z0 == m0) = true := by simpa using e0
            have p1 : (z1 == m1) = false := by simpa using e1
            subst e0
            clear hU
            go_wp2_with fail
            go_quiet (fail)
            go_wp2
            go_roundw
            case rel => exact ⟨kk + 1, _, by omega, by go_num, rfl⟩
            case measure => simp [intOf]; omega
          · have p0 : (z0 == m0) = false := by simpa using e0
            clear hU
            go_wp2_with fail
            go_quiet (fail)
            go_wp2
            go_roundw
            case rel => exact ⟨kk + 1, _, by omega, by go_num, rfl⟩
            case measure => simp [intOf]; omega
        · have hkz : ¬ (kk : Int) < (i : Int) := by omega
          go_wp2
          go_roundw
          case rel => exact ⟨i + 1, _, by omega, by go_num, rfl⟩
          case measure => simp [intOf]; omega
    · have hltz : ¬ (i : Int) < (L.length : Int) := by omega
      have h8 : (L.length : Int) ≤ 8 := by omega
      go_wp2
      go_ret
      exact ⟨by simp, bel_drewN nq HB.out⟩
end Go.Proofs.Ytojglefbmfpphaa
