/- TopForked: the walk. -/
import Derived.Test.YtccbdpnjchhiaaaVmL
namespace Go.Proofs.Ytccbdpnjchhiaaa
open Go.RowKit Go.Maps
set_option linter.unusedVariables false
set_option maxRecDepth 100000
set_option maxHeartbeats 8000000 in
theorem forked_law (x0 y0 y1 y2 y3 y4 y5 : Nat) (h0 : x0 ≤ 255) (l0 : y0 ≤ 255) (l1 : y1 ≤ 255) (l2 : y2 ≤ 255) (l3 : y3 ≤ 255) (l4 : y4 ≤ 255) (l5 : y5 ≤ 255) (w : World) : Calls Try.prog 3 #[.int .u8 x0, .agg #[.int .u8 y0, .int .u8 y1, .int .u8 y2, .int .u8 y3, .int .u8 y4, .int .u8 y5]] w fun r w' => r = .returned (.bool true) ∧ Below w.heap.size w w' := by
  obtain ⟨b, hb⟩ : ∃ b : Nat → Int, b = fun j => if j = 0 then (y0 : Int) else if j = 1 then (y1 : Int) else if j = 2 then (y2 : Int) else if j = 3 then (y3 : Int) else if j = 4 then (y4 : Int) else (y5 : Int) := ⟨_, rfl⟩
  have hbx : (w.alloc (.cells #[.int .u8 y0, .int .u8 y1, .int .u8 y2, .int .u8 y3, .int .u8 y4, .int .u8 y5] 22)).heap[w.heap.size]? = some (.cells #[.int .u8 y0, .int .u8 y1, .int .u8 y2, .int .u8 y3, .int .u8 y4, .int .u8 y5] 22 (0, 0)) := heap_alloc_new w _
  have hcells : ∀ j : Nat, j < 6 → (w.alloc (.cells #[.int .u8 y0, .int .u8 y1, .int .u8 y2, .int .u8 y3, .int .u8 y4, .int .u8 y5] 22)).cell? ⟨w.heap.size, j, none⟩ = some (.int .u8 (b j)) := fun j hj => by
    rw [Lib.cell_of_heap hbx, hb]
    match j, hj with
    | 0, _ => rfl
    | 1, _ => rfl
    | 2, _ => rfl
    | 3, _ => rfl
    | 4, _ => rfl
    | 5, _ => rfl
  have cN := vnew_good 16 (w.alloc (.cells #[.int .u8 y0, .int .u8 y1, .int .u8 y2, .int .u8 y3, .int .u8 y4, .int .u8 y5] 22)) (by omega) (by omega)
  have HC := Hid3.mk hcells
  obtain ⟨m, hm⟩ : ∃ m : Nat, m = x0 % 6 := ⟨_, rfl⟩
  have hm5 : m < 6 := by omega
  obtain ⟨nn, hnn⟩ : ∃ nn : Int, nn = (m : Int) + 1 := ⟨_, rfl⟩
  have hnz : (x0 : Int) % 6 + 1 = nn := by omega
  have HNN := Hid3.mk hnn
  have hnw1 : IntKind.i64.wrap (nn - 1) = (m : Int) := by rw [IntKind.wrap_i64]; omega
  have hnw2 : IntKind.i64.wrap (16 - nn) = 15 - (m : Int) := by rw [IntKind.wrap_i64]; omega
  have hn1 : nn - 1 = (m : Int) := by omega
  have hn2 : 16 - nn = 15 - (m : Int) := by omega
  clear hb hbx hcells hm hnn
  go_enter Try.func3, Try.ntmps3
  go_wp2_with fail
  refine cN.mono ?_
  rintro r W0 ⟨l, rfl, hV, hB0⟩
  have HF0 : Hid3 (Fa w W0 (w.alloc (.cells #[.int .u8 y0, .int .u8 y1, .int .u8 y2, .int .u8 y3, .int .u8 y4, .int .u8 y5] 22)).heap.size l.b w.heap.size b (fun t => t = vs0 16)) := ⟨⟨l, _, rfl, hV, rfl⟩, fun j hj => (hB0.cell (World.block_lt_of_cell? _ _ (HC.out j hj))).trans (HC.out j hj), (below_new w _).trans (hB0.mono (by simp)), by simp, by simp, hB0.size⟩
  generalize (w.alloc (.cells #[.int .u8 y0, .int .u8 y1, .int .u8 y2, .int .u8 y3, .int .u8 y4, .int .u8 y5] 22)).heap.size = B at *
  generalize l.b = vb at *
  clear cN hV hB0 HC
  go_wp2_with fail
  refine (tf_begin w W0 B vb w.heap.size b HF0.out).mono ?_
  rintro r W1 ⟨rfl, hF1⟩
  have HF1 := Hid3.mk hF1
  clear hF1 HF0
  go_wp2_with fail
  refine (tf_map w W1 B vb w.heap.size b HF1.out).mono ?_
  rintro r W2 ⟨rfl, hF2⟩
  have HF2 := Hid3.mk hF2
  clear hF2 HF1
  go_wp2_with fail
  clear hnz
  go_loopw [7] (fun i wr => ∃ k : Nat, k ≤ m + 1 ∧ i = .int .i64 (k : Int) ∧ ((k = 0 ∧ Hid3 (Fa w wr B vb w.heap.size b (fun t => t = mp0))) ∨ ∃ j, k = j + 1 ∧ Hid3 (Fa w wr B vb w.heap.size b (Fi b j)))) (fun i _ => 8 - (intOf i).toNat)
  case atStart => exact ⟨0, by omega, rfl, .inl ⟨rfl, HF2⟩⟩
  case round =>
    obtain ⟨k, hk, rfl, hst⟩ := hrel
    clear HF2
    by_cases hkn : k < m + 1
    · have hkz : (k : Int) < nn := by rw [HNN.out]; omega
      rcases hst with ⟨rfl, HF⟩ | ⟨j, rfl, HF⟩
      · have c0 := HF.out.h 0 (by omega)
        go_wp2_with fail
        refine (tf_first w wr B vb w.heap.size b HF.out).mono ?_
        rintro r V ⟨rfl, hF⟩
        have HG := Hid3.mk hF
        clear hF c0
        go_wp2
        go_roundw
        case rel => exact ⟨1, by omega, by go_num, .inr ⟨0, rfl, HG⟩⟩
        case measure => simp [intOf]
      · have hj6 : j + 1 < 6 := by omega
        have cF := tf_fork w wr B vb w.heap.size b j hj6 HF.out
        have hcP := tf_poke w
        obtain ⟨kk, hkk⟩ : ∃ kk : Int, kk = ((j + 1 : Nat) : Int) := ⟨_, rfl⟩
        have HKK := Hid3.mk hkk
        have hk0 : (0 : Int) < kk := by omega
        have hk6 : kk < 6 := by omega
        have hkw : IntKind.i64.wrap (kk - 1) = (j : Int) := by rw [IntKind.wrap_i64]; omega
        have hk1 : kk - 1 = (j : Int) := by omega
        have HCP : Hid3 (∀ W, Fa w W B vb w.heap.size b (fun t => ∃ s, Fi b j s ∧ s.L.length = 2048 ∧ t = fkS s ⟨j, Nat.lt_of_succ_lt hj6⟩ ⟨j + 1, hj6⟩) → W.cell? ⟨w.heap.size, j + 1, none⟩ = some (.int .u8 (b (j + 1))) ∧ Calls Try.prog 8 #[.pointer (some ⟨vb, 0, none⟩), .int .i64 kk, .int .i64 kk, .int .u8 (b (j + 1))] W fun r w' => r = .returned (.int .i64 0) ∧ Fa w w' B vb w.heap.size b (Fi b (j + 1))) := ⟨fun W h => ⟨h.h (j + 1) hj6, by rw [hkk]; exact tf_poke w W B vb w.heap.size b j hj6 h⟩⟩
        have htn : kk.toNat = j + 1 := by omega
        rw [← hkk] at cF hkz ⊢
        clear hkk hcP
        go_wp2_with fail
        refine cF.mono ?_
        rintro r V ⟨rfl, hF⟩
        obtain ⟨c0, cP⟩ := HCP.out V hF
        clear cF hF
        go_wp2_with fail
        refine cP.mono ?_
        rintro r V2 ⟨rfl, hF⟩
        have HG := Hid3.mk hF
        clear hF c0 cP
        go_wp2
        go_roundw
        case rel => exact ⟨j + 2, by omega, by rw [HKK.out]; go_num, .inr ⟨j + 1, rfl, HG⟩⟩
        case measure =>
          have := HKK.out
          simp [intOf]
          omega
    · have hkz : ¬ (k : Int) < nn := by rw [HNN.out]; omega
      have hkm : k = m + 1 := by omega
      subst hkm
      have HF : Hid3 (Fa w wr B vb w.heap.size b (Fi b m)) := by
        rcases hst with ⟨h, _⟩ | ⟨j, h, HF⟩
        · omega
        · have : j = m := by omega
          subst this
          exact HF
      clear hst
      go_wp2_with fail
      go_loopw [8] (fun i W => ∃ p : Nat, p ≤ m + 1 ∧ i = .int .i64 (p : Int) ∧ W = wr) (fun i _ => 8 - (intOf i).toNat)
      case atStart => exact ⟨0, by omega, rfl, rfl⟩
      case round =>
        obtain ⟨p, hp, rfl, rfl⟩ := hrel
        by_cases hpn : p < m + 1
        · have hpz : (p : Int) < nn := by rw [HNN.out]; omega
          go_wp2_with fail
          go_loopw [9] (fun i W => ∃ k : Nat, k ≤ m + 1 ∧ i = .int .i64 (k : Int) ∧ W = wr) (fun i _ => 8 - (intOf i).toNat)
          case atStart => exact ⟨0, by omega, rfl, rfl⟩
          case round =>
            obtain ⟨k, hk, rfl, rfl⟩ := hrel
            by_cases hkn : k < m + 1
            · have hkz2 : (k : Int) < nn := by rw [HNN.out]; omega
              have cP := tf_peek w wr B vb w.heap.size b m p k hm5 (by omega) (by omega) HF.out
              have c0 := HF.out.h k (by omega)
              have hk6 : (k : Int) < 6 := by omega
              by_cases hkp : k ≤ p
              · rw [if_pos hkp] at cP
                have hkp2 : ¬ (p : Int) < (k : Int) := by omega
                generalize b k = bk at *
                have hjj : (bk != bk) = false := by simp
                go_wp2_with fail
                refine cP.mono ?_
                rintro r V ⟨rfl, rfl⟩
                go_wp2
                go_roundw
                case rel => exact ⟨k + 1, by omega, by go_num, by first | rfl | trivial⟩
                case measure => simp [intOf]; omega
              · rw [if_neg hkp] at cP
                have hkp2 : (p : Int) < (k : Int) := by omega
                go_wp2_with fail
                refine cP.mono ?_
                rintro r V ⟨rfl, rfl⟩
                go_wp2
                go_roundw
                case rel => exact ⟨k + 1, by omega, by go_num, by first | rfl | trivial⟩
                case measure => simp [intOf]; omega
            · have hkz2 : ¬ (k : Int) < nn := by rw [HNN.out]; omega
              go_wp2
              go_roundw
              case rel => exact ⟨p + 1, by omega, by go_num, by first | rfl | trivial⟩
              case measure => simp [intOf]; omega
        · have hpz : ¬ (p : Int) < nn := by rw [HNN.out]; omega
          go_wp2_with fail
          refine (tf_copies w wr B vb w.heap.size b m HF.out).mono ?_
          rintro r V ⟨rfl, rfl⟩
          go_wp2_with fail
          refine (tf_left w V B vb w.heap.size b m hm5 HF.out).mono ?_
          rintro r V2 ⟨rfl, hB⟩
          have HB := Hid3.mk (HF.out.k.trans (hB.mono HF.out.k.size))
          clear hB
          go_wp2
          go_ret
          exact ⟨rfl, HB.out⟩
end Go.Proofs.Ytccbdpnjchhiaaa
