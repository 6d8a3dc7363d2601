/- TopShares: the walk. -/
import Derived.Test.YtmnolchkcejgaaaTopSh
namespace Go.Proofs.Ytmnolchkcejgaaa
open Go.RowKit Go.Maps
set_option linter.unusedVariables false
set_option maxRecDepth 100000
def whCs (wv : Fin 8 → Int) : List Value := [.int .u8 (wv 0), .int .u8 (wv 1), .int .u8 (wv 2), .int .u8 (wv 3), .int .u8 (wv 4), .int .u8 (wv 5), .int .u8 (wv 6), .int .u8 (wv 7)]
theorem whCs_at (wv : Fin 8 → Int) : ∀ k : Fin 8, (whCs wv)[k.1]? = some (.int .u8 (wv k)) := all8 rfl rfl rfl rfl rfl rfl rfl rfl
set_option maxHeartbeats 4000000 in
theorem shares_law (wv : Fin 8 → Int) (w : World) (hwv : ∀ k, 0 ≤ wv k ∧ wv k ≤ 255) : Calls Try.prog 3 #[.agg (whCs wv).toArray] w fun e w' => e = .returned (.bool true) ∧ Below w.heap.size w w' := by
  obtain ⟨wh, hwh⟩ : ∃ wh : Fin 8 → Fin 6, ∀ k, wv k % 6 = ((wh k).1 : Int) := ⟨fun k => ⟨(wv k % 6).toNat, by omega⟩, fun k => by show _ = (((wv k % 6).toNat : Nat) : Int); omega⟩
  have HWH : Hid3 (∀ k, wv k % 6 = ((wh k).1 : Int)) := ⟨hwh⟩
  have HWV : Hid3 (∀ k, 0 ≤ wv k ∧ wv k ≤ 255) := ⟨hwv⟩
  have hX := below_new w (.cells (whCs wv).toArray 22)
  have hbx : Cl (w.alloc (.cells (whCs wv).toArray 22)) w.heap.size 22 (whCs wv) := Cl.new w _ _
  have cN := new_any (w.alloc (.cells (whCs wv).toArray 22))
  have hs0 : (w.alloc (.cells (whCs wv).toArray 22)).heap.size = w.heap.size + 1 := by simp
  have HX : Hid3 (Below w.heap.size w (w.alloc (.cells (whCs wv).toArray 22)) ∧ Cl (w.alloc (.cells (whCs wv).toArray 22)) w.heap.size 22 (whCs wv) ∧ (w.alloc (.cells (whCs wv).toArray 22)).heap.size = w.heap.size + 1) := ⟨hX, hbx, hs0⟩
  clear hwh hwv hX hbx hs0
  have hgoal : (Value.agg (whCs wv).toArray).cells = (whCs wv).toArray := rfl
  go_enter Try.func3, Try.ntmps3
  go_wp2_with fail
  generalize (w.alloc (.cells (whCs wv).toArray 22)) = W0 at *
  refine cN.mono ?_
  rintro r W1 ⟨rfl, hV1, hB1⟩
  obtain ⟨vb, hvb⟩ : ∃ vb, vb = W0.heap.size + 1 := ⟨_, rfl⟩
  obtain ⟨pb, hpb⟩ : ∃ pb, pb = W0.heap.size := ⟨_, rfl⟩
  rw [← hvb] at hV1 ⊢
  rw [← hpb] at hV1
  have HV1 : Hid3 (Vec W0.heap.size W1 vb pb q0) := ⟨by rw [← hpb]; exact hV1⟩
  have HB1 : Hid3 (Below W0.heap.size W0 W1) := ⟨hB1⟩
  clear hV1 hB1 hvb hpb cN hgoal
  go_wp2_with fail
  have HF0 : Hid3 (FrS W0 ((W1.alloc (.cells #[.int .i64 0, .int .i64 0, .int .i64 0, .int .i64 0, .int .i64 0, .int .i64 0] 25)).alloc (.cells #[.int .i64 0, .int .i64 0, .int .i64 0, .int .i64 0, .int .i64 0, .int .i64 0] 25)) vb pb W1.heap.size (W1.heap.size + 1) (stW wh 0 7) (cW wh 0) (vW wh 0)) := by
    have hB := ((below_new W1 (.cells #[.int .i64 0, .int .i64 0, .int .i64 0, .int .i64 0, .int .i64 0, .int .i64 0] 25)).alloc (by simp) (.cells #[.int .i64 0, .int .i64 0, .int .i64 0, .int .i64 0, .int .i64 0, .int .i64 0] 25))
    refine ⟨⟨by rw [stW_zero]; exact HV1.out.below hB, (Cl.new W1 25 (penCs (cW wh 0))).alloc _, ?_, HB1.out.trans (hB.mono HB1.out.size), HV1.out.v.lt, HV1.out.p.lt, by omega, HB1.out.size⟩⟩
    have := Cl.new (W1.alloc (.cells #[.int .i64 0, .int .i64 0, .int .i64 0, .int .i64 0, .int .i64 0, .int .i64 0] 25)) 25 (penCs (fun _ => 0))
    rw [World.size_alloc] at this
    have hv0 : vW wh 0 = fun _ => 0 := by funext e; simp [vW, cW]
    rw [hv0]
    exact this
  generalize ((W1.alloc (.cells #[.int .i64 0, .int .i64 0, .int .i64 0, .int .i64 0, .int .i64 0, .int .i64 0] 25)).alloc (.cells #[.int .i64 0, .int .i64 0, .int .i64 0, .int .i64 0, .int .i64 0, .int .i64 0] 25)) = W2 at *
  generalize W1.heap.size = bp at *
  clear HV1 HB1
  go_loopw [6] (fun s6 wr => ∃ (k : Nat), k ≤ 8 ∧ s6 = .int .i64 k ∧ Hid3 (FrS W0 wr vb pb bp (bp + 1) (stW wh k 7) (cW wh k) (vW wh 0))) (fun s _ => 8 - (intOf s).toNat)
  case atStart => exact ⟨0, Nat.zero_le _, rfl, HF0⟩
  case round =>
    obtain ⟨k, hk, rfl, HF⟩ := hrel
    by_cases hlt : k < 8
    · have hltz : (k : Int) < 8 := by omega
      have hc : wr.cell? ⟨w.heap.size, k, none⟩ = some (.int .u8 (wv ⟨k, hlt⟩)) := by
        have h1 : Cl wr w.heap.size 22 (whCs wv) := (HF.out.b.block w.heap.size (by rw [HX.out.2.2]; omega)).trans HX.out.2.1
        exact (h1.cell k).trans (whCs_at wv ⟨k, hlt⟩)
      have hw6 := HWH.out ⟨k, hlt⟩
      have hw0 := HWV.out ⟨k, hlt⟩
      have hor : ordK 0 k = ⟨k, hlt⟩ := Fin.ext (by show (0 + k) % 8 = k; omega)
      have hnx := cW_next wh k
      rw [hor] at hnx
      obtain ⟨t1, t2⟩ := stW_take wh k hlt
      have cT := take_ok _ vb pb (stW wh k 7) (wh ⟨k, hlt⟩) ⟨k, hlt⟩ wr HF.out.v
      rw [t1, t2] at cT
      simp only at cT
      have hle := cW_le wh k (wh ⟨k, hlt⟩)
      have hle8 : ((cW wh k (wh ⟨k, hlt⟩) : Nat) : Int) ≤ 8 := by omega
      have HNX : Hid3 (upd (cW wh k) (wh ⟨k, hlt⟩) (cW wh k (wh ⟨k, hlt⟩) + 1) = cW wh (k + 1)) := ⟨hnx⟩
      generalize wv ⟨k, hlt⟩ = wk at *
      generalize wh ⟨k, hlt⟩ = e at *
      obtain ⟨hw00, hw01⟩ := hw0
      have he6 : (e.1 : Int) < 6 := by have := e.2; omega
      clear hor hnx t1 t2 hle
      go_wp2_with fail
      refine cT.mono ?_
      rintro r W3 ⟨rfl, hS3⟩
      have hF3 := HF.out.step hS3
      obtain ⟨c0, f0⟩ := hF3.cp e
      have hF4 := hF3.setp e (cW wh k e + 1)
      rw [HNX.out] at hF4
      have HF4 : Hid3 (FrS W0 (W3.setCell ⟨bp, e.1, none⟩ (.int .i64 ((cW wh k e : Int) + 1))) vb pb bp (bp + 1) (stW wh (k + 1) 7) (cW wh (k + 1)) (vW wh 0)) := ⟨hF4⟩
      clear cT hS3 hF3 hF4 hc
      go_wp2
      go_roundw
      case rel => exact ⟨k + 1, by omega, by go_num, HF4⟩
      case measure => simp [intOf]; omega
    · obtain rfl : k = 8 := by omega
      rw [show (((8 : Nat)) : Int) = 8 from rfl]
      have HG0 : Hid3 (FrS W0 wr vb pb bp (bp + 1) (stW wh 8 (nowW 0)) (cW wh 8) (vW wh 0)) := HF
      clear HF
      go_wp2_with fail
      go_loopw [8] (fun s8 wr2 => ∃ (i : Nat), i ≤ 24 ∧ s8 = .int .i64 i ∧ Hid3 (FrS W0 wr2 vb pb bp (bp + 1) (stW wh 8 (nowW i)) (cW wh 8) (vW wh i))) (fun s _ => 24 - (intOf s).toNat)
      case atStart => exact ⟨0, Nat.zero_le _, rfl, HG0⟩
      case round =>
        obtain ⟨i, hi, rfl, HG⟩ := hrel
        by_cases hlt2 : i < 24
        · have hltz : (i : Int) < 24 := by omega
          have cT := turn_any _ vb pb _ _ HG.out.v (ok_stW wh 8 (nowW i))
          obtain ⟨t1, t2⟩ := stW_turn wh i
          rw [t1, t2] at cT
          simp only [turnV] at cT
          have hpl : (((ordK 0 (i % 8)).1 : Nat) : Int) = (i : Int) % 8 := by show (((0 + i % 8) % 8 : Nat) : Int) = _; omega
          rw [hpl] at cT
          have hle := vW_le wh i hi (wh (ordK 0 (i % 8)))
          have HNX : Hid3 (upd (vW wh i) (wh (ordK 0 (i % 8))) (vW wh i (wh (ordK 0 (i % 8))) + 1) = vW wh (i + 1)) := ⟨vW_next wh i⟩
          generalize wh (ordK 0 (i % 8)) = e at *
          have hle8 : ((vW wh i e : Nat) : Int) ≤ 40 := by omega
          have he6 : (e.1 : Int) < 6 := by have := e.2; omega
          have he6' : ¬ (6 : Int) ≤ (e.1 : Int) := by omega
          have hmm : (((i : Int) % 8) != ((i : Int) % 8)) = false := by simp
          clear t1 t2 hle hpl
          go_wp2_with fail
          refine cT.mono ?_
          rintro r W3 ⟨rfl, hS3⟩
          have hF3 := HG.out.step hS3
          obtain ⟨c0, f0⟩ := hF3.ct e
          have hF4 := hF3.sett e (vW wh i e + 1)
          rw [HNX.out] at hF4
          have HF4 : Hid3 (FrS W0 (W3.setCell ⟨bp + 1, e.1, none⟩ (.int .i64 ((vW wh i e : Int) + 1))) vb pb bp (bp + 1) (stW wh 8 (nowW (i + 1))) (cW wh 8) (vW wh (i + 1))) := ⟨hF4⟩
          clear cT hS3 hF3 hF4
          go_wp2
          go_roundw
          case rel => exact ⟨i + 1, by omega, by go_num, HF4⟩
          case measure => simp [intOf]; omega
        · obtain rfl : i = 24 := by omega
          rw [show (((24 : Nat)) : Int) = 24 from rfl]
          have HZ : Hid3 (∀ e, vW wh 24 e = 3 * cW wh 8 e ∧ cW wh 8 e ≤ 8) := ⟨fun e => ⟨vW_end wh e, cW_le wh 8 e⟩⟩
          generalize stW wh 8 (nowW 24) = s at *
          generalize cW wh 8 = f at *
          generalize vW wh 24 = g at *
          go_wp2_with fail
          go_loopw [12] (fun s12 wr5 => ∃ (k : Nat), k ≤ 6 ∧ s12 = .int .i64 k ∧ Hid3 (FrS W0 wr5 vb pb bp (bp + 1) s f g)) (fun s _ => 6 - (intOf s).toNat)
          case atStart => exact ⟨0, Nat.zero_le _, rfl, HG⟩
          case round =>
            obtain ⟨k, hk, rfl, HG5⟩ := hrel
            by_cases hk6 : k < 6
            · have hkz : (k : Int) < 6 := by omega
              have c0 := (HG5.out.ct ⟨k, hk6⟩).1
              have c1 := (HG5.out.cp ⟨k, hk6⟩).1
              simp only at c0 c1
              obtain ⟨hz, h8⟩ := HZ.out ⟨k, hk6⟩
              generalize g ⟨k, hk6⟩ = gk at *
              generalize f ⟨k, hk6⟩ = fk at *
              have hmm : 3 * (fk : Int) = (gk : Int) := by omega
              have hgg : ((gk : Int) != (gk : Int)) = false := by simp
              have hg40 : gk ≤ 24 := by omega
              clear hz
              go_wp2_with fail
              go_quiet (fail)
              have HG6 : Hid3 (FrS W0 (World.drewN _ nq) vb pb bp (bp + 1) s f g) := ⟨HG5.out.below ⟨rfl, rfl, rfl, Nat.le_refl _, fun _ _ => rfl⟩⟩
              go_wp2
              go_roundw
              case rel => exact ⟨k + 1, by omega, by go_num, HG6⟩
              case measure => simp [intOf]; omega
            · obtain rfl : k = 6 := by omega
              have HB6 := HG5.out.b
              go_wp2
              go_ret
              exact ⟨rfl, HX.out.1.trans (HB6.mono HX.out.1.size)⟩
end Go.Proofs.Ytmnolchkcejgaaa
