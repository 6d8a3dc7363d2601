/- The instruction that four bytes say: the program. -/
import Derived.Test.YtbjklpdloglniaaDoorIsaC
import Derived.Deep.RegionHeld3
namespace Go.Proofs.YtbjklpdloglniaaDoor
open Go.RowKit
set_option linter.unusedVariables false

theorem and15b (n : Int) (h : 0 ≤ n) (h2 : n ≤ 255) : bits .and .u8 n 15 = n % 16 := by
  have h15 : (BitVec.ofInt 8 15).toNat = 2 ^ 4 - 1 := by decide
  have key : (BitVec.ofInt 8 n &&& BitVec.ofInt 8 15).toNat = (n % ((2 ^ 8 : Nat) : Int)).toNat % 2 ^ 4 := by
    rw [BitVec.toNat_and, BitVec.toNat_ofInt, h15, Nat.and_two_pow_sub_one_eq_mod]
  show IntKind.u8.wrap ((BitVec.ofInt 8 n &&& BitVec.ofInt 8 15).toNat : Nat) = n % 16
  rw [key, u8w]
  omega
def insE0 : Value := .tuple #[.agg #[.int .u8 0, .int .u8 0, .int .u8 0, .int .u16 0], .int .i64 3]
set_option maxHeartbeats 1000000 in
set_option maxRecDepth 100000 in
theorem idecode_len (a : Option Addr) (n cap : Nat) (w : World) (hn : ((n : Int) != 4) = true) :
    Calls Tryd.prog 32 #[.slice a n cap] w fun e w' => e = .returned insE0 ∧ Below w.heap.size w w' := by
  go_enter Tryd.func32, Tryd.ntmps32
  go_wp2
  exact bodyPost_ret (v := insE0) (by simp [results, Tryd.results32, go_sem, insE0]) rfl ⟨rfl, (Below.refl _ w).alloc (Nat.le_refl _) _⟩
set_option maxHeartbeats 4000000 in
set_option maxRecDepth 100000 in
theorem idecode_four (g off cap : Nat) (x y z t : Int) (w : World) (hx : 0 ≤ x ∧ x ≤ 255) (hy : 0 ≤ y ∧ y ≤ 255) (hz : 0 ≤ z ∧ z ≤ 255) (ht : 0 ≤ t ∧ t ≤ 255)
    (k0 : w.cell? ⟨g, off, none⟩ = some (.int .u8 x)) (k1 : w.cell? ⟨g, off + 1, none⟩ = some (.int .u8 y)) (k2 : w.cell? ⟨g, off + 2, none⟩ = some (.int .u8 z)) (k3 : w.cell? ⟨g, off + 3, none⟩ = some (.int .u8 t)) (ok : Bool)
    (cR : ∀ w, Calls Tryd.prog 16 #[.agg #[.int .u8 x, .int .u8 (y / 16), .int .u8 (y % 16), .int .u16 (z * 256 + t)]] w fun e W' => e = .returned (.bool ok) ∧ Below w.heap.size w W') :
    Calls Tryd.prog 32 #[.slice (some ⟨g, off, none⟩) 4 cap] w fun e w' => e = .returned (if ok then .tuple #[.agg #[.int .u8 x, .int .u8 (y / 16), .int .u8 (y % 16), .int .u16 (z * 256 + t)], .int .i64 0] else insE0) ∧ Below w.heap.size w w' := by
  have hg : g < w.heap.size := World.block_lt_of_cell? _ _ k0
  have hB0 : Below w.heap.size w (w.alloc (.cells #[.int .u8 0, .int .u8 0, .int .u8 0, .int .u16 0] 29)) := (Below.refl _ w).alloc (Nat.le_refl _) _
  have cJ := fun w => join_any z t w hz.1 hz.2 ht.1 ht.2
  have hand := and15b y hy.1 hy.2
  have hS : Hid (∀ W', Below w.heap.size w W' → (W'.cell? ⟨g, off, none⟩ = some (.int .u8 x) ∧ W'.cell? ⟨g, off + 1, none⟩ = some (.int .u8 y) ∧ W'.cell? ⟨g, off + 2, none⟩ = some (.int .u8 z) ∧ W'.cell? ⟨g, off + 3, none⟩ = some (.int .u8 t)) ∧ Hid (Below w.heap.size w W')) := fun W' hb =>
    ⟨⟨(hb.cell (p := ⟨g, off, none⟩) hg).trans k0, (hb.cell (p := ⟨g, off + 1, none⟩) hg).trans k1, (hb.cell (p := ⟨g, off + 2, none⟩) hg).trans k2, (hb.cell (p := ⟨g, off + 3, none⟩) hg).trans k3⟩, hb⟩
  clear k0 k1 k2 k3
  go_enter Tryd.func32, Tryd.ntmps32
  go_wp2_with fail
  go_region_held3 (fun w' => (w'.cell? ⟨g, off, none⟩ = some (.int .u8 x) ∧ w'.cell? ⟨g, off + 1, none⟩ = some (.int .u8 y) ∧ w'.cell? ⟨g, off + 2, none⟩ = some (.int .u8 z) ∧ w'.cell? ⟨g, off + 3, none⟩ = some (.int .u8 t)) ∧ Hid (Below w.heap.size w w')) (first | exact hS.out _ hB0.drew | exact hS.out _ (hB0.alloc (by simp) _).drew) ((go_at_call 40; refine (cJ _).mono ?_; rintro e w' ⟨rfl, rfl⟩))
  all_goals
    clear hS
    have hBB := (hB0.alloc (by simp) (.cells #[.int .u8 x, .int .u8 (y / 16), .int .u8 (y % 16), .int .u16 (z * 256 + t)] 29)).drew
    have hF : Four (((w.alloc (.cells #[.int .u8 0, .int .u8 0, .int .u8 0, .int .u16 0] 29)).alloc (.cells #[.int .u8 x, .int .u8 (y / 16), .int .u8 (y % 16), .int .u16 (z * 256 + t)] 29)).drew) w.heap.size (.int .u8 0) (.int .u8 0) (.int .u8 0) (.int .u16 0) := (Four.new w (.int .u8 0) (.int .u8 0) (.int .u8 0) (.int .u16 0)).alloc _
    have hG : Four (((w.alloc (.cells #[.int .u8 0, .int .u8 0, .int .u8 0, .int .u16 0] 29)).alloc (.cells #[.int .u8 x, .int .u8 (y / 16), .int .u8 (y % 16), .int .u16 (z * 256 + t)] 29)).drew) (w.heap.size + 1) (.int .u8 x) (.int .u8 (y / 16)) (.int .u8 (y % 16)) (.int .u16 (z * 256 + t)) := by
      have h := Four.new (w.alloc (.cells #[.int .u8 0, .int .u8 0, .int .u8 0, .int .u16 0] 29)) (.int .u8 x) (.int .u8 (y / 16)) (.int .u8 (y % 16)) (.int .u16 (z * 256 + t))
      rw [World.size_alloc] at h
      exact h
    generalize (((w.alloc (.cells #[.int .u8 0, .int .u8 0, .int .u8 0, .int .u16 0] 29)).alloc (.cells #[.int .u8 x, .int .u8 (y / 16), .int .u8 (y % 16), .int .u16 (z * 256 + t)] 29)).drew) = W1 at *
    have hs1 : w.heap.size + 1 < W1.heap.size := (Array.getElem?_eq_some_iff.1 hG).1
    have g0 := hG.c0
    have g1 := hG.c1
    have g2 := hG.c2
    have g3 := hG.c3
    clear hB0 cJ
    go_wp2_with fail
    refine (cR _).mono ?_
    rintro e W3 ⟨rfl, hB3⟩
    replace hF := hF.below hB3 (by omega)
    replace hG := hG.below hB3 (by omega)
    have hb3 := hBB.trans (hB3.mono hBB.size)
    clear g0 g1 g2 g3 cR hB3 hBB
    cases ok with
    | false =>
      have r0 := hF.f 0
      have s0 := hF.c0
      have y3 := hF.set0 (.int .u8 0)
      have r1 := y3.f 1
      have s1 := y3.c1
      have y4 := y3.set1 (.int .u8 0)
      have r2 := y4.f 2
      have s2 := y4.c2
      have y5 := y4.set2 (.int .u8 0)
      have r3 := y5.f 3
      have s3 := y5.c3
      have y6 := y5.set3 (.int .u16 0)
      have q0 := y6.c0
      have q1 := y6.c1
      have q2 := y6.c2
      have q3 := y6.c3
      go_wp2
      exact bodyPost_ret (v := insE0) (by simp [results, Tryd.results32, go_sem, insE0, q0, q1, q2, q3]) rfl ⟨rfl, Below.set4 hb3 (by omega) _ _ _ _⟩
    | true =>
      have g0 := hG.c0
      have g1 := hG.c1
      have g2 := hG.c2
      have g3 := hG.c3
      have r0 := hF.f 0
      have s0 := hF.c0
      have y3 := hF.set0 (.int .u8 x)
      have r1 := y3.f 1
      have s1 := y3.c1
      have y4 := y3.set1 (.int .u8 (y / 16))
      have r2 := y4.f 2
      have s2 := y4.c2
      have y5 := y4.set2 (.int .u8 (y % 16))
      have r3 := y5.f 3
      have s3 := y5.c3
      have y6 := y5.set3 (.int .u16 (z * 256 + t))
      have q0 := y6.c0
      have q1 := y6.c1
      have q2 := y6.c2
      have q3 := y6.c3
      go_wp2
      exact bodyPost_ret (v := .tuple #[.agg #[.int .u8 x, .int .u8 (y / 16), .int .u8 (y % 16), .int .u16 (z * 256 + t)], .int .i64 0]) (by simp [results, Tryd.results32, go_sem, q0, q1, q2, q3]) rfl ⟨rfl, Below.set4 hb3 (by omega) _ _ _ _⟩
/-- An instruction and an error, as they are handed back. -/
def decEV (r : Option (Int × Int × Int × Int)) : Value := match r with
  | some i => .tuple #[.agg #[.int .u8 i.1, .int .u8 i.2.1, .int .u8 i.2.2.1, .int .u16 i.2.2.2], .int .i64 0]
  | none => insE0
theorem idecode_any (v : Value) (bs : List UInt8) (w : World) (hb : Bts w v bs) :
    Calls Tryd.prog 32 #[v] w fun e w' => e = .returned (decEV (decO bs)) ∧ Below w.heap.size w w' := by
  obtain ⟨a, cap, rfl, hcap, hm, hc⟩ := hb
  by_cases h4 : bs.length = 4
  · match bs, h4 with
    | [x, y, z, t], _ =>
      obtain ⟨g, off, rfl, k0⟩ := hc 0 x rfl
      obtain ⟨g1, off1, e1, k1⟩ := hc 1 y rfl
      obtain ⟨g2, off2, e2, k2⟩ := hc 2 z rfl
      obtain ⟨g3, off3, e3, k3⟩ := hc 3 t rfl
      cases e1
      cases e2
      cases e3
      have hx := x.toNat_lt
      have hy := y.toNat_lt
      have hz := z.toNat_lt
      have ht := t.toNat_lt
      have cR := fun w => iright_any (x.toNat : Int) ((y.toNat : Int) / 16) ((y.toNat : Int) % 16) ((z.toNat : Int) * 256 + (t.toNat : Int)) w (by omega) (by omega)
      have h := idecode_four g off cap x.toNat y.toNat z.toNat t.toNat w (by omega) (by omega) (by omega) (by omega) k0 k1 k2 k3 _ cR
      refine h.mono ?_
      rintro e w' ⟨rfl, hB⟩
      refine ⟨?_, hB⟩
      have e1 : (((y.toNat / 16 : Nat) : Int)) = (y.toNat : Int) / 16 := by omega
      have e2 : (((y.toNat % 16 : Nat) : Int)) = (y.toNat : Int) % 16 := by omega
      have e3 : (((z.toNat * 256 + t.toNat : Nat) : Int)) = (z.toNat : Int) * 256 + (t.toNat : Int) := by omega
      show _ = Ending.returned (decEV (if insR x.toNat (y.toNat / 16 : Nat) (y.toNat % 16 : Nat) (z.toNat * 256 + t.toNat : Nat) then some ((x.toNat : Int), ((y.toNat / 16 : Nat) : Int), ((y.toNat % 16 : Nat) : Int), ((z.toNat * 256 + t.toNat : Nat) : Int)) else none))
      rw [e1, e2, e3]
      cases insR x.toNat ((y.toNat : Int) / 16) ((y.toNat : Int) % 16) ((z.toNat : Int) * 256 + (t.toNat : Int)) <;> rfl
  · have e : decO bs = none := by
      match bs, h4 with
      | [], _ => rfl
      | [_], _ => rfl
      | [_, _], _ => rfl
      | [_, _, _], _ => rfl
      | [_, _, _, _], h => exact absurd rfl h
      | _ :: _ :: _ :: _ :: _ :: _, _ => rfl
    rw [e]
    exact idecode_len a bs.length cap w (by rw [bne_iff_ne]; omega)
end Go.Proofs.YtbjklpdloglniaaDoor
