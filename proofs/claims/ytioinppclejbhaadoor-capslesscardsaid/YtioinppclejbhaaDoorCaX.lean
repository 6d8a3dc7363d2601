/- The document's table: Revoke. -/
import Derived.Test.YtioinppclejbhaaDoorCaW
namespace Go.Proofs.YtioinppclejbhaaDoor
open Go.RowKit Go.Maps
set_option linter.unusedVariables false
set_option maxRecDepth 100000
/-- Behind k slots those that are asked for are gone. -/
def goneS (s : Sl) (q : Fin 12 → Bool) (k : Nat) : Sl := fun i => if i.1 < k ∧ q i = true then none else s i
theorem goneS_0 (s : Sl) (q : Fin 12 → Bool) : goneS s q 0 = s := by funext i; simp [goneS]
theorem goneS_at (s : Sl) (q : Fin 12 → Bool) (k : Nat) (hk : k < 12) : goneS s q k ⟨k, hk⟩ = s ⟨k, hk⟩ := by simp [goneS]
theorem goneS_no (s : Sl) (q : Fin 12 → Bool) (k : Nat) (hk : k < 12) (hq : q ⟨k, hk⟩ = false) : goneS s q (k + 1) = goneS s q k := by
  funext i
  unfold goneS
  by_cases h : i = ⟨k, hk⟩
  · subst h; simp [hq]
  · have h1 : i.1 ≠ k := fun e => h (Fin.ext e)
    have h2 : i.1 < k + 1 ↔ i.1 < k := by omega
    simp only [h2]
theorem goneS_yes (s : Sl) (q : Fin 12 → Bool) (k : Nat) (hk : k < 12) (hq : q ⟨k, hk⟩ = true) : goneS s q (k + 1) = upd (goneS s q k) ⟨k, hk⟩ none := by
  funext i
  unfold goneS upd
  by_cases h : i = ⟨k, hk⟩
  · subst h; simp [hq]
  · have h1 : i.1 ≠ k := fun e => h (Fin.ext e)
    have h2 : i.1 < k + 1 ↔ i.1 < k := by omega
    simp only [h2, h, if_false]
theorem grownB {W W' : World} (h : Below W.heap.size W W') : W.grownBy W' none := ⟨h.os, h.tape, h.output, h.size, fun k hk _ => h.block k hk⟩
theorem grownSet (W : World) (b j : Nat) (v : Value) : W.grownBy (W.setCell ⟨b, j, none⟩ v) (some b) :=
  ⟨rfl, rfl, rfl, by rw [size_setCell]; exact Nat.le_refl _, fun k hk hne => Below.heap_setCell W ⟨b, j, none⟩ v k (fun e => hne (by rw [e]))⟩
theorem TStp.grown {t : TypeId} {B : Nat} {w W W' : World} {b : Nat} {s : Sl} {row : Option Nat} (h : TStp t B w W b s) (hg : W.grownBy W' row) (hr : ∀ r, row = some r → w.heap.size ≤ r) (hb : b < w.heap.size) : TStp t B w W' b s :=
  ⟨⟨h.tb.g, (hg.block b h.tb.c.lt (fun e => by have := hr b e.symm; omega)).trans h.tb.c⟩, ⟨hg.os.trans h.ap.os, hg.tape.trans h.ap.tape, hg.output.trans h.ap.output, Nat.le_trans h.ap.size hg.size, fun k hk hx => (hg.block k (Nat.lt_of_lt_of_le hk h.ap.size) (fun e => by have := hr k e.symm; omega)).trans (h.ap.block k hk hx)⟩⟩
set_option maxHeartbeats 2000000 in
theorem rrevoke_any (B b : Nat) (s : Sl) (top : ByteArray) (ab : Fin 12 → Bool) (w : World) (h : Tb 61 B w b s) (cA : ∀ (k : Fin 12) W, Apart (fun i => i = b) w W → Calls Tryd.prog 22 #[.string top, .string (slotC (s k)).1] W fun e w' => e = .returned (.bool (ab k)) ∧ Below W.heap.size W w') :
    Calls Tryd.prog 56 #[.pointer (some ⟨b, 0, none⟩), .string top] w fun r w' => ∃ v, r = .returned v ∧ w'.ownsRow w.heap.size 3 1 v (thL (fun k => (s k).isSome && ab k) 12).length ((thL (fun k => (s k).isSome && ab k) 12).map slI) ∧ TStp 61 B w w' b (goneS s (fun k => (s k).isSome && ab k) 12) := by
  have HN : Hid (∀ k : Fin 12, ((slotC (s k)).1.toList == ([] : List UInt8)) = !(s k).isSome) := fun k => slot_name (s k)
  obtain ⟨i0, hi, hz0, hz1, hz2⟩ := info_parts infoI
  have hbl := h.c.lt
  have HT0 : Hid (TStp 61 B w w b s) := TStp.same h (Below.refl _ _)
  have HA := Hid3.mk cA
  clear h cA
  generalize hq : (fun k => (s k).isSome && ab k) = q at *
  have HQ : Hid (∀ k : Fin 12, ((s k).isSome && ab k) = q k) := fun k => by rw [← hq]
  clear hq
  go_enter Tryd.func56, Tryd.ntmps56
  go_wp2_with fail
  go_loopw [5, 6] (fun s5 s6 wr => ∃ k : Nat, k ≤ 12 ∧ s6 = .int .i64 k ∧ wr.ownsRow w.heap.size 3 1 s5 (thL q k).length ((thL q k).map slI) ∧ Hid (TStp 61 B w wr b (goneS s q k))) (fun _ s _ => 12 - (intOf s).toNat)
  case atStart => exact ⟨0, Nat.zero_le _, rfl, World.ownsRow_nil _ _ _ _, by rw [goneS_0]; exact HT0.out⟩
  case round =>
    obtain ⟨k, hk, rfl, hown, HT⟩ := hrel
    by_cases hlt : k < 12
    · have hltz : (k : Int) < 12 := by omega
      have HS : Hid (thL q (k + 1) = thL q k ++ (if q ⟨k, hlt⟩ then [⟨k, hlt⟩] else [])) := thL_snoc q k hlt
      have HG0 : Hid (q ⟨k, hlt⟩ = false → goneS s q (k + 1) = goneS s q k) := goneS_no s q k hlt
      have HG1 : Hid (q ⟨k, hlt⟩ = true → goneS s q (k + 1) = upd (goneS s q k) ⟨k, hlt⟩ none) := goneS_yes s q k hlt
      have hlen := thL_len q k
      have hat := HT.out.tb.at ⟨k, hlt⟩
      rw [goneS_at] at hat
      obtain ⟨⟨c0, c1⟩, f0, f1⟩ := hat
      have hn := HN.out ⟨k, hlt⟩
      have hqk := HQ.out ⟨k, hlt⟩
      have cA := HA.out ⟨k, hlt⟩ wr HT.out.ap
      have hsz := HT.out.ap.size
      have hblr : b < wr.heap.size := by omega
      simp only at c0 c1 f0 f1
      obtain ⟨a0, cap0, hvf⟩ : ∃ a cap, u5 = .slice a (thL q k).length cap := by
        rcases hown.2 with ⟨hv0, hk0⟩ | ⟨g, cap, cur, hv0, _⟩
        · exact ⟨none, 0, by rw [hk0]; exact hv0⟩
        · exact ⟨_, _, hv0⟩
      subst hvf
      clear HN HQ HA HT0
      generalize (slotC (s ⟨k, hlt⟩)).1 = n at *
      generalize ((slotC (s ⟨k, hlt⟩)).2.toNat : Int) = rr at *
      cases hz : (s ⟨k, hlt⟩).isSome with
      | false =>
        rw [hz] at hn hqk
        have hq0 : q ⟨k, hlt⟩ = false := by rw [← hqk]; rfl
        have HX : Hid (thL q (k + 1) = thL q k) := by show thL q (k + 1) = _; rw [HS.out, hq0]; simp
        have HY : Hid (TStp 61 B w wr b (goneS s q (k + 1))) := by show TStp _ _ _ _ _ _; rw [HG0.out hq0]; exact HT.out
        clear HS HG0 HG1 hqk hq0 cA HT hz
        go_wp2
        go_roundw
        case rel => exact ⟨k + 1, by omega, by go_num, by rw [HX.out]; exact hown, HY.out⟩
        case measure => simp [intOf]; omega
      | true =>
        rw [hz] at hn hqk
        cases ha : ab ⟨k, hlt⟩ with
        | false =>
          rw [ha] at hqk cA
          have hq0 : q ⟨k, hlt⟩ = false := by rw [← hqk]; rfl
          have HX : Hid (thL q (k + 1) = thL q k) := by show thL q (k + 1) = _; rw [HS.out, hq0]; simp
          go_wp2_with fail
          refine cA.mono ?_
          rintro r W1 ⟨rfl, hB1⟩
          have HY : Hid (TStp 61 B w W1 b (goneS s q (k + 1))) := by show TStp _ _ _ _ _ _; rw [HG0.out hq0]; exact HT.out.post hB1
          have hown1 := hown.kept (grownB hB1) (Classical.em _)
          clear HS HG0 HG1 hqk hq0 cA HT hz hB1 c0 c1 f0 f1 hown
          go_wp2
          go_roundw
          case rel => exact ⟨k + 1, by omega, by go_num, by rw [HX.out]; exact hown1, HY.out⟩
          case measure => simp [intOf]; omega
        | true =>
          rw [ha] at hqk cA
          have hq1 : q ⟨k, hlt⟩ = true := by rw [← hqk]; rfl
          have HX : Hid (thL q (k + 1) = thL q k ++ [⟨k, hlt⟩]) := by show thL q (k + 1) = _; rw [HS.out, hq1]; rfl
          go_wp2_with fail
          refine cA.mono ?_
          rintro r W1 ⟨rfl, hB1⟩
          have HT1 := HT.out.post hB1
          have hx0 := (hB1.cell (p := ⟨b, k * 2, none⟩) hblr).trans c0
          have hx1 := (hB1.cell (p := ⟨b, k * 2 + 1, none⟩) hblr).trans c1
          have hf := HT1.tb.c.thaw
          have hf0 := hf (k * 2)
          have hf1 := hf (k * 2 + 1)
          have HY : Hid (TStp 61 B w ((W1.setCell ⟨b, k * 2, none⟩ (.string ⟨#[]⟩)).setCell ⟨b, k * 2 + 1, none⟩ (.int .u8 0)) b (goneS s q (k + 1))) := by show TStp _ _ _ _ _ _; rw [HG1.out hq1]; exact HT1.trans (TStp.slot HT1.tb ⟨k, hlt⟩ none)
          have hown1 := hown.kept (grownB hB1) (Classical.em _)
          have hnb : (Value.slice a0 (thL q k).length cap0).ownBlock ≠ some b := (row_block hown1 hbl).symm
          have hown2 := (hown1.kept (grownSet W1 b (k * 2) (.string ⟨#[]⟩)) (.inr hnb)).kept (grownSet _ b (k * 2 + 1) (.int .u8 0)) (.inr hnb)
          have hsz1 : w.heap.size ≤ W1.heap.size := HT1.ap.size
          have hcn : ∀ (v : Value) (t : TypeId), ∀ j u, [v][j]? = some u → (((W1.setCell ⟨b, k * 2, none⟩ (.string ⟨#[]⟩)).setCell ⟨b, k * 2 + 1, none⟩ (.int .u8 0)).alloc (.cells #[v] t)).cell? ((⟨W1.heap.size, 0, none⟩ : Addr).add j) = some u := fun v t => by
            have := cell_one_new ((W1.setCell ⟨b, k * 2, none⟩ (.string ⟨#[]⟩)).setCell ⟨b, k * 2 + 1, none⟩ (.int .u8 0)) v t
            rwa [size_setCell, size_setCell] at this
          have hs2 : (((W1.setCell ⟨b, k * 2, none⟩ (.string ⟨#[]⟩)).setCell ⟨b, k * 2 + 1, none⟩ (.int .u8 0)).heap.size) = W1.heap.size := by rw [size_setCell, size_setCell]
          clear HS HG0 HG1 hqk hq1 cA HT hz hB1 c0 c1 f0 f1 hown hown1 HT1 hf
          go_wp2_with (at_builtin; refine wpList_append_own _ rfl _ _ 40 rfl w.heap.size 3 i0 (.int .i64 0) 1 8 Tryd.underlying40 hi hz0 hz1 hz2 rfl (by decide) _ _ _ rfl (hown2.alloc _) ⟨W1.heap.size, 0, none⟩ 1 1 [slI ⟨k, hlt⟩] rfl rfl (hcn _ _) (by simp [slI, Value.oneCell']) (by unfold maxLen; omega) (by first | omega | (rw [World.size_alloc, hs2]; omega)) (by first | (rw [World.size_alloc, hs2]; omega) | (simp; omega)) ?_; intro v' w1 hown' hgrow _; obtain ⟨g', cap', rfl⟩ := ownsRow_succ hown')
          go_roundw
          case rel => exact ⟨k + 1, by omega, by go_num, by rw [HX.out, List.length_append, List.map_append]; exact hown', (HY.out.post (below_new _ _)).grown hgrow (fun j ej => (hown2.lt j ej).1) hbl⟩
          case measure => simp [intOf]; omega
    · obtain rfl : k = 12 := by omega
      clear HN HQ HA HT0
      go_wp2
      go_ret
      exact ⟨_, rfl, hown, HT.out⟩
end Go.Proofs.YtioinppclejbhaaDoor
