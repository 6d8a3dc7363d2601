/- A memory is filled. -/
import Derived.Test.YtdmahmolhdbegaaMemD
namespace Go.Proofs.Ytdmahmolhdbegaa
open Go.RowKit Go.Maps
set_option linter.unusedVariables false
set_option maxRecDepth 100000
def slLen : Value → Nat
  | .slice _ n _ => n
  | _ => 0
structure Hid2 (p : Prop) : Prop where
  out : p
theorem putL_take {L vs : List Int} {K d m : Nat} (h : K + vs.length ≤ L.length) (hd : d + m ≤ vs.length) : putL (putL L K (vs.take d)) (K + d) ((vs.drop d).take m) = putL L K (vs.take (d + m)) := by
  have e : (vs.take d).length = d := by rw [List.length_take]; omega
  have := putL_putL (L := L) (u := vs.take d) (v := (vs.drop d).take m) (k := K) (by omega)
  rw [e] at this
  rw [this, List.take_add]
set_option maxHeartbeats 4000000 in
theorem fill_ok (b f o g p s c : Nat) (n : Int) (L vs : List Int) (w : World) (h : Mem w b n L) (hs : vs.length = s) (hc : s ≤ c) (hS : Src w b g p vs) (h1 : (f : Int) < n) (h2 : o < 32) (h3 : (s : Int) ≤ (n - f) * 32 - o) :
    Calls Try.prog 52 #[.pointer (some ⟨b, 0, none⟩), .int .i64 f, .int .i64 o, .slice (some ⟨g, p, none⟩) s c] w fun e w' => e = .returned (.int .i64 0) ∧ Mem w' b n (putL L (f * 32 + o) vs) ∧ Only b w w' := by
  have c1 := there_ok b n L f w h (by omega) h1
  have hhi := h.hi
  have hlo := h.lo
  have hsz := h.size
  have hfit : f * 32 + o + s ≤ 2048 := by omega
  have HL : Hid2 (L.length = 2048) := ⟨h.len⟩
  have HS : Hid2 (vs.length = s) := ⟨hs⟩
  clear hs
  go_enter Try.func52, Try.ntmps52
  go_wp2_with fail
  refine c1.mono ?_
  rintro e W1 ⟨rfl, rfl⟩
  clear c1
  have g1 : ¬ (o : Int) < 0 := by omega
  have g2 : ¬ (32 : Int) ≤ (o : Int) := by omega
  have g3 : ¬ (n - (f : Int)) * 32 - (o : Int) < (s : Int) := by omega
  go_wp2
  clear g1 g2 g3 hsz
  go_loopw [1, 2, 3] (fun vf vo vb W => ∃ (d f' o' p' : Nat), vf = .int .i64 f' ∧ vo = .int .i64 o' ∧ vb = .slice (some ⟨g, p', none⟩) (s - d) (c - d) ∧ d ≤ s ∧ o' < 32 ∧ f' ≤ 100 ∧ Hid2 (d < s → f' * 32 + o' = f * 32 + o + d ∧ p' = p + d) ∧ Mem W b n (putL L (f * 32 + o) (vs.take d)) ∧ Only b W1 W) (fun _ _ vb _ => slLen vb)
  case atStart => exact ⟨0, f, o, p, rfl, rfl, rfl, by omega, h2, by omega, ⟨fun _ => ⟨rfl, rfl⟩⟩, by rw [List.take_zero, putL_nil]; exact h, Only.refl _ _⟩
  case round =>
    obtain ⟨d, f', o', p', rfl, rfl, rfl, hd, ho', hf', Hd, hM, hO⟩ := hrel
    by_cases hds : d < s
    · obtain ⟨e1, rfl⟩ := Hd.out hds
      clear Hd
      have g0 : 0 < ((s - d : Nat) : Int) := by omega
      have gf : (f' : Int) < 64 := by omega
      have hsl := fun W => slice_con b (1 + f' * 32) o' 32 32 (by omega) (by omega) (by omega) (by omega) W
      rw [Nat.add_assoc] at hsl
      rw [show ((32 : Nat) : Int) = 32 from rfl] at hsl
      have H1 : Hid2 (f' * 32 + o' = f * 32 + o + d) := ⟨e1⟩
      obtain ⟨m, hm⟩ : ∃ m, m = Nat.min (s - d) (32 - o') := ⟨_, rfl⟩
      have HM : Hid2 (((vs.drop d).take m).length = Nat.min (s - d) (32 - o')) := ⟨by rw [List.length_take, List.length_drop, HS.out]; show Nat.min m (s - d) = Nat.min (s - d) (32 - o'); rw [hm]; simp only [Nat.min_def]; split <;> split <;> omega⟩
      have Hm : Hid2 (m = Nat.min (s - d) (32 - o')) := ⟨hm⟩
      have hm1 : m ≤ s - d := by rw [hm]; exact Nat.min_le_left _ _
      have hm2 : m ≤ 32 - o' := by rw [hm]; exact Nat.min_le_right _ _
      have Hs : Src wr b g (p + d) ((vs.drop d).take m) := by
        have hk := hS.only hO
        refine ⟨hk.ne, hk.lt, fun j x hj => ?_⟩
        rw [List.getElem?_take] at hj
        split at hj
        · rw [List.getElem?_drop] at hj
          rw [Nat.add_assoc]
          exact hk.at_ (d + j) x hj
        · cases hj
      clear hm e1
      go_wp2_with (refine wpList_copy_mem rfl _ _ rfl b (f' * 32 + o') n _ hM ((vs.drop d).take m) (32 - o') (32 - o') (s - d) (c - d) g (p + d) rfl rfl HM.out Hs.at_ (by have := HM.out; have := Hm.out; omega) ?_; intro W3 hM3 hO3)
      have em : min m (vs.length - d) = m := by rw [HS.out]; omega
      have hm0 : 0 < m := by rw [Hm.out]; exact Nat.lt_min.2 ⟨by omega, by omega⟩
      rw [em]
      have hML : Mem W3 b n (putL L (f * 32 + o) (vs.take (d + m))) := by
        have := putL_take (L := L) (vs := vs) (K := f * 32 + o) (d := d) (m := m) (by rw [HS.out, HL.out]; exact hfit) (by rw [HS.out]; omega)
        rw [← this, ← H1.out]
        exact hM3
      refine ⟨⟨d + m, f' + 1, 0, if c - d = m then p + d else p + d + m, by simp, rfl, ?_, by omega, by omega, by omega, ⟨fun hl => ?_⟩, hML, hO.trans hO3⟩, ?_⟩
      · rw [Nat.sub_sub, Nat.sub_sub]
        by_cases hq : c - d = m
        · rw [if_pos hq, if_pos hq]
        · rw [if_neg hq, if_neg hq]
      · have hmm : m = 32 - o' := by
          have hq : m = min (s - d) (32 - o') := Hm.out
          omega
        have := H1.out
        rw [if_neg (by omega)]
        omega
      · simp only [slLen]
        omega
    · obtain rfl : d = s := by omega
      have g0 : ¬ 0 < ((d - d : Nat) : Int) := by omega
      go_wp2
      go_ret
      refine ⟨rfl, ?_, hO⟩
      rw [List.take_of_length_le (by rw [HS.out]; omega)] at hM
      exact hM
end Go.Proofs.Ytdmahmolhdbegaa
