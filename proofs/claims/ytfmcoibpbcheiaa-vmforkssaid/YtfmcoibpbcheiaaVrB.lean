/- The document's vm: Begin, Map, Unmap, at, Peek. -/
import Derived.Test.YtfmcoibpbcheiaaVrA
namespace Go.Proofs.Ytfmcoibpbcheiaa
open Go.RowKit Go.Maps
set_option linter.unusedVariables false
set_option maxRecDepth 100000
def bgS (s : Vs) (p : Fin 6) : Vs := { s with has := upF s.has p true, pg := upF s.pg p (fun _ => none) }
theorem bg_same {N : Nat} {s : Vs} (h : Fr N s) {p : Fin 6} (hp : s.has p = false) : upF s.pg p (fun _ => none) = s.pg := by
  funext q
  by_cases e : q = p
  · subst e
    rw [upF_same, h.no q hp]
  · rw [upF_other _ _ _ _ e]
set_option maxHeartbeats 1000000 in
theorem rbegin_bad (B : Nat) (o : Ro) (N : Nat) (s : Vs) (L : List Int) (pid : Int) (w : World) (h : Rb B w o N s L) (he : freshE s pid ≠ 0) : Calls Try.prog 46 #[.pointer (some ⟨o.b, 0, none⟩), .int .i64 pid] w fun r w' => r = .returned (.int .i64 (freshE s pid)) ∧ w' = w := by
  have cF := rfresh_any B o N s L pid w h
  clear h
  generalize freshE s pid = e at *
  go_enter Try.func46, Try.ntmps46
  go_wp2_with fail
  refine cF.mono ?_
  rintro r0 W ⟨rfl, hW⟩
  rw [hW]
  clear cF hW
  go_wp2
  go_ret
  exact ⟨rfl, rfl⟩
set_option maxHeartbeats 1000000 in
theorem rbegin_ok (B : Nat) (o : Ro) (N : Nat) (s : Vs) (L : List Int) (p : Fin 6) (w : World) (h : Rb B w o N s L) (hF : Fr N s) (hp : s.has p = false) : Calls Try.prog 46 #[.pointer (some ⟨o.b, 0, none⟩), .int .i64 p.1] w fun r w' => r = .returned (.int .i64 0) ∧ Rb B w' o N (bgS s p) L ∧ Apart (XR o) w w' := by
  have cF := rfresh_any B o N s L p.1 w h
  rw [freshE_at, hp] at cF
  simp only [Bool.false_eq_true, if_false] at cF
  obtain ⟨c, f⟩ := h.hs p
  have HV : Hid3 (Rb B (w.setCell ⟨o.b, 1 + p.1, none⟩ (.bool true)) o N (bgS s p) L) := ⟨by unfold bgS; rw [bg_same hF hp]; exact h.seth p true⟩
  have HA : Hid3 (Apart (XR o) w (w.setCell ⟨o.b, 1 + p.1, none⟩ (.bool true))) := ⟨Apart.at w o.b _ _ (.inl rfl)⟩
  clear h hF hp
  obtain ⟨p, hp⟩ := p
  have h3 : ¬ (p : Int) < 0 := by omega
  have h5 : (p : Int) < 6 := by omega
  simp only at *
  go_enter Try.func46, Try.ntmps46
  go_wp2_with fail
  refine cF.mono ?_
  rintro r0 W ⟨rfl, hW⟩
  rw [hW]
  clear cF hW
  go_wp2
  go_ret
  exact ⟨rfl, HV.out, HA.out⟩
theorem pgC_no : pgC (some (-1)) = 0 := by decide
def mapE (s : Vs) (pid k : Int) : Int := match prc s pid with | none => 5 | some p => if 0 ≤ k ∧ k < 16 then (if s.pg p k = none then 0 else 6) else 2
def unmapE (s : Vs) (pid k : Int) : Int := match prc s pid with | none => 5 | some p => if 0 ≤ k ∧ k < 16 then (if s.pg p k = none then 10 else 0) else 2
theorem rpg_store {B : Nat} {w : World} {o : Ro} {N : Nat} {s : Vs} {L : List Int} (h : Rb B w o N s L) (p : Fin 6) (k : Nat) (hk : k < 16) (v : Option Int) : (Instr.storeAt 75 (.pointer (some ⟨o.b, 7 + p.1 * 32 + k * 2, none⟩)) (.agg #[.bool v.isSome, .int .i64 (pgC v)])).run Try.prog w = .ok () ((w.setCell ⟨o.b, 7 + p.1 * 32 + k * 2, none⟩ (.bool v.isSome)).setCell ⟨o.b, 7 + p.1 * 32 + k * 2 + 1, none⟩ (.int .i64 (pgC v))) := by
  obtain ⟨h1, h2, h3⟩ := h.pg p k hk
  have hsz : (Try.prog.info? 75).map (·.size) = some 2 := by kernel_rfl
  have := run_storeAt_mid (P := Try.prog) w o.b (7 + p.1 * 32 + k * 2) 75 #[.bool v.isSome, .int .i64 (pgC v)] (fun j hj => by
    have hj2 : j < 2 := hj
    match j, hj2 with
    | 0, _ => rw [Nat.add_zero, h1]; exact ⟨rfl, h3 _⟩
    | 1, _ => rw [h2]; exact ⟨rfl, h3 _⟩) hsz (by simp [Value.oneCell'])
  exact this
set_option maxHeartbeats 1000000 in
theorem rmap_ok (B : Nat) (o : Ro) (N : Nat) (s : Vs) (L : List Int) (p : Fin 6) (k : Nat) (w : World) (h : Rb B w o N s L) (hp : s.has p = true) (hk : k < 16) (hn : s.pg p k = none) : Calls Try.prog 49 #[.pointer (some ⟨o.b, 0, none⟩), .int .i64 p.1, .int .i64 k] w fun r w' => r = .returned (.int .i64 0) ∧ Rb B w' o N (mpS s p k) L ∧ Apart (XR o) w w' := by
  have cF := rmay_any B o N s L p.1 w h
  have em : mayE s p.1 = 0 := by unfold mayE; rw [prc_has0 s p hp]
  rw [em] at cF
  obtain ⟨c1, c2, f⟩ := h.pg p k hk
  rw [hn] at c1 c2
  have HV : Hid3 (Rb B ((w.setCell ⟨o.b, 7 + p.1 * 32 + k * 2, none⟩ (.bool true)).setCell ⟨o.b, 7 + p.1 * 32 + k * 2 + 1, none⟩ (.int .i64 0)) o N (mpS s p k) L) := ⟨by have := h.setpg p k hk (some (-1)); rw [pgC_no] at this; exact this⟩
  have HA : Hid3 (Apart (XR o) w ((w.setCell ⟨o.b, 7 + p.1 * 32 + k * 2, none⟩ (.bool true)).setCell ⟨o.b, 7 + p.1 * 32 + k * 2 + 1, none⟩ (.int .i64 0))) := ⟨(Apart.at (X := XR o) w o.b _ _ (.inl rfl)).trans (Apart.at (X := XR o) _ o.b _ _ (.inl rfl))⟩
  have f0 := f (7 + p.1 * 32 + k * 2)
  have f1 := f (7 + p.1 * 32 + k * 2 + 1)
  clear h hp hn em f
  obtain ⟨p, hp⟩ := p
  have h3 : ¬ (p : Int) < 0 := by omega
  have h5 : (p : Int) < 6 := by omega
  have h6 : ¬ (k : Int) < 0 := by omega
  have h7 : ¬ (16 : Int) ≤ k := by omega
  have h8 : (k : Int) < 16 := by omega
  simp only [Option.isSome_none] at *
  go_enter Try.func49, Try.ntmps49
  go_wp2_with fail
  refine cF.mono ?_
  rintro r0 W ⟨rfl, hW⟩
  rw [hW]
  clear cF hW
  go_wp2
  go_ret
  exact ⟨rfl, HV.out, HA.out⟩
end Go.Proofs.Ytfmcoibpbcheiaa
