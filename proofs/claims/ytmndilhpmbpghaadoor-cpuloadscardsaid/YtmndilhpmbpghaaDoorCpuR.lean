/- Load and Fetch: the program, and the document. -/
import Derived.Test.YtmndilhpmbpghaaDoorCpuI
namespace Go.Proofs.YtmndilhpmbpghaaDoor
open Go.RowKit
set_option linter.unusedVariables false
set_option maxRecDepth 100000
def loadV (pc : Int) (r : Nat → Int) (g v : Int) : Value := if g < 8 then .tuple #[rgV pc (upd r g.toNat v), .int .i64 0] else .tuple #[rgV 0 (fun _ => 0), .int .i64 2]
def fetchV (pc : Int) : Value := if pc % 4 ≠ 0 ∨ 508 < pc then .tuple #[.int .u16 0, .int .i64 10] else .tuple #[.int .u16 pc, .int .i64 0]
set_option maxHeartbeats 2000000 in
theorem load_any (pc : Int) (r : Nat → Int) (g v : Int) (w : World) (hg : 0 ≤ g) :
    Calls Tryd.prog 11 #[rgV pc r, .int .u8 g, .int .u16 v] w fun e w' => e = .returned (loadV pc r g v) ∧ Below w.heap.size w w' := by
  unfold loadV
  by_cases h : g < 8
  · rw [if_pos h]
    have hs := rg_set pc r v g.toNat (by omega)
    have hc : #[Value.int .u16 pc, .int .u16 (r 0), .int .u16 (r 1), .int .u16 (r 2), .int .u16 (r 3), .int .u16 (r 4), .int .u16 (r 5), .int .u16 (r 6), .int .u16 (r 7)][1 + g.toNat]? = some (.int .u16 (r g.toNat)) := rg_at pc r g.toNat (by omega)
    generalize upd r g.toNat v = r' at *
    have h' : ¬ 8 ≤ g := by omega
    unfold rgV
    go_enter Tryd.func11, Tryd.ntmps11
    go_wp2
    exact bodyPost_ret (v := .tuple #[rgV pc r', .int .i64 0]) (by simp [results, Tryd.results11, go_sem, rgV]) rfl ⟨rfl, nx (nx (Below.refl _ w) _) _⟩
  · rw [if_neg h]
    have h' : 8 ≤ g := by omega
    unfold rgV
    go_enter Tryd.func11, Tryd.ntmps11
    go_wp2
    exact bodyPost_ret (v := .tuple #[rgV 0 (fun _ => 0), .int .i64 2]) (by simp [results, Tryd.results11, go_sem, rgV]) rfl ⟨rfl, nx (nx (Below.refl _ w) _) _⟩
set_option maxHeartbeats 2000000 in
theorem rload_any (pc : Int) (r : Nat → Int) (g v : Int) (w : World) (hg : 0 ≤ g) :
    Calls Tryd.prog 12 #[rgV pc r, .int .u8 g, .int .u16 v] w fun e w' => e = .returned (loadV pc r g v) ∧ Below w.heap.size w w' := by
  unfold loadV
  by_cases h : g < 8
  · rw [if_pos h]
    have hs := rg_set pc r v g.toNat (by omega)
    have hc : #[Value.int .u16 pc, .int .u16 (r 0), .int .u16 (r 1), .int .u16 (r 2), .int .u16 (r 3), .int .u16 (r 4), .int .u16 (r 5), .int .u16 (r 6), .int .u16 (r 7)][1 + g.toNat]? = some (.int .u16 (r g.toNat)) := rg_at pc r g.toNat (by omega)
    generalize upd r g.toNat v = r' at *
    have h' : ¬ 8 ≤ g := by omega
    unfold rgV
    go_enter Tryd.func12, Tryd.ntmps12
    go_wp2
    exact bodyPost_ret (v := .tuple #[rgV pc r', .int .i64 0]) (by simp [results, Tryd.results12, go_sem, rgV]) rfl ⟨rfl, nx (nx (Below.refl _ w) _) _⟩
  · rw [if_neg h]
    have h' : 8 ≤ g := by omega
    unfold rgV
    go_enter Tryd.func12, Tryd.ntmps12
    go_wp2
    exact bodyPost_ret (v := .tuple #[rgV 0 (fun _ => 0), .int .i64 2]) (by simp [results, Tryd.results12, go_sem, rgV]) rfl ⟨rfl, nx (nx (Below.refl _ w) _) _⟩
set_option maxHeartbeats 2000000 in
theorem fetch_any (pc : Int) (r : Nat → Int) (w : World) (hp : Wd pc) :
    Calls Tryd.prog 13 #[rgV pc r] w fun e w' => e = .returned (fetchV pc) ∧ Below w.heap.size w w' := by
  have ht : pc.tmod 4 = pc % 4 := Int.tmod_eq_emod_of_nonneg hp.1
  have hp1 := hp.1
  have hp2 := hp.2
  unfold fetchV rgV
  by_cases h4 : pc % 4 = 0
  · have hm : (pc % 4 != 0) = false := by rw [bne_eq_false_iff_eq]; exact h4
    by_cases h5 : 508 < pc
    · rw [if_pos (Or.inr h5)]
      go_enter Tryd.func13, Tryd.ntmps13
      go_wp2
      go_ret2
      exact ⟨rfl, nx (Below.refl _ w) _⟩
    · rw [if_neg (by omega)]
      go_enter Tryd.func13, Tryd.ntmps13
      go_wp2
      go_ret2
      exact ⟨rfl, nx (Below.refl _ w) _⟩
  · have hm : (pc % 4 != 0) = true := by rw [bne_iff_ne]; exact h4
    rw [if_pos (Or.inl h4)]
    go_enter Tryd.func13, Tryd.ntmps13
    go_wp2
    go_ret2
    exact ⟨rfl, nx (Below.refl _ w) _⟩
set_option maxHeartbeats 2000000 in
theorem rfetch_any (pc : Int) (r : Nat → Int) (w : World) (hp : Wd pc) :
    Calls Tryd.prog 14 #[rgV pc r] w fun e w' => e = .returned (fetchV pc) ∧ Below w.heap.size w w' := by
  have ht : pc.tmod 4 = pc % 4 := Int.tmod_eq_emod_of_nonneg hp.1
  have hp1 := hp.1
  have hp2 := hp.2
  unfold fetchV rgV
  by_cases h4 : pc % 4 = 0
  · have hm : (pc % 4 != 0) = false := by rw [bne_eq_false_iff_eq]; exact h4
    by_cases h5 : 508 < pc
    · rw [if_pos (Or.inr h5)]
      go_enter Tryd.func14, Tryd.ntmps14
      go_wp2
      go_ret2
      exact ⟨rfl, nx (Below.refl _ w) _⟩
    · rw [if_neg (by omega)]
      go_enter Tryd.func14, Tryd.ntmps14
      go_wp2
      go_ret2
      exact ⟨rfl, nx (Below.refl _ w) _⟩
  · have hm : (pc % 4 != 0) = true := by rw [bne_iff_ne]; exact h4
    rw [if_pos (Or.inl h4)]
    go_enter Tryd.func14, Tryd.ntmps14
    go_wp2
    go_ret2
    exact ⟨rfl, nx (Below.refl _ w) _⟩
end Go.Proofs.YtmndilhpmbpghaaDoor
