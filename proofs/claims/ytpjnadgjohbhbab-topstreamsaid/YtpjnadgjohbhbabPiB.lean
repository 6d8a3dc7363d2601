/- The program's pipe: New, Open, Close, Count. -/
import Derived.Test.YtpjnadgjohbhbabPiA
namespace Go.Proofs.Ytpjnadgjohbhbab
open Go.RowKit Go.Maps
set_option linter.unusedVariables false
set_option maxRecDepth 100000
set_option maxHeartbeats 1000000 in
theorem new_any (w : World) : Calls Try.prog 4 #[] w fun r w' => r = .returned (.pointer (some ⟨w.heap.size, 0, none⟩)) ∧ Pp w.heap.size w' w.heap.size [] 0 0 ∧ Below w.heap.size w w' := by
  go_enter Try.func4, Try.ntmps4
  go_wp2
  go_ret
  exact ⟨rfl, ⟨Nat.le_refl _, by decide, by decide, List.replicate 24 0, 0, heap_alloc_new _ _, Ring.new⟩, below_new w _⟩
theorem more_full (b j x : Nat) (hx : 100 ≤ x) (w : World) (hc : w.cell? ⟨b, j, none⟩ = some (.int .i64 x)) : Calls Try.prog 10 #[.pointer (some ⟨b, j, none⟩)] w fun r w' => r = .returned (.int .i64 4) ∧ w' = w := by
  have h1 : (100 : Int) ≤ (x : Int) := by omega
  go_enter Try.func10, Try.ntmps10
  go_wp2
  go_ret
  exact ⟨rfl, rfl⟩
theorem more_ok (b j x : Nat) (hx : x < 100) (w : World) (hc : w.cell? ⟨b, j, none⟩ = some (.int .i64 x)) (hf : w.frozen? ⟨b, j, none⟩ = false) : Calls Try.prog 10 #[.pointer (some ⟨b, j, none⟩)] w fun r w' => r = .returned (.int .i64 0) ∧ w' = w.setCell ⟨b, j, none⟩ (.int .i64 ((x + 1 : Nat) : Int)) := by
  have h1 : ¬ (100 : Int) ≤ (x : Int) := by omega
  have e1 : ((x + 1 : Nat) : Int) = (x : Int) + 1 := by omega
  rw [e1]
  go_enter Try.func10, Try.ntmps10
  go_wp2
  go_ret
  exact ⟨rfl, rfl⟩
theorem less_none (b j : Nat) (w : World) (hc : w.cell? ⟨b, j, none⟩ = some (.int .i64 ((0 : Nat) : Int))) : Calls Try.prog 16 #[.pointer (some ⟨b, j, none⟩)] w fun r w' => r = .returned (.int .i64 9) ∧ w' = w := by
  go_enter Try.func16, Try.ntmps16
  go_wp2
  go_ret
  exact ⟨rfl, rfl⟩
theorem less_ok (b j x : Nat) (hx : x < 100) (w : World) (hc : w.cell? ⟨b, j, none⟩ = some (.int .i64 ((x + 1 : Nat) : Int))) (hf : w.frozen? ⟨b, j, none⟩ = false) : Calls Try.prog 16 #[.pointer (some ⟨b, j, none⟩)] w fun r w' => r = .returned (.int .i64 0) ∧ w' = w.setCell ⟨b, j, none⟩ (.int .i64 (x : Int)) := by
  obtain ⟨y, hy⟩ : ∃ y : Nat, y = x + 1 := ⟨_, rfl⟩
  rw [← hy] at hc
  have h1 : ¬ (y : Int) ≤ 0 := by omega
  have h2 : (y : Int) - 1 = (x : Int) := by omega
  have h3 : IntKind.i64.wrap ((y : Int) - 1) = (x : Int) := by rw [IntKind.wrap_i64]; omega
  clear hy
  go_enter Try.func16, Try.ntmps16
  go_wp2
  go_ret
  exact ⟨rfl, rfl⟩
theorem times_any (b j x : Nat) (w : World) (hc : w.cell? ⟨b, j, none⟩ = some (.int .i64 x)) : Calls Try.prog 12 #[.pointer (some ⟨b, j, none⟩)] w fun r w' => r = .returned (.int .i64 x) ∧ w' = w := by
  go_enter Try.func12, Try.ntmps12
  go_wp2
  go_ret
  exact ⟨rfl, rfl⟩
/-- The cells of a pipe, and that they may be written. -/
structure PpC (w : World) (b : Nat) (f m rd wr : Nat) : Prop where
  c24 : w.cell? ⟨b, 24, none⟩ = some (.int .i64 f)
  c25 : w.cell? ⟨b, 25, none⟩ = some (.int .i64 m)
  c26 : w.cell? ⟨b, 26, none⟩ = some (.int .i64 rd)
  c27 : w.cell? ⟨b, 27, none⟩ = some (.int .i64 wr)
  fz : ∀ j, w.frozen? ⟨b, j, none⟩ = false
theorem Cl.pp {w : World} {b : Nat} {C : List UInt8} {f m rd wr : Nat} (h : Cl w b 37 (piCs C f m rd wr)) (hc : C.length = 24) : PpC w b f m rd wr := by
  obtain ⟨a, b', c, d⟩ := piCs_at C f m rd wr hc
  exact ⟨(h.cell 24).trans a, (h.cell 25).trans b', (h.cell 26).trans c, (h.cell 27).trans d, h.thaw⟩
/-- How often it is open so, and what becomes of that. -/
def cnt (on : Bool) (rd wr : Nat) : Nat := if on then wr else rd
def setR (on : Bool) (rd x : Nat) : Nat := if on then rd else x
def setW (on : Bool) (wr x : Nat) : Nat := if on then x else wr
def openE (c : Nat) : Int := if 100 ≤ c then 4 else 0
def openC (c : Nat) : Nat := if 100 ≤ c then c else c + 1
def closeE (c : Nat) : Int := if c = 0 then 9 else 0
theorem setR_same (on : Bool) (rd wr : Nat) : setR on rd (cnt on rd wr) = rd := by cases on <;> rfl
theorem setW_same (on : Bool) (rd wr : Nat) : setW on wr (cnt on rd wr) = wr := by cases on <;> rfl
theorem cnt_le {on : Bool} {rd wr : Nat} (h1 : rd ≤ 100) (h2 : wr ≤ 100) : cnt on rd wr ≤ 100 := by cases on <;> assumption
theorem Pp.setCount {B : Nat} {w : World} {b : Nat} {T : List UInt8} {rd wr : Nat} (h : Pp B w b T rd wr) (on : Bool) (x : Nat) (hx : x ≤ 100) : PStp B w (w.setCell ⟨b, 26 + on.toNat, none⟩ (.int .i64 x)) b T (setR on rd x) (setW on wr x) := by
  obtain ⟨C, f, h1, h2⟩ := h.ex
  obtain ⟨_, _, s26, s27⟩ := piCs_set C f T.length rd wr h2.hc x
  cases on with
  | false => exact ⟨⟨h.g, hx, h.hw, C, f, by have := h1.set 26 (.int .i64 x); rw [s26] at this; exact this, h2⟩, Apart.at w b _ _ rfl⟩
  | true => exact ⟨⟨h.g, h.hr, hx, C, f, by have := h1.set 27 (.int .i64 x); rw [s27] at this; exact this, h2⟩, Apart.at w b _ _ rfl⟩
theorem Pp.cells {B : Nat} {w : World} {b : Nat} {T : List UInt8} {rd wr : Nat} (h : Pp B w b T rd wr) : ∃ f, PpC w b f T.length rd wr := by
  obtain ⟨C, f, h1, h2⟩ := h.ex
  exact ⟨f, h1.pp h2.hc⟩
theorem Pp.count {B : Nat} {w : World} {b : Nat} {T : List UInt8} {rd wr : Nat} (h : Pp B w b T rd wr) (on : Bool) : w.cell? ⟨b, 26 + on.toNat, none⟩ = some (.int .i64 (cnt on rd wr)) ∧ w.frozen? ⟨b, 26 + on.toNat, none⟩ = false := by
  obtain ⟨f, h1⟩ := h.cells
  cases on with
  | false => exact ⟨h1.c26, h1.fz 26⟩
  | true => exact ⟨h1.c27, h1.fz 27⟩
set_option maxHeartbeats 1000000 in
theorem open_of (F : World → Int → World → Prop) (b : Nat) (on : Bool) (w : World) (hM : Calls Try.prog 10 #[.pointer (some ⟨b, 26 + on.toNat, none⟩)] w fun r w' => ∃ e, r = .returned (.int .i64 e) ∧ F w e w') :
    Calls Try.prog 5 #[.pointer (some ⟨b, 0, none⟩), .bool on] w fun r w' => ∃ e, r = .returned (.int .i64 e) ∧ F w e w' := by
  cases on with
  | false =>
    go_enter Try.func5, Try.ntmps5
    go_wp2_with fail
    refine hM.mono ?_
    rintro r W ⟨e, rfl, h⟩
    go_wp2
    go_ret
    exact ⟨e, rfl, h⟩
  | true =>
    go_enter Try.func5, Try.ntmps5
    go_wp2_with fail
    refine hM.mono ?_
    rintro r W ⟨e, rfl, h⟩
    go_wp2
    go_ret
    exact ⟨e, rfl, h⟩
set_option maxHeartbeats 1000000 in
theorem close_of (F : World → Int → World → Prop) (b : Nat) (on : Bool) (w : World) (hM : Calls Try.prog 16 #[.pointer (some ⟨b, 26 + on.toNat, none⟩)] w fun r w' => ∃ e, r = .returned (.int .i64 e) ∧ F w e w') :
    Calls Try.prog 9 #[.pointer (some ⟨b, 0, none⟩), .bool on] w fun r w' => ∃ e, r = .returned (.int .i64 e) ∧ F w e w' := by
  cases on with
  | false =>
    go_enter Try.func9, Try.ntmps9
    go_wp2_with fail
    refine hM.mono ?_
    rintro r W ⟨e, rfl, h⟩
    go_wp2
    go_ret
    exact ⟨e, rfl, h⟩
  | true =>
    go_enter Try.func9, Try.ntmps9
    go_wp2_with fail
    refine hM.mono ?_
    rintro r W ⟨e, rfl, h⟩
    go_wp2
    go_ret
    exact ⟨e, rfl, h⟩
theorem open_any (B b : Nat) (T : List UInt8) (rd wr : Nat) (on : Bool) (w : World) (h : Pp B w b T rd wr) : Calls Try.prog 5 #[.pointer (some ⟨b, 0, none⟩), .bool on] w fun r w' => r = .returned (.int .i64 (openE (cnt on rd wr))) ∧ PStp B w w' b T (setR on rd (openC (cnt on rd wr))) (setW on wr (openC (cnt on rd wr))) := by
  have hle := cnt_le (on := on) h.hr h.hw
  refine Calls.mono (open_of (fun w e w' => e = openE (cnt on rd wr) ∧ PStp B w w' b T (setR on rd (openC (cnt on rd wr))) (setW on wr (openC (cnt on rd wr)))) b on w ?_) (fun r w' ⟨e, h1, h2, h3⟩ => ⟨by rw [h1, h2], h3⟩)
  by_cases hx : 100 ≤ cnt on rd wr
  · refine (more_full b _ _ hx w (h.count on).1).mono ?_
    rintro r w' ⟨rfl, rfl⟩
    unfold openE openC
    rw [if_pos hx, if_pos hx, setR_same, setW_same]
    exact ⟨4, rfl, rfl, PStp.same h (Below.refl _ _)⟩
  · refine (more_ok b _ _ (by omega) w (h.count on).1 (h.count on).2).mono ?_
    rintro r w' ⟨rfl, rfl⟩
    unfold openE openC
    rw [if_neg hx, if_neg hx]
    exact ⟨0, rfl, rfl, h.setCount on _ (by omega)⟩
theorem close_any (B b : Nat) (T : List UInt8) (rd wr : Nat) (on : Bool) (w : World) (h : Pp B w b T rd wr) : Calls Try.prog 9 #[.pointer (some ⟨b, 0, none⟩), .bool on] w fun r w' => r = .returned (.int .i64 (closeE (cnt on rd wr))) ∧ PStp B w w' b T (setR on rd (cnt on rd wr - 1)) (setW on wr (cnt on rd wr - 1)) := by
  have hle := cnt_le (on := on) h.hr h.hw
  refine Calls.mono (close_of (fun w e w' => e = closeE (cnt on rd wr) ∧ PStp B w w' b T (setR on rd (cnt on rd wr - 1)) (setW on wr (cnt on rd wr - 1))) b on w ?_) (fun r w' ⟨e, h1, h2, h3⟩ => ⟨by rw [h1, h2], h3⟩)
  unfold closeE
  by_cases hx : cnt on rd wr = 0
  · have hc := (h.count on).1
    rw [hx] at hc
    refine (less_none b _ w hc).mono ?_
    rintro r w' ⟨rfl, rfl⟩
    rw [if_pos hx, show cnt on rd wr - 1 = cnt on rd wr by omega, setR_same, setW_same]
    exact ⟨9, rfl, rfl, PStp.same h (Below.refl _ _)⟩
  · have hc := (h.count on).1
    rw [show cnt on rd wr = (cnt on rd wr - 1) + 1 by omega] at hc
    refine (less_ok b _ _ (by omega) w hc (h.count on).2).mono ?_
    rintro r w' ⟨rfl, rfl⟩
    rw [if_neg hx]
    exact ⟨0, rfl, rfl, h.setCount on _ (by omega)⟩
end Go.Proofs.Ytpjnadgjohbhbab
