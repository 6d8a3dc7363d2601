/- The document's pipe. -/
import Derived.Test.YtpjnadgjohbhbaaPiF
namespace Go.Proofs.Ytpjnadgjohbhbaa
open Go.RowKit Go.Maps
set_option linter.unusedVariables false
set_option maxRecDepth 100000
set_option maxHeartbeats 1000000 in
theorem rnew_any (w : World) : Calls Try.prog 23 #[] w fun r w' => r = .returned (.pointer (some ⟨w.heap.size, 0, none⟩)) ∧ Rp w.heap.size w' w.heap.size [] 0 0 ∧ Below w.heap.size w w' := by
  go_enter Try.func23, Try.ntmps23
  go_wp2
  go_ret
  exact ⟨rfl, ⟨Nat.le_refl _, by decide, by decide, by decide, heap_alloc_new _ _⟩, below_new w _⟩
structure RpC (w : World) (b : Nat) (T : List UInt8) (rd wr : Nat) : Prop where
  c0 : w.cell? ⟨b, 0, none⟩ = some (.string ⟨T.toArray⟩)
  c1 : w.cell? ⟨b, 1, none⟩ = some (.int .i64 rd)
  c2 : w.cell? ⟨b, 2, none⟩ = some (.int .i64 wr)
  fz : ∀ j, w.frozen? ⟨b, j, none⟩ = false
theorem Rp.cells {B : Nat} {w : World} {b : Nat} {T : List UInt8} {rd wr : Nat} (h : Rp B w b T rd wr) : RpC w b T rd wr := ⟨h.c.cell 0, h.c.cell 1, h.c.cell 2, h.c.thaw⟩
theorem Rp.setR {B : Nat} {w : World} {b : Nat} {T : List UInt8} {rd wr : Nat} (h : Rp B w b T rd wr) (x : Nat) (hx : x ≤ 100) : RStp B w (w.setCell ⟨b, 1, none⟩ (.int .i64 x)) b T x wr := ⟨⟨h.g, h.t, hx, h.hw, h.c.set 1 (.int .i64 x)⟩, Apart.at w b _ _ rfl⟩
theorem Rp.setW {B : Nat} {w : World} {b : Nat} {T : List UInt8} {rd wr : Nat} (h : Rp B w b T rd wr) (x : Nat) (hx : x ≤ 100) : RStp B w (w.setCell ⟨b, 2, none⟩ (.int .i64 x)) b T rd x := ⟨⟨h.g, h.t, h.hr, hx, h.c.set 2 (.int .i64 x)⟩, Apart.at w b _ _ rfl⟩
theorem Rp.setT {B : Nat} {w : World} {b : Nat} {T : List UInt8} {rd wr : Nat} (h : Rp B w b T rd wr) (T' : List UInt8) (hx : T'.length ≤ 24) : RStp B w (w.setCell ⟨b, 0, none⟩ (.string ⟨T'.toArray⟩)) b T' rd wr := ⟨⟨h.g, hx, h.hr, h.hw, h.c.set 0 (.string ⟨T'.toArray⟩)⟩, Apart.at w b _ _ rfl⟩
theorem rcount_any (B b : Nat) (T : List UInt8) (rd wr : Nat) (on : Bool) (w : World) (h : Rp B w b T rd wr) : Calls Try.prog 25 #[.pointer (some ⟨b, 0, none⟩), .bool on] w fun r w' => r = .returned (.int .i64 (cnt on rd wr)) ∧ w' = w := by
  have c1 := h.cells.c1
  have c2 := h.cells.c2
  clear h
  cases on with
  | false =>
    go_enter Try.func25, Try.ntmps25
    go_wp2
    go_ret
    exact ⟨rfl, rfl⟩
  | true =>
    go_enter Try.func25, Try.ntmps25
    go_wp2
    go_ret
    exact ⟨rfl, rfl⟩
theorem rtext_any (B b : Nat) (T : List UInt8) (rd wr : Nat) (w : World) (h : Rp B w b T rd wr) : Calls Try.prog 24 #[.pointer (some ⟨b, 0, none⟩)] w fun r w' => r = .returned (.string ⟨T.toArray⟩) ∧ w' = w := by
  have c0 := h.cells.c0
  clear h
  go_enter Try.func24, Try.ntmps24
  go_wp2
  go_ret
  exact ⟨rfl, rfl⟩
set_option maxHeartbeats 1000000 in
theorem ropen_any (B b : Nat) (T : List UInt8) (rd wr : Nat) (on : Bool) (w : World) (h : Rp B w b T rd wr) : Calls Try.prog 33 #[.pointer (some ⟨b, 0, none⟩), .bool on] w fun r w' => r = .returned (.int .i64 (openE (cnt on rd wr))) ∧ RStp B w w' b T (setR on rd (openC (cnt on rd wr))) (setW on wr (openC (cnt on rd wr))) := by
  have cC := rcount_any B b T rd wr on w h
  have hle := cnt_le (on := on) h.hr h.hw
  have H := Hid3.mk h
  by_cases hx : 100 ≤ cnt on rd wr
  · have e1 : openE (cnt on rd wr) = 4 := by simp [openE, hx]
    have e2 : openC (cnt on rd wr) = cnt on rd wr := by simp [openC, hx]
    rw [e1, e2, setR_same, setW_same]
    have hz : (100 : Int) ≤ (cnt on rd wr : Int) := by omega
    generalize cnt on rd wr = x at *
    clear h
    go_enter Try.func33, Try.ntmps33
    go_wp2_with fail
    refine cC.mono ?_
    rintro r W ⟨rfl, rfl⟩
    go_wp2
    go_ret
    exact ⟨rfl, RStp.same H.out (Below.refl _ _)⟩
  · have e1 : openE (cnt on rd wr) = 0 := by simp [openE, hx]
    have e2 : openC (cnt on rd wr) = cnt on rd wr + 1 := by simp [openC, hx]
    rw [e1, e2]
    have hz : ¬ (100 : Int) ≤ (cnt on rd wr : Int) := by omega
    cases on with
    | false =>
      have c1 := h.cells.c1
      have f1 := h.cells.fz 1
      have hS := h.setR (rd + 1) (by simp only [cnt] at hx; simp at hx; omega)
      rw [show ((rd + 1 : Nat) : Int) = (rd : Int) + 1 by omega] at hS
      have HS := Hid3.mk hS
      have hz2 : (rd : Int) < 100 := by simp only [cnt] at hx; simp at hx; omega
      clear h hS
      go_enter Try.func33, Try.ntmps33
      go_wp2_with fail
      refine cC.mono ?_
      rintro r W ⟨rfl, rfl⟩
      go_wp2
      go_ret
      exact ⟨rfl, HS.out⟩
    | true =>
      have c1 := h.cells.c2
      have f1 := h.cells.fz 2
      have hS := h.setW (wr + 1) (by simp only [cnt] at hx; simp at hx; omega)
      rw [show ((wr + 1 : Nat) : Int) = (wr : Int) + 1 by omega] at hS
      have HS := Hid3.mk hS
      have hz2 : (wr : Int) < 100 := by simp only [cnt] at hx; simp at hx; omega
      clear h hS
      go_enter Try.func33, Try.ntmps33
      go_wp2_with fail
      refine cC.mono ?_
      rintro r W ⟨rfl, rfl⟩
      go_wp2
      go_ret
      exact ⟨rfl, HS.out⟩
set_option maxHeartbeats 1000000 in
theorem rclose_any (B b : Nat) (T : List UInt8) (rd wr : Nat) (on : Bool) (w : World) (h : Rp B w b T rd wr) : Calls Try.prog 34 #[.pointer (some ⟨b, 0, none⟩), .bool on] w fun r w' => r = .returned (.int .i64 (closeE (cnt on rd wr))) ∧ RStp B w w' b T (setR on rd (cnt on rd wr - 1)) (setW on wr (cnt on rd wr - 1)) := by
  have cC := rcount_any B b T rd wr on w h
  have hle := cnt_le (on := on) h.hr h.hw
  have H := Hid3.mk h
  by_cases hx : cnt on rd wr = 0
  · have e1 : closeE (cnt on rd wr) = 9 := by simp [closeE, hx]
    rw [e1, show cnt on rd wr - 1 = cnt on rd wr by omega, setR_same, setW_same]
    have hz : (cnt on rd wr : Int) = 0 := by omega
    generalize cnt on rd wr = x at *
    subst hx
    clear h hz
    go_enter Try.func34, Try.ntmps34
    go_wp2_with fail
    refine cC.mono ?_
    rintro r W ⟨rfl, rfl⟩
    go_wp2
    go_ret
    exact ⟨rfl, RStp.same H.out (Below.refl _ _)⟩
  · have e1 : closeE (cnt on rd wr) = 0 := by simp [closeE, hx]
    rw [e1]
    cases on with
    | false =>
      simp only [cnt] at hx hle cC ⊢
      simp at hx hle cC ⊢
      have c1 := h.cells.c1
      have f1 := h.cells.fz 1
      have hS := h.setR (rd - 1) (by omega)
      have HS := Hid3.mk hS
      have hz1 : ((rd : Int) == 0) = false := by simpa using hx
      have hz2 : ¬ (rd : Int) = 0 := by omega
      have e3 : (rd : Int) - 1 = ((rd - 1 : Nat) : Int) := by omega
      clear h hS e1 H
      go_enter Try.func34, Try.ntmps34
      go_wp2_with fail
      refine cC.mono ?_
      rintro r W ⟨rfl, rfl⟩
      go_wp2
      go_ret
      exact ⟨rfl, HS.out⟩
    | true =>
      simp only [cnt] at hx hle cC ⊢
      simp at hx hle cC ⊢
      have c1 := h.cells.c2
      have f1 := h.cells.fz 2
      have hS := h.setW (wr - 1) (by omega)
      have HS := Hid3.mk hS
      have hz1 : ((wr : Int) == 0) = false := by simpa using hx
      have hz2 : ¬ (wr : Int) = 0 := by omega
      have e3 : (wr : Int) - 1 = ((wr - 1 : Nat) : Int) := by omega
      clear h hS e1 H
      go_enter Try.func34, Try.ntmps34
      go_wp2_with fail
      refine cC.mono ?_
      rintro r W ⟨rfl, rfl⟩
      go_wp2
      go_ret
      exact ⟨rfl, HS.out⟩
end Go.Proofs.Ytpjnadgjohbhbaa
