/- A memory: is a frame there, a piece of one, its size, one byte. -/
import Derived.Test.YtdmahmolhdbegaaMemA
namespace Go.Proofs.Ytdmahmolhdbegaa
open Go.RowKit Go.Maps
set_option linter.unusedVariables false
set_option maxRecDepth 100000

theorem slice_con (b p l h m : Nat) (hl : l < m) (hh : l ≤ h) (hm : h ≤ m) (h3 : m ≤ 32) (w : World) : (Instr.sliceAt 75 (.pointer (some ⟨b, p, none⟩)) (some (.int .i64 l)) (some (.int .i64 h)) (some (.int .i64 m))).run Try.prog w = .ok (.slice (some ⟨b, p + l, none⟩) (h - l) (m - l)) w := by
  have hu : Try.prog.underlying 75 = some (.array (Try.prog.arrayLen 75) (Try.prog.elem 75)) := by kernel_rfl
  have hn : Try.prog.arrayLen 75 = 32 := by kernel_rfl
  have hz : (Try.prog.info? (Try.prog.elem 75)).map (·.size) = some 1 := by kernel_rfl
  have hs : (sizeOf (Try.prog.elem 75)).run Try.prog w = .ok 1 w := by
    cases hq : Try.prog.info? (Try.prog.elem 75) with
    | none => rw [hq] at hz; cases hz
    | some i =>
      rw [hq] at hz
      have hz' : i.size = 1 := by simpa using hz
      simp [sizeOf, typeInfo, hq, hz']
  rw [run_sliceAt_array_lhm w 75 ⟨b, p, none⟩ hu .i64 .i64 .i64 l h m (by omega) (by omega) (by omega) (by rw [hn]; omega), hs]
  have hne : ¬ m = l := by omega
  simp only [Result.andThen_ok, slicedAt, Int.toNat_natCast, if_neg hne, Nat.mul_one, Addr.add_mid]
theorem there_nil (f : Int) (w : World) : Calls Try.prog 53 #[.pointer none, .int .i64 f] w fun e w' => e = .returned (.int .i64 1) ∧ w' = w := by
  go_enter Try.func53, Try.ntmps53
  go_wp2
  go_ret
  exact ⟨rfl, rfl⟩
theorem there_ok (b : Nat) (n : Int) (L : List Int) (f : Int) (w : World) (h : Mem w b n L) (h0 : 0 ≤ f) (h1 : f < n) : Calls Try.prog 53 #[.pointer (some ⟨b, 0, none⟩), .int .i64 f] w fun e w' => e = .returned (.int .i64 0) ∧ w' = w := by
  have hs := h.size
  go_enter Try.func53, Try.ntmps53
  go_wp2
  go_ret
  exact ⟨rfl, rfl⟩
theorem there_out (b : Nat) (n : Int) (L : List Int) (f : Int) (w : World) (h : Mem w b n L) (h0 : f < 0 ∨ n ≤ f) : Calls Try.prog 53 #[.pointer (some ⟨b, 0, none⟩), .int .i64 f] w fun e w' => e = .returned (.int .i64 2) ∧ w' = w := by
  have hs := h.size
  go_enter Try.func53, Try.ntmps53
  by_cases h1 : f < 0
  · go_wp2
    go_ret
    exact ⟨rfl, rfl⟩
  · have h2 : n ≤ f := by omega
    go_wp2
    go_ret
    exact ⟨rfl, rfl⟩
set_option maxHeartbeats 1000000 in
theorem cut_ok (b f o m : Nat) (n : Int) (L : List Int) (w : World) (h : Mem w b n L) (h1 : (f : Int) < n) (hm : 1 ≤ m) (h2 : o + m ≤ 32) : Calls Try.prog 31 #[.pointer (some ⟨b, 0, none⟩), .int .i64 f, .int .i64 o, .int .i64 m] w fun e w' => e = .returned (.tuple #[.slice (some ⟨b, 1 + (f * 32 + o), none⟩) m m, .int .i64 0]) ∧ w' = w := by
  have hhi := h.hi
  have c1 := there_ok b n L f w h (by omega) h1
  have hf : (f : Int) < 64 := by omega
  have hsl := fun W => slice_con b (1 + f * 32) o (o + m) (o + m) (by omega) (by omega) (by omega) h2 W
  rw [Nat.add_sub_cancel_left, Nat.add_assoc] at hsl
  have ec : ((o + m : Nat) : Int) = (o : Int) + (m : Int) := by omega
  rw [ec] at hsl
  clear ec
  go_enter Try.func31, Try.ntmps31
  go_wp2_with fail
  refine c1.mono ?_
  rintro e W1 ⟨rfl, rfl⟩
  have ho : ¬ (o : Int) < 0 := by omega
  have ho2 : ¬ 32 - (m : Int) < (o : Int) := by omega
  go_wp2
  go_ret2
  exact ⟨rfl, rfl⟩
set_option maxHeartbeats 1000000 in
theorem cut_nil (f o m : Int) (w : World) : Calls Try.prog 31 #[.pointer none, .int .i64 f, .int .i64 o, .int .i64 m] w fun e w' => e = .returned (.tuple #[.slice none 0 0, .int .i64 1]) ∧ w' = w := by
  have c1 := there_nil f w
  go_enter Try.func31, Try.ntmps31
  go_wp2_with fail
  refine c1.mono ?_
  rintro e W1 ⟨rfl, rfl⟩
  go_wp2
  go_ret2
  exact ⟨rfl, rfl⟩
set_option maxHeartbeats 1000000 in
theorem byte_ok (b f o : Nat) (n : Int) (L : List Int) (w : World) (h : Mem w b n L) (h1 : (f : Int) < n) (h2 : o < 32) : Calls Try.prog 14 #[.pointer (some ⟨b, 0, none⟩), .int .i64 f, .int .i64 o] w fun e w' => e = .returned (.tuple #[.int .u8 (L.getD (f * 32 + o) 0), .int .i64 0]) ∧ w' = w := by
  have c1 := cut_ok b f o 1 n L w h h1 (by omega) (by omega)
  have hhi := h.hi
  have hx := h.byte (f * 32 + o) (by omega)
  go_enter Try.func14, Try.ntmps14
  go_wp2_with fail
  refine c1.mono ?_
  rintro e W1 ⟨rfl, rfl⟩
  go_wp2
  go_ret2
  exact ⟨rfl, rfl⟩
set_option maxHeartbeats 1000000 in
theorem byte_nil (f o : Int) (w : World) : Calls Try.prog 14 #[.pointer none, .int .i64 f, .int .i64 o] w fun e w' => e = .returned (.tuple #[.int .u8 0, .int .i64 1]) ∧ w' = w := by
  have c1 := cut_nil f o 1 w
  go_enter Try.func14, Try.ntmps14
  go_wp2_with fail
  refine c1.mono ?_
  rintro e W1 ⟨rfl, rfl⟩
  go_wp2
  go_ret2
  exact ⟨rfl, rfl⟩
set_option maxHeartbeats 1000000 in
theorem setbyte_nil (f o x : Int) (w : World) : Calls Try.prog 36 #[.pointer none, .int .i64 f, .int .i64 o, .int .u8 x] w fun e w' => e = .returned (.int .i64 1) ∧ w' = w := by
  have c1 := cut_nil f o 1 w
  go_enter Try.func36, Try.ntmps36
  go_wp2_with fail
  refine c1.mono ?_
  rintro e W1 ⟨rfl, rfl⟩
  go_wp2
  go_ret
  exact ⟨rfl, rfl⟩
set_option maxHeartbeats 1000000 in
theorem frame_nil (f : Int) (w : World) : Calls Try.prog 41 #[.pointer none, .int .i64 f] w fun e w' => e = .returned (.tuple #[.slice none 0 0, .int .i64 1]) ∧ w' = w := by
  have c1 := there_nil f w
  go_enter Try.func41, Try.ntmps41
  go_wp2_with fail
  refine c1.mono ?_
  rintro e W1 ⟨rfl, rfl⟩
  go_wp2
  go_ret2
  exact ⟨rfl, rfl⟩
set_option maxHeartbeats 1000000 in
theorem fill_nil (f o : Int) (v : Value) (w : World) : Calls Try.prog 52 #[.pointer none, .int .i64 f, .int .i64 o, v] w fun e w' => e = .returned (.int .i64 1) ∧ w' = w := by
  have c1 := there_nil f w
  go_enter Try.func52, Try.ntmps52
  go_wp2_with fail
  refine c1.mono ?_
  rintro e W1 ⟨rfl, rfl⟩
  go_wp2
  go_ret
  exact ⟨rfl, rfl⟩
end Go.Proofs.Ytdmahmolhdbegaa
