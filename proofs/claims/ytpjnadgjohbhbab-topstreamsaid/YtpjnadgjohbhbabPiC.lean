/- The program's ring: room, place, put, first, drop. -/
import Derived.Test.YtpjnadgjohbhbabPiB
namespace Go.Proofs.Ytpjnadgjohbhbab
open Go.RowKit Go.Maps
set_option linter.unusedVariables false
set_option maxRecDepth 100000
theorem room_any (b f m rd wr : Nat) (hm : m ≤ 24) (w : World) (h : PpC w b f m rd wr) : Calls Try.prog 13 #[.pointer (some ⟨b, 0, none⟩)] w fun r w' => r = .returned (.int .i64 ((24 - m : Nat) : Int)) ∧ w' = w := by
  have c25 := h.c25
  have e1 : (24 : Int) - (m : Int) = ((24 - m : Nat) : Int) := by omega
  have e2 : IntKind.i64.wrap ((24 : Int) - (m : Int)) = ((24 - m : Nat) : Int) := by rw [IntKind.wrap_i64]; omega
  clear h
  go_enter Try.func13, Try.ntmps13
  go_wp2
  go_ret
  exact ⟨rfl, rfl⟩
theorem place_any (b f m rd wr n : Nat) (hf : f < 24) (hn : n ≤ 24) (w : World) (h : PpC w b f m rd wr) : Calls Try.prog 17 #[.pointer (some ⟨b, 0, none⟩), .int .i64 n] w fun r w' => r = .returned (.int .i64 (((f + n) % 24 : Nat) : Int)) ∧ w' = w := by
  have c24 := h.c24
  obtain ⟨x, hx⟩ : ∃ x : Nat, x = f + n := ⟨_, rfl⟩
  have e1 : (f : Int) + (n : Int) = (x : Int) := by omega
  have e2 : IntKind.i64.wrap ((f : Int) + (n : Int)) = (x : Int) := by rw [IntKind.wrap_i64]; omega
  have e3 : (x : Int) % 24 = ((x % 24 : Nat) : Int) := by omega
  rw [← hx]
  clear h hx
  go_enter Try.func17, Try.ntmps17
  go_wp2
  go_ret
  exact ⟨rfl, rfl⟩
set_option maxHeartbeats 1000000 in
theorem drop_any (B b : Nat) (T : List UInt8) (rd wr k : Nat) (hk : k ≤ T.length) (w : World) (h : Pp B w b T rd wr) : Calls Try.prog 15 #[.pointer (some ⟨b, 0, none⟩), .int .i64 k] w fun r w' => r = .returned (.tuple #[]) ∧ PStp B w w' b (T.drop k) rd wr := by
  obtain ⟨C, f, h1, h2⟩ := h.ex
  have hp := h1.pp h2.hc
  have ht := h2.ht
  have cP := place_any b f T.length rd wr k h2.hf (by omega) w hp
  have HS : Hid3 (PStp B w ((w.setCell ⟨b, 24, none⟩ (.int .i64 (((f + k) % 24 : Nat) : Int))).setCell ⟨b, 25, none⟩ (.int .i64 ((T.length - k : Nat) : Int))) b (T.drop k) rd wr) := by
    refine ⟨⟨⟨h.g, h.hr, h.hw, C, (f + k) % 24, ?_, h2.drop k hk⟩, (Apart.at (X := fun k => k = b) w b _ _ rfl).trans (Apart.at (X := fun k => k = b) _ b _ _ rfl)⟩⟩
    have := (h1.set 24 (.int .i64 (((f + k) % 24 : Nat) : Int))).set 25 (.int .i64 ((T.length - k : Nat) : Int))
    rw [(piCs_set C f T.length rd wr h2.hc _).1, (piCs_set C _ T.length rd wr h2.hc _).2.1] at this
    rw [List.length_drop]
    exact this
  have c24 := hp.c24
  have c25 := hp.c25
  have f24 := hp.fz 24
  have f25 := hp.fz 25
  obtain ⟨m, hm⟩ : ∃ m : Nat, m = T.length := ⟨_, rfl⟩
  rw [← hm] at c25 HS hk ht
  have e1 : (m : Int) - (k : Int) = ((m - k : Nat) : Int) := by omega
  have e2 : IntKind.i64.wrap ((m : Int) - (k : Int)) = ((m - k : Nat) : Int) := by rw [IntKind.wrap_i64]; omega
  generalize (f + k) % 24 = g at *
  clear h h1 h2 hp hm
  go_enter Try.func15, Try.ntmps15
  go_wp2_with fail
  refine cP.mono ?_
  rintro r W ⟨rfl, rfl⟩
  go_wp2
  go_end0
  exact ⟨rfl, HS.out⟩
end Go.Proofs.Ytpjnadgjohbhbab
