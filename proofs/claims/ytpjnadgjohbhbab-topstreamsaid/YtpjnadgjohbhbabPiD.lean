/- The program's ring: put, first. -/
import Derived.Test.YtpjnadgjohbhbabPiC
namespace Go.Proofs.Ytpjnadgjohbhbab
open Go.RowKit Go.Maps
set_option linter.unusedVariables false
set_option maxRecDepth 100000
theorem infoU8 : (Try.prog.info? 5).map (·.size) = some 1 := by kernel_rfl
theorem infoU8z : (Try.prog.info? 5).map (fun i => (i.zero, i.size, i.bytes)) = some (some (.int .u8 0), 1, 1) := by kernel_rfl
theorem info_parts {t : TypeId} {z : Value} {s b : Nat} (h : (Try.prog.info? t).map (fun i => (i.zero, i.size, i.bytes)) = some (some z, s, b)) : ∃ i, Try.prog.info? t = some i ∧ i.zero = some z ∧ i.size = s ∧ i.bytes = b := by
  cases hi : Try.prog.info? t with
  | none => rw [hi] at h; cases h
  | some i =>
    rw [hi] at h
    simp only [Option.map_some, Option.some.injEq, Prod.mk.injEq] at h
    exact ⟨i, rfl, h.1, h.2.1, h.2.2⟩
theorem piCs_put (C : List UInt8) (f m rd wr : Nat) (hc : C.length = 24) (a : Nat) (d : List UInt8) (had : a + d.length ≤ 24) : (piCs C f m rd wr).take a ++ bCs d ++ (piCs C f m rd wr).drop (a + d.length) = piCs (C.take a ++ d ++ C.drop (a + d.length)) f m rd wr := by
  have h := bCs_length C
  unfold piCs
  rw [List.take_append_of_le_length (by omega), List.drop_append_of_le_length (by omega)]
  unfold bCs
  simp only [List.map_append, List.map_take, List.map_drop, List.append_assoc]
/-- Bytes are laid from a on. -/
theorem run_put (w : World) (b : Nat) (C : List UInt8) (f m rd wr : Nat) (h : Cl w b 37 (piCs C f m rd wr)) (hc : C.length = 24) (a : Nat) (ha : a ≤ 24) (l : List UInt8) (n : Nat) (hn : n = min l.length (24 - a)) (dCap : Nat) (ty : TypeId) :
    (Builtin.copy_ #[45, 9] ty #[.slice (some ⟨b, a, none⟩) (24 - a) dCap, .string ⟨l.toArray⟩]).run Try.prog w = .ok (.int .i64 (n : Int)) (w.setRow b (piCs (C.take a ++ l.take n ++ C.drop (a + n)) f m rd wr).toArray) := by
  have hl : (piCs C f m rd wr).length = 28 := by unfold piCs; rw [List.length_append, bCs_length, hc]; rfl
  have hln : (l.take n).length = n := by rw [List.length_take]; omega
  have e := piCs_put C f m rd wr hc a (l.take n) (by omega)
  rw [hln] at e
  rw [run_copy_str w 45 9 ty 5 b a (24 - a) dCap l (piCs C f m rd wr) 37 n Try.underlying45 infoU8 h hn (by omega), e]
theorem Cl.row {w : World} {b : Nat} {t : TypeId} {c : List Value} (h : Cl w b t c) (d : List Value) : Cl (w.setRow b d.toArray) b t d := setRow_heap w b _ _ t _ h
theorem Apart.row (w : World) (b : Nat) (d : Array Value) : Apart (fun k => k = b) w (w.setRow b d) := ⟨rfl, rfl, rfl, by simp [World.setRow], fun k _ hx => setRow_other w b k d hx⟩
theorem mkB (s : ByteArray) (a b : Nat) (h : b ≤ s.size) : s.extract a b = ⟨((s.data.toList.take b).drop a).toArray⟩ := by
  have e : (s.extract a b).data.toList = (s.data.toList.take b).drop a := by
    have := Lib.extract_toList s a b
    rw [Lib.toList_data] at this
    rw [this, List.drop_take]
  generalize s.extract a b = E at *
  obtain ⟨⟨l⟩⟩ := E
  simp only at e
  rw [e]
theorem putC_eq (C : List UInt8) (a : Nat) (l : List UInt8) (n : Nat) (hn : n = min l.length (24 - a)) (hc : C.length = 24) (ha : a < 24) : putC C a l = (C.take a ++ l.take n ++ C.drop (a + n)).take 0 ++ (l.drop n).take (l.length - n) ++ (C.take a ++ l.take n ++ C.drop (a + n)).drop (0 + (l.length - n)) := by
  unfold putC
  have e1 : l.take (24 - a) = l.take n := by
    rw [hn]
    by_cases h : l.length ≤ 24 - a
    · rw [Nat.min_eq_left h, List.take_of_length_le h, List.take_length]
    · rw [Nat.min_eq_right (by omega)]
  have e2 : l.drop (24 - a) = l.drop n := by
    rw [hn]
    by_cases h : l.length ≤ 24 - a
    · rw [Nat.min_eq_left h, List.drop_of_length_le h, List.drop_length]
    · rw [Nat.min_eq_right (by omega)]
  have e3 : (l.take n).length = n := by rw [List.length_take]; omega
  dsimp only
  rw [e1, e2, e3, List.length_drop, List.take_zero, List.nil_append, Nat.zero_add, List.take_of_length_le (l := l.drop n) (by rw [List.length_drop]; exact Nat.le_refl _)]
set_option maxHeartbeats 2000000 in
theorem put_any (B b : Nat) (T : List UInt8) (rd wr : Nat) (l : List UInt8) (hl : T.length + l.length ≤ 24) (w : World) (h : Pp B w b T rd wr) : Calls Try.prog 14 #[.pointer (some ⟨b, 0, none⟩), .string ⟨l.toArray⟩] w fun r w' => r = .returned (.tuple #[]) ∧ PStp B w w' b (T ++ l) rd wr := by
  obtain ⟨C, f, h1, h2⟩ := h.ex
  have hp := h1.pp h2.hc
  have ht := h2.ht
  have cP := place_any b f T.length rd wr T.length h2.hf (by omega) w hp
  have c25 := hp.c25
  obtain ⟨a, hA⟩ : ∃ a : Nat, a = (f + T.length) % 24 := ⟨_, rfl⟩
  rw [← hA] at cP
  have ha : a < 24 := by rw [hA]; exact Nat.mod_lt _ (by decide)
  obtain ⟨n, hn⟩ : ∃ n : Nat, n = min l.length (24 - a) := ⟨_, rfl⟩
  have r1 := run_put w b C f T.length rd wr h1 h2.hc a (by omega) l n hn
  have hw1 := h1.row (piCs (C.take a ++ l.take n ++ C.drop (a + n)) f T.length rd wr)
  generalize hW1 : w.setRow b (piCs (C.take a ++ l.take n ++ C.drop (a + n)) f T.length rd wr).toArray = W1 at *
  have hC1 : (C.take a ++ l.take n ++ C.drop (a + n)).length = 24 := by
    have := h2.hc
    simp only [List.length_append, List.length_take, List.length_drop]
    omega
  have r2 : ∀ ty, (Builtin.copy_ #[45, 9] ty #[.slice (some ⟨b, 0, none⟩) 24 24, .string ((⟨l.toArray⟩ : ByteArray).extract n l.length)]).run Try.prog W1.drew = .ok (.int .i64 ((l.length - n : Nat) : Int)) (W1.drew.setRow b (piCs (putC C a l) f T.length rd wr).toArray) := by
    intro ty
    have e1 : (⟨l.toArray⟩ : ByteArray).extract n l.length = ⟨(l.drop n).toArray⟩ := by
      rw [mkB _ _ _ (by simp [ByteArray.size])]
      simp
    have e2 := run_put W1.drew b _ f T.length rd wr hw1.drew hC1 0 (by decide) (l.drop n) (l.length - n) (by rw [List.length_drop]; omega) 24 ty
    rw [e1]
    rw [putC_eq C a l n hn h2.hc ha] 
    exact e2
  have hS : PStp B w ((W1.drew.setRow b (piCs (putC C a l) f T.length rd wr).toArray).setCell ⟨b, 25, none⟩ (.int .i64 ((T.length + l.length : Nat) : Int))) b (T ++ l) rd wr ∧ PpC (W1.drew.setRow b (piCs (putC C a l) f T.length rd wr).toArray) b f T.length rd wr := by
    have hw2 := hw1.drew.row (piCs (putC C a l) f T.length rd wr)
    have hlp := putC_length C a l h2.hc ha (by omega)
    refine ⟨⟨⟨h.g, h.hr, h.hw, putC C a l, f, ?_, by rw [hA]; exact h2.put l hl⟩, ?_⟩, hw2.pp hlp⟩
    · have := hw2.set 25 (.int .i64 ((T.length + l.length : Nat) : Int))
      rw [(piCs_set _ f T.length rd wr hlp _).2.1] at this
      rw [List.length_append]
      exact this
    · rw [← hW1]
      exact ((Apart.row w b _).drew.trans (Apart.row _ b _)).trans (Apart.at (X := fun k => k = b) _ b _ _ rfl)
  generalize W1.drew.setRow b (piCs (putC C a l) f T.length rd wr).toArray = W2 at *
  obtain ⟨hS, hP2⟩ := hS
  have HS := Hid3.mk hS
  have d25 := hP2.c25
  have g25 := hP2.fz 25
  obtain ⟨m, hm⟩ : ∃ m : Nat, m = T.length := ⟨_, rfl⟩
  obtain ⟨k, hk⟩ : ∃ k : Nat, k = l.length := ⟨_, rfl⟩
  rw [← hm] at c25 d25 HS hl ht cP
  rw [← hk] at r2 HS hl
  have hsz : (⟨l.toArray⟩ : ByteArray).size = k := by rw [hk]; simp [ByteArray.size]
  have hn1 : n ≤ k := by omega
  obtain ⟨y, hy⟩ : ∃ y : Nat, y = m + k := ⟨_, rfl⟩
  rw [← hy] at HS
  have e1 : (m : Int) + (k : Int) = (y : Int) := by omega
  have hy24 : (y : Int) ≤ 24 := by omega
  clear hy
  clear hS hP2 hm
  have HK := Hid3.mk hk
  have HA := Hid3.mk hA
  have HN := Hid3.mk hn
  have ha24 : (a : Int) ≤ 24 := by omega
  have ha0 : (0 : Int) ≤ (a : Int) := by omega
  clear h1 h2 hp h hA hn hw1 hC1 hW1 hk
  go_enter Try.func14, Try.ntmps14
  go_wp2_with fail
  refine cP.mono ?_
  rintro r W ⟨rfl, rfl⟩
  clear cP
  go_wp2
  go_region
  go_wp2
  go_end0
  exact ⟨rfl, HS.out⟩
end Go.Proofs.Ytpjnadgjohbhbab
