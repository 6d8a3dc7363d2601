/- The document's table: held, give, List, Room, Same, Begin, Dup. -/
import Derived.Test.YtbkpkcndmlapfaaFdR
namespace Go.Proofs.Ytbkpkcndmlapfaa
open Go.RowKit Go.Maps
set_option linter.unusedVariables false
set_option maxRecDepth 100000
set_option maxHeartbeats 1000000 in
theorem held_any (b : Nat) (s : Fs) (n : Nat) (w : World) (h : RtC w b s) : Calls Try.prog 56 #[.pointer (some ⟨b, 0, none⟩), .int .i64 (n : Int)] w fun r w' => r = .returned (.bool (decide (cntN s.fd n ≠ 0))) ∧ w' = w := by
  have HC := Hid3.mk h
  obtain ⟨q, hq⟩ : ∃ q, decide (cntN s.fd n ≠ 0) = q := ⟨_, rfl⟩
  have HQ := Hid3.mk hq
  rw [hq]
  clear h hq
  go_enter Try.func56, Try.ntmps56
  go_wp2
  go_loopw [5] (fun i W => ∃ P : Nat, i = .int .i64 P ∧ P ≤ 6 ∧ W = w ∧ Hid3 (∀ p : Fin 6, p.1 < P → ∀ k, s.fd p k ≠ n)) (fun i _ => 6 - (intOf i).toNat)
  case atStart => exact ⟨0, rfl, Nat.zero_le _, rfl, ⟨fun p hp => absurd hp (by omega)⟩⟩
  case round =>
    obtain ⟨P, rfl, hP, rfl, HA⟩ := hrel
    by_cases hP6 : P < 6
    · have hPz : (P : Int) < 6 := by omega
      go_wp2
      go_loopw [6] (fun i W => ∃ K : Nat, i = .int .i64 K ∧ K ≤ 8 ∧ W = wr ∧ Hid3 (∀ k : Fin 8, k.1 < K → s.fd ⟨P, hP6⟩ k ≠ n)) (fun i _ => 8 - (intOf i).toNat)
      case atStart => exact ⟨0, rfl, Nat.zero_le _, rfl, ⟨fun k hk => absurd hk (by omega)⟩⟩
      case round =>
        obtain ⟨K, rfl, hK, hwr, HK⟩ := hrel
        subst hwr
        by_cases hK8 : K < 8
        · have hKz : (K : Int) < 8 := by omega
          have c0 := HC.out.d ⟨P, hP6⟩ ⟨K, hK8⟩
          simp only at c0
          by_cases he : s.fd ⟨P, hP6⟩ ⟨K, hK8⟩ = n
          · rw [he] at c0
            have hen : ((n : Int) == (n : Int)) = true := by simp
            have HR : Hid3 (q = true) := ⟨by rw [← HQ.out]; exact decide_eq_true (by have := cntN_has s.fd ⟨P, hP6⟩ ⟨K, hK8⟩; rw [he] at this; omega)⟩
            clear he
            go_wp2
            go_ret
            exact ⟨by rw [HR.out]; rfl, rfl⟩
          · have hen : ((s.fd ⟨P, hP6⟩ ⟨K, hK8⟩ : Int) == (n : Int)) = false := by rw [beq_eq_false_iff_ne]; omega
            have HK2 : Hid3 (∀ k : Fin 8, k.1 < K + 1 → s.fd ⟨P, hP6⟩ k ≠ n) := ⟨fun k hk => by
              by_cases e : k.1 = K
              · rw [show k = ⟨K, hK8⟩ from Fin.ext e]; exact he
              · exact HK.out k (by omega)⟩
            generalize ((s.fd ⟨P, hP6⟩ ⟨K, hK8⟩ : Nat) : Int) = x at *
            clear he
            go_wp2
            go_roundw
            case rel => exact ⟨K + 1, by go_num, by omega, by trivial, HK2⟩
            case measure => simp [intOf]; omega
        · have hKz : ¬ (K : Int) < 8 := by omega
          have HA2 : Hid3 (∀ p : Fin 6, p.1 < P + 1 → ∀ k, s.fd p k ≠ n) := ⟨fun p hp k => by
            by_cases e : p.1 = P
            · rw [show p = ⟨P, hP6⟩ from Fin.ext e]; exact HK.out k (by have := k.2; omega)
            · exact HA.out p (by omega) k⟩
          go_wp2
          go_roundw
          case rel => exact ⟨P + 1, by go_num, by omega, by trivial, HA2⟩
          case measure => simp [intOf]; omega
    · have hPz : ¬ (P : Int) < 6 := by omega
      have HR : Hid3 (q = false) := ⟨by rw [← HQ.out]; exact decide_eq_false (by rw [cntN_no s.fd n (fun p k => HA.out p (by have := p.2; omega) k)]; simp)⟩
      go_wp2
      go_ret
      exact ⟨by rw [HR.out]; rfl, rfl⟩
set_option maxHeartbeats 1000000 in
theorem give_ok (B b : Nat) (s : Fs) (p : Fin 6) (k : Fin 8) (n : Nat) (w : World) (h : Rt B w b s) (hp : s.has p = true) (hn : n ≤ s.all.length) (h0 : s.fd p k = 0) (hl : ∀ j : Fin 8, j.1 < k.1 → s.fd p j ≠ 0) : Calls Try.prog 55 #[.pointer (some ⟨b, 0, none⟩), .int .i64 p.1, .int .i64 (n : Int)] w fun r w' => r = .returned (.tuple #[.int .i64 k.1, .int .i64 0]) ∧ RStp B w w' b (setFd s p k n) := by
  have HC := Hid3.mk h.c
  have HS := Hid3.mk (RStp.fset h p k n (h.ok.set p k n hp hn))
  have HL := Hid3.mk hl
  have HZ := Hid3.mk h0
  have hlt := h.lt
  obtain ⟨p, hp6⟩ := p
  obtain ⟨k, hk8⟩ := k
  have h6 : (p : Int) < 6 := by omega
  simp only at *
  clear h hp hl h0
  go_enter Try.func55, Try.ntmps55
  go_wp2
  go_loopw [8] (fun i W => ∃ K : Nat, i = .int .i64 K ∧ K ≤ k ∧ W = w) (fun i _ => 8 - (intOf i).toNat)
  case atStart => exact ⟨0, rfl, Nat.zero_le _, rfl⟩
  case round =>
    obtain ⟨K, rfl, hK, rfl⟩ := hrel
    have hKz : (K : Int) < 8 := by omega
    have c0 := HC.out.d ⟨p, hp6⟩ ⟨K, by omega⟩
    have f0 := HC.out.f (6 + p * 8 + K)
    simp only at c0
    by_cases he : K = k
    · subst he
      rw [HZ.out] at c0
      go_wp2
      go_ret2
      exact ⟨rfl, HS.out⟩
    · have hx := HL.out ⟨K, by omega⟩ (by show K < k; omega)
      have hen : ((s.fd ⟨p, hp6⟩ ⟨K, by omega⟩ : Int) == 0) = false := by rw [beq_eq_false_iff_ne]; omega
      generalize ((s.fd ⟨p, hp6⟩ ⟨K, by omega⟩ : Nat) : Int) = x at *
      clear hx
      go_wp2
      go_roundw
      case rel => exact ⟨K + 1, by go_num, by omega, by trivial⟩
      case measure => simp [intOf]; omega
set_option maxHeartbeats 1000000 in
theorem give_full (b : Nat) (s : Fs) (p : Fin 6) (n : Int) (w : World) (h : RtC w b s) (hl : ∀ j : Fin 8, s.fd p j ≠ 0) : Calls Try.prog 55 #[.pointer (some ⟨b, 0, none⟩), .int .i64 p.1, .int .i64 n] w fun r w' => r = .returned (.tuple #[.int .i64 0, .int .i64 11]) ∧ w' = w := by
  have HC := Hid3.mk h
  have HL := Hid3.mk hl
  have hlt := h.l
  obtain ⟨p, hp6⟩ := p
  have h6 : (p : Int) < 6 := by omega
  simp only at *
  clear h hl
  go_enter Try.func55, Try.ntmps55
  go_wp2
  go_loopw [8] (fun i W => ∃ K : Nat, i = .int .i64 K ∧ K ≤ 8 ∧ W = w) (fun i _ => 8 - (intOf i).toNat)
  case atStart => exact ⟨0, rfl, Nat.zero_le _, rfl⟩
  case round =>
    obtain ⟨K, rfl, hK, rfl⟩ := hrel
    by_cases hK8 : K < 8
    · have hKz : (K : Int) < 8 := by omega
      have c0 := HC.out.d ⟨p, hp6⟩ ⟨K, hK8⟩
      simp only at c0
      have hx := HL.out ⟨K, hK8⟩
      have hen : ((s.fd ⟨p, hp6⟩ ⟨K, hK8⟩ : Int) == 0) = false := by rw [beq_eq_false_iff_ne]; omega
      generalize ((s.fd ⟨p, hp6⟩ ⟨K, hK8⟩ : Nat) : Int) = x at *
      clear hx
      go_wp2
      go_roundw
      case rel => exact ⟨K + 1, by go_num, by omega, by trivial⟩
      case measure => simp [intOf]; omega
    · have hKz : ¬ (K : Int) < 8 := by omega
      go_wp2
      go_ret2
      exact ⟨rfl, rfl⟩
set_option maxHeartbeats 1000000 in
theorem rlst_ok (b : Nat) (s : Fs) (p : Fin 6) (w : World) (h : RtC w b s) (hp : s.has p = true) : Calls Try.prog 29 #[.pointer (some ⟨b, 0, none⟩), .int .i64 p.1] w fun r w' => ∃ v, r = .returned v ∧ w'.ownsRow w.heap.size 3 1 v (lsL (s.fd p) 8).length (iVs (lsL (s.fd p) 8)) ∧ Below w.heap.size w w' := by
  have hlt := h.l
  have HM : Hid3 (∀ W, Below w.heap.size w W → Calls Try.prog 50 #[.pointer (some ⟨b, 0, none⟩), .int .i64 p.1] W fun r w' => r = .returned (.int .i64 0) ∧ w' = W) := ⟨fun W hW => may_ok b s p W ⟨fun p => (hW.cell (p := ⟨b, p.1, none⟩) hlt).trans (h.h p), fun p k => (hW.cell (p := ⟨b, 6 + p.1 * 8 + k.1, none⟩) hlt).trans (h.d p k), fun j => (hW.frozen (p := ⟨b, j, none⟩) hlt).trans (h.f j), Nat.lt_of_lt_of_le hlt hW.size⟩ hp⟩
  have HC := Hid3.mk h
  obtain ⟨i0, hi0, hz0, hz1, hz2⟩ := info_parts infoI
  clear h
  obtain ⟨p, hp6⟩ := p
  have h6 : (p : Int) < 6 := by omega
  simp only at *
  go_enter Try.func29, Try.ntmps29
  go_wp2
  go_loopw [5, 6] (fun v i wr => ∃ k : Nat, k ≤ 8 ∧ i = .int .i64 k ∧ wr.ownsRow w.heap.size 3 1 v (lsL (s.fd ⟨p, hp6⟩) k).length (iVs (lsL (s.fd ⟨p, hp6⟩) k)) ∧ Below w.heap.size w wr) (fun _ i _ => 8 - (intOf i).toNat)
  case atStart => exact ⟨0, by omega, rfl, World.ownsRow_nil _ _ _ _, Below.refl _ _⟩
  case round =>
    obtain ⟨k, hk, rfl, hown, hB⟩ := hrel
    obtain ⟨a0, cap0, rfl⟩ := slice_of hown
    have hsb := hB.size
    have HO := Hid3.mk hown
    have cM := HM.out wr hB
    have HB := Hid3.mk hB
    by_cases hk8 : k < 8
    · have hkz : (k : Int) < 8 := by omega
      have c0 := (hB.cell (p := ⟨b, 6 + p * 8 + k, none⟩) hlt).trans (HC.out.d ⟨p, hp6⟩ ⟨k, hk8⟩)
      have hL := lsL_len (s.fd ⟨p, hp6⟩) k
      have hbl : b < wr.heap.size := Nat.lt_of_lt_of_le hlt hsb
      by_cases hf : s.fd ⟨p, hp6⟩ ⟨k, hk8⟩ = 0
      · rw [hf] at c0
        have HL := Hid3.mk (lsL_no _ k hk8 hf)
        clear hown hf hB
        go_wp2_with fail
        refine cM.mono ?_
        rintro r W ⟨rfl, hW⟩
        rw [hW]
        clear cM hW
        go_wp2
        go_roundw
        case rel => exact ⟨k + 1, by omega, by go_num, by rw [HL.out]; exact HO.out, HB.out⟩
        case measure => simp [intOf]; omega
      · have HL := Hid3.mk (lsL_yes _ k hk8 hf)
        have hen : ((s.fd ⟨p, hp6⟩ ⟨k, hk8⟩ : Int) != 0) = true := by simpa using hf
        generalize ((s.fd ⟨p, hp6⟩ ⟨k, hk8⟩ : Nat) : Int) = x at *
        clear hf hB
        go_wp2_with fail
        refine cM.mono ?_
        rintro r W ⟨rfl, hW⟩
        rw [hW]
        clear cM hW
        go_wp2_with (at_builtin; refine wpList_append_own _ rfl _ _ 33 rfl w.heap.size 3 i0 (.int .i64 0) 1 8 Try.underlying33 hi0 hz0 hz1 hz2 rfl (by decide) _ _ _ rfl (hown.alloc _) ⟨wr.heap.size, 0, none⟩ 1 1 [.int .i64 (k : Int)] rfl rfl (cell_one wr (.int .i64 (k : Int)) 3) (by simp [Value.oneCell']) (by unfold maxLen; omega) (by omega) (by simp; omega) ?_; intro v' w1 hown' hgrow _)
        have hb3 : Below w.heap.size w w1 := (HB.out.alloc HB.out.size _).grown hgrow (by simp; omega) (fun j hj => (hown.lt j hj).1)
        go_roundw
        case rel =>
          refine ⟨k + 1, by omega, by go_num, ?_, hb3⟩
          rw [HL.out, List.length_append, iVs, List.map_append]
          exact hown'
        case measure => simp [intOf]; omega
    · have hkz : ¬ (k : Int) < 8 := by omega
      obtain rfl : k = 8 := by omega
      clear hown hB
      go_wp2_with fail
      refine cM.mono ?_
      rintro r W ⟨rfl, hW⟩
      rw [hW]
      clear cM hW
      go_wp2
      go_ret
      exact ⟨_, rfl, HO.out, HB.out⟩
set_option maxHeartbeats 1000000 in
theorem rlst_bad (b : Nat) (s : Fs) (pid : Int) (w : World) (h : RtC w b s) (hp : NoP s pid) : Calls Try.prog 29 #[.pointer (some ⟨b, 0, none⟩), .int .i64 pid] w fun r w' => r = .returned (.slice none 0 0) ∧ w' = w := by
  have cM := may_bad b s pid w h hp
  clear h hp
  go_enter Try.func29, Try.ntmps29
  go_wp2
  go_loopw [5, 6] (fun v i wr => v = .slice none 0 0 ∧ i = .int .i64 0 ∧ wr = w) (fun _ i _ => 8 - (intOf i).toNat)
  case atStart => exact ⟨rfl, rfl, rfl⟩
  case round =>
    obtain ⟨rfl, rfl, rfl⟩ := hrel
    go_wp2_with fail
    refine cM.mono ?_
    rintro r W ⟨rfl, rfl⟩
    clear cM
    go_wp2
    go_ret
    exact ⟨rfl, rfl⟩
set_option maxHeartbeats 1000000 in
theorem rroom_ok (b : Nat) (s : Fs) (p : Fin 6) (w : World) (h : RtC w b s) (hp : s.has p = true) : Calls Try.prog 30 #[.pointer (some ⟨b, 0, none⟩), .int .i64 p.1] w fun r w' => r = .returned (.int .i64 (roomN s p)) ∧ Below w.heap.size w w' := by
  have cM := may_ok b s p w h hp
  have cL := rlst_ok b s p w h hp
  have hle := lsL_len (s.fd p) 8
  have h3 : ((roomN s p : Nat) : Int) = 8 - ((lsL (s.fd p) 8).length : Int) := by unfold roomN; omega
  have h4 : IntKind.i64.wrap (8 - ((lsL (s.fd p) 8).length : Int)) = 8 - ((lsL (s.fd p) 8).length : Int) := by rw [IntKind.wrap_i64]; omega
  rw [h3]
  clear h h3
  generalize lsL (s.fd p) 8 = l at *
  generalize hN : l.length = N at *
  go_enter Try.func30, Try.ntmps30
  go_wp2_with fail
  refine cM.mono ?_
  rintro r W ⟨rfl, rfl⟩
  clear cM
  go_wp2_with fail
  refine cL.mono ?_
  rintro r W' ⟨v, rfl, h1, h2⟩
  obtain ⟨a, cap, rfl⟩ := slice_of h1
  have HH := Hid3.mk h2
  clear cL h1 h2
  go_wp2
  go_ret
  exact ⟨rfl, HH.out⟩
set_option maxHeartbeats 1000000 in
theorem rroom_bad (b : Nat) (s : Fs) (pid : Int) (w : World) (h : RtC w b s) (hp : NoP s pid) : Calls Try.prog 30 #[.pointer (some ⟨b, 0, none⟩), .int .i64 pid] w fun r w' => r = .returned (.int .i64 0) ∧ w' = w := by
  have cM := may_bad b s pid w h hp
  clear h hp
  go_enter Try.func30, Try.ntmps30
  go_wp2_with fail
  refine cM.mono ?_
  rintro r W ⟨rfl, rfl⟩
  clear cM
  go_wp2
  go_ret
  exact ⟨rfl, rfl⟩
theorem begS_ok {s : Fs} (h : s.Ok) (p : Fin 6) : (begS s p).Ok := ⟨h.le, fun q hq k => by
  have hq' : upd s.has p true q = false := hq
  by_cases e : q = p
  · rw [e, upd_same] at hq'; cases hq'
  · rw [upd_other _ _ _ _ e] at hq'; exact h.no q hq' k⟩
set_option maxHeartbeats 1000000 in
theorem rbegin_ok (B b : Nat) (s : Fs) (p : Fin 6) (w : World) (h : Rt B w b s) (hp : s.has p = false) : Calls Try.prog 42 #[.pointer (some ⟨b, 0, none⟩), .int .i64 p.1] w fun r w' => r = .returned (.int .i64 0) ∧ RStp B w w' b (begS s p) := by
  have cV := fresh_any b s p.1 w h.c
  rw [freshE_at, hp] at cV
  simp only [Bool.false_eq_true, if_false] at cV
  have HF := Hid3.mk (RStp.hset h p true (begS_ok h.ok p))
  have c0 := h.c.h p
  have f0 := h.c.f p.1
  have hlt := h.lt
  generalize s.has p = u at *
  clear h hp
  obtain ⟨p, hp6⟩ := p
  have h2 : (p : Int) < 6 := by omega
  simp only at *
  go_enter Try.func42, Try.ntmps42
  go_wp2_with fail
  refine cV.mono ?_
  rintro r W ⟨rfl, rfl⟩
  clear cV
  go_wp2
  go_ret
  exact ⟨rfl, HF.out⟩
set_option maxHeartbeats 1000000 in
theorem rbegin_err (b : Nat) (s : Fs) (pid : Int) (w : World) (h : RtC w b s) (he : freshE s pid ≠ 0) : Calls Try.prog 42 #[.pointer (some ⟨b, 0, none⟩), .int .i64 pid] w fun r w' => r = .returned (.int .i64 (freshE s pid)) ∧ w' = w := by
  have cV := fresh_any b s pid w h
  generalize freshE s pid = e at *
  have h1 : (e == 0) = false := by simpa using he
  clear h he
  go_enter Try.func42, Try.ntmps42
  go_wp2_with fail
  refine cV.mono ?_
  rintro r W ⟨rfl, rfl⟩
  clear cV
  go_wp2
  go_ret
  exact ⟨rfl, rfl⟩
set_option maxHeartbeats 1000000 in
theorem rdup_ok (B b : Nat) (s : Fs) (p : Fin 6) (k j : Fin 8) (w : World) (h : Rt B w b s) (hp : s.has p = true) (hk : s.fd p k ≠ 0) (h0 : s.fd p j = 0) (hl : ∀ i : Fin 8, i.1 < j.1 → s.fd p i ≠ 0) : Calls Try.prog 47 #[.pointer (some ⟨b, 0, none⟩), .int .i64 p.1, .int .i64 k.1] w fun r w' => r = .returned (.tuple #[.int .i64 j.1, .int .i64 0]) ∧ RStp B w w' b (setFd s p j (s.fd p k)) := by
  have cA := rat_ok b s p k w h.c hp hk
  have cG := give_ok B b s p j (s.fd p k) w h hp (h.ok.le p k) h0 hl
  have c0 := h.c.d p k
  generalize setFd s p j (s.fd p k) = s' at *
  generalize ((s.fd p k : Nat) : Int) = x at *
  clear h hk h0 hl
  obtain ⟨p, hp6⟩ := p
  obtain ⟨k, hk8⟩ := k
  have h2 : (p : Int) < 6 := by omega
  have h3 : (k : Int) < 8 := by omega
  simp only at *
  go_enter Try.func47, Try.ntmps47
  go_wp2_with fail
  refine cA.mono ?_
  rintro r W ⟨rfl, rfl⟩
  clear cA
  go_wp2_with fail
  refine cG.mono ?_
  rintro r W' ⟨rfl, hS⟩
  have HS := Hid3.mk hS
  clear cG hS c0
  go_wp2
  go_ret2
  exact ⟨rfl, HS.out⟩
set_option maxHeartbeats 1000000 in
theorem rdup_full (B b : Nat) (s : Fs) (p : Fin 6) (k : Fin 8) (w : World) (h : Rt B w b s) (hp : s.has p = true) (hk : s.fd p k ≠ 0) (hl : ∀ i : Fin 8, s.fd p i ≠ 0) : Calls Try.prog 47 #[.pointer (some ⟨b, 0, none⟩), .int .i64 p.1, .int .i64 k.1] w fun r w' => r = .returned (.tuple #[.int .i64 0, .int .i64 11]) ∧ w' = w := by
  have cA := rat_ok b s p k w h.c hp hk
  have cG := give_full b s p (s.fd p k) w h.c hl
  have c0 := h.c.d p k
  generalize ((s.fd p k : Nat) : Int) = x at *
  clear h hk hl
  obtain ⟨p, hp6⟩ := p
  obtain ⟨k, hk8⟩ := k
  have h2 : (p : Int) < 6 := by omega
  have h3 : (k : Int) < 8 := by omega
  simp only at *
  go_enter Try.func47, Try.ntmps47
  go_wp2_with fail
  refine cA.mono ?_
  rintro r W ⟨rfl, rfl⟩
  clear cA
  go_wp2_with fail
  refine cG.mono ?_
  rintro r W' ⟨rfl, rfl⟩
  clear cG
  go_wp2
  go_ret2
  exact ⟨rfl, rfl⟩
set_option maxHeartbeats 1000000 in
theorem rdup_err (e : Int) (he : e ≠ 0) (tb : Nat) (pid fd : Int) (w : World) (cA : Calls Try.prog 51 #[.pointer (some ⟨tb, 0, none⟩), .int .i64 pid, .int .i64 fd] w fun r w' => r = .returned (.int .i64 e) ∧ w' = w) : Calls Try.prog 47 #[.pointer (some ⟨tb, 0, none⟩), .int .i64 pid, .int .i64 fd] w fun r w' => r = .returned (.tuple #[.int .i64 0, .int .i64 e]) ∧ w' = w := by
  have h1 : (e != 0) = true := by simpa using he
  clear he
  go_enter Try.func47, Try.ntmps47
  go_wp2_with fail
  refine cA.mono ?_
  rintro r W ⟨rfl, rfl⟩
  go_wp2
  go_ret2
  exact ⟨rfl, rfl⟩
end Go.Proofs.Ytbkpkcndmlapfaa
