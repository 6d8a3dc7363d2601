/- The document's table: Move, Fork, Copy; SameOpens. -/
import Derived.Test.YtbkpkcndmlapfaaFdT
namespace Go.Proofs.Ytbkpkcndmlapfaa
open Go.RowKit Go.Maps
set_option linter.unusedVariables false
set_option maxRecDepth 100000
theorem opCs_set : ∀ (L : List Opn) (m : Nat) (o : Opn) (pos : Int), L[m]? = some o → (opCs L).set (m * 3 + 2) (.int .i64 pos) = opCs (L.set m { o with p := pos })
  | [], m, o, pos, h => by cases h
  | x :: L, 0, o, pos, h => by
    injection h with h
    subst h
    rfl
  | x :: L, m + 1, o, pos, h => by
    have ih := opCs_set L m o pos h
    show (opC x ++ opCs L).set ((m + 1) * 3 + 2) _ = opC x ++ opCs (L.set m { o with p := pos })
    rw [← ih, List.set_append_right _ _ (by show 3 ≤ _; omega)]
    congr 2
    show (m + 1) * 3 + 2 - 3 = m * 3 + 2
    omega
theorem own_at {w : World} {B t size n : Nat} {v : Value} {xs : List Value} (h : w.ownsRow B t size v n xs) (hn : n ≠ 0) : ∃ (g cap : Nat) (cur : Array Value), v = .slice (some ⟨g, 0, none⟩) n cap ∧ B ≤ g ∧ w.heap[g]? = some (.cells cur t (0, 0)) ∧ n ≤ cap ∧ cur.toList.take (n * size) = xs := by
  rcases h.2 with ⟨rfl, h0⟩ | ⟨g, cap, cur, rfl, h1, hb, hk, _, _, htk⟩
  · exact absurd h0 hn
  · exact ⟨g, cap, cur, rfl, h1, hb, hk, htk⟩
/-- What Move comes to. -/
theorem rmove_fin {B : Nat} {w W1 : World} {b : Nat} {s : Fs} {v1 : Value} (h : Rt B w b s) (m : Nat) (hm : m < s.all.length) (pos : Int) (hB : Below w.heap.size w W1) (own : W1.ownsRow w.heap.size 32 3 v1 s.all.length (opCs s.all)) :
    ∃ g1 cap1, v1 = .slice (some ⟨g1, 0, none⟩) s.all.length cap1 ∧ g1 ≠ b ∧ g1 < W1.heap.size ∧ (∃ u, W1.cell? ⟨g1, m * 3 + 2, none⟩ = some (.int .i64 u)) ∧ W1.frozen? ⟨g1, m * 3 + 2, none⟩ = false ∧
      RStp B w ((W1.setCell ⟨g1, m * 3 + 2, none⟩ (.int .i64 pos)).setCell ⟨b, 54, none⟩ v1) b (setO s (m + 1) (movO s (m + 1) pos)) := by
  obtain ⟨g1, cap1, cur, e1, e2, e3, e4, e5⟩ := own_at own (by omega)
  have hbl := h.lt
  have hgb : g1 ≠ b := by omega
  have hso := getO_some s m hm
  obtain ⟨v0, h1, h2⟩ := h.ex
  have hcw := h1.below hB
  have hg1 : Cl W1 g1 32 cur.toList := by unfold Cl; rw [e3]
  obtain ⟨a0, a1, a2⟩ := opCs_at s.all m _ hso
  have a2' : cur.toList[m * 3 + 2]? = some (.int .i64 (getO s (m + 1)).p) := by
    rw [← e5, List.getElem?_take] at a2
    rw [if_pos (by omega)] at a2
    exact a2
  refine ⟨g1, cap1, e1, hgb, hg1.lt, ⟨_, (hg1.cell _).trans a2'⟩, hg1.thaw _, ⟨⟨h.g, ⟨v1, ?_, ?_⟩, ⟨fun p k => by unfold setO; rw [List.length_set]; exact h.ok.le p k, h.ok.no⟩⟩, ?_⟩⟩
  · have := (hcw.other (Ne.symm hgb) (m * 3 + 2) (.int .i64 pos)).set 54 v1
    exact this
  · refine .inr ⟨g1, cap1, (cur.toList.set (m * 3 + 2) (.int .i64 pos)).toArray, ?_, ?_, ?_, fun j u hu => ?_⟩
    · rw [e1]; unfold setO; rw [List.length_set]
    · exact ((hg1.set (m * 3 + 2) (.int .i64 pos)).other hgb 54 v1)
    · unfold setO; rw [List.length_set]; exact e4
    · have e6 : opCs (setO s (m + 1) (movO s (m + 1) pos)).all = (opCs s.all).set (m * 3 + 2) (.int .i64 pos) := by
        rw [opCs_set s.all m _ pos hso]
        rfl
      rw [e6] at hu
      have hlen := opCs_len s.all
      have hj : j < (opCs s.all).length := by have := (List.getElem?_eq_some_iff.1 hu).1; rw [List.length_set] at this; exact this
      show (cur.toList.set (m * 3 + 2) (.int .i64 pos))[j]? = some u
      rw [List.getElem?_set] at hu ⊢
      by_cases ej : m * 3 + 2 = j
      · rw [if_pos ej] at hu ⊢
        rw [if_pos (by omega)] at hu
        have hcl : j < cur.toList.length := by
          have := (List.getElem?_eq_some_iff.1 a2').1
          omega
        rw [if_pos (by omega)]
        exact hu
      · rw [if_neg ej] at hu ⊢
        rw [← e5, List.getElem?_take, if_pos (by omega)] at hu
        exact hu
  · exact (Apart.of_below hB).then ((Apart.at (X := fun i => i = b ∨ i = g1) W1 g1 _ _ (.inr rfl)).trans (Apart.at _ b _ _ (.inl rfl))) (fun i hi e => e.elim id (fun e => absurd hi (by omega)))
theorem op_cells {w w1 : World} {g : Nat} {cur : Array Value} {L : List Opn} (h2 : w.heap[g]? = some (.cells cur 32 (0, 0))) (h4 : ∀ (j : Nat) (u : Value), (opCs L)[j]? = some u → cur.toList[j]? = some u) (hX : Below w.heap.size w w1) : ∀ j u, (opCs L)[j]? = some u → w1.cell? ((⟨g, 0, none⟩ : Addr).add j) = some u := fun j u hu => by
  have hlt := (Array.getElem?_eq_some_iff.1 h2).1
  have e : (⟨g, 0, none⟩ : Addr).add j = ⟨g, j, none⟩ := by
    by_cases hj : j = 0
    · subst hj; rfl
    · simp [Addr.add, hj]
  rw [e, hX.cell (p := ⟨g, j, none⟩) hlt, Lib.cell_of_heap h2]
  simpa using h4 j u hu
set_option maxHeartbeats 1000000 in
theorem rmove_ok (B b : Nat) (s : Fs) (p : Fin 6) (k : Fin 8) (pos : Int) (w : World) (h : Rt B w b s) (hp : s.has p = true) (hk : s.fd p k ≠ 0) (hl : s.all.length ≤ 1000) : Calls Try.prog 49 #[.pointer (some ⟨b, 0, none⟩), .int .i64 p.1, .int .i64 k.1, .int .i64 pos] w fun r w' => r = .returned (.int .i64 0) ∧ RStp B w w' b (setO s (s.fd p k) (movO s (s.fd p k) pos)) := by
  have cA := rat_ok b s p k w h.c hp hk
  obtain ⟨m, hm⟩ : ∃ m, s.fd p k = m + 1 := ⟨s.fd p k - 1, by omega⟩
  have hml : m < s.all.length := by have := h.ok.le p k; omega
  obtain ⟨v, hc, hr⟩ := h.ex
  have hX := below_new w (.cells #[] 32)
  obtain ⟨i0, hi, hz0, hz1, hz2⟩ := info_parts infoO
  have hown : (w.alloc (.cells #[] 32)).ownsRow w.heap.size 32 3 (.slice (some ⟨w.heap.size, 0, none⟩) 0 0) 0 [] := World.ownsRow_made w #[] 0 (Nat.le_refl _) (by unfold maxLen; omega) rfl
  have HF : Hid3 (∀ v1 W1, Below w.heap.size w W1 → W1.ownsRow w.heap.size 32 3 v1 s.all.length (opCs s.all) → RtC W1 b s ∧ (∃ u, W1.cell? ⟨b, 54, none⟩ = some u) ∧ ∃ g1 cap1, v1 = .slice (some ⟨g1, 0, none⟩) s.all.length cap1 ∧ g1 ≠ b ∧ g1 < W1.heap.size ∧ (∃ u, W1.cell? ⟨g1, m * 3 + 2, none⟩ = some (.int .i64 u)) ∧ W1.frozen? ⟨g1, m * 3 + 2, none⟩ = false ∧
      RStp B w ((W1.setCell ⟨g1, m * 3 + 2, none⟩ (.int .i64 pos)).setCell ⟨b, 54, none⟩ v1) b (setO s (m + 1) (movO s (m + 1) pos))) := ⟨fun v1 W1 hB ho => ⟨h.c.low hB, ⟨_, (hc.below hB).cell 54⟩, rmove_fin h m hml pos hB ho⟩⟩
  rcases hr with ⟨rfl, hnil⟩ | ⟨g, cap, cur, rfl, h2, h3, h4⟩
  · rw [hnil] at hml; cases hml
  have c54 : w.cell? ⟨b, 54, none⟩ = some (.slice (some ⟨g, 0, none⟩) s.all.length cap) := hc.cell 54
  have hnx := op_cells h2 h4 hX
  have hlen := opCs_len s.all
  have hone := opCs_one s.all
  have hlt := h.lt
  have HX := Hid3.mk hX
  have hN0 : s.all.length ≠ 0 := by omega
  rw [hm]
  have hw1 : IntKind.i64.wrap (((m + 1 : Nat) : Int) - 1) = (m : Int) := by rw [IntKind.wrap_i64]; omega
  have hw2 : ((m + 1 : Nat) : Int) - 1 = (m : Int) := by omega
  have hw3 : IntKind.i64.wrap (m : Int) = (m : Int) := by rw [IntKind.wrap_i64]; omega
  have hw4 : ¬ (m : Int) < 0 := by omega
  have hmz : (m : Int) < (s.all.length : Int) := by omega
  have HD : Hid3 (∀ W, RtC W b s → W.cell? ⟨b, 6 + p.1 * 8 + k.1, none⟩ = some (.int .i64 ((m + 1 : Nat) : Int)) ∧ W.frozen? ⟨b, 54, none⟩ = false) := ⟨fun W hW => by rw [← hm]; exact ⟨hW.d p k, hW.f 54⟩⟩
  generalize opCs s.all = XS at *
  generalize setO s (m + 1) (movO s (m + 1) pos) = s' at *
  generalize ((m + 1 : Nat) : Int) = x at *
  generalize s.all.length = N at *
  clear h hk hm hX hc h4 h2 h3
  obtain ⟨p, hp6⟩ := p
  obtain ⟨k, hk8⟩ := k
  have h2 : (p : Int) < 6 := by omega
  have h3 : (k : Int) < 8 := by omega
  simp only at *
  go_enter Try.func49, Try.ntmps49
  go_wp2_with fail
  refine cA.mono ?_
  rintro r W ⟨rfl, rfl⟩
  clear cA
  go_wp2_with (at_builtin; refine wpList_append_own_at _ rfl _ _ 50 rfl W.heap.size 32 i0 (.agg #[.int .u8 0, .int .i64 0, .int .i64 0]) 3 24 Try.underlying50 hi hz0 hz1 hz2 rfl (by decide) (.slice (some ⟨W.heap.size, 0, none⟩) 0 0) 0 [] rfl hown ⟨g, 0, none⟩ N cap XS rfl hlen hnx hone (by unfold maxLen; omega) (by omega) (by simp) ?_; intro v1 W1 hown1 hgrow1 _ hat1; rw [Nat.zero_add, List.nil_append] at hown1; obtain ⟨hC, ⟨u54, e54⟩, g1, cap1, hv1, hgb, hgl, ⟨u, hu⟩, hfz, hS⟩ := HF.out v1 W1 (HX.out.grown hgrow1 HX.out.size (fun j ej => by have e' : W.heap.size = j := Option.some.inj ej; omega)) hown1; obtain ⟨cd, f54⟩ := HD.out W1 hC; have hbl := hC.l; have HS := Hid3.mk hS; subst hv1; have hgb' := hgb.symm; clear hgrow1 hat1 hown hnx c54 hown1 hC hS)
  go_ret
  exact ⟨rfl, HS.out⟩
set_option maxHeartbeats 1000000 in
theorem rmove_err (e : Int) (he : e ≠ 0) (tb : Nat) (pid fd pos : Int) (w : World) (cA : Calls Try.prog 51 #[.pointer (some ⟨tb, 0, none⟩), .int .i64 pid, .int .i64 fd] w fun r w' => r = .returned (.int .i64 e) ∧ w' = w) : Calls Try.prog 49 #[.pointer (some ⟨tb, 0, none⟩), .int .i64 pid, .int .i64 fd, .int .i64 pos] w fun r w' => r = .returned (.int .i64 e) ∧ w' = w := by
  have h1 : (e != 0) = true := by simpa using he
  clear he
  go_enter Try.func49, Try.ntmps49
  go_wp2_with fail
  refine cA.mono ?_
  rintro r W ⟨rfl, rfl⟩
  go_wp2
  go_ret
  exact ⟨rfl, rfl⟩
/-- Another process with the same descriptors. -/
def fkS (s : Fs) (p q : Fin 6) : Fs := { s with has := upd s.has q true, fd := upd s.fd q (s.fd p) }
theorem fkS_ok {s : Fs} (h : s.Ok) (p q : Fin 6) : (fkS s p q).Ok := by
  refine ⟨fun i k => ?_, fun i hi k => ?_⟩
  · show upd s.fd q (s.fd p) i k ≤ _
    by_cases e : i = q
    · rw [e, upd_same]; exact h.le p k
    · rw [upd_other _ _ _ _ e]; exact h.le i k
  · have hi' : upd s.has q true i = false := hi
    by_cases e : i = q
    · rw [e, upd_same] at hi'; cases hi'
    · rw [upd_other _ _ _ _ e] at hi'
      show upd s.fd q (s.fd p) i k = 0
      rw [upd_other _ _ _ _ e]
      exact h.no i hi' k
def fk8 (s : Fs) (q : Fin 6) (f : Fin 8 → Nat) : Fs := setFd (setFd (setFd (setFd (setFd (setFd (setFd (setFd (begS s q) q 0 (f 0)) q 1 (f 1)) q 2 (f 2)) q 3 (f 3)) q 4 (f 4)) q 5 (f 5)) q 6 (f 6)) q 7 (f 7)
theorem upd_upd {n : Nat} {α : Type} (f : Fin n → α) (k : Fin n) (a b : α) : upd (upd f k a) k b = upd f k b := by
  funext i
  unfold upd
  split <;> rfl
theorem fk8_eq (s : Fs) (q : Fin 6) (f : Fin 8 → Nat) : fk8 s q f = { s with has := upd s.has q true, fd := upd s.fd q f } := by
  unfold fk8 setFd begS
  simp only [upd_same, upd_upd]
  congr 2
  funext j
  revert j
  exact all8 rfl rfl rfl rfl rfl rfl rfl rfl
theorem rfork_stp {B : Nat} {w : World} {b : Nat} {s : Fs} (h : Rt B w b s) (p q : Fin 6) : RStp B w (((((((((w.setCell ⟨b, q.1, none⟩ (.bool true)).setCell ⟨b, 6 + q.1 * 8, none⟩ (.int .i64 (s.fd p 0))).setCell ⟨b, 6 + q.1 * 8 + 1, none⟩ (.int .i64 (s.fd p 1))).setCell ⟨b, 6 + q.1 * 8 + 2, none⟩ (.int .i64 (s.fd p 2))).setCell ⟨b, 6 + q.1 * 8 + 3, none⟩ (.int .i64 (s.fd p 3))).setCell ⟨b, 6 + q.1 * 8 + 4, none⟩ (.int .i64 (s.fd p 4))).setCell ⟨b, 6 + q.1 * 8 + 5, none⟩ (.int .i64 (s.fd p 5))).setCell ⟨b, 6 + q.1 * 8 + 6, none⟩ (.int .i64 (s.fd p 6))).setCell ⟨b, 6 + q.1 * 8 + 7, none⟩ (.int .i64 (s.fd p 7))) b (fkS s p q) := by
  have hq : (begS s q).has q = true := upd_same _ _ _
  have k0 := begS_ok h.ok q
  have l : ∀ k, s.fd p k ≤ (begS s q).all.length := fun k => h.ok.le p k
  have k1 := k0.set q 0 (s.fd p 0) hq (l 0)
  have k2 := k1.set q 1 (s.fd p 1) hq (l 1)
  have k3 := k2.set q 2 (s.fd p 2) hq (l 2)
  have k4 := k3.set q 3 (s.fd p 3) hq (l 3)
  have k5 := k4.set q 4 (s.fd p 4) hq (l 4)
  have k6 := k5.set q 5 (s.fd p 5) hq (l 5)
  have k7 := k6.set q 6 (s.fd p 6) hq (l 6)
  have k8 := k7.set q 7 (s.fd p 7) hq (l 7)
  have s0 := RStp.hset h q true k0
  have s1 := s0.trans (RStp.fset s0.r q 0 (s.fd p 0) k1)
  have s2 := s1.trans (RStp.fset s1.r q 1 (s.fd p 1) k2)
  have s3 := s2.trans (RStp.fset s2.r q 2 (s.fd p 2) k3)
  have s4 := s3.trans (RStp.fset s3.r q 3 (s.fd p 3) k4)
  have s5 := s4.trans (RStp.fset s4.r q 4 (s.fd p 4) k5)
  have s6 := s5.trans (RStp.fset s5.r q 5 (s.fd p 5) k6)
  have s7 := s6.trans (RStp.fset s6.r q 6 (s.fd p 6) k7)
  have s8 := s7.trans (RStp.fset s7.r q 7 (s.fd p 7) k8)
  have e := fk8_eq s q (s.fd p)
  unfold fk8 begS at e
  rw [e] at s8
  exact s8
end Go.Proofs.Ytbkpkcndmlapfaa
