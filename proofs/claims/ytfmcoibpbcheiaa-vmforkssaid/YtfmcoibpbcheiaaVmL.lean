/- The program's vm: Left; one is forked off another and writes. -/
import Derived.Test.YtfmcoibpbcheiaaVmK
namespace Go.Proofs.Ytfmcoibpbcheiaa
open Go.RowKit Go.Maps
set_option linter.unusedVariables false
set_option maxRecDepth 100000
set_option maxHeartbeats 1000000 in
theorem vleft_any (B : Nat) (l : Lo) (s : Vs) (N : Nat) (hN : s.n = N) (w : World) (h : Vb B w l s) : Calls Try.prog 12 #[.pointer (some ⟨l.b, 0, none⟩)] w fun r w' => r = .returned (.int .i64 (zrs (fun k => s.rf.getD k 0) N)) ∧ Below w.heap.size w w' := by
  have cF := left_any B l s N hN w h
  clear h
  go_enter Try.func12, Try.ntmps12
  go_wp2_with fail
  refine cF.mono ?_
  rintro r W ⟨rfl, hB⟩
  have HB := Hid3.mk hB
  clear cF hB
  go_wp2
  go_ret
  exact ⟨rfl, HB.out⟩
/-- The vm at vb, and the bytes at hb, as they stand. -/
structure Fa (w W : World) (B vb hb : Nat) (b : Nat → Int) (P : Vs → Prop) : Prop where
  v : ∃ l s, l.b = vb ∧ Vb B W l s ∧ P s
  h : ∀ j : Nat, j < 6 → W.cell? ⟨hb, j, none⟩ = some (.int .u8 (b j))
  k : Below w.heap.size w W
  hb : hb < B
  wB : w.heap.size ≤ B
  BW : B ≤ W.heap.size
theorem Fa.go {w W W' : World} {B vb hb : Nat} {b : Nat → Int} {P Q : Vs → Prop} (h : Fa w W B vb hb b P) (v : ∃ l s, l.b = vb ∧ Vb B W' l s ∧ Q s) (ap : Below B W W') : Fa w W' B vb hb b Q :=
  ⟨v, fun j hj => (World.cell?_of_block (w := W) (ap.block hb h.hb)).trans (h.h j hj), h.k.trans (ap.mono h.wB), h.hb, h.wB, Nat.le_trans h.BW ap.size⟩
theorem tf_fork (w W : World) (B vb hb : Nat) (b : Nat → Int) (i : Nat) (hi : i + 1 < 6) (h : Fa w W B vb hb b (Fi b i)) : Calls Try.prog 24 #[.pointer (some ⟨vb, 0, none⟩), .int .i64 i, .int .i64 ((i + 1 : Nat) : Int)] W fun r w' => r = .returned (.int .i64 0) ∧ Fa w w' B vb hb b (fun t => ∃ s, Fi b i s ∧ s.L.length = 2048 ∧ t = fkS s ⟨i, by omega⟩ ⟨i + 1, hi⟩) := by
  obtain ⟨l, s, rfl, hv, hs⟩ := h.v
  have hx : ∀ j, j < 64 → 0 ≤ s.rf.getD j 0 ∧ s.rf.getD j 0 ≤ 500 := fun j hj => by
    rw [hs.rf j hj]
    split <;> omega
  have c := vfork_ok B l s ⟨i, by omega⟩ ⟨i + 1, hi⟩ W hv h.BW (by rw [hs.has]; simp) (by rw [hs.has]; simp) (hs.pgs ⟨i, by omega⟩ (Nat.le_refl _)) hx
  refine c.mono ?_
  rintro r w' ⟨rfl, h1, h2⟩
  exact ⟨rfl, h.go ⟨⟨l.b, l.m, upF l.r ⟨i + 1, hi⟩ W.heap.size⟩, _, rfl, h1, s, hs, hv.m.len, rfl⟩ (h2.below B (fun _ hi => hv.ge hi) h.BW)⟩
theorem tf_poke (w W : World) (B vb hb : Nat) (b : Nat → Int) (i : Nat) (hi : i + 1 < 6) (h : Fa w W B vb hb b (fun t => ∃ s, Fi b i s ∧ s.L.length = 2048 ∧ t = fkS s ⟨i, by omega⟩ ⟨i + 1, hi⟩)) : Calls Try.prog 23 #[.pointer (some ⟨vb, 0, none⟩), .int .i64 ((i + 1 : Nat) : Int), .int .i64 ((i + 1 : Nat) : Int), .int .u8 (b (i + 1))] W fun r w' => r = .returned (.int .i64 0) ∧ Fa w w' B vb hb b (Fi b (i + 1)) := by
  obtain ⟨l, t, rfl, hv, s, hs, hl, ht⟩ := h.v
  have hrf : ∀ j, j < 64 → t.rf.getD j 0 = if j < i then 1 else if j = i then 2 else 0 := fun j hj => by rw [ht]; exact fkS_rf b i s hs hi j hj
  have hst : Fi b (i + 1) (pkS (alS t i (i + 1)) ⟨i + 1, hi⟩ (i + 1) (i + 1) (b (i + 1))) := by rw [ht]; exact hs.step hi hl
  have hn : t.n = (16 : Nat) := by rw [ht]; exact hs.n
  have hhas : t.has ⟨i + 1, hi⟩ = true := by rw [ht]; exact upF_same _ _ _
  have hpg : t.pg ⟨i + 1, hi⟩ (((i + 1) / 32 : Nat) : Int) = some (i : Int) := by
    have e32 : (i + 1) / 32 = 0 := by omega
    rw [ht, e32]
    show upF s.pg ⟨i + 1, hi⟩ (s.pg ⟨i, by omega⟩) ⟨i + 1, hi⟩ 0 = _
    rw [upF_same, hs.pg ⟨i, by omega⟩ (Nat.le_refl _)]
    rfl
  have hcp : t.cp = i := by rw [ht]; exact hs.cp
  clear ht
  have hx : Nx t 16 (i + 1) := ⟨hn, by omega, by rw [hrf _ (by omega), if_neg (by omega), if_neg (by omega)], fun j hj e => by
    rw [hrf j (by omega)] at e
    split at e
    · cases e
    · rw [if_pos (by omega)] at e
      cases e⟩
  have hi2 : t.rf.getD i 0 = 2 := by rw [hrf i (by omega), if_neg (by omega), if_pos rfl]
  have hAl : Al B l t i (i + 1) (alS t i (i + 1)) := ⟨fun W' k => alone_cp B l t 16 (i + 1) i hx (by omega) (by omega) (by omega) W' k, by
    unfold alS
    rw [if_neg (by omega : ¬ (i : Int) = -1)]
    rfl, by
    unfold alS
    rw [if_neg (by omega : ¬ (i : Int) = -1)]
    rfl, by
    unfold alS
    rw [if_neg (by omega : ¬ (i : Int) = -1)]
    rfl⟩
  have hz := zrs_pos (fun k => t.rf.getD k 0) (i + 1) hx.z 16 (by omega)
  have hnd : ndI t i ≤ zrs (fun k => t.rf.getD k 0) 16 := by
    unfold ndI
    split <;> omega
  have c := poke_one B l t (alS t i (i + 1)) 16 ⟨i + 1, hi⟩ (i + 1) (i + 1) i (b (i + 1)) W hv hn hhas (by omega) hpg (.inr ⟨by omega, by omega⟩) (by omega) hnd hAl
  refine c.mono ?_
  rintro r w' ⟨rfl, h1, h2⟩
  exact ⟨rfl, h.go ⟨l, _, rfl, h1, hst⟩ (h2.below B (fun _ hi => hv.ge hi) h.BW)⟩
/-- What New, Begin and Map make. -/
def bg0 : Vs := { (vs0 16) with has := upF (vs0 16).has 0 true, pg := upF (vs0 16).pg 0 (fun _ => none) }
def mp0 : Vs := { bg0 with pg := upF bg0.pg 0 (upI (bg0.pg 0) 0 (some (-1))) }
theorem tf_begin (w W : World) (B vb hb : Nat) (b : Nat → Int) (h : Fa w W B vb hb b (fun t => t = vs0 16)) : Calls Try.prog 21 #[.pointer (some ⟨vb, 0, none⟩), .int .i64 0] W fun r w' => r = .returned (.int .i64 0) ∧ Fa w w' B vb hb b (fun t => t = bg0) := by
  obtain ⟨l, s, rfl, hv, rfl⟩ := h.v
  have c := begin_ok B l (vs0 16) 0 W hv h.BW rfl
  refine Calls.mono c ?_
  rintro r w' ⟨rfl, h1, h2⟩
  exact ⟨rfl, h.go ⟨⟨l.b, l.m, upF l.r 0 W.heap.size⟩, _, rfl, h1, rfl⟩ (h2.below B (fun k (e : k = l.b) => e ▸ hv.g) h.BW)⟩
theorem tf_map (w W : World) (B vb hb : Nat) (b : Nat → Int) (h : Fa w W B vb hb b (fun t => t = bg0)) : Calls Try.prog 22 #[.pointer (some ⟨vb, 0, none⟩), .int .i64 0, .int .i64 0] W fun r w' => r = .returned (.int .i64 0) ∧ Fa w w' B vb hb b (fun t => t = mp0) := by
  obtain ⟨l, s, rfl, hv, rfl⟩ := h.v
  have c := map_ok B l bg0 0 0 W hv rfl ⟨by omega, by omega⟩ rfl
  refine Calls.mono c ?_
  rintro r w' ⟨rfl, h1, h2⟩
  exact ⟨rfl, h.go ⟨l, _, rfl, h1, rfl⟩ (h2.below B (fun k (e : k = l.r 0) => e ▸ (hv.sp 0 rfl).1) h.BW)⟩
theorem tf_first (w W : World) (B vb hb : Nat) (b : Nat → Int) (h : Fa w W B vb hb b (fun t => t = mp0)) : Calls Try.prog 23 #[.pointer (some ⟨vb, 0, none⟩), .int .i64 0, .int .i64 0, .int .u8 (b 0)] W fun r w' => r = .returned (.int .i64 0) ∧ Fa w w' B vb hb b (Fi b 0) := by
  obtain ⟨l, s, rfl, hv, rfl⟩ := h.v
  have hx : Nx mp0 16 0 := ⟨rfl, by omega, rfl, fun j hj => by omega⟩
  have hAl : Al B l mp0 (-1) 0 (jnS mp0 0) := ⟨fun W' k => alone_no B l mp0 16 0 hx W' k, rfl, rfl, rfl⟩
  have hz := zrs_pos (fun k => mp0.rf.getD k 0) 0 hx.z 16 (by omega)
  have hnd : ndI mp0 (-1) ≤ zrs (fun k => mp0.rf.getD k 0) 16 := by
    unfold ndI
    split <;> omega
  have c := poke_one B l mp0 (jnS mp0 0) 16 0 0 0 (-1) (b 0) W hv rfl rfl (by omega) rfl (.inl rfl) (by omega) hnd hAl
  refine Calls.mono c ?_
  rintro r w' ⟨rfl, h1, h2⟩
  exact ⟨rfl, h.go ⟨l, _, rfl, h1, fi0_ok b⟩ (h2.below B (fun _ hi => hv.ge hi) h.BW)⟩
theorem tf_peek (w W : World) (B vb hb : Nat) (b : Nat → Int) (i p k : Nat) (hi : i < 6) (hp : p ≤ i) (hk : k < 6) (h : Fa w W B vb hb b (Fi b i)) : Calls Try.prog 16 #[.pointer (some ⟨vb, 0, none⟩), .int .i64 p, .int .i64 k] W fun r w' => r = .returned (.tuple #[.int .u8 (if k ≤ p then b k else 0), .int .i64 0]) ∧ w' = W := by
  obtain ⟨l, s, rfl, hv, hs⟩ := h.v
  have e1 : k / 32 = 0 := by omega
  have e2 : k % 32 = k := by omega
  have hpg : s.pg ⟨p, by omega⟩ ((k / 32 : Nat) : Int) = some (p : Int) := by
    rw [hs.pg ⟨p, by omega⟩ hp, e1]
    rfl
  have hn := hs.n
  have c := peek_ok B l s ⟨p, by omega⟩ k p W hv (by rw [hs.has]; simpa using hp) (by omega) hpg (by omega)
  rw [e2, hs.L p hp k hk] at c
  exact c
theorem fi_left (b : Nat → Int) (i : Nat) (hi : i < 6) (s : Vs) (h : Fi b i s) : zrs (fun k => s.rf.getD k 0) 16 = 15 - i := by
  have e : ∀ k, k ≤ 16 → zrs (fun k => s.rf.getD k 0) k = k - (i + 1) := by
    intro k
    induction k with
    | zero => intro _; simp [zrs]
    | succ k ih =>
      intro hk
      have h1 := ih (by omega)
      have h2 := h.rf k (by omega)
      by_cases q : k ≤ i
      · rw [if_pos q] at h2
        rw [zrs_no _ _ (by show s.rf.getD k 0 ≠ 0; omega), h1]
        omega
      · rw [if_neg q] at h2
        rw [zrs_yes _ _ h2, h1]
        omega
  rw [e 16 (Nat.le_refl _)]
  omega
theorem tf_left (w W : World) (B vb hb : Nat) (b : Nat → Int) (i : Nat) (hi : i < 6) (h : Fa w W B vb hb b (Fi b i)) : Calls Try.prog 12 #[.pointer (some ⟨vb, 0, none⟩)] W fun r w' => r = .returned (.int .i64 (15 - (i : Int))) ∧ Below W.heap.size W w' := by
  obtain ⟨l, s, rfl, hv, hs⟩ := h.v
  have c := vleft_any B l s 16 hs.n W hv
  rw [fi_left b i hi s hs] at c
  have e : ((15 - i : Nat) : Int) = 15 - (i : Int) := by omega
  rw [e] at c
  exact c
theorem tf_copies (w W : World) (B vb hb : Nat) (b : Nat → Int) (i : Nat) (h : Fa w W B vb hb b (Fi b i)) : Calls Try.prog 25 #[.pointer (some ⟨vb, 0, none⟩)] W fun r w' => r = .returned (.int .i64 (i : Int)) ∧ w' = W := by
  obtain ⟨l, s, rfl, hv, hs⟩ := h.v
  have c := copies_ok B l s W hv
  rw [hs.cp] at c
  exact c
end Go.Proofs.Ytfmcoibpbcheiaa
