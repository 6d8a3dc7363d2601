/- The program's Due. -/
import Derived.Test.YtpmndhbcohjboaaRvJ
namespace Go.Proofs.Ytpmndhbcohjboaa
open Go.RowKit Go.Maps
set_option linter.unusedVariables false
set_option maxRecDepth 100000
/-- Frames are laid into the vectors. -/
def layV (T : List Dm) (V : Fin 6 → List Int) : Fin 6 → List Int := fun e => V e ++ (T.filter (ofP e.1)).map (fun d => d.2.1)
theorem layV_nil (V : Fin 6 → List Int) : layV [] V = V := funext fun e => by simp [layV]
theorem layV_snoc (T : List Dm) (V : Fin 6 → List Int) (d : Dm) (k : Nat) (hk : k < 6) (hd : d.1 = k) : layV (T ++ [d]) V = upd (layV T V) ⟨k, hk⟩ (layV T V ⟨k, hk⟩ ++ [d.2.1]) := by
  funext e
  unfold layV upd
  by_cases he : e = ⟨k, hk⟩
  · subst he
    have : ofP k d = true := decide_eq_true hd
    simp [this]
  · have : ofP e.1 d = false := decide_eq_false (fun i => he (Fin.ext (by
      rw [hd] at i
      have : (k : Int) = (e.1 : Int) := i
      exact (Int.ofNat.inj this).symm)))
    simp [this, he]
theorem layV_len (T : List Dm) (V : Fin 6 → List Int) (e : Fin 6) : (layV T V e).length ≤ (V e).length + T.length := by
  unfold layV
  rw [List.length_append, List.length_map]
  have := List.length_filter_le (ofP e.1) T
  omega
def dueL (t : Int) (q : Rs) : List Dm := q.d.filter (dueP t)
def dueQ (t : Int) (q : Rs) : Rs := ⟨q.d.filter (fun d => !dueP t d), layV (dueL t q) q.v⟩
/-- As the loop goes. -/
structure DueI (B : Nat) (w wr : World) (b m : Nat) (av : Value) (vs : Fin 6 → Value) (q : Rs) (t : Int) (r : Value) (kk : Nat) : Prop where
  out : ∃ av' vs', Bk B wr b m av' vs' ⟨q.d.filter (fun d => !dueP t d), layV ((dueL t q).take kk) q.v⟩ ∧ Apart (XK b m av vs) w wr ∧ ∀ k, XK b m av' vs' k → XK b m av vs k ∨ w.heap.size ≤ k
  row : RowO wr w.heap.size 39 3 r (dueL t q).length (aCs (dueL t q))
  box : Cl wr w.heap.size 23 [.pointer (some ⟨b, 0, none⟩)]
theorem DueI.below {B : Nat} {w wr W : World} {b m : Nat} {av : Value} {vs : Fin 6 → Value} {q : Rs} {t : Int} {r : Value} {kk : Nat} (h : DueI B w wr b m av vs q t r kk) (k : Below wr.heap.size wr W) : DueI B w W b m av vs q t r kk := by
  obtain ⟨av', vs', h1, h2, h3⟩ := h.out
  exact ⟨⟨av', vs', h1.below k, h2.trans (Apart.of_below k), h3⟩, h.row.below k, h.box.below k⟩
theorem DueI.add {B : Nat} {w wr : World} {b m : Nat} {av : Value} {vs : Fin 6 → Value} {q : Rs} {t : Int} {r : Value} {kk N : Nat} (h : DueI B w wr b m av vs q t r kk) (hO : q.Ok N) (hN : N ≤ 900) (hk : kk < (dueL t q).length) (k : Nat) (hk6 : k < 6) (hd : (dueL t q)[kk].1 = k) :
    Calls Try.prog 35 #[.pointer (some ⟨b, 2 + k, none⟩), .int .u8 (dueL t q)[kk].2.1] wr fun e w' => e = .returned (.tuple #[]) ∧ DueI B w w' b m av vs q t r (kk + 1) := by
  obtain ⟨av', vs', h1, h2, h3⟩ := h.out
  have hl1 := layV_len ((dueL t q).take kk) q.v ⟨k, hk6⟩
  have hl2 := hO.vec ⟨k, hk6⟩
  have hl3 : ((dueL t q).take kk).length ≤ q.d.length := by
    rw [List.length_take]
    have : (dueL t q).length ≤ q.d.length := List.length_filter_le _ _
    omega
  have hrow : RowO wr B 5 1 (vs' ⟨k, hk6⟩) (layV ((dueL t q).take kk) q.v ⟨k, hk6⟩).length (uCs (layV ((dueL t q).take kk) q.v ⟨k, hk6⟩)) := h1.v ⟨k, hk6⟩
  refine (add_u B b (2 + k) _ _ (vs' ⟨k, hk6⟩) _ _ (dueL t q)[kk].2.1 wr h1.k (bCs_at av' m vs' ⟨k, hk6⟩) hrow (hrow.ne_cl h1.k (by decide)) (by omega) (Nat.le_trans h1.g (Nat.le_of_lt h1.k.lt))).mono ?_
  rintro e W ⟨he, hR⟩
  obtain ⟨v', g1, g2, g3, g4⟩ := hR.out
  have hu : RowO W B 5 1 v' (layV ((dueL t q).take kk) q.v ⟨k, hk6⟩ ++ [(dueL t q)[kk].2.1]).length (uCs (layV ((dueL t q).take kk) q.v ⟨k, hk6⟩ ++ [(dueL t q)[kk].2.1])) := by
    rw [uCs_append, List.length_append]
    exact g2
  have g3' : Apart (fun i => i = b ∨ (vs' ⟨k, hk6⟩).ownBlock = some i) wr W := g3.wide (fun i _ j => j.imp id Eq.symm)
  have hs := h1.vset ⟨k, hk6⟩ _ g1 hu g3' (.inr (g4.imp id (fun ⟨g, x, y⟩ => ⟨g, x, y⟩)))
  have hq : (⟨q.d.filter (fun d => !dueP t d), upd (layV ((dueL t q).take kk) q.v) ⟨k, hk6⟩ (layV ((dueL t q).take kk) q.v ⟨k, hk6⟩ ++ [(dueL t q)[kk].2.1])⟩ : Rs) = ⟨q.d.filter (fun d => !dueP t d), layV ((dueL t q).take (kk + 1)) q.v⟩ := by
    rw [List.take_succ_eq_append_getElem hk, layV_snoc _ _ _ k hk6 hd]
  have hs2 := BStp.trans h2 h3 hs
  rw [hq] at hs2
  obtain ⟨av2, vs2, k1, k2, k3⟩ := hs.out
  exact ⟨he, hs2.out, h.row.stay k2 (h1.off_row h.row (by decide)), h.box.stay k2 (h1.off_cl h.box (by decide))⟩
set_option maxHeartbeats 4000000 in
theorem due_any (B b m : Nat) (av : Value) (vs : Fin 6 → Value) (q : Rs) (N : Nat) (t : Int) (w : World) (h : Bk B w b m av vs q) (hO : q.Ok N) (hN : N ≤ 900) : Calls Try.prog 15 #[.pointer (some ⟨b, 0, none⟩), .int .i64 t] w fun e w' => ∃ r, e = .returned r ∧ RowO w' w.heap.size 39 3 r (dueL t q).length (aCs (dueL t q)) ∧ BStp B w w' b m av vs (dueQ t q) := by
  have hX1 := below_new w (.cells #[.pointer (some ⟨b, 0, none⟩)] 23)
  have hX2 := hX1.trans ((below_new (w.alloc (.cells #[.pointer (some ⟨b, 0, none⟩)] 23)) (.cells #[.int .i64 t] 3)).mono hX1.size)
  have hc1 : Cl ((w.alloc (.cells #[.pointer (some ⟨b, 0, none⟩)] 23)).alloc (.cells #[.int .i64 t] 3)) w.heap.size 23 [.pointer (some ⟨b, 0, none⟩)] := (Cl.new w _ _).alloc _
  have hc2 : Cl ((w.alloc (.cells #[.pointer (some ⟨b, 0, none⟩)] 23)).alloc (.cells #[.int .i64 t] 3)) (w.heap.size + 1) 3 [.int .i64 t] := by
    have := Cl.new (w.alloc (.cells #[.pointer (some ⟨b, 0, none⟩)] 23)) 3 [.int .i64 t]
    rw [World.size_alloc] at this
    exact this
  have hB2 := h.below hX2
  have cO := out_any 34 #[.pointer (some ⟨w.heap.size, 0, none⟩), .pointer (some ⟨w.heap.size + 1, 0, none⟩)] (dueP t) eDue B b m av vs q N _ hB2 hO (dueP_any t w.heap.size (w.heap.size + 1) b m q.d hO.keys _ (hc1.cell 0) (hc2.cell 0) hB2.c.c1 hB2.m)
  have hbl := h.c.l
  have hfl : (dueL t q).length ≤ 8 := Nat.le_trans (List.length_filter_le _ _) hO.few
  have HD : Hid3 (∀ r W, OutR B ((w.alloc (.cells #[.pointer (some ⟨b, 0, none⟩)] 23)).alloc (.cells #[.int .i64 t] 3)) W b m vs q (dueP t) r → DueI B w W b m av vs q t r 0 ∧ ∃ a k, r = .slice a (dueL t q).length k) := ⟨fun r W hR => by
    have hb := (BStp.pre hX2 (BStp.of_out (av := av) hR))
    refine ⟨⟨by rw [List.take_zero, layV_nil]; exact hb.out, hR.row.base hX2.size, hc1.stay hR.ap (fun e => ?_)⟩, hR.row.sl⟩
    have := h.m.lt
    rcases e with e | e <;> omega⟩
  have HO := Hid3.mk hO
  have HN := Hid3.mk hN
  clear h hO hX1 hX2 hc1 hc2 hB2 hN
  go_enter Try.func15, Try.ntmps15
  go_wp2_with fail
  generalize ((w.alloc (.cells #[.pointer (some ⟨b, 0, none⟩)] 23)).alloc (.cells #[.int .i64 t] 3)) = W0 at *
  refine cO.mono ?_
  rintro e W ⟨r, rfl, hR⟩
  obtain ⟨hI, ar, kr, rfl⟩ := HD.out r W hR
  have H0 := Hid3.mk hI
  clear cO hR hI HD
  go_wp2
  go_loopw [7, 15] (fun _ s15 wr => ∃ kk : Nat, kk ≤ (dueL t q).length ∧ s15 = .int .i64 kk ∧ Hid3 (DueI B w wr b m av vs q t (.slice ar (dueL t q).length kr) kk)) (fun _ s15 _ => (dueL t q).length - (intOf s15).toNat)
  case atStart => exact ⟨0, Nat.zero_le _, rfl, H0⟩
  case round =>
    obtain ⟨kk, hkk, rfl, HI⟩ := hrel
    clear H0
    by_cases hlt : kk < (dueL t q).length
    · have hltz : (kk : Int) < ((dueL t q).length : Int) := by omega
      obtain ⟨g, off, rfl, c0, c1, c2⟩ : ∃ g off, ar = some ⟨g, off, none⟩ ∧ wr.cell? ⟨g, off + kk * 3, none⟩ = some (.int .u8 (dueL t q)[kk].1) ∧ wr.cell? ⟨g, off + kk * 3 + 1, none⟩ = some (.int .u8 (dueL t q)[kk].2.1) ∧ wr.cell? ⟨g, off + kk * 3 + 2, none⟩ = some (.int .i64 (dueL t q)[kk].2.2) := by
        rcases HI.out.row.form with ⟨_, h, _⟩ | ⟨g, off, cap, h, _, _, hg, hc⟩
        · omega
        · injection h with h _ _
          obtain ⟨d1, d2, d3⟩ := aCs_at _ kk _ (List.getElem?_eq_getElem hlt)
          exact ⟨g, off, h, hc _ _ d1, hc _ _ d2, hc _ _ d3⟩
      have hgl : g < wr.heap.size := World.block_lt_of_cell? wr _ c0
      have hrg := HO.out.rng _ (List.mem_filter.1 (List.getElem_mem hlt)).1
      obtain ⟨k, hk⟩ : ∃ k : Nat, (dueL t q)[kk].1 = k := ⟨(dueL t q)[kk].1.toNat, by have := hrg.1; omega⟩
      have hk6 : k < 6 := by have := hrg.2.1; omega
      have hk7 : (k : Int) < 6 := by omega
      have HA : Hid3 (∀ W, DueI B w W b m av vs q t (.slice (some ⟨g, off, none⟩) (dueL t q).length kr) kk → Calls Try.prog 35 #[.pointer (some ⟨b, 2 + k, none⟩), .int .u8 (dueL t q)[kk].2.1] W fun e w' => e = .returned (.tuple #[]) ∧ DueI B w w' b m av vs q t (.slice (some ⟨g, off, none⟩) (dueL t q).length kr) (kk + 1)) := ⟨fun W hW => hW.add HO.out HN.out hlt k hk6 hk⟩
      rw [hk] at c0
      generalize (dueL t q)[kk].2.1 = y at *
      generalize (dueL t q)[kk].2.2 = z at *
      have hX := below_newd wr (.cells #[.int .u8 (k : Int), .int .u8 y, .int .i64 z] 39)
      have hI2 := HI.out.below hX
      have cA := HA.out _ hI2
      have hbx := Cl.new wr 39 [.int .u8 (k : Int), .int .u8 y, .int .i64 z]
      have z0 : (wr.alloc (.cells #[.int .u8 (k : Int), .int .u8 y, .int .i64 z] 39)).cell? ⟨wr.heap.size, 0, none⟩ = some (.int .u8 (k : Int)) := hbx.cell 0
      have z1 : (wr.alloc (.cells #[.int .u8 (k : Int), .int .u8 y, .int .i64 z] 39)).cell? ⟨wr.heap.size, 1, none⟩ = some (.int .u8 y) := hbx.cell 1
      have y0 : wr.cell? ⟨w.heap.size, 0, none⟩ = some (.pointer (some ⟨b, 0, none⟩)) := HI.out.box.cell 0
      have y1 := HI.out.box.lt
      clear hX hI2 HA hbx hrg hk HI
      go_wp2_with fail
      refine still_tail 8 (by kernel_rfl) (by kernel_rfl) ?_
      simp only [List.take_succ_cons, List.take_zero, List.drop_succ_cons, List.drop_zero]
      repeat still_step
      refine wpStill_nil ?_
      go_wp2_with fail
      refine cA.mono ?_
      rintro e W2 ⟨rfl, hI⟩
      have HI3 := Hid3.mk hI
      clear hI cA
      go_wp2
      go_roundw
      case rel => exact ⟨kk + 1, by omega, by go_num, HI3⟩
      case measure => simp [intOf]; omega
    · have hltz : ¬ (kk : Int) < ((dueL t q).length : Int) := by omega
      obtain rfl : kk = (dueL t q).length := by omega
      have hfin : BStp B w wr b m av vs (dueQ t q) := by
        have h1 := HI.out.out
        rw [List.take_length] at h1
        exact ⟨h1⟩
      have HF := Hid3.mk hfin
      have HR := Hid3.mk HI.out.row
      clear hfin HI
      go_wp2
      go_ret
      exact ⟨_, rfl, HR.out, HF.out⟩
end Go.Proofs.Ytpmndhbcohjboaa
