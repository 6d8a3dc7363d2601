/- The program's pool: take, Free, Repossess. -/
import Derived.Test.YtalhlbhhgddddaaDoorPlF
namespace Go.Proofs.YtalhlbhhgddddaaDoor
open Go.RowKit Go.Maps
set_option linter.unusedVariables false
set_option maxRecDepth 100000
def clr (x e : Nat) : Nat := if x.testBit e then x - 2 ^ e else x
theorem clr_all : ∀ x : Nat, x < 64 → ∀ e : Nat, e < 6 → bits .andNot .u64 (x : Int) ((2 ^ e : Nat) : Int) = ((clr x e : Nat) : Int) ∧ clr x e < 64 := by decide +kernel
theorem clr_bit : ∀ x : Nat, x < 64 → ∀ e : Nat, e < 6 → ∀ i : Nat, i < 6 → (clr x e).testBit i = (x.testBit i && decide (i ≠ e)) := by decide +kernel
def takeQ (k : Int) (e f : Nat) (q : Ps) : Ps := ⟨updN q.O f (clr (q.O f) e), if clr (q.O f) e = 0 then updN q.G f (.empty, 0) else q.G, q.M, q.E ++ [(k, (e : Int), (f : Int))]⟩
theorem updN_upd {α : Type} (O : Nat → α) (f : Nat) (x y : α) : updN (updN O f x) f y = updN O f y := by
  funext i
  unfold updN
  split <;> rfl
set_option maxHeartbeats 4000000 in
theorem take_any (B b fb n : Nat) (v : Value) (q : Ps) (k : Int) (e f : Nat) (w : World) (h : Pl B w b fb n v q) (he : e < 6) (hf : f < n) (hl : q.E.length ≤ 1000) (hB : B ≤ w.heap.size) : Calls Tryd.prog 49 #[.pointer (some ⟨b, 0, none⟩), .int .u8 k, .int .u8 e, .int .u8 f] w fun r w' => r = .returned (.bool (decide (clr (q.O f) e = 0))) ∧ PStp B w w' b fb n v (takeQ k e f q) := by
  have c00 := h.cells.1
  have hd := h.low (Below.refl _ w).drew
  have cf := (hd.f.at f hf).1
  have cff := hd.f.f (f * 3)
  have hb := h.c.lt
  have hfl := h.f.lt
  have hfz : (f : Int) < (n : Int) := by omega
  obtain ⟨hor, hx⟩ := clr_all (q.O f) (h.o f hf) e he
  have hpz : powZ e = 2 ^ e := by unfold powZ; rw [if_pos (by omega)]
  have cO := fun W => of_all e W
  rw [hpz] at cO
  have hsd : PStp B w (w.drew.setCell ⟨fb, f * 3, none⟩ (.int .u64 ((clr (q.O f) e : Nat) : Int))) b fb n v ⟨updN q.O f (clr (q.O f) e), q.G, q.M, q.E⟩ := PStp.pre (Below.refl _ w).drew (hd.frame (q' := ⟨updN q.O f (clr (q.O f) e), q.G, q.M, q.E⟩) (Apart.at (X := fun i => i = fb) w.drew fb (f * 3) _ rfl) (hd.f.setO f hf _) (fun i hi => by
    show updN q.O f _ i < 64
    unfold updN
    split
    · exact hx
    · exact h.o i hi) rfl rfl)
  have HS : Hid3 (PStp B w (w.setCell ⟨fb, f * 3, none⟩ (.int .u64 ((clr (q.O f) e : Nat) : Int))).drew b fb n v ⟨updN q.O f (clr (q.O f) e), q.G, q.M, q.E⟩) := ⟨hsd⟩
  clear hsd
  have HL := Hid3.mk hl
  have HX := Hid3.mk hx
  have HO := Hid3.mk h.o
  unfold takeQ
  clear h hd hpz hx hl
  have HU : Hid3 (updN q.O f (clr (q.O f) e) f = clr (q.O f) e) := ⟨by unfold updN; rw [if_pos rfl]⟩
  have HZ : Hid3 (∀ y, updN (updN q.O f (clr (q.O f) e)) f y = updN q.O f y) := ⟨fun y => updN_upd _ _ _ _⟩
  generalize clr (q.O f) e = x1 at *
  generalize 2 ^ e = pe at *
  generalize hx0 : q.O f = x0 at *
  clear hx0
  go_enter Tryd.func49, Tryd.ntmps49
  go_wp2_with fail
  go_region_with ((go_at_call 60; refine (cO _).mono ?_; rintro r w' ⟨rfl, rfl⟩))
  all_goals
    clear cO c00 cf cff
    generalize (w.setCell ⟨fb, f * 3, none⟩ (.int .u64 (x1 : Int))).drew = W1 at *
    obtain ⟨v1, hP1, hv1⟩ := HS.out.out
    have cN := note_any B b fb n v1 _ k e f W1 hP1 HL.out (Nat.le_trans hB HS.out.ap.size)
    have HV := Hid3.mk hv1
    clear hP1 hv1
    go_wp2_with fail
    refine cN.mono ?_
    rintro r W2 ⟨rfl, hS2⟩
    have HS2 : Hid3 (PStp B w W2 b fb n v ⟨updN q.O f x1, q.G, q.M, q.E ++ [(k, (e : Int), (f : Int))]⟩) := ⟨PStp.then HS.out.ap HV.out hS2⟩
    clear cN hS2
    obtain ⟨v2, hP2, hv2⟩ := HS2.out.out
    obtain ⟨g0, g1, g2⟩ := hP2.f.at f hf
    have e0 : (⟨updN q.O f x1, q.G, q.M, q.E ++ [(k, (e : Int), (f : Int))]⟩ : Ps).O f = x1 := HU.out
    rw [e0] at g0
    have gf0 := hP2.f.f (f * 3)
    have gf1 := hP2.f.f (f * 3 + 1)
    have gf2 := hP2.f.f (f * 3 + 1 + 1)
    have g3 : W2.cell? ⟨fb, f * 3 + 1 + 1, none⟩ = some (.int .u8 (q.G f).2) := g2
    have g4 : W2.cell? ⟨fb, f * 3 + 1, none⟩ = some (.string (q.G f).1) := g1
    have hl2 := hP2.f.lt
    have HP2 := Hid3.mk hP2
    have HV2 := Hid3.mk hv2
    clear hP2 hv2 e0 g1 g2
    by_cases hz : x1 = 0
    · subst hz
      have hst : PStp B W2 (((W2.setCell ⟨fb, f * 3, none⟩ (.int .u64 0)).setCell ⟨fb, f * 3 + 1, none⟩ (.string .empty)).setCell ⟨fb, f * 3 + 1 + 1, none⟩ (.int .u8 0)) b fb n v2 ⟨updN q.O f 0, updN q.G f (.empty, 0), q.M, q.E ++ [(k, (e : Int), (f : Int))]⟩ := HP2.out.frame (q' := ⟨updN q.O f 0, updN q.G f (.empty, 0), q.M, q.E ++ [(k, (e : Int), (f : Int))]⟩) (((Apart.at (X := fun i => i = fb) _ fb _ _ rfl).trans (Apart.at (X := fun i => i = fb) _ fb _ _ rfl)).trans (Apart.at (X := fun i => i = fb) _ fb _ _ rfl)) (by
        have := (HP2.out.f.setO f hf 0).setG f hf .empty 0
        rw [HZ.out 0] at this
        exact this) (fun i hi => by
        show updN q.O f 0 i < 64
        unfold updN
        split
        · omega
        · exact HO.out i hi) rfl rfl
      have HS3 : Hid3 (PStp B w (((W2.setCell ⟨fb, f * 3, none⟩ (.int .u64 0)).setCell ⟨fb, f * 3 + 1, none⟩ (.string .empty)).setCell ⟨fb, f * 3 + 1 + 1, none⟩ (.int .u8 0)) b fb n v ⟨updN q.O f 0, updN q.G f (.empty, 0), q.M, q.E ++ [(k, (e : Int), (f : Int))]⟩) := ⟨PStp.then HS2.out.ap HV2.out hst⟩
      clear hst
      generalize (q.G f).1 = og at *
      generalize (q.G f).2 = orr at *
      go_wp2
      go_ret
      exact ⟨rfl, HS3.out⟩
    · have hzz : (((x1 : Nat) : Int) != 0) = true := by simpa using hz
      clear g3 g4 gf0 gf1 gf2
      generalize ((x1 : Nat) : Int) = xz at *
      go_wp2
      go_ret
      first
        | exact ⟨rfl, HS2.out⟩
        | exact ⟨rfl, by rw [if_neg hz]; exact HS2.out⟩
theorem oF_at (n : Nat) (q : Ps) (f : Nat) (hf : f < n) : oF n q f = q.O f := by unfold oF; rw [if_pos hf]
def frE (n : Nat) (q : Ps) (e f : Nat) : Int := hadE n q e f
def frB (n : Nat) (q : Ps) (e f : Nat) : Bool := if hadE n q e f = 0 then decide (clr (q.O f) e = 0) else false
def frQ (n : Nat) (q : Ps) (e f : Nat) : Ps := if hadE n q e f = 0 then takeQ 3 e f q else q
theorem hadE_zero {n : Nat} {q : Ps} {e f : Nat} (h : hadE n q e f = 0) : e < 6 ∧ f < n := by
  unfold hadE at h
  split at h
  · exact absurd h (by decide)
  · omega
set_option maxHeartbeats 2000000 in
theorem free_any (B b fb n : Nat) (v : Value) (q : Ps) (e f : Nat) (w : World) (h : Pl B w b fb n v q) (hf : f ≤ 255) (hl : q.E.length ≤ 1000) (hB : B ≤ w.heap.size) : Calls Tryd.prog 18 #[.pointer (some ⟨b, 0, none⟩), .int .u8 e, .int .u8 f] w fun r w' => r = .returned (.tuple #[.bool (frB n q e f), .int .i64 (hadE n q e f)]) ∧ PStp B w w' b fb n v (frQ n q e f) := by
  have cH := had_any B b fb n v q e f hf w h
  unfold frB frQ
  by_cases hz : hadE n q e f = 0
  · obtain ⟨h6, hfn⟩ := hadE_zero hz
    have cT := take_any B b fb n v q 3 e f w h h6 hfn hl hB
    rw [hz] at cH ⊢
    rw [if_pos rfl, if_pos rfl]
    clear h
    go_enter Tryd.func18, Tryd.ntmps18
    go_wp2_with fail
    refine cH.mono ?_
    rintro r w' ⟨rfl, rfl⟩
    clear cH
    go_wp2_with fail
    refine cT.mono ?_
    rintro r W1 ⟨rfl, hS⟩
    have HS := Hid3.mk hS
    clear hS cT
    go_wp2
    go_ret2
    exact ⟨rfl, HS.out⟩
  · rw [if_neg hz, if_neg hz]
    have HQ := Hid3.mk (PStp.same h (Below.refl _ w))
    have hzz : (hadE n q e f != 0) = true := by simpa using hz
    clear h
    generalize hadE n q e f = x at *
    go_enter Tryd.func18, Tryd.ntmps18
    go_wp2_with fail
    refine cH.mono ?_
    rintro r w' ⟨rfl, rfl⟩
    clear cH
    go_wp2
    go_ret2
    exact ⟨rfl, HQ.out⟩
def rpE (n : Nat) (q : Ps) (e f : Nat) : Int := if hadE n q e f = 0 then (if pop9 (heldN q.O e n) ≤ 2 then 9 else 0) else hadE n q e f
def rpB (n : Nat) (q : Ps) (e f : Nat) : Bool := if rpE n q e f = 0 then decide (clr (q.O f) e = 0) else false
def rpQ (n : Nat) (q : Ps) (e f : Nat) : Ps := if rpE n q e f = 0 then takeQ 4 e f q else q
set_option maxHeartbeats 2000000 in
theorem repo_any (B b fb n : Nat) (v : Value) (q : Ps) (e f : Nat) (w : World) (h : Pl B w b fb n v q) (hf : f ≤ 255) (hl : q.E.length ≤ 1000) (hB : B ≤ w.heap.size) : Calls Tryd.prog 19 #[.pointer (some ⟨b, 0, none⟩), .int .u8 e, .int .u8 f] w fun r w' => r = .returned (.tuple #[.bool (rpB n q e f), .int .i64 (rpE n q e f)]) ∧ PStp B w w' b fb n v (rpQ n q e f) := by
  have cH := had_any B b fb n v q e f hf w h
  have HP := Hid3.mk h
  unfold rpB rpQ rpE
  by_cases hz : hadE n q e f = 0
  · obtain ⟨h6, hfn⟩ := hadE_zero hz
    have cD := held_any B b fb n v q e w h
    have hs : heldN q.O e n < 512 := Nat.lt_of_lt_of_le (heldN_lt q.O e n) (Nat.pow_le_pow_right (n := 2) (j := 9) (by omega) h.n9)
    have cS := fun W => size_any (heldN q.O e n) hs W
    rw [hz] at cH ⊢
    clear h hs
    by_cases h2 : pop9 (heldN q.O e n) ≤ 2
    · have h2z : ((pop9 (heldN q.O e n) : Nat) : Int) ≤ 2 := by omega
      rw [if_pos rfl, if_pos h2, if_neg (by decide), if_neg (by decide)]
      generalize ((pop9 (heldN q.O e n) : Nat) : Int) = pz at *
      generalize ((heldN q.O e n : Nat) : Int) = hz at *
      go_enter Tryd.func19, Tryd.ntmps19
      go_wp2_with fail
      refine cH.mono ?_
      rintro r w' ⟨rfl, rfl⟩
      clear cH
      go_wp2_with fail
      refine cD.mono ?_
      rintro r W1 ⟨rfl, hB1⟩
      have HB1 := Hid3.mk hB1
      clear cD hB1
      go_wp2_with fail
      refine (cS _).mono ?_
      rintro r w' ⟨rfl, rfl⟩
      clear cS
      go_wp2
      go_ret2
      exact ⟨rfl, PStp.same HP.out HB1.out⟩
    · have h2z : ¬ ((pop9 (heldN q.O e n) : Nat) : Int) ≤ 2 := by omega
      rw [if_pos rfl, if_neg h2, if_pos rfl, if_pos rfl]
      generalize ((pop9 (heldN q.O e n) : Nat) : Int) = pz at *
      generalize ((heldN q.O e n : Nat) : Int) = hz at *
      go_enter Tryd.func19, Tryd.ntmps19
      go_wp2_with fail
      refine cH.mono ?_
      rintro r w' ⟨rfl, rfl⟩
      clear cH
      go_wp2_with fail
      refine cD.mono ?_
      rintro r W1 ⟨rfl, hB1⟩
      have HB1 := Hid3.mk hB1
      clear cD
      have cT := take_any B b fb n v q 4 e f W1 (HP.out.low hB1) h6 hfn hl (Nat.le_trans hB hB1.size)
      clear hB1
      go_wp2_with fail
      refine (cS _).mono ?_
      rintro r w' ⟨rfl, rfl⟩
      clear cS
      go_wp2_with fail
      refine cT.mono ?_
      rintro r W2 ⟨rfl, hS⟩
      have HS := Hid3.mk hS
      clear hS cT
      go_wp2
      go_ret2
      exact ⟨rfl, PStp.pre HB1.out HS.out⟩
  · rw [if_neg hz, if_neg hz, if_neg hz]
    have HQ := Hid3.mk (PStp.same h (Below.refl _ w))
    have hzz : (hadE n q e f != 0) = true := by simpa using hz
    clear h
    generalize hadE n q e f = x at *
    go_enter Tryd.func19, Tryd.ntmps19
    go_wp2_with fail
    refine cH.mono ?_
    rintro r w' ⟨rfl, rfl⟩
    clear cH
    go_wp2
    go_ret2
    exact ⟨rfl, HQ.out⟩
end Go.Proofs.YtalhlbhhgddddaaDoor
