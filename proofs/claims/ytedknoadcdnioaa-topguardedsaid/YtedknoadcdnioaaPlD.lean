/- The program's pool: give, take, Grant, Share, Free. -/
import Derived.Test.YtedknoadcdnioaaPlC
namespace Go.Proofs.Ytedknoadcdnioaa
open Go.RowKit Go.Maps
set_option linter.unusedVariables false
set_option maxRecDepth 100000
theorem Fr.setO {w : World} {fb n : Nat} {O : Nat → Nat} {G : Nat → ByteArray × Int} (h : Fr w fb n O G) (f : Nat) (hf : f < n) (x : Nat) : Fr (w.setCell ⟨fb, f * 3, none⟩ (.int .u64 x)) fb n (updN O f x) G := by
  obtain ⟨arr, h1, h2, h3⟩ := h
  refine ⟨arr.setIfInBounds (f * 3) (.int .u64 x), heap_setCell_same _ _ _ _ _ _ h1, by simp [h2], fun i hi => ?_⟩
  obtain ⟨a0, a1, a2⟩ := h3 i hi
  refine ⟨?_, by rw [Array.getElem?_setIfInBounds_ne (by omega)]; exact a1, by rw [Array.getElem?_setIfInBounds_ne (by omega)]; exact a2⟩
  unfold updN
  by_cases e : i = f
  · subst e
    rw [if_pos rfl, Array.getElem?_setIfInBounds_self_of_lt (by omega)]
  · rw [if_neg e, Array.getElem?_setIfInBounds_ne (by omega)]
    exact a0
theorem Fr.setG {w : World} {fb n : Nat} {O : Nat → Nat} {G : Nat → ByteArray × Int} (h : Fr w fb n O G) (f : Nat) (hf : f < n) (s : ByteArray) (r : Int) : Fr ((w.setCell ⟨fb, f * 3 + 1, none⟩ (.string s)).setCell ⟨fb, f * 3 + 2, none⟩ (.int .u8 r)) fb n O (updN G f (s, r)) := by
  obtain ⟨arr, h1, h2, h3⟩ := h
  refine ⟨(arr.setIfInBounds (f * 3 + 1) (.string s)).setIfInBounds (f * 3 + 2) (.int .u8 r), heap_setCell_same _ _ _ _ _ _ (heap_setCell_same _ _ _ _ _ _ h1), by simp [h2], fun i hi => ?_⟩
  obtain ⟨a0, a1, a2⟩ := h3 i hi
  unfold updN
  refine ⟨by rw [Array.getElem?_setIfInBounds_ne (by omega), Array.getElem?_setIfInBounds_ne (by omega)]; exact a0, ?_, ?_⟩
  · rw [Array.getElem?_setIfInBounds_ne (by omega)]
    by_cases e : i = f
    · subst e
      rw [if_pos rfl, Array.getElem?_setIfInBounds_self_of_lt (by omega)]
    · rw [if_neg e, Array.getElem?_setIfInBounds_ne (by omega)]
      exact a1
  · by_cases e : i = f
    · subst e
      rw [if_pos rfl, Array.getElem?_setIfInBounds_self_of_lt (by simp; omega)]
    · rw [if_neg e, Array.getElem?_setIfInBounds_ne (by omega), Array.getElem?_setIfInBounds_ne (by omega)]
      exact a2
theorem Pl.frame {B : Nat} {w w' : World} {b fb n : Nat} {v : Value} {q q' : Ps} (h : Pl B w b fb n v q) (k : Apart (fun i => i = fb) w w') (hf : Fr w' fb n q'.O q'.G) (ho : ∀ i, i < n → q'.O i < 64) (hM : q'.M = q.M) (hE : q'.E = q.E) : PStp B w w' b fb n v q' := by
  obtain ⟨n1, n2, n3⟩ := h.ne
  refine ⟨⟨v, ⟨h.g, h.gf, ?_, hf, ?_, ho, h.n9⟩, fun _ e => .inl e⟩, k.wide (fun i _ e => .inr (.inl e))⟩
  · rw [hM]
    exact h.c.stay k n1
  · rw [hE]
    exact h.e.kept (⟨k.os, k.tape, k.output, k.size, fun i hi hne => k.block i hi (fun e => hne (by have e' : i = fb := e; rw [e']))⟩ : w.grownBy w' (some fb)) (.inr n3)
def giveQ (k : Int) (e f : Nat) (q : Ps) : Ps := ⟨updN q.O f (q.O f ||| 2 ^ e), q.G, q.M, q.E ++ [(k, (e : Int), (f : Int))]⟩
theorem pow6 (e : Nat) (he : e < 6) : 2 ^ e < 64 := by
  have := Nat.pow_lt_pow_right (a := 2) (by omega) he
  omega
set_option maxHeartbeats 2000000 in
theorem give_any (B b fb n : Nat) (v : Value) (q : Ps) (k : Int) (e f : Nat) (w : World) (h : Pl B w b fb n v q) (he : e < 6) (hf : f < n) (hl : q.E.length ≤ 1000) (hB : B ≤ w.heap.size) : Calls Try.prog 14 #[.pointer (some ⟨b, 0, none⟩), .int .u8 k, .int .u8 e, .int .u8 f] w fun r w' => r = .returned (.tuple #[]) ∧ PStp B w w' b fb n v (giveQ k e f q) := by
  have hd := h.low (Below.refl _ w).drew
  have c0 := hd.cells.1
  have cf := (hd.f.at f hf).1
  have cff := hd.f.f (f * 3)
  have hb := h.c.lt
  have hfl := h.f.lt
  have hfz : (f : Int) < (n : Int) := by omega
  have ho := h.o f hf
  have hor := bits_or_u64_nat (q.O f) (powZ e) (by omega) (powZ_lt e)
  have hpz : powZ e = 2 ^ e := by unfold powZ; rw [if_pos (by omega)]
  have cO := fun W => of_all e W
  have hx : q.O f ||| 2 ^ e < 64 := Nat.or_lt_two_pow (n := 6) (by omega) (by have := pow6 e he; omega)
  rw [hpz] at hor cO
  have hsd : PStp B w (w.drew.setCell ⟨fb, f * 3, none⟩ (.int .u64 ((q.O f ||| 2 ^ e : Nat) : Int))) b fb n v ⟨updN q.O f (q.O f ||| 2 ^ e), q.G, q.M, q.E⟩ := PStp.pre (Below.refl _ w).drew (hd.frame (q' := ⟨updN q.O f (q.O f ||| 2 ^ e), q.G, q.M, q.E⟩) (Apart.at (X := fun i => i = fb) w.drew fb (f * 3) _ rfl) (hd.f.setO f hf _) (fun i hi => by
    show updN q.O f _ i < 64
    unfold updN
    split
    · exact hx
    · exact h.o i hi) rfl rfl)
  have HS : Hid3 (PStp B w (w.setCell ⟨fb, f * 3, none⟩ (.int .u64 ((q.O f ||| 2 ^ e : Nat) : Int))).drew b fb n v ⟨updN q.O f (q.O f ||| 2 ^ e), q.G, q.M, q.E⟩) := ⟨hsd⟩
  clear hsd
  have HF : Hid3 (giveQ k e f q = ⟨updN q.O f (q.O f ||| 2 ^ e), q.G, q.M, q.E ++ [(k, (e : Int), (f : Int))]⟩) := ⟨rfl⟩
  have HL := Hid3.mk hl
  generalize updN q.O f (q.O f ||| 2 ^ e) = O1 at *
  clear h hd hpz hx hl
  generalize q.O f ||| 2 ^ e = x1 at *
  generalize 2 ^ e = pe at *
  generalize q.O f = x0 at *
  go_enter Try.func14, Try.ntmps14
  go_wp2_with fail
  go_region_with ((go_at_call 25; refine (cO _).mono ?_; rintro r w' ⟨rfl, rfl⟩))
  all_goals
    clear cO c0 cf cff
    generalize (w.setCell ⟨fb, f * 3, none⟩ (.int .u64 (x1 : Int))).drew = W1 at *
    obtain ⟨v1, hP1, hv1⟩ := HS.out.out
    have cN := note_any B b fb n v1 _ k e f W1 hP1 HL.out (Nat.le_trans hB HS.out.ap.size)
    have HV := Hid3.mk hv1
    clear hP1 hv1
    go_wp2_with fail
    refine cN.mono ?_
    rintro r W2 ⟨rfl, hS2⟩
    have HS2 : Hid3 (PStp B w W2 b fb n v (giveQ k e f q)) := ⟨by rw [HF.out]; exact PStp.then HS.out.ap HV.out hS2⟩
    clear cN hS2
    go_wp2
    go_end0
    exact ⟨rfl, HS2.out⟩
end Go.Proofs.Ytedknoadcdnioaa
