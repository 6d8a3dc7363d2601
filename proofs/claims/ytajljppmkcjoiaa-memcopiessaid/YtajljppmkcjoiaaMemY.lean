/- Deeds; the play. -/
import Derived.Test.YtajljppmkcjoiaaMemX
import Derived.Test.YtajljppmkcjoiaaMemF
namespace Go.Proofs.Ytajljppmkcjoiaa
open Go.RowKit Go.Maps
set_option linter.unusedVariables false
set_option maxRecDepth 100000
structure Dm where
  k : Int
  f : Int
  o : Int
  x : Int
  v : Value
  bs : List Int
/-- A deed that can be: its word, its bytes. -/
structure Dm.Ok (B : Nat) (w : World) (d : Dm) : Prop where
  x : 0 ≤ d.x ∧ d.x ≤ 65535
  b : Byts B w d.v d.bs
  s : d.bs.length ≤ 9223372036854775807
  k64 : -9223372036854775808 ≤ d.f ∧ d.f ≤ 9223372036854775807
  o64 : -9223372036854775808 ≤ d.o ∧ d.o ≤ 9223372036854775807
def dmL (N : Int) (L : List Int) (d : Dm) : List Int := doL N d.k d.f d.o d.x d.bs L
def playL (N : Int) (l : List Dm) (L : List Int) : List Int := l.foldl (dmL N) L
theorem playL_snoc (N : Int) (l : List Dm) (d : Dm) (L : List Int) : playL N (l ++ [d]) L = dmL N (playL N l L) d := by
  unfold playL
  rw [List.foldl_append]
  rfl
/-- A slice of deeds that can be read. -/
def Dds (B : Nat) (w : World) (v : Value) (l : List Dm) : Prop := ∃ a cap, v = .slice a l.length cap ∧ l.length ≤ 9223372036854775807 ∧ ∀ j d, l[j]? = some d → d.Ok B w ∧ ∃ g off, a = some ⟨g, off, none⟩ ∧ g < B ∧ w.cell? ⟨g, off + j * 5, none⟩ = some (.int .i64 d.k) ∧ w.cell? ⟨g, off + j * 5 + 1, none⟩ = some (.int .i64 d.f) ∧ w.cell? ⟨g, off + j * 5 + 2, none⟩ = some (.int .i64 d.o) ∧ w.cell? ⟨g, off + j * 5 + 3, none⟩ = some (.int .u16 d.x) ∧ w.cell? ⟨g, off + j * 5 + 4, none⟩ = some d.v
theorem Dds.below {B : Nat} {w w' : World} {v : Value} {l : List Dm} (h : Dds B w v l) (k : Below B w w') : Dds B w' v l := by
  obtain ⟨a, cap, rfl, hl, hcell⟩ := h
  refine ⟨a, cap, rfl, hl, fun j d hj => ?_⟩
  obtain ⟨ok, g, off, rfl, hg, c0, c1, c2, c3, c4⟩ := hcell j d hj
  have hb := k.block g hg
  refine ⟨⟨ok.x, ok.b.below k, ok.s, ok.k64, ok.o64⟩, g, off, rfl, hg, ?_, ?_, ?_, ?_, ?_⟩ <;> (rw [World.cell?_of_block (w := w) hb]; assumption)
theorem zeroL_bytes (x : Int) (hx : x ∈ zeroL) : 0 ≤ x ∧ x ≤ 255 := by
  unfold zeroL at hx
  rw [List.eq_of_mem_replicate hx]
  decide
theorem playL_nil (N : Int) (l : List Dm) (L : List Int) : playL N (l.take 0) L = L := by rw [List.take_zero]; rfl
set_option maxHeartbeats 4000000 in
theorem play_any (fr : Int) (N : Nat) (v : Value) (l : List Dm) (w : World) (hd : Dds w.heap.size w v l) (hN : fr % 6 + 1 = (N : Int)) (h1 : 1 ≤ N) (h6 : N ≤ 6) (hf : 0 ≤ fr ∧ fr ≤ 255) : Calls Try.prog 9 #[.int .u8 fr, v] w fun e w' => ∃ b rb g, e = .returned (.tuple #[.pointer (some ⟨b, 0, none⟩), .pointer (some ⟨rb, 0, none⟩), .bool true]) ∧ Both w.heap.size w' b rb g N (playL N (l.take 30) zeroL) ∧ Below w.heap.size w w' := by
  have cN := new_good N w (by omega) (by omega)
  obtain ⟨ad, cap, rfl, hll, hcell⟩ := id hd
  have HD : Hid3 (Dds w.heap.size w (.slice ad l.length cap) l) := ⟨hd⟩
  clear hd hcell
  go_enter Try.func9, Try.ntmps9
  go_wp2_with fail
  refine cN.mono ?_
  rintro e W0 ⟨rfl, hM, hB0⟩
  have cR := rnew_any N W0 h1 (by omega) (32 * N) rfl
  clear cN
  go_wp2_with fail
  refine cR.mono ?_
  rintro e W1 ⟨rfl, hM2, hB1⟩
  have hl0 := hM.lt
  have hs0 := hB0.size
  have HT : Hid3 (Both w.heap.size W1 w.heap.size (W0.heap.size + 1) W0.heap.size N (playL N (l.take 0) zeroL)) := ⟨by rw [playL_nil]; exact ⟨hM.below hB1, hM2, Nat.le_refl _, by omega, by omega, by omega, by omega, zeroL_bytes⟩⟩
  have HB : Hid3 (Below w.heap.size w W1) := ⟨hB0.trans (hB1.mono hB0.size)⟩
  clear hM hM2 hB0 hB1 cR
  generalize W0.heap.size + 1 = rb at *
  generalize W0.heap.size = gb at *
  go_wp2_with fail
  go_loopw [10] (fun s7 wr => ∃ (i : Nat), i ≤ l.length ∧ i ≤ 30 ∧ s7 = .int .i64 i ∧ Hid3 (Both w.heap.size wr w.heap.size rb gb N (playL N (l.take i) zeroL)) ∧ Hid3 (Below w.heap.size w wr)) (fun s7 _ => 30 - (intOf s7).toNat)
  case atStart => exact ⟨0, Nat.zero_le _, by omega, rfl, ⟨HT.out⟩, ⟨HB.out⟩⟩
  case round =>
    obtain ⟨i, hil, hi6, rfl, HT1, HB1⟩ := hrel
    by_cases hlt : i < l.length
    · have hltz : (i : Int) < (l.length : Int) := by omega
      by_cases h30 : i < 30
      · have h30z : (i : Int) < 30 := by omega
        have hsz := HB1.out.size
        obtain ⟨_, _, e0, _, hc⟩ := HD.out.below HB1.out
        injection e0 with e1 e2 e3
        obtain ⟨ok, g, off, e4, hg, c0, c1, c2, c3, c4⟩ := hc i l[i] (List.getElem?_eq_getElem hlt)
        rw [← e1] at e4
        subst e4
        have hcall := do_any w.heap.size w.heap.size rb gb N l[i].k l[i].f l[i].o l[i].x l[i].v l[i].bs _ wr HT1.out hsz ok.x ok.b ok.s
        have hpl : playL N (l.take (i + 1)) zeroL = doL N l[i].k l[i].f l[i].o l[i].x l[i].bs (playL N (l.take i) zeroL) := by rw [List.take_succ_eq_append_getElem hlt, playL_snoc]; rfl
        rw [← hpl] at hcall
        clear hc e1 e3 hpl ok
        generalize l[i] = d at *
        obtain ⟨d0, d1, d2, d3, d4, d5⟩ := d
        simp only at c0 c1 c2 c3 c4 hcall
        go_wp2_with fail
        refine hcall.mono ?_
        rintro e W2 ⟨rfl, hT2, hO2⟩
        have HT2 : Hid3 (Both w.heap.size W2 w.heap.size rb gb N (playL N (l.take (i + 1)) zeroL)) := ⟨hT2⟩
        have HB2 : Hid3 (Below w.heap.size w W2) := ⟨HB1.out.trans (hO2.below w.heap.size hT2.bB hT2.gB hsz)⟩
        clear hT2 hO2 hcall c0 c1 c2 c3 c4
        go_wp2
        go_roundw
        case rel => exact ⟨i + 1, by omega, by omega, by go_num, HT2, HB2⟩
        case measure => simp [intOf]; omega
      · have h30z : ¬ (i : Int) < 30 := by omega
        have hi : i = 30 := by omega
        subst hi
        go_wp2
        go_ret3
        exact ⟨_, _, rfl, ⟨_, HT1.out⟩, HB1.out⟩
    · have hltz : ¬ (i : Int) < (l.length : Int) := by omega
      have HTk : Hid3 (l.take 30 = l.take i) := ⟨by rw [List.take_of_length_le (by omega), List.take_of_length_le (by omega)]⟩
      go_wp2
      go_ret3
      refine ⟨_, _, rfl, ⟨gb, ?_⟩, HB1.out⟩
      rw [HTk.out]
      exact HT1.out
end Go.Proofs.Ytajljppmkcjoiaa
