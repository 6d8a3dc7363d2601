/- A memory: each call that writes, by one contract, in range or out of it. -/
import Derived.Test.YtdmahmolhdbegaaMemH
namespace Go.Proofs.Ytdmahmolhdbegaa
open Go.RowKit Go.Maps
set_option linter.unusedVariables false
set_option maxRecDepth 100000
def inB (n f o m : Int) : Bool := decide (0 ≤ f ∧ f < n ∧ 0 ≤ o ∧ o ≤ 32 - m)
theorem inB_t {n f o m : Int} (h : inB n f o m = true) : 0 ≤ f ∧ f < n ∧ 0 ≤ o ∧ o ≤ 32 - m := of_decide_eq_true h
theorem inB_f {n f o m : Int} (h : ¬ inB n f o m = true) : f < 0 ∨ n ≤ f ∨ o < 0 ∨ 32 - m < o := by
  by_cases a : f < 0
  · exact .inl a
  by_cases b : n ≤ f
  · exact .inr (.inl b)
  by_cases c : o < 0
  · exact .inr (.inr (.inl c))
  by_cases d : 32 - m < o
  · exact .inr (.inr (.inr d))
  · exact absurd (decide_eq_true (by omega : 0 ≤ f ∧ f < n ∧ 0 ≤ o ∧ o ≤ 32 - m)) h
def inE (n f o m : Int) : Int := if inB n f o m = true then 0 else 2
def plc (f o : Int) : Nat := f.toNat * 32 + o.toNat
def swL (n : Int) (L : List Int) (f o x : Int) : List Int := if inB n f o 2 = true then putL L (plc f o) [x / 256, x % 256] else L
def sbL (n : Int) (L : List Int) (f o x : Int) : List Int := if inB n f o 1 = true then putL L (plc f o) [x] else L
def zrL (n : Int) (L : List Int) (f : Int) : List Int := if inB n f 0 1 = true then putL L (f.toNat * 32) (List.replicate 32 0) else L
def cpB (n t f : Int) : Bool := inB n t 0 1 && inB n f 0 1
def cpL (n : Int) (L : List Int) (t f : Int) : List Int := if cpB n t f = true then putL L (t.toNat * 32) (frL L f.toNat) else L
def cpE (n t f : Int) : Int := if cpB n t f = true then 0 else 2
def flB (n f o : Int) (s : Nat) : Bool := inB n f o 1 && decide ((s : Int) ≤ (n - f) * 32 - o)
def flL (n : Int) (L : List Int) (f o : Int) (vs : List Int) : List Int := if flB n f o vs.length = true then putL L (plc f o) vs else L
def flE (n f o : Int) (s : Nat) : Int := if flB n f o s = true then 0 else 2
/-- Bytes that can be read, below a block. -/
def Byts (B : Nat) (w : World) (v : Value) (bs : List Int) : Prop := ∃ a cap, v = .slice a bs.length cap ∧ bs.length ≤ cap ∧ (∀ x ∈ bs, 0 ≤ x ∧ x ≤ 255) ∧ ∀ j x, bs[j]? = some x → ∃ g off, a = some ⟨g, off, none⟩ ∧ g < B ∧ w.cell? ⟨g, off + j, none⟩ = some (.int .u8 x)
theorem Byts.below {B : Nat} {w w' : World} {v : Value} {bs : List Int} (h : Byts B w v bs) (k : Below B w w') : Byts B w' v bs := by
  obtain ⟨a, cap, rfl, hc, hb, hcell⟩ := h
  refine ⟨a, cap, rfl, hc, hb, fun j x hj => ?_⟩
  obtain ⟨g, off, rfl, hg, c0⟩ := hcell j x hj
  refine ⟨g, off, rfl, hg, ?_⟩
  rw [World.cell?_of_block (w := w) (k.block g hg)]
  exact c0

theorem setbyte_any (b : Nat) (n f o x : Int) (L : List Int) (w : World) (h : Mem w b n L) : Calls Try.prog 36 #[.pointer (some ⟨b, 0, none⟩), .int .i64 f, .int .i64 o, .int .u8 x] w fun e w' => e = .returned (.int .i64 (inE n f o 1)) ∧ Mem w' b n (sbL n L f o x) ∧ Only b w w' := by
  unfold inE sbL
  by_cases q : inB n f o 1 = true
  · rw [if_pos q, if_pos q]
    have hi := inB_t q
    obtain ⟨f, rfl⟩ := Int.eq_ofNat_of_zero_le hi.1
    obtain ⟨o, rfl⟩ := Int.eq_ofNat_of_zero_le hi.2.2.1
    exact setbyte_ok b f o n x L w h hi.2.1 (by omega)
  · rw [if_neg q, if_neg q]
    refine (setbyte_out b n f o x L w h (inB_f q)).mono ?_
    rintro e w' ⟨rfl, rfl⟩
    exact ⟨rfl, h, Only.refl _ _⟩
set_option maxHeartbeats 1000000 in
theorem fill_any (B b : Nat) (n f o : Int) (L vs : List Int) (v : Value) (w : World) (h : Mem w b n L) (hv : Byts B w v vs) (hb : B ≤ b) (hs : vs.length ≤ 1000) : Calls Try.prog 52 #[.pointer (some ⟨b, 0, none⟩), .int .i64 f, .int .i64 o, v] w fun e w' => e = .returned (.int .i64 (flE n f o vs.length)) ∧ Mem w' b n (flL n L f o vs) ∧ Only b w w' := by
  have hlo := h.lo
  have hhi := h.hi
  have hsz := h.size
  obtain ⟨a, cap, rfl, hc, _, hcell⟩ := hv
  unfold flE flL flB
  by_cases q : inB n f o 1 = true
  · have hi := inB_t q
    by_cases q2 : (vs.length : Int) ≤ (n - f) * 32 - o
    · rw [q, decide_eq_true q2, if_pos (by rfl), if_pos (by rfl)]
      obtain ⟨f, rfl⟩ := Int.eq_ofNat_of_zero_le hi.1
      obtain ⟨o, rfl⟩ := Int.eq_ofNat_of_zero_le hi.2.2.1
      cases hvs : vs with
      | nil =>
        have c1 := there_ok b n L f w h (by omega) hi.2.1
        have g1 : ¬ (o : Int) < 0 := by omega
        have g2 : ¬ (32 : Int) ≤ (o : Int) := by omega
        have g3 : ¬ (n - (f : Int)) * 32 - (o : Int) < (0 : Int) := by omega
        have hf : (f : Int) < n := hi.2.1
        rw [putL_nil]
        clear q q2 hi hcell hvs
        go_enter Try.func52, Try.ntmps52
        go_wp2_with fail
        refine c1.mono ?_
        rintro e W1 ⟨rfl, rfl⟩
        go_wp2
        go_loopw [1, 2, 3] (fun vf vo vb W => vf = .int .i64 f ∧ vo = .int .i64 o ∧ vb = .slice a 0 cap ∧ W = W1) (fun _ _ _ _ => 0)
        case atStart => exact ⟨rfl, rfl, rfl, rfl⟩
        case round =>
          obtain ⟨rfl, rfl, rfl, rfl⟩ := hrel
          go_wp2
          go_ret
          exact ⟨rfl, h, Only.refl _ _⟩
      | cons x r =>
        rw [← hvs]
        obtain ⟨g, off, rfl, hg, _⟩ := hcell 0 x (by rw [hvs]; rfl)
        exact fill_ok b f o g off vs.length cap n L vs w h rfl hc ⟨by omega, (by have := h.lt; omega), fun j y hj => by
          obtain ⟨g', off', e, _, c⟩ := hcell j y hj
          injection e with e
          injection e with e1 e2
          subst e1 e2
          exact c⟩ hi.2.1 (by omega) q2
    · rw [q, decide_eq_false q2, if_neg (by decide), if_neg (by decide)]
      have c1 := there_ok b n L f w h hi.1 hi.2.1
      have g1 : ¬ o < 0 := by omega
      have g2 : ¬ (32 : Int) ≤ o := by omega
      have g3 : (n - f) * 32 - o < (vs.length : Int) := by omega
      have hf0 : 0 ≤ f := hi.1
      have hf : f < n := hi.2.1
      clear q q2 hi hcell
      go_enter Try.func52, Try.ntmps52
      go_wp2_with fail
      refine c1.mono ?_
      rintro e W1 ⟨rfl, rfl⟩
      go_wp2
      go_ret
      exact ⟨rfl, h, Only.refl _ _⟩
  · have e1 : inB n f o 1 = false := by simpa using q
    rw [e1, if_neg (by simp), if_neg (by simp)]
    have hq := inB_f q
    clear q e1
    by_cases h1 : f < 0 ∨ n ≤ f
    · have c1 := there_out b n L f w h h1
      clear hq
      go_enter Try.func52, Try.ntmps52
      go_wp2_with fail
      refine c1.mono ?_
      rintro e W1 ⟨rfl, rfl⟩
      go_wp2
      go_ret
      exact ⟨rfl, h, Only.refl _ _⟩
    · have c1 := there_ok b n L f w h (by omega) (by omega)
      by_cases h2 : o < 0
      · clear hq h1
        go_enter Try.func52, Try.ntmps52
        go_wp2_with fail
        refine c1.mono ?_
        rintro e W1 ⟨rfl, rfl⟩
        go_wp2
        go_ret
        exact ⟨rfl, h, Only.refl _ _⟩
      · have h3 : 32 ≤ o := by omega
        clear hq h1
        go_enter Try.func52, Try.ntmps52
        go_wp2_with fail
        refine c1.mono ?_
        rintro e W1 ⟨rfl, rfl⟩
        go_wp2
        go_ret
        exact ⟨rfl, h, Only.refl _ _⟩
end Go.Proofs.Ytdmahmolhdbegaa
