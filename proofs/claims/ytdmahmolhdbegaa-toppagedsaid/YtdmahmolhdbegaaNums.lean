/- Plain numbers for words of 16 bits: sums, products, moves, ones, digits; no program is named here. -/
import Derived.WalkKit
namespace Go.Proofs.Ytdmahmolhdbegaa
open Go.RowKit

def addV (a b : Int) : Int := (a + b) % 65536
def carryV (a b : Int) : Bool := decide (65536 ≤ a + b)
def subV (a b : Int) : Int := (a - b) % 65536
def hiV (a b : Int) : Int := a * b / 65536
def loV (a b : Int) : Int := a * b % 65536
def shlV (a n : Int) : Int := a * 2 ^ (n % 16).toNat % 65536
def shrV (a n : Int) : Int := a / 2 ^ (n % 16).toNat
def signedV (a : Int) : Int := if 32768 ≤ a then a - 65536 else a
def sarV (a n : Int) : Int := (signedV a / 2 ^ (n % 16).toNat) % 65536
def rotV (a n : Int) : Int := a * 2 ^ (n % 16).toNat % 65536 + a / 2 ^ (16 - n % 16).toNat
def onesF : Nat → Int → Int
  | 0, _ => 0
  | f + 1, x => x % 2 + onesF f (x / 2)
def onesV (a : Int) : Int := onesF 16 a

theorem mul_bd {a b : Int} (ha : 0 ≤ a) (ha2 : a ≤ 65535) (hb : 0 ≤ b) (hb2 : b ≤ 65535) : 0 ≤ a * b ∧ a * b ≤ 4294836225 := by
  refine ⟨Int.mul_nonneg ha hb, ?_⟩
  calc a * b ≤ 65535 * b := Int.mul_le_mul_of_nonneg_right ha2 hb
    _ ≤ 65535 * 65535 := Int.mul_le_mul_of_nonneg_left hb2 (by decide)
    _ = 4294836225 := by decide

theorem u16w (x : Int) : IntKind.u16.wrap x = x % 65536 := by simp [IntKind.wrap, IntKind.bits, IntKind.signed]
theorem i16w (x : Int) : IntKind.i16.wrap x = if 32768 ≤ x % 65536 then x % 65536 - 65536 else x % 65536 := by simp [IntKind.wrap, IntKind.bits, IntKind.signed]
theorem u64w (x : Int) (h : 0 ≤ x) (h2 : x < 65536) : IntKind.u64.wrap x = x := by simp [IntKind.wrap, IntKind.bits, IntKind.signed]; omega
theorem u8w (x : Int) : IntKind.u8.wrap x = x % 256 := by simp [IntKind.wrap, IntKind.bits, IntKind.signed]

theorem and15 (n : Int) : bits .and .i64 n 15 = n % 16 := by
  have h15 : (BitVec.ofInt 64 15).toNat = 2 ^ 4 - 1 := by decide
  have key : (BitVec.ofInt 64 n &&& BitVec.ofInt 64 15).toNat = (n % ((2 ^ 64 : Nat) : Int)).toNat % 2 ^ 4 := by
    rw [BitVec.toNat_and, BitVec.toNat_ofInt, h15, Nat.and_two_pow_sub_one_eq_mod]
  show IntKind.i64.wrap ((BitVec.ofInt 64 n &&& BitVec.ofInt 64 15).toNat : Nat) = n % 16
  rw [key, IntKind.wrap_i64]
  omega
theorem and15w (n : Int) (h : 0 ≤ n) (h2 : n ≤ 65535) : bits .and .u16 n 15 = n % 16 := by
  have h15 : (BitVec.ofInt 16 15).toNat = 2 ^ 4 - 1 := by decide
  have key : (BitVec.ofInt 16 n &&& BitVec.ofInt 16 15).toNat = (n % ((2 ^ 16 : Nat) : Int)).toNat % 2 ^ 4 := by
    rw [BitVec.toNat_and, BitVec.toNat_ofInt, h15, Nat.and_two_pow_sub_one_eq_mod]
  show IntKind.u16.wrap ((BitVec.ofInt 16 n &&& BitVec.ofInt 16 15).toNat : Nat) = n % 16
  rw [key, u16w]
  omega
theorem and1w (n : Int) (h : 0 ≤ n) (h2 : n ≤ 65535) : bits .and .u16 n 1 = n % 2 := by
  have h15 : (BitVec.ofInt 16 1).toNat = 2 ^ 1 - 1 := by decide
  have key : (BitVec.ofInt 16 n &&& BitVec.ofInt 16 1).toNat = (n % ((2 ^ 16 : Nat) : Int)).toNat % 2 ^ 1 := by
    rw [BitVec.toNat_and, BitVec.toNat_ofInt, h15, Nat.and_two_pow_sub_one_eq_mod]
  show IntKind.u16.wrap ((BitVec.ofInt 16 n &&& BitVec.ofInt 16 1).toNat : Nat) = n % 2
  rw [key, u16w]
  omega

/-- What holds of 0 to 15 holds of n modulo 16. -/
theorem sixteen {P : Int → Prop} (h : ∀ k : Nat, k < 16 → P k) (n : Int) : P (n % 16) := by
  have := h (n % 16).toNat (by omega)
  rwa [show (((n % 16).toNat : Nat) : Int) = n % 16 by omega] at this
theorem all16 {P : Nat → Prop} (h0 : P 0) (h1 : P 1) (h2 : P 2) (h3 : P 3) (h4 : P 4) (h5 : P 5) (h6 : P 6) (h7 : P 7) (h8 : P 8) (h9 : P 9) (h10 : P 10) (h11 : P 11) (h12 : P 12) (h13 : P 13) (h14 : P 14) (h15 : P 15) : ∀ k : Nat, k < 16 → P k
  | 0, _ => h0 | 1, _ => h1 | 2, _ => h2 | 3, _ => h3 | 4, _ => h4 | 5, _ => h5 | 6, _ => h6 | 7, _ => h7 | 8, _ => h8 | 9, _ => h9 | 10, _ => h10 | 11, _ => h11 | 12, _ => h12 | 13, _ => h13 | 14, _ => h14 | 15, _ => h15
  | k + 16, h => absurd h (by omega)

theorem orRot (a : Int) (h : 0 ≤ a) (h2 : a ≤ 65535) (n : Int) : bits .or .u16 (a * 2 ^ (n % 16).toNat % 65536) (a / 2 ^ (16 - n % 16).toNat) = a * 2 ^ (n % 16).toNat % 65536 + a / 2 ^ (16 - n % 16).toNat := by
  refine sixteen (P := fun k => bits .or .u16 (a * 2 ^ k.toNat % 65536) (a / 2 ^ (16 - k).toNat) = a * 2 ^ k.toNat % 65536 + a / 2 ^ (16 - k).toNat) ?_ n
  have key : ∀ (i : Nat) (x y : Int), 0 ≤ x → x % 2 ^ i = 0 → x < 65536 → 0 ≤ y → y < 2 ^ i → y < 65536 → bits .or .u16 x y = x + y := fun i x y a1 a2 a3 a4 a5 a6 =>
    bits_join .u16 16 (by decide) (fun n g1 g2 => by rw [u16w]; omega) i x y a1 a2 (by omega) a4 a5 (by omega)
  refine all16 ?_ ?_ ?_ ?_ ?_ ?_ ?_ ?_ ?_ ?_ ?_ ?_ ?_ ?_ ?_ ?_
  · exact key 0 _ _ (by simp; try omega) (by simp; try omega) (by simp; omega) (by simp; omega) (by simp; omega) (by simp; omega)
  · exact key 1 _ _ (by simp; try omega) (by simp; try omega) (by simp; omega) (by simp; omega) (by simp; omega) (by simp; omega)
  · exact key 2 _ _ (by simp; try omega) (by simp; try omega) (by simp; omega) (by simp; omega) (by simp; omega) (by simp; omega)
  · exact key 3 _ _ (by simp; try omega) (by simp; try omega) (by simp; omega) (by simp; omega) (by simp; omega) (by simp; omega)
  · exact key 4 _ _ (by simp; try omega) (by simp; try omega) (by simp; omega) (by simp; omega) (by simp; omega) (by simp; omega)
  · exact key 5 _ _ (by simp; try omega) (by simp; try omega) (by simp; omega) (by simp; omega) (by simp; omega) (by simp; omega)
  · exact key 6 _ _ (by simp; try omega) (by simp; try omega) (by simp; omega) (by simp; omega) (by simp; omega) (by simp; omega)
  · exact key 7 _ _ (by simp; try omega) (by simp; try omega) (by simp; omega) (by simp; omega) (by simp; omega) (by simp; omega)
  · exact key 8 _ _ (by simp; try omega) (by simp; try omega) (by simp; omega) (by simp; omega) (by simp; omega) (by simp; omega)
  · exact key 9 _ _ (by simp; try omega) (by simp; try omega) (by simp; omega) (by simp; omega) (by simp; omega) (by simp; omega)
  · exact key 10 _ _ (by simp; try omega) (by simp; try omega) (by simp; omega) (by simp; omega) (by simp; omega) (by simp; omega)
  · exact key 11 _ _ (by simp; try omega) (by simp; try omega) (by simp; omega) (by simp; omega) (by simp; omega) (by simp; omega)
  · exact key 12 _ _ (by simp; try omega) (by simp; try omega) (by simp; omega) (by simp; omega) (by simp; omega) (by simp; omega)
  · exact key 13 _ _ (by simp; try omega) (by simp; try omega) (by simp; omega) (by simp; omega) (by simp; omega) (by simp; omega)
  · exact key 14 _ _ (by simp; try omega) (by simp; try omega) (by simp; omega) (by simp; omega) (by simp; omega) (by simp; omega)
  · exact key 15 _ _ (by simp; try omega) (by simp; try omega) (by simp; omega) (by simp; omega) (by simp; omega) (by simp; omega)

theorem rot_bd (a : Int) (h : 0 ≤ a) (h2 : a ≤ 65535) (n : Int) : 0 ≤ rotV a n ∧ rotV a n ≤ 65535 := by
  unfold rotV
  refine sixteen (P := fun k => 0 ≤ a * 2 ^ k.toNat % 65536 + a / 2 ^ (16 - k).toNat ∧ a * 2 ^ k.toNat % 65536 + a / 2 ^ (16 - k).toNat ≤ 65535) ?_ n
  refine all16 ?_ ?_ ?_ ?_ ?_ ?_ ?_ ?_ ?_ ?_ ?_ ?_ ?_ ?_ ?_ ?_ <;> (simp; omega)

/-- The other road: one place at a time. -/
def shlF (a : Int) : Nat → Int
  | 0 => a
  | k + 1 => shlF a k * 2 % 65536
def shrF (a : Int) : Nat → Int
  | 0 => a
  | k + 1 => shrF a k / 2
def sarF (a : Int) : Nat → Int
  | 0 => a
  | k + 1 => sarF a k / 2 + sarF a k / 32768 * 32768
def rotF (a : Int) : Nat → Int
  | 0 => a
  | k + 1 => rotF a k * 2 % 65536 + rotF a k / 32768
theorem moves_bd (a : Int) (h : 0 ≤ a) (h2 : a ≤ 65535) : ∀ k, (0 ≤ shlF a k ∧ shlF a k ≤ 65535) ∧ (0 ≤ shrF a k ∧ shrF a k ≤ 65535) ∧ (0 ≤ sarF a k ∧ sarF a k ≤ 65535) ∧ (0 ≤ rotF a k ∧ rotF a k ≤ 65535)
  | 0 => ⟨⟨h, h2⟩, ⟨h, h2⟩, ⟨h, h2⟩, ⟨h, h2⟩⟩
  | k + 1 => by
    obtain ⟨h1, h3, h4, h5⟩ := moves_bd a h h2 k
    simp only [shlF, shrF, sarF, rotF]
    omega
theorem shlF_eq (a n : Int) (h : 0 ≤ a) (h2 : a ≤ 65535) : shlF a (n % 16).toNat = shlV a n := by
  unfold shlV
  refine sixteen (P := fun k => shlF a k.toNat = a * 2 ^ k.toNat % 65536) ?_ n
  refine all16 ?_ ?_ ?_ ?_ ?_ ?_ ?_ ?_ ?_ ?_ ?_ ?_ ?_ ?_ ?_ ?_ <;> (simp [shlF]; try omega)
theorem shrF_eq (a n : Int) : shrF a (n % 16).toNat = shrV a n := by
  unfold shrV
  refine sixteen (P := fun k => shrF a k.toNat = a / 2 ^ k.toNat) ?_ n
  refine all16 ?_ ?_ ?_ ?_ ?_ ?_ ?_ ?_ ?_ ?_ ?_ ?_ ?_ ?_ ?_ ?_ <;> (simp [shrF]; try omega)
theorem sarF_eq (a n : Int) (h : 0 ≤ a) (h2 : a ≤ 65535) : sarF a (n % 16).toNat = sarV a n := by
  unfold sarV
  refine sixteen (P := fun k => sarF a k.toNat = (signedV a / 2 ^ k.toNat) % 65536) ?_ n
  unfold signedV
  by_cases hc : 32768 ≤ a
  · simp only [if_pos hc]
    have step : ∀ x : Int, 32768 ≤ x → x ≤ 65535 → x / 2 + x / 32768 * 32768 = x / 2 + 32768 := fun x _ _ => by omega
    have key : ∀ k : Nat, 32768 ≤ sarF a k ∧ sarF a k ≤ 65535 ∧ sarF a (k + 1) = sarF a k / 2 + 32768 := by
      intro k
      induction k with
      | zero => exact ⟨hc, h2, step a hc h2⟩
      | succ k ih =>
        obtain ⟨i1, i2, i3⟩ := ih
        have j1 : 32768 ≤ sarF a (k + 1) ∧ sarF a (k + 1) ≤ 65535 := by omega
        exact ⟨j1.1, j1.2, step _ j1.1 j1.2⟩
    have e0 : sarF a 0 = a := rfl
    have s := fun k => (key k).2.2
    have s0 := s 0; have s1 := s 1; have s2 := s 2; have s3 := s 3; have s4 := s 4; have s5 := s 5; have s6 := s 6; have s7 := s 7; have s8 := s 8; have s9 := s 9; have s10 := s 10; have s11 := s 11; have s12 := s 12; have s13 := s 13; have s14 := s 14
    clear s key step
    simp only [Nat.reduceAdd] at s0 s1 s2 s3 s4 s5 s6 s7 s8 s9 s10 s11 s12 s13 s14
    refine all16 ?_ ?_ ?_ ?_ ?_ ?_ ?_ ?_ ?_ ?_ ?_ ?_ ?_ ?_ ?_ ?_ <;> (simp; omega)
  · simp only [if_neg hc]
    have step : ∀ x : Int, 0 ≤ x → x < 32768 → x / 2 + x / 32768 * 32768 = x / 2 := fun x _ _ => by omega
    have key : ∀ k : Nat, 0 ≤ sarF a k ∧ sarF a k < 32768 ∧ sarF a (k + 1) = sarF a k / 2 := by
      intro k
      induction k with
      | zero => exact ⟨h, by simp only [sarF]; omega, step a h (by omega)⟩
      | succ k ih =>
        obtain ⟨i1, i2, i3⟩ := ih
        have j1 : 0 ≤ sarF a (k + 1) ∧ sarF a (k + 1) < 32768 := by omega
        exact ⟨j1.1, j1.2, step _ j1.1 j1.2⟩
    have e0 : sarF a 0 = a := rfl
    have s := fun k => (key k).2.2
    have s0 := s 0; have s1 := s 1; have s2 := s 2; have s3 := s 3; have s4 := s 4; have s5 := s 5; have s6 := s 6; have s7 := s 7; have s8 := s 8; have s9 := s 9; have s10 := s 10; have s11 := s 11; have s12 := s 12; have s13 := s 13; have s14 := s 14
    clear s key step
    simp only [Nat.reduceAdd] at s0 s1 s2 s3 s4 s5 s6 s7 s8 s9 s10 s11 s12 s13 s14
    refine all16 ?_ ?_ ?_ ?_ ?_ ?_ ?_ ?_ ?_ ?_ ?_ ?_ ?_ ?_ ?_ ?_ <;> (simp; omega)
theorem cutAt (a m : Int) (hm : 0 < m) (h : 0 ≤ a) : ∃ q t r, a = q * (2 * m) + t * m + r ∧ 0 ≤ r ∧ r < m ∧ (t = 0 ∨ t = 1) ∧ 0 ≤ q := by
  have h1 := Int.emod_add_mul_ediv a m
  have h2 := Int.emod_add_mul_ediv (a / m) 2
  have h3 := Int.emod_nonneg a (by omega : m ≠ 0)
  have h4 := Int.emod_lt_of_pos a hm
  have h5 : 0 ≤ a / m := Int.ediv_nonneg h (by omega)
  refine ⟨a / m / 2, a / m % 2, a % m, ?_, h3, h4, by omega, by omega⟩
  generalize a / m / 2 = q at *
  generalize a / m % 2 = t at *
  rw [← h2] at h1
  rw [Int.mul_add] at h1
  have e1 : m * (2 * q) = q * (2 * m) := by rw [← Int.mul_assoc, Int.mul_comm q, Int.mul_comm m 2]
  have e2 : m * t = t * m := Int.mul_comm _ _
  omega
theorem rotS1 (a x : Int) (h : 0 ≤ a) (h2 : a ≤ 65535) (hx : x = a * 2 % 65536 + a / 32768) : x * 2 % 65536 + x / 32768 = a * 4 % 65536 + a / 16384 := by
  obtain ⟨q, t, r, e, h3, h4, h5, h6⟩ := cutAt a 16384 (by decide) h
  have f1 : a / 32768 = q := by omega
  have f2 : a * 2 % 65536 = t * 32768 + r * 2 := by omega
  have f3 : a / 16384 = q * 2 + t := by omega
  have f4 : a * 4 % 65536 = r * 4 := by omega
  rw [f1, f2] at hx
  rw [f3, f4]
  have f5 : x / 32768 = t := by omega
  rw [f5]
  omega
theorem rotS2 (a x : Int) (h : 0 ≤ a) (h2 : a ≤ 65535) (hx : x = a * 4 % 65536 + a / 16384) : x * 2 % 65536 + x / 32768 = a * 8 % 65536 + a / 8192 := by
  obtain ⟨q, t, r, e, h3, h4, h5, h6⟩ := cutAt a 8192 (by decide) h
  have f1 : a / 16384 = q := by omega
  have f2 : a * 4 % 65536 = t * 32768 + r * 4 := by omega
  have f3 : a / 8192 = q * 2 + t := by omega
  have f4 : a * 8 % 65536 = r * 8 := by omega
  rw [f1, f2] at hx
  rw [f3, f4]
  have f5 : x / 32768 = t := by omega
  rw [f5]
  omega
theorem rotS3 (a x : Int) (h : 0 ≤ a) (h2 : a ≤ 65535) (hx : x = a * 8 % 65536 + a / 8192) : x * 2 % 65536 + x / 32768 = a * 16 % 65536 + a / 4096 := by
  obtain ⟨q, t, r, e, h3, h4, h5, h6⟩ := cutAt a 4096 (by decide) h
  have f1 : a / 8192 = q := by omega
  have f2 : a * 8 % 65536 = t * 32768 + r * 8 := by omega
  have f3 : a / 4096 = q * 2 + t := by omega
  have f4 : a * 16 % 65536 = r * 16 := by omega
  rw [f1, f2] at hx
  rw [f3, f4]
  have f5 : x / 32768 = t := by omega
  rw [f5]
  omega
theorem rotS4 (a x : Int) (h : 0 ≤ a) (h2 : a ≤ 65535) (hx : x = a * 16 % 65536 + a / 4096) : x * 2 % 65536 + x / 32768 = a * 32 % 65536 + a / 2048 := by
  obtain ⟨q, t, r, e, h3, h4, h5, h6⟩ := cutAt a 2048 (by decide) h
  have f1 : a / 4096 = q := by omega
  have f2 : a * 16 % 65536 = t * 32768 + r * 16 := by omega
  have f3 : a / 2048 = q * 2 + t := by omega
  have f4 : a * 32 % 65536 = r * 32 := by omega
  rw [f1, f2] at hx
  rw [f3, f4]
  have f5 : x / 32768 = t := by omega
  rw [f5]
  omega
theorem rotS5 (a x : Int) (h : 0 ≤ a) (h2 : a ≤ 65535) (hx : x = a * 32 % 65536 + a / 2048) : x * 2 % 65536 + x / 32768 = a * 64 % 65536 + a / 1024 := by
  obtain ⟨q, t, r, e, h3, h4, h5, h6⟩ := cutAt a 1024 (by decide) h
  have f1 : a / 2048 = q := by omega
  have f2 : a * 32 % 65536 = t * 32768 + r * 32 := by omega
  have f3 : a / 1024 = q * 2 + t := by omega
  have f4 : a * 64 % 65536 = r * 64 := by omega
  rw [f1, f2] at hx
  rw [f3, f4]
  have f5 : x / 32768 = t := by omega
  rw [f5]
  omega
theorem rotS6 (a x : Int) (h : 0 ≤ a) (h2 : a ≤ 65535) (hx : x = a * 64 % 65536 + a / 1024) : x * 2 % 65536 + x / 32768 = a * 128 % 65536 + a / 512 := by
  obtain ⟨q, t, r, e, h3, h4, h5, h6⟩ := cutAt a 512 (by decide) h
  have f1 : a / 1024 = q := by omega
  have f2 : a * 64 % 65536 = t * 32768 + r * 64 := by omega
  have f3 : a / 512 = q * 2 + t := by omega
  have f4 : a * 128 % 65536 = r * 128 := by omega
  rw [f1, f2] at hx
  rw [f3, f4]
  have f5 : x / 32768 = t := by omega
  rw [f5]
  omega
theorem rotS7 (a x : Int) (h : 0 ≤ a) (h2 : a ≤ 65535) (hx : x = a * 128 % 65536 + a / 512) : x * 2 % 65536 + x / 32768 = a * 256 % 65536 + a / 256 := by
  obtain ⟨q, t, r, e, h3, h4, h5, h6⟩ := cutAt a 256 (by decide) h
  have f1 : a / 512 = q := by omega
  have f2 : a * 128 % 65536 = t * 32768 + r * 128 := by omega
  have f3 : a / 256 = q * 2 + t := by omega
  have f4 : a * 256 % 65536 = r * 256 := by omega
  rw [f1, f2] at hx
  rw [f3, f4]
  have f5 : x / 32768 = t := by omega
  rw [f5]
  omega
theorem rotS8 (a x : Int) (h : 0 ≤ a) (h2 : a ≤ 65535) (hx : x = a * 256 % 65536 + a / 256) : x * 2 % 65536 + x / 32768 = a * 512 % 65536 + a / 128 := by
  obtain ⟨q, t, r, e, h3, h4, h5, h6⟩ := cutAt a 128 (by decide) h
  have f1 : a / 256 = q := by omega
  have f2 : a * 256 % 65536 = t * 32768 + r * 256 := by omega
  have f3 : a / 128 = q * 2 + t := by omega
  have f4 : a * 512 % 65536 = r * 512 := by omega
  rw [f1, f2] at hx
  rw [f3, f4]
  have f5 : x / 32768 = t := by omega
  rw [f5]
  omega
theorem rotS9 (a x : Int) (h : 0 ≤ a) (h2 : a ≤ 65535) (hx : x = a * 512 % 65536 + a / 128) : x * 2 % 65536 + x / 32768 = a * 1024 % 65536 + a / 64 := by
  obtain ⟨q, t, r, e, h3, h4, h5, h6⟩ := cutAt a 64 (by decide) h
  have f1 : a / 128 = q := by omega
  have f2 : a * 512 % 65536 = t * 32768 + r * 512 := by omega
  have f3 : a / 64 = q * 2 + t := by omega
  have f4 : a * 1024 % 65536 = r * 1024 := by omega
  rw [f1, f2] at hx
  rw [f3, f4]
  have f5 : x / 32768 = t := by omega
  rw [f5]
  omega
theorem rotS10 (a x : Int) (h : 0 ≤ a) (h2 : a ≤ 65535) (hx : x = a * 1024 % 65536 + a / 64) : x * 2 % 65536 + x / 32768 = a * 2048 % 65536 + a / 32 := by
  obtain ⟨q, t, r, e, h3, h4, h5, h6⟩ := cutAt a 32 (by decide) h
  have f1 : a / 64 = q := by omega
  have f2 : a * 1024 % 65536 = t * 32768 + r * 1024 := by omega
  have f3 : a / 32 = q * 2 + t := by omega
  have f4 : a * 2048 % 65536 = r * 2048 := by omega
  rw [f1, f2] at hx
  rw [f3, f4]
  have f5 : x / 32768 = t := by omega
  rw [f5]
  omega
theorem rotS11 (a x : Int) (h : 0 ≤ a) (h2 : a ≤ 65535) (hx : x = a * 2048 % 65536 + a / 32) : x * 2 % 65536 + x / 32768 = a * 4096 % 65536 + a / 16 := by
  obtain ⟨q, t, r, e, h3, h4, h5, h6⟩ := cutAt a 16 (by decide) h
  have f1 : a / 32 = q := by omega
  have f2 : a * 2048 % 65536 = t * 32768 + r * 2048 := by omega
  have f3 : a / 16 = q * 2 + t := by omega
  have f4 : a * 4096 % 65536 = r * 4096 := by omega
  rw [f1, f2] at hx
  rw [f3, f4]
  have f5 : x / 32768 = t := by omega
  rw [f5]
  omega
theorem rotS12 (a x : Int) (h : 0 ≤ a) (h2 : a ≤ 65535) (hx : x = a * 4096 % 65536 + a / 16) : x * 2 % 65536 + x / 32768 = a * 8192 % 65536 + a / 8 := by
  obtain ⟨q, t, r, e, h3, h4, h5, h6⟩ := cutAt a 8 (by decide) h
  have f1 : a / 16 = q := by omega
  have f2 : a * 4096 % 65536 = t * 32768 + r * 4096 := by omega
  have f3 : a / 8 = q * 2 + t := by omega
  have f4 : a * 8192 % 65536 = r * 8192 := by omega
  rw [f1, f2] at hx
  rw [f3, f4]
  have f5 : x / 32768 = t := by omega
  rw [f5]
  omega
theorem rotS13 (a x : Int) (h : 0 ≤ a) (h2 : a ≤ 65535) (hx : x = a * 8192 % 65536 + a / 8) : x * 2 % 65536 + x / 32768 = a * 16384 % 65536 + a / 4 := by
  obtain ⟨q, t, r, e, h3, h4, h5, h6⟩ := cutAt a 4 (by decide) h
  have f1 : a / 8 = q := by omega
  have f2 : a * 8192 % 65536 = t * 32768 + r * 8192 := by omega
  have f3 : a / 4 = q * 2 + t := by omega
  have f4 : a * 16384 % 65536 = r * 16384 := by omega
  rw [f1, f2] at hx
  rw [f3, f4]
  have f5 : x / 32768 = t := by omega
  rw [f5]
  omega
theorem rotS14 (a x : Int) (h : 0 ≤ a) (h2 : a ≤ 65535) (hx : x = a * 16384 % 65536 + a / 4) : x * 2 % 65536 + x / 32768 = a * 32768 % 65536 + a / 2 := by
  obtain ⟨q, t, r, e, h3, h4, h5, h6⟩ := cutAt a 2 (by decide) h
  have f1 : a / 4 = q := by omega
  have f2 : a * 16384 % 65536 = t * 32768 + r * 16384 := by omega
  have f3 : a / 2 = q * 2 + t := by omega
  have f4 : a * 32768 % 65536 = r * 32768 := by omega
  rw [f1, f2] at hx
  rw [f3, f4]
  have f5 : x / 32768 = t := by omega
  rw [f5]
  omega
theorem rotF_step (a : Int) (h : 0 ≤ a) (h2 : a ≤ 65535) : ∀ k : Nat, k < 16 → rotF a k = a * 2 ^ k % 65536 + a / 2 ^ (16 - k) := by
  have e0 : rotF a 0 = a * 1 % 65536 + a / 65536 := by simp only [rotF]; omega
  have e1 : rotF a 1 = a * 2 % 65536 + a / 32768 := rfl
  have e2 : rotF a 2 = a * 4 % 65536 + a / 16384 := rotS1 a _ h h2 e1
  have e3 : rotF a 3 = a * 8 % 65536 + a / 8192 := rotS2 a _ h h2 e2
  have e4 : rotF a 4 = a * 16 % 65536 + a / 4096 := rotS3 a _ h h2 e3
  have e5 : rotF a 5 = a * 32 % 65536 + a / 2048 := rotS4 a _ h h2 e4
  have e6 : rotF a 6 = a * 64 % 65536 + a / 1024 := rotS5 a _ h h2 e5
  have e7 : rotF a 7 = a * 128 % 65536 + a / 512 := rotS6 a _ h h2 e6
  have e8 : rotF a 8 = a * 256 % 65536 + a / 256 := rotS7 a _ h h2 e7
  have e9 : rotF a 9 = a * 512 % 65536 + a / 128 := rotS8 a _ h h2 e8
  have e10 : rotF a 10 = a * 1024 % 65536 + a / 64 := rotS9 a _ h h2 e9
  have e11 : rotF a 11 = a * 2048 % 65536 + a / 32 := rotS10 a _ h h2 e10
  have e12 : rotF a 12 = a * 4096 % 65536 + a / 16 := rotS11 a _ h h2 e11
  have e13 : rotF a 13 = a * 8192 % 65536 + a / 8 := rotS12 a _ h h2 e12
  have e14 : rotF a 14 = a * 16384 % 65536 + a / 4 := rotS13 a _ h h2 e13
  have e15 : rotF a 15 = a * 32768 % 65536 + a / 2 := rotS14 a _ h h2 e14
  exact all16 e0 e1 e2 e3 e4 e5 e6 e7 e8 e9 e10 e11 e12 e13 e14 e15
theorem rotF_eq (a n : Int) (h : 0 ≤ a) (h2 : a ≤ 65535) : rotF a (n % 16).toNat = rotV a n := by
  unfold rotV
  rw [rotF_step a h h2 _ (by omega), show (16 - n % 16).toNat = 16 - (n % 16).toNat by omega]
theorem tmod16 (n : Int) : (n.tmod 16 < 0 → n.tmod 16 + 16 = n % 16) ∧ (0 ≤ n.tmod 16 → n.tmod 16 = n % 16) := by
  by_cases h0 : 0 ≤ n
  · rw [Int.tmod_eq_emod_of_nonneg h0]; omega
  · obtain ⟨m, rfl⟩ : ∃ m : Int, n = -m := ⟨-n, by omega⟩
    rw [Int.neg_tmod, Int.tmod_eq_emod_of_nonneg (by omega)]; omega

/-- As many ones, from below. -/
def onesP (a : Int) : Nat → Int
  | 0 => 0
  | k + 1 => onesP a k + a / 2 ^ k % 2
theorem onesP_bd (a : Int) : ∀ k, 0 ≤ onesP a k ∧ onesP a k ≤ k
  | 0 => ⟨by simp [onesP], by simp [onesP]⟩
  | k + 1 => by
    have := onesP_bd a k
    have h := Int.emod_nonneg (a / 2 ^ k) (by decide : (2 : Int) ≠ 0)
    have h2 := Int.emod_lt_of_pos (a / 2 ^ k) (by decide : (0 : Int) < 2)
    simp only [onesP]
    generalize a / 2 ^ k % 2 = z at *
    omega
theorem onesP_eq (a : Int) : onesP a 16 = onesV a := by
  have d : ∀ m : Nat, a / 2 ^ m / 2 = a / 2 ^ (m + 1) := fun m => by rw [Int.ediv_ediv_of_nonneg (by exact Int.le_of_lt (Int.pow_pos (by decide))), ← Int.pow_succ]
  have key : ∀ f k : Nat, onesP a (k + f) = onesP a k + onesF f (a / 2 ^ k) := by
    intro f
    induction f with
    | zero => intro k; simp [onesF]
    | succ f ih =>
      intro k
      rw [show k + (f + 1) = (k + 1) + f by omega, ih, onesP, onesF, d]
      omega
  have := key 16 0
  simpa [onesP, onesV] using this
theorem onesF_bd : ∀ (f : Nat) (x : Int), 0 ≤ onesF f x ∧ onesF f x ≤ f
  | 0, x => ⟨by simp [onesF], by simp [onesF]⟩
  | f + 1, x => by
    have := onesF_bd f (x / 2)
    simp only [onesF]
    omega
theorem onesF_zero : ∀ f : Nat, onesF f 0 = 0
  | 0 => rfl
  | f + 1 => by simp [onesF, onesF_zero f]
theorem rotF_add (a : Int) (j : Nat) : ∀ i : Nat, rotF (rotF a j) i = rotF a (j + i)
  | 0 => rfl
  | i + 1 => by
    rw [← Nat.add_assoc]
    simp only [rotF, rotF_add a j i]
theorem rotF_16 (a : Int) (h : 0 ≤ a) (h2 : a ≤ 65535) : rotF a 16 = a := by
  have e := rotF_step a h h2 15 (by decide)
  simp only [Nat.reduceSub, Int.reducePow] at e
  rw [rotF, e]
  obtain ⟨q, t, r, e, h3, h4, h5, h6⟩ := cutAt a 1 (by decide) h
  have f1 : a / 2 = q := by omega
  have f2 : a * 32768 % 65536 = t * 32768 := by omega
  rw [f1, f2]
  omega
theorem rot_back (a n : Int) (h : 0 ≤ a) (h2 : a ≤ 65535) : rotV (rotV a n) (-n) = a := by
  rw [← rotF_eq _ (-n) (rot_bd a h h2 n).1 (rot_bd a h h2 n).2, ← rotF_eq a n h h2, rotF_add]
  by_cases hk : n % 16 = 0
  · rw [show (n % 16).toNat + ((-n) % 16).toNat = 0 by omega]; rfl
  · rw [show (n % 16).toNat + ((-n) % 16).toNat = 16 by omega]; exact rotF_16 a h h2
theorem rot_more (a n : Int) : rotV a (n + 16) = rotV a n := by
  unfold rotV
  rw [show (n + 16) % 16 = n % 16 by omega]
theorem ones_top : ∀ (f : Nat) (r t : Int), 0 ≤ r → r < 2 ^ f → t = 0 ∨ t = 1 → onesF (f + 1) (t * 2 ^ f + r) = onesF f r + t
  | 0, r, t, h, h2, ht => by
    have : r = 0 := by simp at h2; omega
    subst this
    simp only [onesF, Int.pow_zero]
    omega
  | f + 1, r, t, h, h2, ht => by
    have h3 : r < 2 ^ f * 2 := by rwa [Int.pow_succ] at h2
    have ih := ones_top f (r / 2) t (by omega) (by omega) ht
    have e1 : (t * 2 ^ (f + 1) + r) % 2 = r % 2 := by rw [Int.pow_succ, ← Int.mul_assoc]; omega
    have e2 : (t * 2 ^ (f + 1) + r) / 2 = t * 2 ^ f + r / 2 := by rw [Int.pow_succ, ← Int.mul_assoc]; omega
    rw [onesF, e1, e2, ih]
    simp only [onesF]
    omega
theorem ones_step (x : Int) (h : 0 ≤ x) (h2 : x ≤ 65535) : onesV (x * 2 % 65536 + x / 32768) = onesV x := by
  obtain ⟨t, r, e, h3, h4, h5⟩ : ∃ t r : Int, x = t * 32768 + r ∧ 0 ≤ r ∧ r < 32768 ∧ (t = 0 ∨ t = 1) := ⟨x / 32768, x % 32768, by omega, by omega, by omega, by omega⟩
  have e1 : x * 2 % 65536 + x / 32768 = r * 2 + t := by omega
  have k := ones_top 15 r t h3 h4 h5
  rw [show (2 : Int) ^ 15 = 32768 by decide] at k
  unfold onesV
  rw [e1, e, k, onesF, show (r * 2 + t) / 2 = r by omega]
  omega
theorem ones_rot (a n : Int) (h : 0 ≤ a) (h2 : a ≤ 65535) : onesV (rotV a n) = onesV a := by
  rw [← rotF_eq a n h h2]
  generalize (n % 16).toNat = k
  induction k with
  | zero => rfl
  | succ k ih =>
    have b := (moves_bd a h h2 k).2.2.2
    rw [rotF, ones_step _ b.1 b.2, ih]
theorem pow16 : ∀ f : Nat, f < 17 → (2 : Int) ^ f ≤ 65536 := by decide
end Go.Proofs.Ytdmahmolhdbegaa
