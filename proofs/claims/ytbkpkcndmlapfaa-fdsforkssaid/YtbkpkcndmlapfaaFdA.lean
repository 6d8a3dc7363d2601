/- Descriptors as plain data: of each process what each of its descriptors is of (1 more; 0: none), and all that there ever was; the program's table in memory. -/
import Derived.Test.YtbkpkcndmlapfaaGen
import Derived.Deep.RegionLaw
import Derived.Deep.WholeRow
import Derived.Laws.CopyRow
namespace Go.Proofs.Ytbkpkcndmlapfaa
open Go.RowKit Go.Maps
set_option linter.unusedVariables false
set_option maxRecDepth 100000
theorem all8 {P : Fin 8 → Prop} (h0 : P 0) (h1 : P 1) (h2 : P 2) (h3 : P 3) (h4 : P 4) (h5 : P 5) (h6 : P 6) (h7 : P 7) : ∀ k, P k
  | 0 => h0 | 1 => h1 | 2 => h2 | 3 => h3 | 4 => h4 | 5 => h5 | 6 => h6 | 7 => h7
theorem all6 {P : Fin 6 → Prop} (h0 : P 0) (h1 : P 1) (h2 : P 2) (h3 : P 3) (h4 : P 4) (h5 : P 5) : ∀ k, P k
  | 0 => h0 | 1 => h1 | 2 => h2 | 3 => h3 | 4 => h4 | 5 => h5
/-- What a descriptor is of: kind, which one, where it stands. -/
structure Opn where
  k : Int
  r : Int
  p : Int
deriving DecidableEq
def opC (o : Opn) : List Value := [.int .u8 o.k, .int .i64 o.r, .int .i64 o.p]
def op0 : Opn := ⟨0, 0, 0⟩
def one (a n : Nat) : Nat := if a = n then 1 else 0
def rowN (f : Fin 8 → Nat) (n : Nat) : Nat := one (f 0) n + one (f 1) n + one (f 2) n + one (f 3) n + one (f 4) n + one (f 5) n + one (f 6) n + one (f 7) n
/-- How many descriptors have one. -/
def cntN (fd : Fin 6 → Fin 8 → Nat) (n : Nat) : Nat := rowN (fd 0) n + rowN (fd 1) n + rowN (fd 2) n + rowN (fd 3) n + rowN (fd 4) n + rowN (fd 5) n
theorem one_le (a n : Nat) : one a n ≤ 1 := by unfold one; split <;> omega
theorem rowN_le (f : Fin 8 → Nat) (n : Nat) : rowN f n ≤ 8 := by
  have h0 := one_le (f 0) n
  have h1 := one_le (f 1) n
  have h2 := one_le (f 2) n
  have h3 := one_le (f 3) n
  have h4 := one_le (f 4) n
  have h5 := one_le (f 5) n
  have h6 := one_le (f 6) n
  have h7 := one_le (f 7) n
  unfold rowN
  omega
theorem cntN_le (fd : Fin 6 → Fin 8 → Nat) (n : Nat) : cntN fd n ≤ 48 := by
  have h0 := rowN_le (fd 0) n
  have h1 := rowN_le (fd 1) n
  have h2 := rowN_le (fd 2) n
  have h3 := rowN_le (fd 3) n
  have h4 := rowN_le (fd 4) n
  have h5 := rowN_le (fd 5) n
  unfold cntN
  omega
theorem rowN_upd (f : Fin 8 → Nat) (m n : Nat) : ∀ k : Fin 8, rowN (upd f k m) n + one (f k) n = rowN f n + one m n :=
  all8 (by simp [rowN, upd]; omega) (by simp [rowN, upd]; omega) (by simp [rowN, upd]; omega) (by simp [rowN, upd]; omega) (by simp [rowN, upd]; omega) (by simp [rowN, upd]; omega) (by simp [rowN, upd]; omega) (by simp [rowN, upd]; omega)
theorem cntN_row (fd : Fin 6 → Fin 8 → Nat) (g : Fin 8 → Nat) (n : Nat) : ∀ p : Fin 6, cntN (upd fd p g) n + rowN (fd p) n = cntN fd n + rowN g n :=
  all6 (by simp [cntN, upd]; omega) (by simp [cntN, upd]; omega) (by simp [cntN, upd]; omega) (by simp [cntN, upd]; omega) (by simp [cntN, upd]; omega) (by simp [cntN, upd]; omega)
theorem rowN_has (f : Fin 8 → Nat) : ∀ k : Fin 8, 1 ≤ rowN f (f k) :=
  all8 (by simp [rowN, one]; omega) (by simp [rowN, one]; omega) (by simp [rowN, one]; omega) (by simp [rowN, one]; omega) (by simp [rowN, one]; omega) (by simp [rowN, one]; omega) (by simp [rowN, one]; omega) (by simp [rowN, one])
theorem cntN_ge (fd : Fin 6 → Fin 8 → Nat) (n : Nat) : ∀ p : Fin 6, rowN (fd p) n ≤ cntN fd n :=
  all6 (by simp [cntN]; omega) (by simp [cntN]; omega) (by simp [cntN]; omega) (by simp [cntN]; omega) (by simp [cntN]; omega) (by simp [cntN])
theorem cntN_has (fd : Fin 6 → Fin 8 → Nat) (p : Fin 6) (k : Fin 8) : 1 ≤ cntN fd (fd p k) := Nat.le_trans (rowN_has (fd p) k) (cntN_ge fd _ p)
theorem rowN_no (f : Fin 8 → Nat) (n : Nat) (h : ∀ k, f k ≠ n) : rowN f n = 0 := by
  have e : ∀ k, one (f k) n = 0 := fun k => by unfold one; rw [if_neg (h k)]
  unfold rowN
  rw [e 0, e 1, e 2, e 3, e 4, e 5, e 6, e 7]
theorem cntN_no (fd : Fin 6 → Fin 8 → Nat) (n : Nat) (h : ∀ p k, fd p k ≠ n) : cntN fd n = 0 := by
  unfold cntN
  rw [rowN_no _ n (h 0), rowN_no _ n (h 1), rowN_no _ n (h 2), rowN_no _ n (h 3), rowN_no _ n (h 4), rowN_no _ n (h 5)]
theorem cntN_at (fd : Fin 6 → Fin 8 → Nat) (p : Fin 6) (k : Fin 8) (m n : Nat) : cntN (upd fd p (upd (fd p) k m)) n + one (fd p k) n = cntN fd n + one m n := by
  have h1 := cntN_row fd (upd (fd p) k m) n p
  have h2 := rowN_upd (fd p) m n k
  omega
/-- Which processes there are, what their descriptors are of, all that there ever was. -/
structure Fs where
  has : Fin 6 → Bool
  fd : Fin 6 → Fin 8 → Nat
  all : List Opn
def fs0 : Fs := ⟨fun _ => false, fun _ _ => 0, []⟩
def getO (s : Fs) (n : Nat) : Opn := s.all.getD (n - 1) op0
def Lv (s : Fs) (n : Nat) : Prop := n ≠ 0 ∧ 0 < cntN s.fd n
structure Fs.Ok (s : Fs) : Prop where
  le : ∀ p k, s.fd p k ≤ s.all.length
  no : ∀ p, s.has p = false → ∀ k, s.fd p k = 0
theorem fs0_ok : fs0.Ok := ⟨fun _ _ => Nat.le_refl _, fun _ _ _ => rfl⟩
def setFd (s : Fs) (p : Fin 6) (k : Fin 8) (n : Nat) : Fs := { s with fd := upd s.fd p (upd (s.fd p) k n) }
theorem setFd_fd (s : Fs) (p : Fin 6) (k : Fin 8) (n : Nat) (q : Fin 6) (j : Fin 8) : (setFd s p k n).fd q j = if q = p ∧ j = k then n else s.fd q j := by
  unfold setFd upd
  simp only
  by_cases h : q = p
  · subst h
    by_cases h2 : j = k
    · subst h2; simp
    · simp [h2]
  · simp [h]
theorem Lv.of_fd {s : Fs} {p : Fin 6} {k : Fin 8} (h : s.fd p k ≠ 0) : Lv s (s.fd p k) := ⟨h, cntN_has s.fd p k⟩
theorem Fs.Ok.lv {s : Fs} (h : s.Ok) {n : Nat} (hn : Lv s n) : n ≤ s.all.length := by
  by_cases hc : n ≤ s.all.length
  · exact hc
  · exact absurd hn.2 (by rw [cntN_no s.fd n (fun p k e => hc (e ▸ h.le p k))]; omega)
theorem Fs.Ok.set {s : Fs} (h : s.Ok) (p : Fin 6) (k : Fin 8) (n : Nat) (hp : s.has p = true) (hn : n ≤ s.all.length) : (setFd s p k n).Ok := by
  refine ⟨fun q j => ?_, fun q hq j => ?_⟩
  · rw [setFd_fd]
    split
    · exact hn
    · exact h.le q j
  · rw [setFd_fd, if_neg]
    · exact h.no q hq j
    · rintro ⟨rfl, _⟩
      have hq' : s.has q = false := hq
      rw [hp] at hq'
      cases hq'
def ptr : Bool → Nat → Value
  | true, a => .pointer (some ⟨a, 0, none⟩)
  | false, _ => .pointer none
def tCs (h : Fin 6 → Bool) (r : Fin 6 → Nat) : List Value := [ptr (h 0) (r 0), ptr (h 1) (r 1), ptr (h 2) (r 2), ptr (h 3) (r 3), ptr (h 4) (r 4), ptr (h 5) (r 5)]
def rCs (f : Fin 8 → Nat) (o : Nat → Nat) : List Value := [ptr (f 0 != 0) (o (f 0)), ptr (f 1 != 0) (o (f 1)), ptr (f 2 != 0) (o (f 2)), ptr (f 3 != 0) (o (f 3)), ptr (f 4 != 0) (o (f 4)), ptr (f 5 != 0) (o (f 5)), ptr (f 6 != 0) (o (f 6)), ptr (f 7 != 0) (o (f 7))]
theorem tCs_at (h : Fin 6 → Bool) (r : Fin 6 → Nat) : ∀ p : Fin 6, (tCs h r)[p.1]? = some (ptr (h p) (r p)) := all6 rfl rfl rfl rfl rfl rfl
theorem tCs_set (h : Fin 6 → Bool) (r : Fin 6 → Nat) (x : Bool) (a : Nat) : ∀ p : Fin 6, (tCs h r).set p.1 (ptr x a) = tCs (upd h p x) (upd r p a) := all6 rfl rfl rfl rfl rfl rfl
theorem rCs_at (f : Fin 8 → Nat) (o : Nat → Nat) : ∀ k : Fin 8, (rCs f o)[k.1]? = some (ptr (f k != 0) (o (f k))) := all8 rfl rfl rfl rfl rfl rfl rfl rfl
theorem rCs_set (f : Fin 8 → Nat) (o : Nat → Nat) (n : Nat) : ∀ k : Fin 8, (rCs f o).set k.1 (ptr (n != 0) (o n)) = rCs (upd f k n) o := all8 rfl rfl rfl rfl rfl rfl rfl rfl
theorem rCs_eq (f : Fin 8 → Nat) (o o' : Nat → Nat) (h : ∀ k, f k ≠ 0 → o' (f k) = o (f k)) : rCs f o' = rCs f o := by
  have e : ∀ k, ptr (f k != 0) (o' (f k)) = ptr (f k != 0) (o (f k)) := fun k => by
    by_cases hk : f k = 0
    · rw [hk]; rfl
    · rw [h k hk]
  unfold rCs
  rw [e 0, e 1, e 2, e 3, e 4, e 5, e 6, e 7]
theorem ptr_n {n : Nat} (h : n ≠ 0) (a : Nat) : ptr (n != 0) a = .pointer (some ⟨a, 0, none⟩) := by
  have : (n != 0) = true := by simpa using h
  rw [this]; rfl
/-- Where things lie: the table, rows, what is shared. -/
structure Lo where
  t : Nat
  r : Fin 6 → Nat
  o : Nat → Nat
def obC (s : Fs) (n : Nat) : List Value := [.int .u8 (getO s n).k, .int .i64 (getO s n).r, .int .i64 (getO s n).p, .int .i64 (cntN s.fd n)]
/-- Rows and what is shared, in memory. -/
structure Fb (B : Nat) (w : World) (L : Lo) (s : Fs) : Prop where
  rg : ∀ p, s.has p = true → B ≤ L.r p ∧ Cl w (L.r p) 75 (rCs (s.fd p) L.o)
  ri : ∀ p q, s.has p = true → s.has q = true → L.r p = L.r q → p = q
  og : ∀ n, Lv s n → B ≤ L.o n ∧ Cl w (L.o n) 69 (obC s n)
  oi : ∀ n m, Lv s n → Lv s m → L.o n = L.o m → n = m
  ok : s.Ok
/-- The program's table. -/
structure Ft (B : Nat) (w : World) (L : Lo) (s : Fs) : Prop where
  g : B ≤ L.t
  t : Cl w L.t 73 (tCs s.has L.r)
  b : Fb B w L s
/-- The blocks that it has. -/
def XF (L : Lo) (s : Fs) (k : Nat) : Prop := k = L.t ∨ (∃ p, s.has p = true ∧ k = L.r p) ∨ ∃ n, Lv s n ∧ k = L.o n
theorem XF.row {L : Lo} {s : Fs} {p : Fin 6} (h : s.has p = true) : XF L s (L.r p) := .inr (.inl ⟨p, h, rfl⟩)
theorem XF.obj {L : Lo} {s : Fs} {n : Nat} (h : Lv s n) : XF L s (L.o n) := .inr (.inr ⟨n, h, rfl⟩)
theorem Fb.below {B : Nat} {w w' : World} {L : Lo} {s : Fs} (h : Fb B w L s) (k : Below w.heap.size w w') : Fb B w' L s :=
  ⟨fun p hp => ⟨(h.rg p hp).1, (h.rg p hp).2.below k⟩, h.ri, fun n hn => ⟨(h.og n hn).1, (h.og n hn).2.below k⟩, h.oi, h.ok⟩
theorem Ft.below {B : Nat} {w w' : World} {L : Lo} {s : Fs} (h : Ft B w L s) (k : Below w.heap.size w w') : Ft B w' L s := ⟨h.g, h.t.below k, h.b.below k⟩
theorem Ft.stay {B : Nat} {w w' : World} {L : Lo} {s : Fs} {X : Nat → Prop} (h : Ft B w L s) (k : Apart X w w') (hx : ∀ i, XF L s i → ¬ X i) : Ft B w' L s :=
  ⟨h.g, h.t.stay k (hx _ (.inl rfl)), fun p hp => ⟨(h.b.rg p hp).1, (h.b.rg p hp).2.stay k (hx _ (XF.row hp))⟩, h.b.ri, fun n hn => ⟨(h.b.og n hn).1, (h.b.og n hn).2.stay k (hx _ (XF.obj hn))⟩, h.b.oi, h.b.ok⟩
theorem Ft.lt {B : Nat} {w : World} {L : Lo} {s : Fs} (h : Ft B w L s) : L.t < w.heap.size := h.t.lt
theorem Ft.x {B : Nat} {w : World} {L : Lo} {s : Fs} (h : Ft B w L s) {k : Nat} (hk : XF L s k) : B ≤ k ∧ k < w.heap.size ∧ ∃ t c, Cl w k t c ∧ (t = 73 ∨ t = 75 ∨ t = 69) := by
  rcases hk with rfl | ⟨p, hp, rfl⟩ | ⟨n, hn, rfl⟩
  · exact ⟨h.g, h.t.lt, _, _, h.t, .inl rfl⟩
  · exact ⟨(h.b.rg p hp).1, (h.b.rg p hp).2.lt, _, _, (h.b.rg p hp).2, .inr (.inl rfl)⟩
  · exact ⟨(h.b.og n hn).1, (h.b.og n hn).2.lt, _, _, (h.b.og n hn).2, .inr (.inr rfl)⟩
/-- What a call that changes it comes to. -/
structure FStp (B : Nat) (w w' : World) (L : Lo) (s s' : Fs) : Prop where
  out : ∃ L', L'.t = L.t ∧ Ft B w' L' s' ∧ ∀ k, XF L' s' k → XF L s k ∨ w.heap.size ≤ k
  ap : Apart (XF L s) w w'
theorem FStp.same {B : Nat} {w w' : World} {L : Lo} {s : Fs} (h : Ft B w L s) (k : Below w.heap.size w w') : FStp B w w' L s s := ⟨⟨L, rfl, h.below k, fun _ => .inl⟩, Apart.of_below k⟩
theorem FStp.pre {B : Nat} {a b c : World} {L : Lo} {s s' : Fs} (h : Below a.heap.size a b) (k : FStp B b c L s s') : FStp B a c L s s' :=
  ⟨k.out.elim fun L' hL => ⟨L', hL.1, hL.2.1, fun i hi => (hL.2.2 i hi).imp id (Nat.le_trans h.size)⟩, (Apart.of_below h).trans k.ap⟩
theorem FStp.post {B : Nat} {a b c : World} {L : Lo} {s s' : Fs} (k : FStp B a b L s s') (h : Below b.heap.size b c) : FStp B a c L s s' :=
  ⟨k.out.elim fun L' hL => ⟨L', hL.1, hL.2.1.below h, hL.2.2⟩, k.ap.trans (Apart.of_below h)⟩
theorem FStp.low {B : Nat} {w w' : World} {L : Lo} {s s' : Fs} (k : FStp B w w' L s s') (h : Ft B w L s) (hB : B ≤ w.heap.size) : Below B w w' := k.ap.below B (fun i hi => (h.x hi).1) hB
/-- The cells. -/
theorem Ft.at {B : Nat} {w : World} {L : Lo} {s : Fs} (h : Ft B w L s) (p : Fin 6) : w.cell? ⟨L.t, p.1, none⟩ = some (ptr (s.has p) (L.r p)) := (h.t.cell _).trans (tCs_at s.has L.r p)
theorem Fb.at {B : Nat} {w : World} {L : Lo} {s : Fs} (h : Fb B w L s) (p : Fin 6) (hp : s.has p = true) (k : Fin 8) : w.cell? ⟨L.r p, k.1, none⟩ = some (ptr (s.fd p k != 0) (L.o (s.fd p k))) := ((h.rg p hp).2.cell _).trans (rCs_at (s.fd p) L.o k)
/-- One more has a thing. -/
theorem Fb.put {B : Nat} {w w' : World} {L : Lo} {s : Fs} (h : Fb B w L s) (p : Fin 6) (k : Fin 8) (n : Nat) (hp : s.has p = true) (h0 : s.fd p k = 0) (hn : n ≠ 0) (hl : n ≤ s.all.length) (hB : B ≤ L.o n) (hne : ∀ m, Lv s m → m ≠ n → L.o m ≠ L.o n) (hro : ∀ q, s.has q = true → L.r q ≠ L.o n)
    (ap : Apart (fun i => i = L.r p ∨ i = L.o n) w w') (c1 : Cl w' (L.r p) 75 ((rCs (s.fd p) L.o).set k.1 (.pointer (some ⟨L.o n, 0, none⟩))))
    (c2 : Cl w' (L.o n) 69 [.int .u8 (getO s n).k, .int .i64 (getO s n).r, .int .i64 (getO s n).p, .int .i64 ((cntN s.fd n + 1 : Nat) : Int)]) : Fb B w' L (setFd s p k n) := by
  have hcn : ∀ m, m ≠ 0 → m ≠ n → cntN (setFd s p k n).fd m = cntN s.fd m := fun m hm hmn => by
    have := cntN_at s.fd p k n m
    rw [h0] at this
    unfold one at this
    rw [if_neg (fun e => hm e.symm), if_neg (fun e => hmn e.symm)] at this
    exact this
  have hcc : cntN (setFd s p k n).fd n = cntN s.fd n + 1 := by
    have := cntN_at s.fd p k n n
    rw [h0] at this
    unfold one at this
    rw [if_neg (fun e => hn e.symm), if_pos rfl] at this
    exact this
  have hlv : ∀ m, Lv (setFd s p k n) m → m = n ∨ (m ≠ n ∧ Lv s m) := fun m hm => by
    by_cases e : m = n
    · exact .inl e
    · exact .inr ⟨e, hm.1, by rw [← hcn m hm.1 e]; exact hm.2⟩
  refine ⟨fun q hq => ?_, h.ri, fun m hm => ?_, fun m m' hm hm' e => ?_, h.ok.set p k n hp hl⟩
  · by_cases e : q = p
    · subst e
      refine ⟨(h.rg q hp).1, ?_⟩
      have := rCs_set (s.fd q) L.o n k
      rw [ptr_n hn] at this
      rw [this] at c1
      have e2 : (setFd s q k n).fd q = upd (s.fd q) k n := by unfold setFd; exact upd_same _ _ _
      rw [e2]
      exact c1
    · have hq' : s.has q = true := hq
      refine ⟨(h.rg q hq').1, ?_⟩
      have e2 : (setFd s p k n).fd q = s.fd q := by unfold setFd; exact upd_other _ _ _ _ e
      rw [e2]
      exact (h.rg q hq').2.stay ap (fun x => x.elim (fun x => e (h.ri q p hq' hp x)) (hro q hq'))
  · rcases hlv m hm with rfl | ⟨e, hm'⟩
    · refine ⟨hB, ?_⟩
      unfold obC
      rw [hcc]
      exact c2
    · refine ⟨(h.og m hm').1, ?_⟩
      have e2 : obC (setFd s p k n) m = obC s m := by unfold obC; rw [hcn m hm.1 e]; rfl
      rw [e2]
      exact (h.og m hm').2.stay ap (fun x => x.elim ((h.og m hm').2.ne (h.rg p hp).2 (by decide)) (hne m hm' e))
  · rcases hlv m hm with rfl | ⟨e1, h1⟩ <;> rcases hlv m' hm' with e2 | ⟨e2, h2⟩
    · exact e2.symm
    · exact absurd e.symm (hne m' h2 e2)
    · rw [e2] at e
      exact absurd e (hne m h1 e1)
    · exact h.oi m m' h1 h2 e
/-- One has it no more. -/
theorem Fb.drop {B : Nat} {w w' : World} {L : Lo} {s : Fs} (h : Fb B w L s) (p : Fin 6) (k : Fin 8) (n : Nat) (hp : s.has p = true) (h0 : s.fd p k = n) (hn : n ≠ 0)
    (ap : Apart (fun i => i = L.r p ∨ i = L.o n) w w') (c1 : Cl w' (L.r p) 75 ((rCs (s.fd p) L.o).set k.1 (.pointer none)))
    (c2 : Cl w' (L.o n) 69 [.int .u8 (getO s n).k, .int .i64 (getO s n).r, .int .i64 (getO s n).p, .int .i64 ((cntN s.fd n - 1 : Nat) : Int)]) : Fb B w' L (setFd s p k 0) := by
  have hLn : Lv s n := by rw [← h0] at hn ⊢; exact Lv.of_fd hn
  have hcn : ∀ m, m ≠ 0 → m ≠ n → cntN (setFd s p k 0).fd m = cntN s.fd m := fun m hm hmn => by
    have := cntN_at s.fd p k 0 m
    rw [h0] at this
    unfold one at this
    rw [if_neg (fun e => hmn e.symm), if_neg (fun e => hm e.symm)] at this
    exact this
  have hcc : cntN (setFd s p k 0).fd n = cntN s.fd n - 1 := by
    have := cntN_at s.fd p k 0 n
    rw [h0] at this
    unfold one at this
    rw [if_pos rfl, if_neg (fun e => hn e.symm)] at this
    have e : cntN (setFd s p k 0).fd n = cntN (upd s.fd p (upd (s.fd p) k 0)) n := rfl
    omega
  have hlv : ∀ m, Lv (setFd s p k 0) m → Lv s m := fun m hm => by
    by_cases e : m = n
    · rw [e]; exact hLn
    · exact ⟨hm.1, by rw [← hcn m hm.1 e]; exact hm.2⟩
  refine ⟨fun q hq => ?_, h.ri, fun m hm => ?_, fun m m' hm hm' e => h.oi m m' (hlv m hm) (hlv m' hm') e, h.ok.set p k 0 hp (Nat.zero_le _)⟩
  · by_cases e : q = p
    · subst e
      refine ⟨(h.rg q hp).1, ?_⟩
      have := rCs_set (s.fd q) L.o 0 k
      rw [show ptr (0 != 0) (L.o 0) = .pointer none from rfl] at this
      rw [this] at c1
      have e2 : (setFd s q k 0).fd q = upd (s.fd q) k 0 := by unfold setFd; exact upd_same _ _ _
      rw [e2]
      exact c1
    · have hq' : s.has q = true := hq
      refine ⟨(h.rg q hq').1, ?_⟩
      have e2 : (setFd s p k 0).fd q = s.fd q := by unfold setFd; exact upd_other _ _ _ _ e
      rw [e2]
      exact (h.rg q hq').2.stay ap (fun x => x.elim (fun x => e (h.ri q p hq' hp x)) ((h.rg q hq').2.ne (h.og n hLn).2 (by decide)))
  · refine ⟨(h.og m (hlv m hm)).1, ?_⟩
    by_cases e : m = n
    · subst e
      unfold obC
      rw [hcc]
      exact c2
    · have e2 : obC (setFd s p k 0) m = obC s m := by unfold obC; rw [hcn m hm.1 e]; rfl
      rw [e2]
      exact (h.og m (hlv m hm)).2.stay ap (fun x => x.elim ((h.og m (hlv m hm)).2.ne (h.rg p hp).2 (by decide)) (fun x => e (h.oi m n (hlv m hm) hLn x)))
def setO (s : Fs) (n : Nat) (o : Opn) : Fs := { s with all := s.all.set (n - 1) o }
theorem setO_get (s : Fs) (n : Nat) (o : Opn) (m : Nat) (hn : n ≠ 0) (hm : m ≠ 0) (hl : n ≤ s.all.length) : getO (setO s n o) m = if m = n then o else getO s m := by
  unfold getO setO
  simp only [List.getD_eq_getElem?_getD]
  rw [List.getElem?_set]
  by_cases e : m = n
  · subst e
    rw [if_pos rfl, if_pos (by omega), if_pos rfl]
    rfl
  · rw [if_neg (by omega), if_neg e]
/-- A thing stands elsewhere. -/
theorem Fb.move {B : Nat} {w w' : World} {L : Lo} {s : Fs} (h : Fb B w L s) (n : Nat) (o : Opn) (hn : Lv s n) (ap : Apart (fun i => i = L.o n) w w')
    (c2 : Cl w' (L.o n) 69 [.int .u8 o.k, .int .i64 o.r, .int .i64 o.p, .int .i64 (cntN s.fd n)]) : Fb B w' L (setO s n o) := by
  have hl := h.ok.lv hn
  refine ⟨fun q hq => ⟨(h.rg q hq).1, (h.rg q hq).2.stay ap ((h.rg q hq).2.ne (h.og n hn).2 (by decide))⟩, h.ri, fun m hm => ?_, h.oi, ⟨fun p k => by unfold setO; rw [List.length_set]; exact h.ok.le p k, h.ok.no⟩⟩
  have hm' : Lv s m := hm
  refine ⟨(h.og m hm').1, ?_⟩
  unfold obC
  rw [setO_get s n o m hn.1 hm.1 hl]
  by_cases e : m = n
  · subst e
    rw [if_pos rfl]
    exact c2
  · rw [if_neg e]
    exact (h.og m hm').2.stay ap (fun x => e (h.oi m n hm' hn x))
end Go.Proofs.Ytbkpkcndmlapfaa
