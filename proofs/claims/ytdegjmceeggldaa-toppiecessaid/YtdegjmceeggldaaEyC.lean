/- The program's Alloc, and what it tells, told by plain data. -/
import Derived.Test.YtdegjmceeggldaaEyB
namespace Go.Proofs.Ytdegjmceeggldaa
open Go.RowKit Go.Shelf Go.Maps
set_option linter.unusedVariables false
set_option maxRecDepth 100000
theorem there_cases (N : Nat) (start many : Int) : thereB N start many = false ∨ ∃ st k : Nat, start = st ∧ many = k ∧ 1 ≤ k ∧ st + k ≤ N := by
  cases h : thereB N start many with
  | false => exact .inl rfl
  | true =>
    unfold thereB at h
    rw [Bool.and_eq_true, Bool.and_eq_true, decide_eq_true_iff, decide_eq_true_iff, decide_eq_true_iff] at h
    obtain ⟨h1, h2, h3⟩ := h
    exact .inr ⟨start.toNat, many.toNat, by omega, by omega, by omega, by omega⟩
theorem free_cases (l : List Ex) (start many : Int) : freeX l start many ∨ ¬ freeX l start many := Classical.em _
/-- Where a new one belongs. -/
structure CutX (s : Xt) (st k : Nat) (pre post : List Ex) : Prop where
  l : s.l = pre ++ post
  a : ∀ y ∈ pre, y.st + y.ln ≤ st ∧ y.st < st
  b : ∀ y ∈ post, st + k ≤ y.st
theorem cut_x {s : Xt} (ok : s.Ok) (st k : Nat) (hk : 1 ≤ k) (hf : freeX s.l st k) : ∃ pre post, CutX s st k pre post := by
  obtain ⟨pre, post, h1, h2, h3⟩ := cut_at st s.l ok.srt (fun x hx => (ok.ln x hx).1) (fun x hx e => by
    have := (ok.ln x hx).1
    rcases hf x hx with h | h <;> omega)
  refine ⟨pre, post, h1, fun y hy => ?_, fun y hy => ?_⟩
  · have := h2 y hy
    rcases hf y (by rw [h1]; simp [hy]) with h | h <;> omega
  · have := h3 y hy
    have := (ok.ln y (by rw [h1]; simp [hy])).1
    rcases hf y (by rw [h1]; simp [hy]) with h | h <;> omega
theorem ok_alloc {s : Xt} (ok : s.Ok) {ow st k : Nat} {nm : ByteArray} {rt : BitVec 8} {pre post : List Ex} (c : CutX s st k pre post) (hk : 1 ≤ k) (hN : st + k ≤ s.N) (hx : st + k ≤ 1000) (hlen : s.l.length < 24) :
    (⟨s.N, pre ++ (nEx ow st k nm rt hx).num (s.last + 1) :: post, s.last + 1⟩ : Xt).Ok :=
  ok.add (nEx ow st k nm rt hx) c.l (fun y hy => (c.a y hy).1) c.b hk hN hlen
variable {B : Nat} {w : World} {L : Lo} {s : Xt}
theorem Pt.cut (h : Pt B w L s) {st k : Nat} {pre post : List Ex} (c : CutX s st k pre post) : ∃ q b y r, pst (before st) (L.h, zEx) L.ns = ((b, y), r) ∧ (L.h, zEx) :: L.ns = q ++ (b, y) :: r ∧ r.map Prod.snd = post ∧ (q ++ [(b, y)]).map Prod.snd = zEx :: pre :=
  pst_at (before st) pre post (L.h, zEx) L.ns (h.l.trans c.l) (fun z hz => decide_eq_true (by have := (c.a z hz).2; omega)) (fun z r e => by
    have := c.b z (by rw [e]; simp)
    exact decide_eq_false (by omega))
theorem p_alloc_own (h : Pt B w L s) (ow : Nat) (start many : Int) (nm : ByteArray) (rt : BitVec 8) (ho : 6 ≤ ow) :
    Calls Try.prog 5 #[.pointer (some ⟨L.t, 0, none⟩), .int .u8 ow, .int .i64 start, .int .i64 many, .agg #[.string nm, .int .u8 rt.toNat]] w fun e w' => e = .returned (.tuple #[.int .u32 0, .int .i64 2]) ∧ TStp B w w' L s :=
  (alloc_own _ _ _ _ _ h.ok.nb L.ns ow start many nm rt w h.t (Nat.le_refl _) ho).mono fun e w' q => ⟨q.1, TStp.same h q.2⟩
theorem p_alloc_far (h : Pt B w L s) (ow : Nat) (start many : Int) (nm : ByteArray) (rt : BitVec 8) (ho : ow < 6) (hst : start ≤ 9223372036854775807) (ht : thereB s.N start many = false) :
    Calls Try.prog 5 #[.pointer (some ⟨L.t, 0, none⟩), .int .u8 ow, .int .i64 start, .int .i64 many, .agg #[.string nm, .int .u8 rt.toNat]] w fun e w' => e = .returned (.tuple #[.int .u32 0, .int .i64 2]) ∧ TStp B w w' L s :=
  (alloc_far _ _ _ _ _ h.ok.nb L.ns ow start many nm rt w h.t (Nat.le_refl _) ho hst ht).mono fun e w' q => ⟨q.1, TStp.same h q.2⟩
theorem p_alloc_form (h : Pt B w L s) (ow st k : Nat) (nm : ByteArray) (rt : BitVec 8) (ho : ow < 6) (hk : 1 ≤ k) (hN : st + k ≤ s.N) (hnm : nm.size ≤ 1000) (hr : rightB nm.data.toList rt.toNat = false) :
    Calls Try.prog 5 #[.pointer (some ⟨L.t, 0, none⟩), .int .u8 ow, .int .i64 st, .int .i64 k, .agg #[.string nm, .int .u8 rt.toNat]] w fun e w' => e = .returned (.tuple #[.int .u32 0, .int .i64 3]) ∧ TStp B w w' L s :=
  (alloc_form _ _ _ _ _ h.ok.nb L.ns ow st k nm rt w h.t (Nat.le_refl _) ho st k rfl rfl hk hN hnm hr).mono fun e w' q => ⟨q.1, TStp.same h q.2⟩
theorem p_alloc_busy (h : Pt B w L s) (ow st k : Nat) (nm : ByteArray) (rt : BitVec 8) (ho : ow < 6) (hk : 1 ≤ k) (hN : st + k ≤ s.N) (hnm : nm.size ≤ 1000) (hr : rightB nm.data.toList rt.toNat = true) (hf : ¬ freeX s.l st k) :
    Calls Try.prog 5 #[.pointer (some ⟨L.t, 0, none⟩), .int .u8 ow, .int .i64 st, .int .i64 k, .agg #[.string nm, .int .u8 rt.toNat]] w fun e w' => e = .returned (.tuple #[.int .u32 0, .int .i64 8]) ∧ TStp B w w' L s :=
  (alloc_busy _ _ _ _ _ h.ok.nb L.ns ow st k nm rt w h.t (Nat.le_refl _) ho st k rfl rfl hk hN hnm hr (free_no' h.ok h.ok.nb L.ns h.l _ _ (by omega) (by omega) (by omega) hf)).mono fun e w' q => ⟨q.1, TStp.same h q.2⟩
theorem p_alloc_full (h : Pt B w L s) (ow st k : Nat) (nm : ByteArray) (rt : BitVec 8) (ho : ow < 6) (hk : 1 ≤ k) (hN : st + k ≤ s.N) (hnm : nm.size ≤ 1000) (hr : rightB nm.data.toList rt.toNat = true) (hf : freeX s.l st k) (hlen : 24 ≤ s.l.length) :
    Calls Try.prog 5 #[.pointer (some ⟨L.t, 0, none⟩), .int .u8 ow, .int .i64 st, .int .i64 k, .agg #[.string nm, .int .u8 rt.toNat]] w fun e w' => e = .returned (.tuple #[.int .u32 0, .int .i64 4]) ∧ TStp B w w' L s := by
  obtain ⟨pre, post, c⟩ := cut_x h.ok st k hk hf
  obtain ⟨q, b, y, r, h1, h2, h3, h4⟩ := h.cut c
  have hn := h.nslen
  have := h.ok.len
  have := h.ok.nb
  exact (alloc_full _ _ _ _ _ h.ok.nb L.ns ow st k nm rt w h.t (Nat.le_refl _) ho st k rfl rfl hk hN hnm hr ((free_iff h.ok h.ok.nb L.ns h.l _ _ (by omega) (by omega) (by omega)).2 hf) b y q r h1 h2 (by omega) (by omega) (by omega)).mono fun e w' q => ⟨q.1, TStp.same h q.2⟩
theorem p_alloc (h : Pt B w L s) (hB : B ≤ w.heap.size) (ow st k : Nat) (nm : ByteArray) (rt : BitVec 8) (ho : ow < 6) (hk : 1 ≤ k) (hN : st + k ≤ s.N) (hnm : nm.size ≤ 1000) (hr : rightB nm.data.toList rt.toNat = true) (hf : freeX s.l st k) (hlen : s.l.length < 24) (hlast : s.last < 1000000) (pre post : List Ex) (c : CutX s st k pre post) (hx : st + k ≤ 1000) :
    Calls Try.prog 5 #[.pointer (some ⟨L.t, 0, none⟩), .int .u8 ow, .int .i64 st, .int .i64 k, .agg #[.string nm, .int .u8 rt.toNat]] w fun e w' => e = .returned (.tuple #[.int .u32 (s.last + 1 : Nat), .int .i64 0]) ∧ TStp B w w' L ⟨s.N, pre ++ (nEx ow st k nm rt hx).num (s.last + 1) :: post, s.last + 1⟩ := by
  obtain ⟨q, b, y, r, h1, h2, h3, h4⟩ := h.cut c
  refine (alloc_ok _ _ _ _ _ h.ok.nb L.ns ow st k nm rt w h.t (Nat.le_refl _) ho st k rfl rfl hk hN hnm hr ((free_iff h.ok h.ok.nb L.ns h.l _ _ (by omega) (by omega) (by omega)).2 hf) b y q r h1 h2 hx (by rw [h.nslen]; exact hlen) hlast h.n).mono ?_
  rintro e w' ⟨rfl, d, hA⟩
  refine ⟨rfl, TStp.ins h hB (ok_alloc h.ok c hk hN hx hlen) rfl rfl h2 hA ?_⟩
  rw [show q ++ (b, y) :: (d, (nEx ow st k nm rt hx).num (s.last + 1)) :: r = (q ++ [(b, y)]) ++ (d, (nEx ow st k nm rt hx).num (s.last + 1)) :: r by simp, List.map_append, h4, List.map_cons, h3]
  rfl
theorem p_list (h : Pt B w L s) :
    Calls Try.prog 7 #[.pointer (some ⟨L.t, 0, none⟩)] w fun e w' => ∃ v, e = .returned v ∧ w'.ownsRow w.heap.size 37 6 v s.l.length (exsC s.l) ∧ Below w.heap.size w w' := by
  have hn := h.nslen
  have := h.ok.len
  have := list_any _ _ _ _ _ L.ns (by omega) w h.t (Nat.le_refl _)
  rw [h.l] at this
  exact this
theorem p_owned (h : Pt B w L s) (o : Nat) :
    Calls Try.prog 8 #[.pointer (some ⟨L.t, 0, none⟩), .int .u8 o] w fun e w' => ∃ v, e = .returned v ∧ w'.ownsRow w.heap.size 24 1 v (ownL o s.l).length ((ownL o s.l).map u32V) ∧ Below w.heap.size w w' := by
  have hn := h.nslen
  have := h.ok.len
  have := owned_any _ _ _ _ _ L.ns (by omega) o w h.t (Nat.le_refl _)
  rw [h.l] at this
  exact this
end Go.Proofs.Ytdegjmceeggldaa
