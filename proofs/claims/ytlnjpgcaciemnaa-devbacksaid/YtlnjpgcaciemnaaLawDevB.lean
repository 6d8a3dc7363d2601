/- DevBack: what was written to a sector is read from it. -/
import Derived.Test.YtlnjpgcaciemnaaDevInB
namespace Go.Proofs.Ytlnjpgcaciemnaa
open Go.RowKit Go.Maps
set_option linter.unusedVariables false
set_option maxRecDepth 100000
theorem PSt.len {B : Nat} {w : World} {db sb n mb N : Nat} {v : Value} {z : Sd} (h : PSt B w db sb n mb N v z) : z.L.length = 64 * 32 := by rw [h.m.len]
theorem takeD {ops : Array Oper} {Q : Exit → Act → World → Prop} {S : World → Prop} {i : Nat} {oi : Oper} {v : Value} {fuel : Nat} {listed : Array Bool} {a : Act} {w : World} (d : Option Nat) (hi : ops[i]? = some oi) (hd : oi.dst = d)
    (hs : Region.noSelect ops = true) (hf : Region.free .any ops listed i = true) (hr : (Region.ready .any ops listed).contains i = true)
    (hQ : ∀ c a w, Q (.panic c) (a.put d v) w → Q (.panic c) a w) (hy : YieldsIf Try.prog ops S oi v a) (hS : S w)
    (h : wpAnyH Try.prog .any ops Q S fuel (listed.setIfInBounds i true) (a.put d v) w) : wpAnyH Try.prog .any ops Q S (fuel + 1) listed a w := by
  subst hd
  exact wpAnyH_take hi hs hf hr hQ hy hS h
theorem out_tot (p : Rq → Bool) (Q : List Rq) : Q.length = (outQ p Q).length + (outI p Q).length := by
  induction Q with
  | nil => rfl
  | cons r Q ih =>
    unfold outQ outI at *
    cases hp : p r <;> simp [List.filter, hp] <;> simp only [List.length_map] at ih <;> omega
/-- How many wait, as the disk's block tells. -/
def lenAt (db : Nat) (w : World) : Nat := match w.cell? ⟨db, 0, none⟩ with | some (.slice _ n _) => n | _ => 0
theorem lenAt_of {B : Nat} {w : World} {db sb n : Nat} {S : List Int} {v : Value} {last : Int} {Q : List Rq} (h : Dk B w db sb n S v last Q) : lenAt db w = Q.length := by
  obtain ⟨C, _, c0, _⟩ := h.c
  obtain ⟨a, cap, rfl⟩ := form5 h.own
  unfold lenAt
  rw [c0]
/-- A block of a frame's bytes is none of the program's disk and memory. -/
theorem PSt.not_con {B : Nat} {w : World} {db sb n mb N k : Nat} {v : Value} {z : Sd} {c : Array Value} (h : PSt B w db sb n mb N v z) (er : w.heap[k]? = some (.cells c 71)) : ¬ PX db sb mb v k := by
  intro hk
  rcases hk with e | e | e | e
  · obtain ⟨C, _, e2⟩ := h.d.blk
    rw [e, e2] at er
    injection er with er
    injection er with _ er
    exact absurd er (by decide)
  · obtain ⟨r, e2⟩ := h.d.row
    rw [e, e2] at er
    injection er with er
    injection er with _ er
    exact absurd er (by decide)
  · have e2 := h.m.blk
    rw [e, e2] at er
    injection er with er
    injection er with _ er
    exact absurd er (by decide)
  · obtain ⟨cur, e2⟩ := own_kind h.d.own k e.symm
    rw [e2] at er
    injection er with er
    injection er with _ er
    exact absurd er (by decide)
set_option maxHeartbeats 8000000 in
theorem back_law (v : Value) (l : List Dd) (px py pz c : Int) (w : World) (hd : DdsR w.heap.size w v l) (hpx : 0 ≤ px ∧ px ≤ 255) (hpy : 0 ≤ py ∧ py ≤ 255) (hpz : 0 ≤ pz ∧ pz ≤ 255) (hc : 0 ≤ c ∧ c ≤ 255) : Calls Try.prog 4 #[v, .agg #[.int .u8 px, .int .u8 py, .int .u8 pz], .int .u8 c] w fun e w' => e = .returned (.bool true) ∧ Below w.heap.size w w' := by
  obtain ⟨s, hs⟩ : ∃ s : Nat, px.tmod 5 = (s : Int) := ⟨(px % 5).toNat, by rw [Int.tmod_eq_emod_of_nonneg hpx.1]; omega⟩
  obtain ⟨a, ha⟩ : ∃ a : Nat, py.tmod 4 = (a : Int) := ⟨(py % 4).toNat, by rw [Int.tmod_eq_emod_of_nonneg hpy.1]; omega⟩
  obtain ⟨b, hbb'⟩ : ∃ b : Nat, pz.tmod 4 = (b : Int) := ⟨(pz % 4).toNat, by rw [Int.tmod_eq_emod_of_nonneg hpz.1]; omega⟩
  obtain ⟨co, hco⟩ : ∃ co : Nat, c.tmod 32 = (co : Int) := ⟨(c % 32).toNat, by rw [Int.tmod_eq_emod_of_nonneg hc.1]; omega⟩
  have s5 : s < 5 := by rw [Int.tmod_eq_emod_of_nonneg hpx.1] at hs; omega
  have a4 : a < 4 := by rw [Int.tmod_eq_emod_of_nonneg hpy.1] at ha; omega
  have b4 : b < 4 := by rw [Int.tmod_eq_emod_of_nonneg hpz.1] at hbb'; omega
  have co32 : co < 32 := by rw [Int.tmod_eq_emod_of_nonneg hc.1] at hco; omega
  have wx : IntKind.i64.wrap px = px := by rw [IntKind.wrap_i64]; omega
  have wy : IntKind.i64.wrap py = py := by rw [IntKind.wrap_i64]; omega
  have wz : IntKind.i64.wrap pz = pz := by rw [IntKind.wrap_i64]; omega
  have wc : IntKind.i64.wrap c = c := by rw [IntKind.wrap_i64]; omega
  have hbb : Below w.heap.size w (w.alloc (.cells #[.int .u8 px, .int .u8 py, .int .u8 pz] 33)) := (Below.refl _ w).alloc (Nat.le_refl _) _
  have HBB := Hid3.mk hbb
  have HXB : Hid3 ((w.alloc (.cells #[.int .u8 px, .int .u8 py, .int .u8 pz] 33)).heap[w.heap.size]? = some (.cells #[.int .u8 px, .int .u8 py, .int .u8 pz] 33)) := ⟨heap_alloc_last w _⟩
  have hsb0 : (w.alloc (.cells #[.int .u8 px, .int .u8 py, .int .u8 pz] 33)).heap.size = w.heap.size + 1 := by simp
  have c1 := dplay_any v l (w.alloc (.cells #[.int .u8 px, .int .u8 py, .int .u8 pz] 33)) (by
    obtain ⟨a, cap, e, h1, h2⟩ := hd.below hbb
    exact ⟨a, cap, e, h1, fun j d hj => by
      obtain ⟨⟨ba, bc, q1, q2, q3, q4⟩, g, off, k1, k2, k3⟩ := h2 j d hj
      exact ⟨⟨ba, bc, q1, q2, q3, fun j x hx => by
        obtain ⟨g, off, r1, r2, r3⟩ := q4 j x hx
        exact ⟨g, off, r1, by omega, r3⟩⟩, g, off, k1, by omega, k3⟩⟩)
  clear hd hbb
  go_enter Try.func4, Try.ntmps4
  go_wp2_with fail
  refine c1.mono ?_
  rintro e W1 ⟨db, sb, mb, rb, og, rmb, rg, v1, u1, rfl, hT, hB⟩
  clear c1
  have hX : (W1.alloc (.cells #[.pointer (some ⟨db, 0, none⟩), .pointer (some ⟨mb, 0, none⟩), .pointer (some ⟨rb, 0, none⟩), .pointer (some ⟨rmb, 0, none⟩)] 28)).heap[W1.heap.size]? = some (.cells #[.pointer (some ⟨db, 0, none⟩), .pointer (some ⟨mb, 0, none⟩), .pointer (some ⟨rb, 0, none⟩), .pointer (some ⟨rmb, 0, none⟩)] 28) := heap_alloc_last W1 _
  have hb : Below W1.heap.size W1 (W1.alloc (.cells #[.pointer (some ⟨db, 0, none⟩), .pointer (some ⟨mb, 0, none⟩), .pointer (some ⟨rb, 0, none⟩), .pointer (some ⟨rmb, 0, none⟩)] 28)) := (Below.refl _ W1).alloc (Nat.le_refl _) _
  have hB0 : Below w.heap.size w W1 := (HBB.out.trans (hB.mono HBB.out.size))
  have HT := Hid3.mk (hT.below hb)
  have HB := Hid3.mk (hB0.trans (hb.mono hB0.size))
  have HX := Hid3.mk hX
  have HXB2 : Hid3 ((W1.alloc (.cells #[.pointer (some ⟨db, 0, none⟩), .pointer (some ⟨mb, 0, none⟩), .pointer (some ⟨rb, 0, none⟩), .pointer (some ⟨rmb, 0, none⟩)] 28)).heap[w.heap.size]? = some (.cells #[.int .u8 px, .int .u8 py, .int .u8 pz] 33)) := ⟨(hb.block _ (by have := hB.size; omega)).trans ((hB.block _ (by omega)).trans HXB.out)⟩
  have hn0 : w.heap.size < W1.heap.size := by have := hB.size; omega
  have c2 := dlive_any (W1.alloc (.cells #[.pointer (some ⟨db, 0, none⟩), .pointer (some ⟨mb, 0, none⟩), .pointer (some ⟨rb, 0, none⟩), .pointer (some ⟨rmb, 0, none⟩)] 28))
  have hs1 : W1.heap.size < (W1.alloc (.cells #[.pointer (some ⟨db, 0, none⟩), .pointer (some ⟨mb, 0, none⟩), .pointer (some ⟨rb, 0, none⟩), .pointer (some ⟨rmb, 0, none⟩)] 28)).heap.size := by simp
  have hWs : w.heap.size ≤ W1.heap.size := hB0.size
  have hBs : (w.alloc (.cells #[.int .u8 px, .int .u8 py, .int .u8 pz] 33)).heap.size ≤ W1.heap.size := hB.size
  clear hT hB hB0 hb hX
  go_wp2_with fail
  refine c2.mono ?_
  rintro e W2 ⟨rfl, hB2⟩
  clear c2
  have hX2 := (hB2.block _ hs1).trans HX.out
  have HX2 := Hid3.mk hX2
  have HB2 := Hid3.mk (HB.out.trans (hB2.mono HB.out.size))
  have HT2 := Hid3.mk (HT.out.below hB2)
  have HXB3 := Hid3.mk ((hB2.block _ (by simp; omega)).trans HXB2.out)
  have hs2 : W1.heap.size < W2.heap.size := Nat.lt_of_lt_of_le hs1 hB2.size
  clear hB2 hs1 HT HX HB hX2
  generalize W1.heap.size = b0 at *
  have HP2 := Hid3.mk HT2.out.p
  have HW := Hid3.mk HT2.out.q
  have hlast : (plS z0 (l.take 30)).last ≤ 30 := by
    have := plS_last (l.take 30) z0
    rw [List.length_take] at this
    have h0 : z0.last = 0 := rfl
    omega
  generalize plS z0 (l.take 30) = z at *
  obtain ⟨x0, x1, x2, x3⟩ := b4c HX2.out
  generalize hB1n : (w.alloc (.cells #[.int .u8 px, .int .u8 py, .int .u8 pz] 33)).heap.size = B1 at *
  have hBW : w.heap.size ≤ W2.heap.size := HB2.out.size
  have k0 : W2.cell? ⟨w.heap.size, 0, none⟩ = some (.int .u8 px) := by rw [Lib.cell_of_heap HXB3.out]; rfl
  have k1 : W2.cell? ⟨w.heap.size, 1, none⟩ = some (.int .u8 py) := by rw [Lib.cell_of_heap HXB3.out]; rfl
  have k2 : W2.cell? ⟨w.heap.size, 2, none⟩ = some (.int .u8 pz) := by rw [Lib.cell_of_heap HXB3.out]; rfl
  clear HT2
  go_wp2_with fail
  go_quiet (fail)
  generalize hW2d : W2.drewN _ = W2d at *
  have hbd : Below W2.heap.size W2 W2d := by rw [← hW2d]; exact belowN5 (Below.refl _ W2) _
  have HP2d := Hid3.mk (HP2.out.below hbd)
  have hsd := hbd.size
  have HX2d := Hid3.mk ((hbd.block b0 hs2).trans HX2.out)
  have HB2d := Hid3.mk (HB2.out.trans (hbd.mono hBW))
  obtain ⟨x0', x1', x2', x3'⟩ := b4c HX2d.out
  have cS := setbyte_any mb 4 a co c z.L W2d HP2d.out.m
  have hin : inB 4 (a : Int) (co : Int) 1 = true := by unfold inB; exact decide_eq_true (by omega)
  rw [show inE 4 (a : Int) (co : Int) 1 = 0 by unfold inE; rw [if_pos hin]] at cS
  clear k0 k1 k2 x0 x1 x2 x3 hbd hW2d hs ha hbb' wx wy wz hin
  go_wp2_with fail
  refine cS.mono ?_
  rintro e W3 ⟨rfl, hM3, hO3⟩
  clear cS
  generalize hL1 : sbL 4 z.L (a : Int) (co : Int) c = L1 at *
  have hB1w : w.heap.size + 1 ≤ B1 := by omega
  have HP3 : Hid3 (PSt B1 W3 db sb 5 mb 4 v1 ⟨z.S, L1, z.last, z.Q⟩) := ⟨PSt.mk' (z := ⟨z.S, L1, z.last, z.Q⟩) (HP2d.out.d.stay (Apart.of_only hO3) (fun e => HP2d.out.n1 e.symm) (fun e => HP2d.out.n2 e.symm) (fun g hg e => HP2d.out.n3 (by rw [hg]; exact congrArg some e.symm))) hM3 HP2d.out.mB⟩
  have HX3 := Hid3.mk ((hO3.block b0 (by omega) (fun e => HP2d.out.not_both HX2d.out (.inr (.inr (.inl e))))).trans HX2d.out)
  have HB3 := Hid3.mk (HB2d.out.trans (hO3.below w.heap.size (by have := HP2d.out.mB; omega) HB2d.out.size))
  have hs3 := hO3.size
  have hb03 : b0 < W3.heap.size := by omega
  have hl30 : z.last ≤ 30 := hlast
  have hl0 : 0 ≤ z.last := HP2d.out.d.la.1
  obtain ⟨y0, y1, y2, y3⟩ := b4c HX3.out
  have cF := frame_ok mb a 4 L1 W3 HP3.out.m (by omega)
  obtain ⟨F, hF⟩ : ∃ F, F = frL L1 a := ⟨_, rfl⟩
  rw [show (L1.drop (a * 32)).take 32 = frL L1 a from rfl, ← hF] at cF
  have HF := Hid3.mk hF
  have HZ : Hid3 (z.S.length = 5 * 32 ∧ L1.length = 64 * 32) := ⟨⟨HP3.out.d.len, HP3.out.len⟩⟩
  clear hM3 hO3 hF hL1 x0' x1' x2' x3' hlast hWs hBs hs2 hsd
  go_wp2_with fail
  refine cF.mono ?_
  rintro e W4 ⟨rfl, hC4, hB4⟩
  clear cF
  have HP4 := Hid3.mk (HP3.out.below hB4)
  have HX4 := Hid3.mk ((hB4.block b0 hb03).trans HX3.out)
  have HB4 := Hid3.mk (HB3.out.trans (hB4.mono HB3.out.size))
  have HC4 := Hid3.mk hC4
  have hb04 : b0 < W4.heap.size := Nat.lt_of_lt_of_le hb03 hB4.size
  have hn4 : W3.heap.size < W4.heap.size := (Array.getElem?_eq_some_iff.1 hC4).1
  have hB14 : B1 ≤ W4.heap.size := by have := HP4.out.mB; have := HP4.out.m.lt; omega
  generalize W3.heap.size = bw at *
  clear hC4 hB4 y0 y1 y2 y3
  go_wp2_with fail
  go_loopw [] (fun wr => ∃ (v : Value) (Q : List Rq), Hid3 (PSt B1 wr db sb 5 mb 4 v ⟨z.S, L1, z.last, Q⟩) ∧ Hid3 (wr.heap[b0]? = some (.cells #[.pointer (some ⟨db, 0, none⟩), .pointer (some ⟨mb, 0, none⟩), .pointer (some ⟨rb, 0, none⟩), .pointer (some ⟨rmb, 0, none⟩)] 28)) ∧ Hid3 (wr.heap[bw]? = some (.cells (F.map (Value.int .u8)).toArray 71)) ∧ Hid3 (Below w.heap.size w wr) ∧ W4.heap.size ≤ wr.heap.size) (fun wr => lenAt db wr)
  case atStart => exact ⟨v1, z.Q, HP4, HX4, HC4, HB4, Nat.le_refl _⟩
  case round =>
    obtain ⟨v5, Q, HP, HX, HC, HB, hsr⟩ := hrel
    obtain ⟨x0, x1, x2, x3⟩ := b4c HX.out
    have cW := waiting_any B1 db sb 5 z.S v5 z.last Q wr HP.out.d
    have hmeas := lenAt_of HP.out.d
    by_cases hQ : Q = []
    · subst hQ
      clear hmeas
      simp only [List.length_nil] at cW
      go_wp2_with fail
      refine cW.mono ?_
      rintro e W5 ⟨⟨u5, rfl, hu5⟩, hB5⟩
      clear cW
      obtain ⟨a5, k5, rfl⟩ := form5 hu5
      have hs5 := hB5.size
      have HP5 := Hid3.mk (HP.out.below hB5)
      have HX5 := Hid3.mk ((hB5.block b0 (by omega)).trans HX.out)
      have HC5 := Hid3.mk ((hB5.block bw (by omega)).trans HC.out)
      have HB5 := Hid3.mk (HB.out.trans (hB5.mono HB.out.size))
      obtain ⟨t0, t1, t2, t3⟩ := b4c HX5.out
      have cA := askp_any B1 db sb 5 mb 4 v5 ⟨z.S, L1, z.last, []⟩ 0 true s a 0 W5 HP5.out (by show z.last < 1000000; omega) (by omega)
      have eE : askE 5 ([] : List Rq).length (s : Int) (a : Int) = 0 := by unfold askE; rw [if_pos (by omega), if_pos (by decide)]
      rw [show askN 5 ⟨z.S, L1, z.last, []⟩ (s : Int) (a : Int) = z.last + 1 by unfold askN; rw [if_pos eE], show askE 5 (Sd.mk z.S L1 z.last []).Q.length (s : Int) (a : Int) = 0 from eE, show askS 5 ⟨z.S, L1, z.last, []⟩ (true, (s : Int), (a : Int), 0) = ⟨z.S, L1, z.last + 1, [(z.last + 1, true, (s : Int), (a : Int), 0)]⟩ by unfold askS; simp only; rw [if_pos eE]; rfl] at cA
      have hsz5 : W4.heap.size ≤ W5.heap.size := by omega
      clear hu5 hB5 x0 x1 x2 x3 eE HP HX HC HB hsr hs5
      go_wp2_with fail
      refine cA.mono ?_
      rintro e W6 ⟨rfl, v6, hp6, ha6, ho6⟩
      clear cA
      have hs6 := ha6.size
      have HP6 := Hid3.mk hp6
      have HX6 := Hid3.mk ((ha6.block b0 (by omega) (HP5.out.not_both HX5.out)).trans HX5.out)
      have HC6 := Hid3.mk ((ha6.block bw (by omega) (HP5.out.not_con HC5.out)).trans HC5.out)
      have HB6 := Hid3.mk (HB5.out.trans ((PStp.bel HP5.out ⟨v6, hp6, ha6, ho6⟩ (by omega)).mono (by omega)))
      obtain ⟨t0', t1', t2', t3'⟩ := b4c HX6.out
      have cA := askp_any B1 db sb 5 mb 4 v6 ⟨z.S, L1, z.last + 1, [(z.last + 1, true, (s : Int), (a : Int), 0)]⟩ 0 false s b 0 W6 hp6 (by show z.last + 1 < 1000000; omega) (by omega)
      have eE : askE 5 1 (s : Int) (b : Int) = 0 := by unfold askE; rw [if_pos (by omega), if_pos (by decide)]
      rw [show askN 5 ⟨z.S, L1, z.last + 1, [(z.last + 1, true, (s : Int), (a : Int), 0)]⟩ (s : Int) (b : Int) = z.last + 1 + 1 by unfold askN; exact if_pos eE, show askE 5 (Sd.mk z.S L1 (z.last + 1) [(z.last + 1, true, (s : Int), (a : Int), 0)]).Q.length (s : Int) (b : Int) = 0 from eE, show askS 5 ⟨z.S, L1, z.last + 1, [(z.last + 1, true, (s : Int), (a : Int), 0)]⟩ (false, (s : Int), (b : Int), 0) = ⟨z.S, L1, z.last + 1 + 1, [(z.last + 1, true, (s : Int), (a : Int), 0), (z.last + 1 + 1, false, (s : Int), (b : Int), 0)]⟩ by unfold askS; exact (if_pos eE).trans rfl] at cA
      clear hp6 ha6 ho6 eE t0 t1 t2 t3 HP5 HX5 HC5 HB5
      go_wp2_with fail
      refine cA.mono ?_
      rintro e W7 ⟨rfl, v7, hp7, ha7, ho7⟩
      clear cA
      have hs7 := ha7.size
      have HP7 := Hid3.mk hp7
      have HX7 := Hid3.mk ((ha7.block b0 (by omega) (HP6.out.not_both HX6.out)).trans HX6.out)
      have HC7 := Hid3.mk ((ha7.block bw (by omega) (HP6.out.not_con HC6.out)).trans HC6.out)
      have HB7 := Hid3.mk (HB6.out.trans ((PStp.bel HP6.out ⟨v7, hp7, ha7, ho7⟩ (by omega)).mono (by omega)))
      obtain ⟨t0, t1, t2, t3⟩ := b4c HX7.out
      have hw1 : Wq 5 (z.last + 1) [((z.last + 1, true, (s : Int), (a : Int), 0) : Rq)] := (Wq.nil 5 z.last).snoc (z.last + 1, true, (s : Int), (a : Int), 0) hl0 rfl ⟨by simp only; omega, by simp only; omega⟩ ⟨by simp only; omega, by simp only; omega⟩
      have hw2 : Wq 5 (z.last + 1 + 1) [((z.last + 1, true, (s : Int), (a : Int), 0) : Rq), (z.last + 1 + 1, false, (s : Int), (b : Int), 0)] := hw1.snoc (z.last + 1 + 1, false, (s : Int), (b : Int), 0) (by omega) rfl ⟨by simp only; omega, by simp only; omega⟩ ⟨by simp only; omega, by simp only; omega⟩
      have hw3 : Wq 5 (z.last + 1 + 1) [((z.last + 1 + 1, false, (s : Int), (b : Int), 0) : Rq)] := hw2.sub (List.sublist_cons_self _ _)
      have cD := dlvp_any B1 db sb 5 mb 4 v7 ⟨z.S, L1, z.last + 1 + 1, [(z.last + 1, true, (s : Int), (a : Int), 0), (z.last + 1 + 1, false, (s : Int), (b : Int), 0)]⟩ 0 W7 hp7 hw2
      obtain ⟨S2, hS2⟩ : ∃ S2, S2 = putL z.S (s * 32) F := ⟨_, rfl⟩
      obtain ⟨L3, hL3⟩ : ∃ L3, L3 = putL L1 (b * 32) F := ⟨_, rfl⟩
      have hlF : F.length = 32 := by rw [HF.out]; exact frL_lenS HZ.out.2 (by omega)
      have eS2 : frL S2 s = F := by rw [hS2]; exact frL_put_same HZ.out.1 s5 hlF
      have eL3 : frL L3 b = F := by rw [hL3]; exact frL_put_same HZ.out.2 (by omega) hlF
      have d1 : dlS 4 ⟨z.S, L1, z.last + 1 + 1, [(z.last + 1, true, (s : Int), (a : Int), 0), (z.last + 1 + 1, false, (s : Int), (b : Int), 0)]⟩ 0 = ⟨S2, L1, z.last + 1 + 1, [(z.last + 1 + 1, false, (s : Int), (b : Int), 0)]⟩ := by
        show Sd.mk (mvS z.S L1 true ((s : Int)).toNat (a : Int) 4) (mvL z.S L1 true ((s : Int)).toNat (a : Int) 4) _ _ = _
        unfold mvS mvL
        rw [if_pos ⟨by omega, rfl⟩, if_neg (fun c => by cases c.2), Int.toNat_natCast, Int.toNat_natCast, ← HF.out, ← hS2]
        rfl
      have d1e : dlE 4 ⟨z.S, L1, z.last + 1 + 1, [(z.last + 1, true, (s : Int), (a : Int), 0), (z.last + 1 + 1, false, (s : Int), (b : Int), 0)]⟩ 0 = 0 := by
        show (if (a : Int) < ((4 : Nat) : Int) then (0 : Int) else 10) = 0
        rw [if_pos (by omega)]
      have d1r : dlR ⟨z.S, L1, z.last + 1 + 1, [(z.last + 1, true, (s : Int), (a : Int), 0), (z.last + 1 + 1, false, (s : Int), (b : Int), 0)]⟩ 0 = (z.last + 1, true, (s : Int), (a : Int), 0) := rfl
      rw [d1, d1e, d1r] at cD
      have d2 : dlS 4 ⟨S2, L1, z.last + 1 + 1, [(z.last + 1 + 1, false, (s : Int), (b : Int), 0)]⟩ 0 = ⟨S2, L3, z.last + 1 + 1, []⟩ := by
        show Sd.mk (mvS S2 L1 false ((s : Int)).toNat (b : Int) 4) (mvL S2 L1 false ((s : Int)).toNat (b : Int) 4) _ _ = _
        unfold mvS mvL
        rw [if_neg (fun c => by cases c.2), if_pos ⟨by omega, rfl⟩, Int.toNat_natCast, Int.toNat_natCast, eS2, ← hL3]
        rfl
      have d2e : dlE 4 ⟨S2, L1, z.last + 1 + 1, [(z.last + 1 + 1, false, (s : Int), (b : Int), 0)]⟩ 0 = 0 := by
        show (if (b : Int) < ((4 : Nat) : Int) then (0 : Int) else 10) = 0
        rw [if_pos (by omega)]
      have d2r : dlR ⟨S2, L1, z.last + 1 + 1, [(z.last + 1 + 1, false, (s : Int), (b : Int), 0)]⟩ 0 = (z.last + 1 + 1, false, (s : Int), (b : Int), 0) := rfl
      have cE := Hid3.mk (fun (W : World) (v : Value) (hp : PSt B1 W db sb 5 mb 4 v ⟨S2, L1, z.last + 1 + 1, [(z.last + 1 + 1, false, (s : Int), (b : Int), 0)]⟩) => dlvp_any B1 db sb 5 mb 4 v _ 0 W hp hw3)
      rw [d2, d2e, d2r] at cE
      have HD := Hid3.mk (And.intro eS2 eL3)
      have hwl : IntKind.u32.wrap (z.last + 1 + 1) = z.last + 1 + 1 := by simp only [IntKind.wrap, IntKind.signed, IntKind.bits]; simp; omega
      clear hp7 ha7 ho7 t0' t1' t2' t3' HP6 HX6 HC6 HB6 hw1 hw2 hw3 hS2 hL3 eS2 eL3 d1 d1e d1r d2 d2e d2r
      unfold rqV at cD cE
      simp only at cD cE
      generalize z.last + 1 = n1 at *
      go_wp2_with fail
      refine cD.mono ?_
      rintro e W8 ⟨rfl, v8, hp8, ha8, ho8⟩
      clear cD
      have hs8 := ha8.size
      have hx8 := (ha8.block b0 (by omega) (HP7.out.not_both HX7.out)).trans HX7.out
      have hc8 := (ha8.block bw (by omega) (HP7.out.not_con HC7.out)).trans HC7.out
      have hB8 := HB7.out.trans ((PStp.bel HP7.out ⟨v8, hp8, ha8, ho8⟩ (by omega)).mono (by omega))
      have hba : Below W8.heap.size W8 (W8.alloc (.cells #[.int .u32 n1, .bool true, .int .i64 s, .int .i64 a, .int .u8 0] 45)) := (Below.refl _ W8).alloc (Nat.le_refl _) _
      have HP8 := Hid3.mk (hp8.below hba)
      have HX8 := Hid3.mk ((hba.block b0 (by omega)).trans hx8)
      have HC8 := Hid3.mk ((hba.block bw (by omega)).trans hc8)
      have HB8 := Hid3.mk (hB8.trans (hba.mono hB8.size))
      obtain ⟨t0', t1', t2', t3'⟩ := b4c HX8.out
      have cD := cE.out _ v8 HP8.out
      clear hp8 ha8 ho8 hx8 hc8 hB8 t0 t1 t2 t3 HP7 HX7 HC7 HB7 cE
      have hs9 := hba.size
      clear hba
      go_wp2_with fail
      generalize (W8.alloc (.cells #[.int .u32 n1, .bool true, .int .i64 s, .int .i64 a, .int .u8 0] 45)) = W8a at *
      refine cD.mono ?_
      rintro e W9 ⟨rfl, v9, hp9, ha9, ho9⟩
      clear cD
      have hs10 := ha9.size
      have hx9 := (ha9.block b0 (by omega) (HP8.out.not_both HX8.out)).trans HX8.out
      have hc9 := (ha9.block bw (by omega) (HP8.out.not_con HC8.out)).trans HC8.out
      have hB9 := HB8.out.trans ((PStp.bel HP8.out ⟨v9, hp9, ha9, ho9⟩ (by omega)).mono (by omega))
      have hba : Below W9.heap.size W9 (W9.alloc (.cells #[.int .u32 (n1 + 1), .bool false, .int .i64 s, .int .i64 b, .int .u8 0] 45)) := (Below.refl _ W9).alloc (Nat.le_refl _) _
      have HP9 := Hid3.mk (hp9.below hba)
      have HX9 := Hid3.mk ((hba.block b0 (by omega)).trans hx9)
      have HC9 := Hid3.mk ((hba.block bw (by omega)).trans hc9)
      have HB9 := Hid3.mk (hB9.trans (hba.mono hB9.size))
      obtain ⟨t0, t1, t2, t3⟩ := b4c HX9.out
      have hs11 := hba.size
      have cF := frame_ok mb b 4 L3 _ HP9.out.m (by omega)
      rw [show (L3.drop (b * 32)).take 32 = frL L3 b from rfl, HD.out.2] at cF
      clear hp9 ha9 ho9 hx9 hc9 hB9 hba t0' t1' t2' t3' HP8 HX8 HC8 HB8
      go_wp2_with fail
      generalize (W9.alloc (.cells #[.int .u32 (n1 + 1), .bool false, .int .i64 s, .int .i64 b, .int .u8 0] 45)) = W9a at *
      refine cF.mono ?_
      rintro e Wa ⟨rfl, hCa, hBa⟩
      clear cF
      have hsa := hBa.size
      have HPa := Hid3.mk (HP9.out.below hBa)
      have HXa := Hid3.mk ((hBa.block b0 (by omega)).trans HX9.out)
      have HCa := Hid3.mk (And.intro ((hBa.block bw (by omega)).trans HC9.out) hCa)
      have HBa := Hid3.mk (HB9.out.trans (hBa.mono HB9.out.size))
      obtain ⟨t0', t1', t2', t3'⟩ := b4c HXa.out
      have cS := sector_ok B1 db sb 5 s S2 v9 _ _ Wa HPa.out.d s5
      rw [HD.out.1] at cS
      have hla : W9a.heap.size < Wa.heap.size := (Array.getElem?_eq_some_iff.1 hCa).1
      clear hCa hBa t0 t1 t2 t3 HP9 HX9 HC9 HB9
      go_wp2_with fail
      refine cS.mono ?_
      rintro e Wb ⟨⟨ub, rfl, hub⟩, hBb⟩
      clear cS
      have hlF : F.length = 32 := by rw [HF.out]; exact frL_lenS HZ.out.2 (by omega)
      have tx : ∀ g, Wb.heap[g]? = some (.cells (F.map (Value.int .u8)).toArray 71) → Txt Wb (.slice (some ⟨g, 0, none⟩) 32 32) (strOfNums F) := fun g hg => Txt.of_cells Wb g 0 32 32 F hlF (fun i hi => by
        rw [Nat.zero_add, cell_of_row Wb g i _ _ _ hg, List.getElem?_toArray, List.getElem?_map, List.getD_eq_getElem?_getD, List.getElem?_eq_getElem (by omega)]
        rfl)
      have k1 := tx bw ((hBb.block bw (by omega)).trans HCa.out.1) Wb (Below.refl _ _)
      have k2 := tx W9a.heap.size ((hBb.block _ hla).trans HCa.out.2) Wb (Below.refl _ _)
      have k3 := Txt.of_own hub Wb (Below.refl _ _)
      have HBb := Hid3.mk (HBa.out.trans (hBb.mono HBa.out.size))
      clear hub hBb tx hlF
      go_wp2
      go_ret
      exact ⟨rfl, HBb.out⟩
    · have hQl : 0 < Q.length := List.length_pos_iff.2 hQ
      have hQz : (0 : Int) < (Q.length : Int) := by omega
      have hm : Q[0]? = some Q[0] := List.getElem?_eq_getElem hQl
      go_wp2_with fail
      refine cW.mono ?_
      rintro e W5 ⟨⟨u5, rfl, hu5⟩, hB5⟩
      clear cW
      obtain ⟨a5, k5, rfl⟩ := form5 hu5
      have hs5 := hB5.size
      have hb5d : Below wr.heap.size wr W5.drew := hB5.drew
      have HP5 := Hid3.mk (HP.out.below hb5d)
      have HX5 := Hid3.mk ((hb5d.block b0 (by omega)).trans HX.out)
      have HC5 := Hid3.mk ((hb5d.block bw (by omega)).trans HC.out)
      have HB5 := Hid3.mk (HB.out.trans (hb5d.mono HB.out.size))
      have hS0 : Hid3 (W5.drew.cell? ⟨b0, 0, none⟩ = some (.pointer (some ⟨db, 0, none⟩))) := ⟨(b4c HX5.out).1⟩
      have HSb : Hid3 (∀ W : World, W.heap[b0]? = some (.cells #[.pointer (some ⟨db, 0, none⟩), .pointer (some ⟨mb, 0, none⟩), .pointer (some ⟨rb, 0, none⟩), .pointer (some ⟨rmb, 0, none⟩)] 28) → W.cell? ⟨b0, 0, none⟩ = some (.pointer (some ⟨db, 0, none⟩))) := ⟨fun W e => (b4c e).1⟩
      have cW := waiting_any B1 db sb 5 z.S v5 z.last Q W5.drew HP5.out.d
      have hsd5 : W5.drew.heap.size = W5.heap.size := rfl
      have hids : Hid3 (∀ o, Q[0].2.2.2.2 = o → 0 < (outI (fun r : Rq => decide (r.2.2.2.2 = o)) Q).length) := ⟨fun o ho => by
        unfold outI
        rw [List.length_map]
        exact List.length_pos_of_mem (List.mem_filter.2 ⟨List.getElem_mem hQl, decide_eq_true ho⟩)⟩
      have htot : Hid3 (∀ p, Q.length = (outQ p Q).length + (outI p Q).length) := ⟨fun p => out_tot p Q⟩
      have HM := Hid3.mk hm
      clear hu5 hB5 hb5d x0 x1 x2 x3 hm
      generalize Q[0] = q at *
      obtain ⟨q0, q1, q2, q3, q4⟩ := q
      go_wp2_with fail
      refine wp_region_held_drew (S := (fun w' => w'.cell? ⟨b0, 0, none⟩ = some (.pointer (some ⟨db, 0, none⟩)))) (by kernel_rfl) hS0.out (fun hHeld => ?_)
      refine takeD (i := 0) (v := ?v0) (some 69) rfl rfl (by kernel_rfl) (by kernel_rfl) (by kernel_rfl) (fun _ _ _ h => h) (Or.inl ⟨by rfl, ?hy0⟩) (by assumption) ?_
      case hy0 => (intro w' hSw; (try dsimp only at hSw); go_simp; try (with_reducible rfl))
      simp only [Act.put, List.setIfInBounds_toArray, List.set_cons_zero, List.set_cons_succ]
      refine takeD (i := 1) (v := ?v1) (some 70) rfl rfl (by kernel_rfl) (by kernel_rfl) (by kernel_rfl) (fun _ _ _ h => h) (Or.inl ⟨by rfl, ?hy1⟩) (by assumption) ?_
      case hy1 => (intro w' hSw; (try dsimp only at hSw); go_simp; try (with_reducible rfl))
      simp only [Act.put, List.setIfInBounds_toArray, List.set_cons_zero, List.set_cons_succ]
      refine takeD (i := 2) (v := ?v2) (some 71) rfl rfl (by kernel_rfl) (by kernel_rfl) (by kernel_rfl) (fun _ _ _ h => h) (Or.inl ⟨by rfl, ?hy2⟩) (by assumption) ?_
      case hy2 => (intro w' hSw; (try dsimp only at hSw); go_simp; try (with_reducible rfl))
      simp only [Act.put, List.setIfInBounds_toArray, List.set_cons_zero, List.set_cons_succ]
      refine takeD (i := 3) (v := ?v3) (some 72) rfl rfl (by kernel_rfl) (by kernel_rfl) (by kernel_rfl) (fun _ _ _ h => h) (Or.inl ⟨by rfl, ?hy3⟩) (by assumption) ?_
      case hy3 => (intro w' hSw; (try dsimp only at hSw); go_simp; try (with_reducible rfl))
      simp only [Act.put, List.setIfInBounds_toArray, List.set_cons_zero, List.set_cons_succ]
      refine wpAnyH_ready (rs := [4]) (by kernel_rfl) (by simp) (AllReadyH.cons rfl (fun K hK => ?_) AllReadyH.nil)
      go_simp
      with_reducible refine cW.mono ?_
      rintro e W6 ⟨⟨u6, rfl, hu6⟩, hB6⟩
      have hR6 := RqS.of_own hu6 (fun _ => False) (fun _ _ _ e => e)
      obtain ⟨a6, k6, rfl⟩ := form5 hu6
      obtain ⟨g6, rfl, _, f0, f1, f2, f3, f4⟩ := hR6.at 0 _ HM.out
      simp only [Nat.zero_mul, Nat.zero_add] at f0 f1 f2 f3 f4
      have hs6 := hB6.size
      have hx6 := (hB6.block b0 (by omega)).trans HX5.out
      have hSP := Hid3.mk (HSb.out W6 hx6)
      have HX6 := Hid3.mk hx6
      have HP6 := Hid3.mk (HP5.out.below hB6)
      have HC6 := Hid3.mk ((hB6.block bw (by omega)).trans HC5.out)
      have HB6 := Hid3.mk (HB5.out.trans (hB6.mono HB5.out.size))
      have cD := dropp_any B1 db sb 5 mb 4 v5 ⟨z.S, L1, z.last, Q⟩ q4 W6 HP6.out (by omega)
      clear hu6 hB6 hR6 hx6
      refine hK.out _ _ hSP.out (fun hHeld2 => ?_)
      clear hK K hHeld
      have hHeld := hHeld2
      clear hHeld2
      try simp only [Act.put, List.setIfInBounds_toArray, List.set_cons_zero, List.set_cons_succ]
      refine takeD (i := 5) (v := ?v5) (some 74) rfl rfl (by kernel_rfl) (by kernel_rfl) (by kernel_rfl) (fun _ _ _ h => h) (Or.inl ⟨by rfl, ?hy5⟩) (by assumption) ?_
      case hy5 => (intro w' hSw; (try dsimp only at hSw); go_simp; try (with_reducible rfl))
      simp only [Act.put, List.setIfInBounds_toArray, List.set_cons_zero, List.set_cons_succ]
      refine takeD (i := 6) (v := ?v6) (some 75) rfl rfl (by kernel_rfl) (by kernel_rfl) (by kernel_rfl) (fun _ _ _ h => h) (Or.inl ⟨by rfl, ?hy6⟩) (by assumption) ?_
      case hy6 => (intro w' hSw; (try dsimp only at hSw); go_simp; try (with_reducible rfl))
      simp only [Act.put, List.setIfInBounds_toArray, List.set_cons_zero, List.set_cons_succ]
      refine wpAnyH_ready (rs := [7]) (by kernel_rfl) (by simp) (AllReadyH.cons rfl (fun K hK => ?_) AllReadyH.nil)
      go_simp
      refine hK.out _ _ hSP.out (fun hHeld2 => ?_)
      clear hK K hHeld
      have hHeld := hHeld2
      clear hHeld2
      try simp only [Act.put, List.setIfInBounds_toArray, List.set_cons_zero, List.set_cons_succ]
      refine wpAnyH_ready (rs := [8]) (by kernel_rfl) (by simp) (AllReadyH.cons rfl (fun K hK => ?_) AllReadyH.nil)
      go_simp
      with_reducible refine cD.mono ?_
      rintro e W7 ⟨⟨u7, rfl, hu7⟩, v7, hp7, ha7, ho7⟩
      obtain ⟨a7, k7, rfl, _⟩ := IdS.of_own hu7
      have hs7 := ha7.size
      have hx7 := (ha7.block b0 (by omega) (HP6.out.not_both HX6.out)).trans HX6.out
      have hSQ := Hid3.mk (HSb.out W7 hx7)
      refine hK.out _ _ hSQ.out (fun hHeld2 => ?_)
      clear hK K hHeld
      have hHeld := hHeld2
      clear hHeld2
      refine takeD (i := 9) (v := ?v9) (some 78) rfl rfl (by kernel_rfl) (by kernel_rfl) (by kernel_rfl) (fun _ _ _ h => h) (Or.inl ⟨by rfl, ?hy9⟩) (by assumption) ?_
      case hy9 => (intro w' hSw; (try dsimp only at hSw); go_simp; try (with_reducible rfl))
      simp only [Act.put, List.setIfInBounds_toArray, List.set_cons_zero, List.set_cons_succ]
      refine takeD (i := 10) (v := ?v10) (some 79) rfl rfl (by kernel_rfl) (by kernel_rfl) (by kernel_rfl) (fun _ _ _ h => h) (Or.inl ⟨by rfl, ?hy10⟩) (by assumption) ?_
      case hy10 => (intro w' hSw; (try dsimp only at hSw); go_simp; try (with_reducible rfl))
      simp only [Act.put, List.setIfInBounds_toArray, List.set_cons_zero, List.set_cons_succ]
      refine wpAnyH_done (by kernel_rfl) ?_ _
      all_goals
        have hi7 := hids.out q4 rfl
        have ht7 := htot.out (fun r : Rq => decide (r.2.2.2.2 = q4))
        have HX7 := Hid3.mk hx7
        have HC7 := Hid3.mk ((ha7.block bw (by omega) (HP6.out.not_con HC6.out)).trans HC6.out)
        have HB7 := Hid3.mk (HB6.out.trans ((PStp.bel HP6.out ⟨v7, hp7, ha7, ho7⟩ (by omega)).mono (by omega)))
        have HP7 := Hid3.mk hp7
        have hm7 : lenAt db W7 = (outQ (fun r : Rq => decide (r.2.2.2.2 = q4)) Q).length := lenAt_of hp7.d
        clear hu7 hp7 ha7 ho7 hx7 cW cD hids htot hS0 hSP hSQ HSb f0 f1 f2 f3 f4
        generalize outI (fun r : Rq => decide (r.2.2.2.2 = q4)) Q = ids at *
        generalize outQ (fun r : Rq => decide (r.2.2.2.2 = q4)) Q = Q7 at *
        have hne : ((ids.length : Int) == 0) = false := beq_eq_false_iff_ne.2 (by omega)
        go_wp2
        go_roundw
        case rel => exact ⟨v7, Q7, HP7, HX7, HC7, HB7, by omega⟩
        case measure => rw [hm7, hmeas]; omega
end Go.Proofs.Ytlnjpgcaciemnaa
