/- The bytes of instructions: the program. -/
import Derived.Test.YteoappoacapdhaaDoorIsaQ
import Derived.Laws.BytesArg
import Derived.Lib.AppendStr
namespace Go.Proofs.YteoappoacapdhaaDoor
open Go.RowKit
set_option linter.unusedVariables false

def bytV (x : UInt8) : Value := .int .u8 (x.toNat : Int)
/-- A slice holds these bytes. -/
def Bts (w : World) (v : Value) (bs : List UInt8) : Prop := ∃ a cap, v = .slice a bs.length cap ∧ bs.length ≤ cap ∧ cap ≤ maxLen ∧ ∀ j x, bs[j]? = some x → ∃ g off, a = some ⟨g, off, none⟩ ∧ w.cell? ⟨g, off + j, none⟩ = some (.int .u8 (x.toNat : Int))
theorem Bts.below {w w' : World} {v : Value} {bs : List UInt8} {B : Nat} (h : Bts w v bs) (hb : Below B w w') (hB : w.heap.size ≤ B) : Bts w' v bs := by
  obtain ⟨a, cap, rfl, hcap, hm, hc⟩ := h
  refine ⟨a, cap, rfl, hcap, hm, fun j x hx => ?_⟩
  obtain ⟨g, off, e, hcell⟩ := hc j x hx
  exact ⟨g, off, e, (hb.cell (p := ⟨g, off + j, none⟩) (Nat.lt_of_lt_of_le (World.block_lt_of_cell? _ _ hcell) hB)).trans hcell⟩
theorem Bts.nil (w : World) : Bts w (.slice none 0 0) [] := ⟨none, 0, rfl, Nat.le_refl _, Nat.zero_le _, fun j x h => by cases h⟩
theorem Bts.of_own {w : World} {base : Nat} {v : Value} {n : Nat} {bs : List UInt8} (h : w.ownsRow base 5 1 v n (bs.map bytV)) : Bts w v bs := by
  have hn : n = bs.length := by have := h.1; simpa using this.symm
  subst hn
  rcases h.2 with ⟨rfl, h0⟩ | ⟨g, cap, cur, rfl, _, hb, hk, hm, _, htk⟩
  · obtain rfl : bs = [] := List.eq_nil_of_length_eq_zero h0
    exact Bts.nil w
  · refine ⟨_, cap, rfl, hk, hm, fun j x hx => ⟨g, 0, rfl, ?_⟩⟩
    have h1 : (List.take (bs.length * 1) cur.toList)[j]? = some (bytV x) := by rw [htk, List.getElem?_map, hx]; rfl
    have hj : j < bs.length := (List.getElem?_eq_some_iff.1 hx).1
    rw [List.getElem?_take, if_pos (by omega)] at h1
    simp only [Nat.zero_add, World.cell?, hb]
    simpa [bytV] using h1
/-- A slice holds these instructions. -/
def Inss (w : World) (v : Value) (l : List (Int × Int × Int × Int)) : Prop := ∃ a cap, v = .slice a l.length cap ∧ ∀ j i, l[j]? = some i → ∃ g off, a = some ⟨g, off, none⟩ ∧ w.cell? ⟨g, off + j * 4, none⟩ = some (.int .u8 i.1) ∧ w.cell? ⟨g, off + j * 4 + 1, none⟩ = some (.int .u8 i.2.1) ∧ w.cell? ⟨g, off + j * 4 + 2, none⟩ = some (.int .u8 i.2.2.1) ∧ w.cell? ⟨g, off + j * 4 + 3, none⟩ = some (.int .u16 i.2.2.2)
theorem Inss.below {w w' : World} {v : Value} {l : List (Int × Int × Int × Int)} {B : Nat} (h : Inss w v l) (hb : Below B w w') (hB : w.heap.size ≤ B) : Inss w' v l := by
  obtain ⟨a, cap, rfl, hc⟩ := h
  refine ⟨a, cap, rfl, fun j i hi => ?_⟩
  obtain ⟨g, off, e, c0, c1, c2, c3⟩ := hc j i hi
  have hlt : g < B := Nat.lt_of_lt_of_le (World.block_lt_of_cell? _ _ c0) hB
  exact ⟨g, off, e, (hb.cell (p := ⟨g, off + j * 4, none⟩) hlt).trans c0, (hb.cell (p := ⟨g, off + j * 4 + 1, none⟩) hlt).trans c1, (hb.cell (p := ⟨g, off + j * 4 + 2, none⟩) hlt).trans c2, (hb.cell (p := ⟨g, off + j * 4 + 3, none⟩) hlt).trans c3⟩
theorem own_bel {w w' : World} {B base n size : Nat} {e : TypeId} {v : Value} {xs : List Value} (h : w.ownsRow base e size v n xs) (hb : Below B w w') (hB : w.heap.size ≤ B) : w'.ownsRow base e size v n xs := by
  refine ⟨h.1, ?_⟩
  rcases h.2 with h0 | ⟨g, cap, cur, hv, hg, hbk, rest⟩
  · exact .inl h0
  · exact .inr ⟨g, cap, cur, hv, hg, (hb.block g (Nat.lt_of_lt_of_le (Array.getElem?_eq_some_iff.1 hbk).1 hB)).trans hbk, rest⟩
theorem enc_cells (o a b m : Int) (hO : InsOk o a b m) (hR : insR o a b m = true) : (encL o a b m).map bytV = [.int .u8 o, .int .u8 (a * 16 + b), .int .u8 (m / 256), .int .u8 (m % 256)] := by
  obtain ⟨⟨r1, r2, r3⟩, _⟩ := (insR_iff o a b m).1 hR
  obtain ⟨o1, o2, a1, a2, b1, b2, m1, m2⟩ := hO
  have e1 := ofNat_toNat8 o.toNat (by omega)
  have e2 := ofNat_toNat8 (a * 16 + b).toNat (by omega)
  have e3 := ofNat_toNat8 (m / 256).toNat (by omega)
  have e4 := ofNat_toNat8 (m % 256).toNat (by omega)
  simp only [encL, List.map_cons, List.map_nil, bytV, e1, e2, e3, e4]
  rw [show ((o.toNat : Nat) : Int) = o by omega, show (((a * 16 + b).toNat : Nat) : Int) = a * 16 + b by omega, show (((m / 256).toNat : Nat) : Int) = m / 256 by omega, show (((m % 256).toNat : Nat) : Int) = m % 256 by omega]
theorem or_low (a b : Int) (a1 : 0 ≤ a) (a2 : a < 8) (b1 : 0 ≤ b) (b2 : b < 8) : bits BinOp.or IntKind.u8 (a * 16) b = a * 16 + b :=
  bits_join .u8 8 (by decide) (fun n g1 g2 => by rw [u8w]; omega) 4 _ _ (by omega) (by omega) (by omega) b1 (by omega) (by omega)
theorem cell_four_new (w : World) (x y z u : Value) (t : TypeId) : ∀ j v, [x, y, z, u][j]? = some v → (w.alloc (.cells #[x, y, z, u] t)).cell? ((⟨w.heap.size, 0, none⟩ : Addr).add j) = some v := by
  intro j v hj
  have h := World.alloc_heap_new w (.cells #[x, y, z, u] t)
  match j, hj with
  | 0, hj => simp at hj; subst hj; rw [show ((⟨w.heap.size, 0, none⟩ : Addr).add 0) = ⟨w.heap.size, 0, none⟩ from rfl, Lib.cell_of_heap h]; rfl
  | 1, hj => simp at hj; subst hj; rw [show ((⟨w.heap.size, 0, none⟩ : Addr).add 1) = ⟨w.heap.size, 1, none⟩ from rfl, Lib.cell_of_heap h]; rfl
  | 2, hj => simp at hj; subst hj; rw [show ((⟨w.heap.size, 0, none⟩ : Addr).add 2) = ⟨w.heap.size, 2, none⟩ from rfl, Lib.cell_of_heap h]; rfl
  | 3, hj => simp at hj; subst hj; rw [show ((⟨w.heap.size, 0, none⟩ : Addr).add 3) = ⟨w.heap.size, 3, none⟩ from rfl, Lib.cell_of_heap h]; rfl
  | n + 4, hj => simp at hj
theorem infoB : (Tryd.prog.info? 5).map (fun i => (i.zero, i.size, i.bytes)) = some (some (.int .u8 0), 1, 1) := by kernel_rfl
/-- Bytes and an error, as they are handed back. -/
def BytP (ok : Bool) (bs : List UInt8) (e : Ending) (w : World) : Prop := ∃ b, e = .returned (.tuple #[b, .int .i64 (if ok then 0 else 3)]) ∧ Bts w b (if ok then bs else [])
set_option maxHeartbeats 4000000 in
set_option maxRecDepth 100000 in
theorem icode_any (v : Value) (l : List (Int × Int × Int × Int)) (w : World) (hl : Inss w v l) (hL : l.length ≤ 100000) (hO : ∀ i ∈ l, InsOk4 i) :
    Calls Tryd.prog 16 #[v] w fun e w' => BytP (l.all insR4) (codeL l) e w' ∧ Below w.heap.size w w' := by
  obtain ⟨i0, hi, hz0, hz1, hz2⟩ := info_parts infoB
  obtain ⟨ao, cap, rfl, hc⟩ := hl
  have HC : Hid (∀ (j : Nat) (i : Int × Int × Int × Int), l[j]? = some i → ∃ g off, ao = some ⟨g, off, none⟩ ∧ w.cell? ⟨g, off + j * 4, none⟩ = some (.int .u8 i.1) ∧ w.cell? ⟨g, off + j * 4 + 1, none⟩ = some (.int .u8 i.2.1) ∧ w.cell? ⟨g, off + j * 4 + 2, none⟩ = some (.int .u8 i.2.2.1) ∧ w.cell? ⟨g, off + j * 4 + 3, none⟩ = some (.int .u16 i.2.2.2)) := hc
  have HO : Hid (∀ i ∈ l, InsOk4 i) := hO
  clear hc hO
  go_enter Tryd.func16, Tryd.ntmps16
  go_wp2
  go_loopw [4, 10] (fun b i wr => ∃ k : Nat, k ≤ l.length ∧ i = .int .i64 k ∧ (l.take k).all insR4 = true ∧ wr.ownsRow w.heap.size 5 1 b (4 * k) ((codeL (l.take k)).map bytV) ∧ Below w.heap.size w wr) (fun _ i _ => l.length - (intOf i).toNat)
  case atStart => exact ⟨0, by omega, rfl, rfl, World.ownsRow_nil _ _ _ _, Below.refl _ _⟩
  case round =>
    obtain ⟨k, hk, rfl, hall, hown, hB⟩ := hrel
    obtain ⟨a0, cap0, rfl⟩ : ∃ a cap, u4 = .slice a (4 * k) cap := by
      rcases hown.2 with ⟨hv, h0⟩ | ⟨g, cap, cur, hv, _⟩
      · exact ⟨none, 0, by rw [h0]; exact hv⟩
      · exact ⟨_, _, hv⟩
    have hBs := hB.size
    by_cases hlt : k < l.length
    · have hlt' : (k : Int) < (l.length : Int) := by omega
      obtain ⟨g, off, rfl, c0, c1, c2, c3⟩ := HC.out k l[k] (List.getElem?_eq_getElem hlt)
      have hg := World.block_lt_of_cell? _ _ c0
      have d0 := (hB.cell (p := ⟨g, off + k * 4, none⟩) hg).trans c0
      have d1 := (hB.cell (p := ⟨g, off + k * 4 + 1, none⟩) hg).trans c1
      have d2 := (hB.cell (p := ⟨g, off + k * 4 + 2, none⟩) hg).trans c2
      have d3 := (hB.cell (p := ⟨g, off + k * 4 + 3, none⟩) hg).trans c3
      have hok := HO.out l[k] (List.getElem_mem _)
      have HX : Hid (codeL (l.take (k + 1)) = codeL (l.take k) ++ encL l[k].1 l[k].2.1 l[k].2.2.1 l[k].2.2.2) := by
        show _ = _
        rw [List.take_succ_eq_append_getElem hlt, codeL_append]
        simp [codeL]
      have HA : Hid ((l.take (k + 1)).all insR4 = ((l.take k).all insR4 && insR l[k].1 l[k].2.1 l[k].2.2.1 l[k].2.2.2)) := by
        show _ = _
        rw [List.take_succ_eq_append_getElem hlt, List.all_append]
        simp [insR4]
      have HN : Hid (insR l[k].1 l[k].2.1 l[k].2.2.1 l[k].2.2.2 = false → l.all insR4 = false) := by
        intro h
        rw [List.all_eq_false]
        exact ⟨l[k], List.getElem_mem _, by simpa [insR4] using h⟩
      unfold InsOk4 at hok
      clear c0 c1 c2 c3
      generalize l[k] = i at *
      obtain ⟨o, a, b, m⟩ := i
      simp only at d0 d1 d2 d3 hok HX HA HN
      have hok' := hok
      obtain ⟨o1, o2, a1, a2, b1, b2, m1, m2⟩ := hok'
      have cR := fun w => iright_any o a b m w o1 o2
      have cB := fun w => bytes_any m w m1 m2
      go_wp2_with fail
      refine (cR _).mono ?_
      rintro e W1 ⟨rfl, hB1⟩
      rw [World.size_alloc] at hB1
      have hF1 := (Four.new wr (.int .u8 o) (.int .u8 a) (.int .u8 b) (.int .u16 m)).below hB1 (by omega)
      have hown1 := own_bel (hown.alloc (.cells #[.int .u8 o, .int .u8 a, .int .u8 b, .int .u16 m] 26)) hB1 (by simp)
      have hb1 : Below w.heap.size w W1 := (hB.alloc hBs _).trans (hB1.mono (by omega))
      have hs1 : wr.heap.size < W1.heap.size := (Array.getElem?_eq_some_iff.1 hF1).1
      have f0 := hF1.c0
      have f1 := hF1.c1
      have f2 := hF1.c2
      have f3 := hF1.c3
      clear d0 d1 d2 d3 hown hB hB1 cR
      generalize wr.heap.size = b0 at *
      clear wr
      cases hR : insR o a b m with
      | false =>
        have HN' : Hid (l.all insR4 = false) := HN.out hR
        clear HN HX HA hown1 hF1 cB
        go_wp2
        go_ret2
        refine ⟨?_, hb1⟩
        rw [HN'.out]
        exact ⟨.slice none 0 0, rfl, Bts.nil _⟩
      | true =>
        have hab := (insR_iff o a b m).1 hR
        have hor := or_low a b a1 hab.1.2.1 b1 hab.1.2.2
        have hsh : IntKind.u8.wrap (a * 16) = a * 16 := by rw [u8w]; omega
        have HE := enc_cells o a b m hok hR
        have HE' : Hid ((encL o a b m).map bytV = [.int .u8 o, .int .u8 (a * 16 + b), .int .u8 (m / 256), .int .u8 (m % 256)]) := HE
        have HA' : Hid ((l.take (k + 1)).all insR4 = true) := by
          show _ = _
          rw [HA.out, hall, hR]
          rfl
        clear HE HN HA hab
        go_wp2_with fail
        refine (cB _).mono ?_
        rintro e W2 ⟨rfl, hB2⟩
        have hF2 := hF1.below hB2 (by omega)
        have hown2 := own_bel hown1 hB2 (Nat.le_refl _)
        have hb2 := hb1.trans (hB2.mono hb1.size)
        have g0 := hF2.c0
        have g1 := hF2.c1
        have g2 := hF2.c2
        have g3 := hF2.c3
        have hs2 := hB2.size
        have gg0 := (hF2.alloc (.cells #[.int .u8 (m / 256), .int .u8 (m % 256)] 56)).c0
        have gg1 := (hF2.alloc (.cells #[.int .u8 (m / 256), .int .u8 (m % 256)] 56)).c1
        have gg2 := (hF2.alloc (.cells #[.int .u8 (m / 256), .int .u8 (m % 256)] 56)).c2
        clear f0 f1 f2 f3 hF1 hown1 hb1 hB2 cB hF2
        go_wp2_with (at_builtin; refine wpList_append_own _ rfl _ _ 27 rfl w.heap.size 5 i0 (.int .u8 0) 1 1 Tryd.underlying27 hi hz0 hz1 hz2 rfl (by decide) _ _ _ rfl ((hown2.alloc _).alloc _) ⟨W2.heap.size + 1, 0, none⟩ 4 4 [.int .u8 o, .int .u8 (a * 16 + b), .int .u8 (m / 256), .int .u8 (m % 256)] rfl rfl (by have h := cell_four_new (W2.alloc (.cells #[.int .u8 (m / 256), .int .u8 (m % 256)] 56)) (.int .u8 o) (.int .u8 (a * 16 + b)) (.int .u8 (m / 256)) (.int .u8 (m % 256)) 5; rw [World.size_alloc] at h; exact h) (by simp [Value.oneCell']) (by unfold maxLen; omega) (by omega) (by simp; omega) ?_; intro v' w1 hown' hgrow _)
        have hb3 : Below w.heap.size w w1 := ((hb2.alloc (by omega) _).alloc (by simp; omega) _).grown hgrow (by simp; omega) (fun j hj => (hown2.lt j hj).1)
        go_roundw
        case rel =>
          refine ⟨k + 1, by omega, by go_num, HA'.out, ?_, hb3⟩
          rw [HX.out, List.map_append, HE'.out]
          exact hown'
        case measure => simp [intOf]; omega
    · have hlt' : ¬ (k : Int) < (l.length : Int) := by omega
      have hke : k = l.length := by omega
      subst hke
      rw [List.take_length] at hown hall
      have HO' : Hid (wr.ownsRow w.heap.size 5 1 (.slice a0 (4 * l.length) cap0) (4 * l.length) ((codeL l).map bytV)) := hown
      have HA : Hid (l.all insR4 = true) := hall
      clear hown hall
      go_wp2
      go_ret2
      refine ⟨?_, hB⟩
      rw [HA.out]
      exact ⟨.slice a0 (4 * l.length) cap0, rfl, Bts.of_own HO'.out⟩
set_option maxRecDepth 100000 in
theorem iencode_any (o a b m : Int) (w : World) (hO : InsOk o a b m) :
    Calls Tryd.prog 9 #[.agg #[.int .u8 o, .int .u8 a, .int .u8 b, .int .u16 m]] w fun e w' => BytP (insR o a b m) (encL o a b m) e w' ∧ Below w.heap.size w w' := by
  have cC := fun v w hl => icode_any v [(o, a, b, m)] w hl (by simp) (fun i hi => by simp at hi; subst hi; exact hO)
  have e1 : [(o, a, b, m)].all insR4 = insR o a b m := by simp [insR4]
  have e2 : codeL [(o, a, b, m)] = encL o a b m := by simp [codeL]
  rw [e1, e2] at cC
  clear e1 e2
  unfold BytP at cC ⊢
  generalize (if insR o a b m then encL o a b m else []) = bs at *
  generalize (if insR o a b m then (0 : Int) else 3) = er at *
  go_enter Tryd.func9, Tryd.ntmps9
  go_wp2_with fail
  have hI : Inss ((w.alloc (.cells #[.int .u8 o, .int .u8 a, .int .u8 b, .int .u16 m] 26)).alloc (.cells #[.int .u8 o, .int .u8 a, .int .u8 b, .int .u16 m] 26)) (.slice (some ⟨w.heap.size + 1, 0, none⟩) 1 1) [(o, a, b, m)] := by
    have h := Four.new (w.alloc (.cells #[.int .u8 o, .int .u8 a, .int .u8 b, .int .u16 m] 26)) (.int .u8 o) (.int .u8 a) (.int .u8 b) (.int .u16 m)
    rw [World.size_alloc] at h
    refine ⟨_, 1, rfl, fun j i hi => ?_⟩
    match j, hi with
    | 0, hi =>
      simp at hi
      subst hi
      exact ⟨_, 0, rfl, h.c0, h.c1, h.c2, h.c3⟩
    | j + 1, hi => simp at hi
  refine (cC _ _ hI).mono ?_
  rintro e W1 ⟨⟨b', rfl, hb⟩, hB⟩
  rw [World.size_alloc, World.size_alloc] at hB
  go_wp2
  go_ret2
  exact ⟨⟨b', rfl, hb⟩, (((Below.refl _ w).alloc (Nat.le_refl _) _).alloc (by simp) _).trans (hB.mono (by omega))⟩
theorem strOf_bts (t : List UInt8) : strOfNums (t.map fun x => (x.toNat : Int)) = ⟨t.toArray⟩ := by
  unfold strOfNums
  congr 2
  rw [List.map_map]
  conv => rhs; rw [← List.map_id t]
  apply List.map_congr_left
  intro x _
  simp
theorem bts_text (w : World) (src : TypeId) (g off cap : Nat) (t : List UInt8) (hs : Tryd.prog.underlying src = some (.slice 5)) (hc : ∀ j x, t[j]? = some x → w.cell? ⟨g, off + j, none⟩ = some (.int .u8 (x.toNat : Int))) :
    (convert src 9 (.slice (some ⟨g, off, none⟩) t.length cap)).run Tryd.prog w = .ok (.string ⟨t.toArray⟩) w := by
  have := run_convert_bytes_arg (P := Tryd.prog) w src 5 hs Tryd.underlying5 g off t.length cap (t.map fun x => (x.toNat : Int)) (by simp) (fun i hi => by
    rw [hc i _ (List.getElem?_eq_getElem hi)]
    simp [List.getD, List.getElem?_eq_getElem hi])
  rw [strOf_bts] at this
  exact this 9 Tryd.underlying9
theorem nil_text (w : World) (a : Option Addr) (cap : Nat) : (convert 27 9 (.slice a 0 cap)).run Tryd.prog w = .ok (.string ⟨#[]⟩) w := by
  cases a with
  | none => exact run_convert_bytes_nil (P := Tryd.prog) w 27 5 Tryd.underlying27 Tryd.underlying5 0 cap 9 Tryd.underlying9
  | some ad =>
    have hl : (loadCells ad 0).run Tryd.prog w = .ok #[] w := run_loadCells_list (P := Tryd.prog) w ad [] (fun j v h => by cases h)
    rw [run_convert_bytes_string w 27 9 5 _ 0 cap Tryd.underlying27 Tryd.underlying5 Tryd.underlying9]
    simp [Conv.bytesToString, hl]
    rfl
theorem Bts.text {w : World} {v : Value} {bs : List UInt8} (h : Bts w v bs) : (convert 27 9 v).run Tryd.prog w = .ok (.string ⟨bs.toArray⟩) w := by
  obtain ⟨a, cap, rfl, hcap, hm, hc⟩ := h
  cases bs with
  | nil =>
    exact nil_text w a cap
  | cons x t =>
    obtain ⟨g, off, rfl, h0⟩ := hc 0 x rfl
    exact bts_text w 27 g off cap (x :: t) Tryd.underlying27 (fun j b hb => by
      obtain ⟨g', off', e, h⟩ := hc j b hb
      cases e
      exact h)
end Go.Proofs.YteoappoacapdhaaDoor
