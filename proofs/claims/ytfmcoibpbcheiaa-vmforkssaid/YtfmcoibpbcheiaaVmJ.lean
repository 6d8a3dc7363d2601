/- The program's vm: Fork. -/
import Derived.Test.YtfmcoibpbcheiaaVmI
namespace Go.Proofs.Ytfmcoibpbcheiaa
open Go.RowKit Go.Maps
set_option linter.unusedVariables false
set_option maxRecDepth 100000
theorem wpList_step {ops : Array Oper} {rest : List Oper} {o : Oper} {a : Act} {w : World} {Q : Exit → Act → World → Prop} (hgd : o.guard = none) (x : Operand) (ho : o.op = .next x false) (r rc : Nat) {f : Int → Option Int} {dn : List Int} (hx : a.eval x = .pointer (some ⟨r, 0, none⟩)) (h : It w r rc f dn) (hne : r ≠ rc)
    (hDone : (∀ z, f z ≠ none → z ∈ dn) → wpList Try.prog ops Q rest (a.put o.dst (.tuple #[.bool false])) w)
    (hMore : ∀ z v w', f z = some v → (Instr.entry (.pointer (some ⟨r, 0, none⟩))).run Try.prog w' = .ok (.tuple #[.int .i64 z, .int .i64 v]) w' → It w' r rc f (dn ++ [z]) → Apart (XB r) w w' → w'.heap.size = w.heap.size → wpList Try.prog ops Q rest (a.put o.dst (.tuple #[.bool true, .int .i64 z, .int .i64 v])) w') : wpList Try.prog ops Q (o :: rest) a w := by
  rcases h.next hne o.type with ⟨h1, h2⟩ | ⟨z, v, w', hz, h1, h2, h3, h4, h5⟩
  · exact wpList_nxt hgd x ho _ _ hx h2 (hDone h1)
  · exact wpList_nxt hgd x ho _ _ hx h1 (hMore z v w' hz h2 h3 h4 h5)
def bmp (rf : List Int) (v : Int) : List Int := if v = -1 then rf else rf.set v.toNat (rf.getD v.toNat 0 + 1)
def bmpL (rf : List Int) (f : Int → Option Int) (dn : List Int) : List Int := dn.foldl (fun r z => bmp r ((f z).getD (-1))) rf
theorem bmpL_snoc (rf : List Int) (f : Int → Option Int) (dn : List Int) (z v : Int) (hz : f z = some v) : bmpL rf f (dn ++ [z]) = bmp (bmpL rf f dn) v := by
  unfold bmpL
  rw [List.foldl_append, List.foldl_cons, List.foldl_nil, hz]
  rfl
theorem bmp_len (rf : List Int) (v : Int) : (bmp rf v).length = rf.length := by
  unfold bmp
  split
  · rfl
  · rw [List.length_set]
theorem bmp_at (rf : List Int) (v : Int) (j : Nat) (hj : j < rf.length) (hv : v = -1 ∨ (0 ≤ v ∧ v < 64)) : (bmp rf v).getD j 0 = rf.getD j 0 + if v = (j : Int) then 1 else 0 := by
  unfold bmp
  by_cases h : v = -1
  · rw [if_pos h, if_neg (by omega), Int.add_zero]
  · rw [if_neg h]
    by_cases e : v = (j : Int)
    · subst e
      rw [if_pos rfl, Int.toNat_natCast, List.getD_eq_getElem?_getD, List.getElem?_set_self hj]
      rfl
    · rw [if_neg e, List.getD_eq_getElem?_getD, List.getElem?_set_ne (by omega), ← List.getD_eq_getElem?_getD, Int.add_zero]
/-- Where pages may lie. -/
def Pgs (f : Int → Option Int) : Prop := ∀ z v, f z = some v → (0 ≤ z ∧ z < 16) ∧ (v = -1 ∨ (0 ≤ v ∧ v < 64))
theorem bmpL_len (rf : List Int) (f : Int → Option Int) : ∀ dn, (bmpL rf f dn).length = rf.length := by
  intro dn
  unfold bmpL
  induction dn generalizing rf with
  | nil => rfl
  | cons a l ih => rw [List.foldl_cons, ih, bmp_len]
theorem bmpL_at (f : Int → Option Int) (hf : Pgs f) (j : Nat) : ∀ (dn : List Int) (rf : List Int), j < rf.length → (∀ z ∈ dn, f z ≠ none) → (bmpL rf f dn).getD j 0 = rf.getD j 0 + ((dn.filter fun z => f z == some (j : Int)).length : Int)
  | [], rf, _, _ => by simp [bmpL]
  | a :: l, rf, hj, h => by
    have ih := bmpL_at f hf j l (bmp rf ((f a).getD (-1))) (by rw [bmp_len]; exact hj) (fun z hz => h z (List.mem_cons_of_mem _ hz))
    have e : bmpL rf f (a :: l) = bmpL (bmp rf ((f a).getD (-1))) f l := rfl
    rw [e, ih]
    cases ha : f a with
    | none => exact absurd ha (h a (List.mem_cons_self ..))
    | some v =>
      have hv := (hf a v ha).2
      rw [List.filter_cons, ha, Option.getD_some, bmp_at rf v j hj hv]
      by_cases q : v = (j : Int)
      · subst q
        rw [if_pos rfl, if_pos (by simp), List.length_cons]
        omega
      · rw [if_neg q, if_neg (by simpa using q)]
        omega
def fkR (rf : List Int) (f : Int → Option Int) : List Int := (List.range 64).map fun j => rf.getD j 0 + (cnN (fun z => f z == some (j : Int)) 16 : Int)
theorem fkR_eq (rf : List Int) (f : Int → Option Int) (hf : Pgs f) (hl : rf.length = 64) (dn : List Int) (hn : dn.Nodup) (hd : ∀ z ∈ dn, f z ≠ none) (ha : ∀ z, f z ≠ none → z ∈ dn) : bmpL rf f dn = fkR rf f := by
  apply List.ext_getElem?
  intro j
  by_cases hj : j < 64
  · have h1 := bmpL_at f hf j dn rf (by omega) hd
    have h2 := cn_eq (fun z => f z == some (j : Int)) 16 dn hn (fun x hx => by
      cases e : f x with
      | none => exact absurd e (hd x hx)
      | some v => exact (hf x v e).1) (fun k _ hk => ha k (fun e => by simp [e] at hk))
    have hbl := bmpL_len rf f dn
    rw [h2] at h1
    rw [List.getD_eq_getElem?_getD, List.getElem?_eq_getElem (by omega), Option.getD_some] at h1
    rw [List.getElem?_eq_getElem (by omega), h1, fkR, List.getElem?_map, List.getElem?_range hj]
    rfl
  · rw [List.getElem?_eq_none (by rw [bmpL_len]; omega), List.getElem?_eq_none (by simp [fkR]; omega)]
def fkS (s : Vs) (p q : Fin 6) : Vs := { s with has := upF s.has q true, pg := upF s.pg q (s.pg p), rf := fkR s.rf (s.pg p) }
theorem join_any (B : Nat) (l : Lo) (s : Vs) (v : Int) (hv : v = -1 ∨ (0 ≤ v ∧ v < 64)) (hx : ∀ j, j < 64 → 0 ≤ s.rf.getD j 0 ∧ s.rf.getD j 0 ≤ 1000) (w : World) (h : Vb B w l s) : Calls Try.prog 58 #[.pointer (some ⟨l.b, 6, none⟩), .int .i64 v] w fun r w' => r = .returned (.tuple #[]) ∧ Vb B w' l { s with rf := bmp s.rf v } ∧ Apart (XB l.b) w w' := by
  unfold bmp
  rcases hv with rfl | ⟨h0, h1⟩
  · refine (join_no l.b w).mono ?_
    rintro r w' ⟨rfl, rfl⟩
    exact ⟨rfl, h, Apart.refl _ _⟩
  · obtain ⟨k, rfl⟩ := Int.eq_ofNat_of_zero_le h0
    rw [if_neg (by omega), Int.toNat_natCast]
    exact join_ok B l s k (by omega) (hx k (by omega)) w h
theorem Vb.stay {B : Nat} {w w' : World} {l : Lo} {s : Vs} {X : Nat → Prop} (h : Vb B w l s) (k : Apart X w w') (hx : ∀ j, XV l s j → ¬ X j) : Vb B w' l s :=
  ⟨h.g, h.gm, h.c.stay k (hx _ (.inl rfl)), h.m.stay k (hx _ (.inr (.inl rfl))), h.len, fun p hp => ⟨(h.sp p hp).1, (h.sp p hp).2.stay k (hx _ (.inr (.inr ⟨p, hp, rfl⟩)))⟩, h.inj⟩
theorem Vb.lts {B : Nat} {w : World} {l : Lo} {s : Vs} (h : Vb B w l s) (k : Nat) (hk : XV l s k) : k < w.heap.size := by
  rcases hk with rfl | rfl | ⟨q, hq, rfl⟩
  · exact h.c.lt
  · exact h.m.lt
  · exact (h.sp q hq).2.lt
/-- A space that lies beside the others is laid in. -/
theorem Vb.lay {B : Nat} {w : World} {l : Lo} {s : Vs} (h : Vb B w l s) (p : Fin 6) (hp : s.has p = false) (r : Nat) (f : Int → Option Int) (hr : ¬ XV l s r) (hB : B ≤ r) (sp : Sp w r f) :
    Vb B (w.setCell ⟨l.b, p.1, none⟩ (.map (some r))) ⟨l.b, l.m, upF l.r p r⟩ { s with has := upF s.has p true, pg := upF s.pg p f } := by
  have ap : Apart (XB l.b) w (w.setCell ⟨l.b, p.1, none⟩ (.map (some r))) := Apart.at w l.b p.1 _ rfl
  have c := h.c.set p.1 (.map (some r))
  have e1 : (vCs s.has l.r l.m s.rf s.cp).set p.1 (.map (some r)) = vCs (upF s.has p true) (upF l.r p r) l.m s.rf s.cp := vCs_set s.has l.r l.m s.rf s.cp true r p
  rw [e1] at c
  have hne : ∀ q, upF s.has p true q = true → q ≠ p → s.has q = true := fun q hq e => by rw [upF_other _ _ _ _ e] at hq; exact hq
  refine ⟨h.g, h.gm, c, h.m.stay ap (fun e => h.nbm e.symm), h.len, fun q hq => ?_, fun q q' hq hq' e => ?_⟩
  · show B ≤ upF l.r p r q ∧ Sp _ (upF l.r p r q) (upF s.pg p f q)
    by_cases e : q = p
    · subst e
      rw [upF_same, upF_same]
      exact ⟨hB, sp.stay ap (fun e => hr (.inl e))⟩
    · rw [upF_other _ _ _ _ e, upF_other _ _ _ _ e]
      have hq' := hne q hq e
      exact ⟨(h.sp q hq').1, (h.sp q hq').2.stay ap ((h.sp q hq').2.ne h.c)⟩
  · have e' : upF l.r p r q = upF l.r p r q' := e
    by_cases a : q = p <;> by_cases b : q' = p
    · rw [a, b]
    · subst a
      rw [upF_same, upF_other _ _ _ _ b] at e'
      exact absurd (.inr (.inr ⟨q', hne q' hq' b, e'⟩)) hr
    · subst b
      rw [upF_same, upF_other _ _ _ _ a] at e'
      exact absurd (.inr (.inr ⟨q, hne q hq a, e'.symm⟩)) hr
    · rw [upF_other _ _ _ _ a, upF_other _ _ _ _ b] at e'
      exact h.inj q q' (hne q hq a) (hne q' hq' b) e'
structure Fk (B : Nat) (w0 W : World) (l : Lo) (s : Vs) (p : Fin 6) (dn : List Int) : Prop where
  it : It W (w0.heap.size + 1) (l.r p) (s.pg p) dn
  v : Vb B W l { s with rf := bmpL s.rf (s.pg p) dn }
  sp : Sp W w0.heap.size (fun k => if k ∈ dn then s.pg p k else none)
  ap : Apart (XV l s) w0 W
set_option maxHeartbeats 4000000 in
theorem vfork_ok (B : Nat) (l : Lo) (s : Vs) (p q : Fin 6) (w : World) (h : Vb B w l s) (hB : B ≤ w.heap.size) (hp : s.has p = true) (hq : s.has q = false) (hf : Pgs (s.pg p)) (hx : ∀ j, j < 64 → 0 ≤ s.rf.getD j 0 ∧ s.rf.getD j 0 ≤ 500) : Calls Try.prog 24 #[.pointer (some ⟨l.b, 0, none⟩), .int .i64 p.1, .int .i64 q.1] w fun r w' => r = .returned (.int .i64 0) ∧ Vb B w' ⟨l.b, l.m, upF l.r q w.heap.size⟩ (fkS s p q) ∧ Apart (XV l s) w w' := by
  have cO := of_ok B l s p w h hp
  have cV := vacant_any B l s q.1 w h
  rw [freshE_at, hq] at cV
  simp only [Bool.false_eq_true, if_false] at cV
  have hmm := @run_makeMap Try.prog
  have hlp := (h.sp p hp).2.lt
  have s0 : Sp (w.alloc (.map #[] 0)) w.heap.size (fun _ => none) := ⟨[], Mp.new w .i64, by simp [keys], fun k => rfl⟩
  obtain ⟨o, hrun, hit⟩ := It.start (w := w.alloc (.map #[] 0)) ((h.sp p hp).2.below (below_new w _)) (t := 60) Try.underlying60
  have hs1 : (w.alloc (.map #[] 0)).heap.size = w.heap.size + 1 := by simp
  rw [hs1] at hrun hit
  have hB2 : Below w.heap.size w ((w.alloc (.map #[] 0)).alloc o) := (below_new w _).trans ((below_new (w.alloc (.map #[] 0)) o).mono (by simp))
  have HF0 : Hid3 (Fk B w ((w.alloc (.map #[] 0)).alloc o) l s p []) := ⟨⟨hit, h.below hB2, by
    have := s0.below (below_new (w.alloc (.map #[] 0)) o)
    simpa using this, Apart.of_below hB2⟩⟩
  have HX := Hid3.mk (h.lts)
  have hlen := h.len
  have HH := Hid3.mk (And.intro hf (And.intro hx (And.intro hp hq)))
  have hne : w.heap.size + 1 ≠ l.r p := fun e => by omega
  have hq6 : (q.1 : Int) < 6 := by omega
  clear h hit s0 hB2 hs1 hf hx hp hq
  generalize hWX : (w.alloc (.map #[] 0)).alloc o = WX at *
  generalize hrp : l.r p = rp at *
  clear hWX
  go_enter Try.func24, Try.ntmps24
  go_wp2_with fail
  refine cO.mono ?_
  rintro r W ⟨rfl, hW⟩
  rw [hW]
  clear cO hW
  go_wp2_with fail
  refine cV.mono ?_
  rintro r W ⟨rfl, hW⟩
  rw [hW]
  clear cV hW
  go_wp2_with (refine wpList_rng rfl 60 _ rfl _ _ rfl hrun ?_)
  go_frame
  go_loopw [] (fun wr => ∃ dn : List Int, Hid3 (Fk B w wr l s p dn)) (fun wr => 17 - itN wr (w.heap.size + 1))
  case atStart => exact ⟨[], HF0⟩
  case round =>
    obtain ⟨dn, HF⟩ := hrel
    have HI : Hid3 (It wr (w.heap.size + 1) rp (s.pg p) dn) := ⟨by rw [← hrp]; exact HF.out.it⟩
    go_wp2_with (at_next; refine wpList_step rfl _ rfl (w.heap.size + 1) rp rfl HI.out hne ?_ ?_)
    · intro hall
      have hV := HF.out.v
      have hlb := hV.c.lt
      have z0 : wr.cell? ⟨l.b, q.1, none⟩ = some (.map none) := by
        have := hV.at q
        rw [show ({ s with rf := bmpL s.rf (s.pg p) dn } : Vs).has q = false from HH.out.2.2.2] at this
        exact this
      have f0 := hV.c.thaw q.1
      have ef : (fun k => if k ∈ dn then s.pg p k else none) = s.pg p := by
        funext k
        by_cases hk : k ∈ dn
        · rw [if_pos hk]
        · rw [if_neg hk]
          cases e : s.pg p k with
          | none => rfl
          | some v => exact absurd (hall k (by rw [e]; intro c; cases c)) hk
      have er := fkR_eq s.rf (s.pg p) HH.out.1 hlen dn HF.out.it.dn.1 HF.out.it.dn.2 hall
      have HL : Hid3 (Vb B (wr.setCell ⟨l.b, q.1, none⟩ (.map (some w.heap.size))) ⟨l.b, l.m, upF l.r q w.heap.size⟩ (fkS s p q)) := ⟨by
        have := hV.lay q HH.out.2.2.2 w.heap.size _ (fun e => absurd (HX.out _ e) (by omega)) hB HF.out.sp
        rw [ef] at this
        unfold fkS
        rw [← er]
        exact this⟩
      have HA : Hid3 (Apart (XV l s) w (wr.setCell ⟨l.b, q.1, none⟩ (.map (some w.heap.size)))) := ⟨HF.out.ap.trans (Apart.at wr l.b q.1 _ (.inl rfl))⟩
      clear hV ef er hall HF HI
      go_wp2
      go_ret
      exact ⟨rfl, HL.out, HA.out⟩
    · intro z v w1 hz hen hI1 hap hsz1
      have hv := HH.out.1 z v hz
      have hsp := HF.out.it.dn
      have hV1 : Vb B w1 l { s with rf := bmpL s.rf (s.pg p) dn } := HF.out.v.stay hap (fun j hj e => by
        have e' : j = w.heap.size + 1 := e
        have := HX.out j hj
        omega)
      have hS1 := HF.out.sp.stay hap (fun e => by have e' : w.heap.size = w.heap.size + 1 := e; omega)
      obtain ⟨W2, u1, u2, u3⟩ := stepP hS1 z v
      have hV2 : Vb B W2 l { s with rf := bmpL s.rf (s.pg p) dn } := hV1.stay u3 (fun j hj e => by
        have e' : j = w.heap.size := e
        have := HX.out j hj
        omega)
      have hI2 := hI1.stay u3 (fun e => by have e' : w.heap.size + 1 = w.heap.size := e; omega) (fun e => by have e' : rp = w.heap.size := e; omega)
      have hdn := hI2.dn
      have hle := pigeon 16 (dn ++ [z]) hdn.1 (fun x hx => by
        cases e : s.pg p x with
        | none => exact absurd e (hdn.2 x hx)
        | some y => exact (HH.out.1 x y e).1)
      rw [List.length_append, List.length_singleton] at hle
      have cJ := join_any B l _ v hv.2 (fun j hj => by
        show 0 ≤ (bmpL s.rf (s.pg p) dn).getD j 0 ∧ (bmpL s.rf (s.pg p) dn).getD j 0 ≤ 1000
        have h1 := bmpL_at (s.pg p) HH.out.1 j dn s.rf (by omega) hsp.2
        have h2 := HH.out.2.1 j hj
        have h3 : (dn.filter fun z => s.pg p z == some (j : Int)).length ≤ dn.length := List.length_filter_le _ _
        omega) W2 hV2
      have hIn := HI.out.n
      have HS : Hid3 (Sp W2 w.heap.size (fun k => if k ∈ dn ++ [z] then s.pg p k else none)) := ⟨by
        have e : upI (fun k => if k ∈ dn then s.pg p k else none) z (some v) = fun k => if k ∈ dn ++ [z] then s.pg p k else none := by
          funext k
          unfold upI
          by_cases hk : k = z
          · subst hk
            rw [if_pos rfl, if_pos (by simp), hz]
          · rw [if_neg hk]
            show (if k ∈ dn then s.pg p k else none) = _
            by_cases hd : k ∈ dn
            · rw [if_pos hd, if_pos (by simp [hd])]
            · rw [if_neg hd, if_neg (by simp [hd, hk])]
        rw [← e]
        exact u2⟩
      have HI2 := Hid3.mk hI2
      have HA2 : Hid3 (Apart (XV l s) w W2) := ⟨(HF.out.ap.then hap (fun i hi e => by have e' : i = w.heap.size + 1 := e; omega)).then u3 (fun i hi e => by have e' : i = w.heap.size := e; omega)⟩
      have HV2 := Hid3.mk hV2
      have eb := bmpL_snoc s.rf (s.pg p) dn z v hz
      have U1 := Hid3.mk u1
      have HEB := Hid3.mk eb
      clear hI1 hI2 hV1 hV2 hS1 u1 u2 u3 hv hsp hdn hap HI hz eb
      go_wp2_with (first | (refine wpList_ent rfl _ rfl _ _ rfl hen ?_) | (refine wpList_mupd rfl 60 _ _ _ rfl _ _ _ rfl rfl rfl U1.out ?_))
      refine cJ.mono ?_
      rintro r W3 ⟨rfl, hV3, hA3⟩
      have HV3 := Hid3.mk hV3
      have HA3 := Hid3.mk hA3
      have hI3 := HI2.out.stay hA3 (fun e => by have e' : w.heap.size + 1 = l.b := e; have := HX.out l.b (.inl rfl); omega) (fun e => by have e' : rp = l.b := e; have := (HF.out.v.sp p HH.out.2.2.1).2.ne HF.out.v.c; exact this (hrp.trans e'))
      have HI3 := Hid3.mk hI3
      have hIn3 := hI3.n
      rw [List.length_append, List.length_singleton] at hIn3
      clear cJ hV3 hA3 hI3
      go_wp2
      go_roundw
      case rel =>
        refine ⟨dn ++ [z], ⟨⟨by rw [hrp]; exact HI3.out, ?_, HS.out.stay HA3.out (fun e => by have e' : w.heap.size = l.b := e; have := HX.out l.b (.inl rfl); omega), HA2.out.trans (HA3.out.wide (fun i _ e => .inl e))⟩⟩⟩
        rw [HEB.out]
        exact HV3.out
      case measure => rw [hIn3, hIn]; omega
end Go.Proofs.Ytfmcoibpbcheiaa
