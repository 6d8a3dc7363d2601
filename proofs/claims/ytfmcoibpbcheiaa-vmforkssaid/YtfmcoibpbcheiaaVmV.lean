/- The program's vm: End. -/
import Derived.Test.YtfmcoibpbcheiaaVmU
namespace Go.Proofs.Ytfmcoibpbcheiaa
open Go.RowKit Go.Maps
set_option linter.unusedVariables false
set_option maxRecDepth 100000
theorem cn_le (p : Int → Bool) : ∀ (n : Nat) (l : List Int), l.Nodup → (∀ x ∈ l, 0 ≤ x ∧ x < (n : Int)) → (l.filter p).length ≤ cnN p n
  | 0, l, _, h => by
    cases l with
    | nil => exact Nat.le_refl _
    | cons a l => have := h a (List.mem_cons_self ..); omega
  | n + 1, l, hn, h => by
    have ih := cn_le p n (l.erase (n : Int)) (hn.erase _) (fun x hx => by
      have h1 := h x (List.mem_of_mem_erase hx)
      have h2 : x ≠ (n : Int) := fun e => by
        rw [e] at hx
        exact (hn.mem_erase_iff.1 hx).1 rfl
      omega)
    unfold cnN
    by_cases hm : (n : Int) ∈ l
    · have e := ((List.perm_cons_erase hm).filter p).length_eq
      rw [List.filter_cons] at e
      rw [e]
      split
      · rw [List.length_cons]; omega
      · omega
    · rw [List.erase_of_not_mem hm] at ih
      omega
def lvA (s : Vs) (v : Int) : Vs := if v = -1 then s else lvS s v.toNat
/-- What leaving so many pages comes to. -/
structure Lv1 (N : Nat) (s : Vs) (f : Int → Option Int) (dn : List Int) (t : Vs) : Prop where
  same : t.has = s.has ∧ t.pg = s.pg ∧ t.n = s.n ∧ t.cp = s.cp
  len : t.rf.length = 64
  L : t.L.length = 2048
  rf : ∀ j : Nat, j < 64 → t.rf.getD j 0 = s.rf.getD j 0 - ((dn.filter fun z => f z == some (j : Int)).length : Int)
  z : ∀ j i : Nat, j < N → i < 32 → t.L.getD (j * 32 + i) 0 = if t.rf.getD j 0 = 0 ∧ s.rf.getD j 0 ≠ 0 then 0 else s.L.getD (j * 32 + i) 0
theorem Lv1.start {N : Nat} {s : Vs} (h : Fr N s) (hL : s.L.length = 2048) (f : Int → Option Int) : Lv1 N s f [] s :=
  ⟨⟨rfl, rfl, rfl, rfl⟩, h.len, hL, fun j _ => by simp, fun j i _ _ => by rw [if_neg (fun c => c.2 c.1)]⟩
theorem Lv1.step {N : Nat} {s : Vs} {p : Fin 6} {dn : List Int} {t : Vs} (h : Lv1 N s (s.pg p) dn t) (hF : Fr N s) {z v : Int} (hz : s.pg p z = some v) (hn : (dn ++ [z]).Nodup) (hd : ∀ x ∈ dn ++ [z], s.pg p x ≠ none) : Lv1 N s (s.pg p) (dn ++ [z]) (lvA t v) ∧ (v ≠ -1 → 0 ≤ v ∧ v < 64 ∧ 1 ≤ t.rf.getD v.toNat 0 ∧ t.rf.getD v.toNat 0 ≤ 1000) := by
  have hN := hF.hi
  have hv := hF.pgs p z v hz
  have hin : ∀ x ∈ dn ++ [z], 0 ≤ x ∧ x < ((16 : Nat) : Int) := fun x hx => by
    cases e : s.pg p x with
    | none => exact absurd e (hd x hx)
    | some y => exact (hF.pgs p x y e).1
  have hcnt : ∀ j : Nat, j < 64 → (((dn ++ [z]).filter fun z => s.pg p z == some (j : Int)).length : Int) ≤ s.rf.getD j 0 := fun j hj => by
    have h1 := cn_le (fun z => s.pg p z == some (j : Int)) 16 (dn ++ [z]) hn hin
    have h2 := pk1_cnt s.pg (j : Int) p
    have h3 : pk1 (s.pg p) (j : Int) = cnN (fun z => s.pg p z == some (j : Int)) 16 := rfl
    rw [hF.rf j hj]
    omega
  have hfl : ∀ j : Nat, ((dn ++ [z]).filter fun z => s.pg p z == some (j : Int)).length = (dn.filter fun z => s.pg p z == some (j : Int)).length + if v = (j : Int) then 1 else 0 := fun j => by
    rw [List.filter_append, List.length_append, List.filter_cons, List.filter_nil, hz]
    by_cases c : v = (j : Int)
    · rw [if_pos (by simp [c]), if_pos c]; rfl
    · rw [if_neg (by simpa using c), if_neg c]; rfl
  by_cases c : v = -1
  · refine ⟨?_, fun x => absurd c x⟩
    have e : lvA t v = t := if_pos c
    rw [e]
    refine ⟨h.same, h.len, h.L, fun j hj => ?_, h.z⟩
    rw [hfl j, if_neg (by omega)]
    exact h.rf j hj
  · obtain ⟨g, rfl⟩ := Int.eq_ofNat_of_zero_le (by omega : 0 ≤ v)
    have hg : g < N := by omega
    have e : lvA t (g : Int) = lvS t g := by unfold lvA; rw [if_neg c, Int.toNat_natCast]
    have hrg := h.rf g (by omega)
    have hcg := hcnt g (by omega)
    have hfg := hfl g
    rw [if_pos rfl] at hfg
    have hbg := hF.bnd g (by omega)
    have htn : t.n = N := h.same.2.2.1.trans hF.n
    have hlen := h.len
    rw [e]
    have hrf : ∀ j : Nat, (lvS t g).rf.getD j 0 = if j = g then t.rf.getD g 0 - 1 else t.rf.getD j 0 := fun j => set_at _ _ _ _ (by omega)
    have hLL : (lvS t g).L = if t.rf.getD g 0 = 1 then zrL N t.L g else t.L := by
      rw [← htn]
      rfl
    refine ⟨⟨⟨h.same.1, h.same.2.1, h.same.2.2.1, h.same.2.2.2⟩, ?_, ?_, fun j hj => ?_, fun j i hj hi => ?_⟩, fun _ => ⟨by omega, by omega, by rw [Int.toNat_natCast]; omega, by rw [Int.toNat_natCast]; omega⟩⟩
    · show (t.rf.set g _).length = 64
      rw [List.length_set, hlen]
    · rw [hLL]
      split
      · exact zrL_len h.L g hg hN
      · exact h.L
    · rw [hrf, hfl j]
      have h1 := h.rf j hj
      by_cases q : j = g
      · subst q
        rw [if_pos rfl, if_pos rfl]
        omega
      · rw [if_neg q, if_neg (by omega)]
        omega
    · rw [hLL, hrf]
      have h1 := h.z j i hj hi
      by_cases q : j = g
      · subst q
        rw [if_pos rfl]
        by_cases r : t.rf.getD j 0 = 1
        · rw [if_pos r, zrL_at h.L j hg hN j i hi, if_pos rfl, if_pos ⟨by omega, by omega⟩]
        · rw [if_neg r, h1, if_neg (fun x => by omega), if_neg (fun x => by omega)]
      · rw [if_neg q]
        by_cases r : t.rf.getD g 0 = 1
        · rw [if_pos r, zrL_at h.L g hg hN j i hi, if_neg q]
          exact h1
        · rw [if_neg r]
          exact h1
/-- What End comes to. -/
structure EndR (N : Nat) (s : Vs) (p : Fin 6) (t : Vs) : Prop where
  has : t.has = upF s.has p false
  pg : t.pg = upF s.pg p (fun _ => none)
  n : t.n = s.n
  cp : t.cp = s.cp
  len : t.rf.length = 64
  L : t.L.length = 2048
  rf : ∀ j : Nat, j < 64 → t.rf.getD j 0 = s.rf.getD j 0 - (pk1 (s.pg p) j : Int)
  z : ∀ j i : Nat, j < N → i < 32 → t.L.getD (j * 32 + i) 0 = if t.rf.getD j 0 = 0 ∧ s.rf.getD j 0 ≠ 0 then 0 else s.L.getD (j * 32 + i) 0
theorem EndR.iv {N : Nat} {s t : Vs} {p : Fin 6} {V : Fin 6 → Nat → Int} (h : EndR N s p t) (hI : Iv N s V) : Iv N t V := by
  have hN := hI.fr.hi
  have hpg : ∀ q z v, t.pg q z = some v → q ≠ p ∧ s.pg q z = some v := fun q z v hv => by
    rw [h.pg] at hv
    by_cases e : q = p
    · subst e
      rw [upF_same] at hv
      cases hv
    · rw [upF_other _ _ _ _ e] at hv
      exact ⟨e, hv⟩
  have hrf : ∀ j : Nat, j < 64 → t.rf.getD j 0 = (cnt t.pg (j : Int) : Int) := fun j hj => by
    rw [h.rf j hj, hI.fr.rf j hj, h.pg]
    have := cnt_up s.pg (fun _ => none) (j : Int) p
    rw [pk1_none] at this
    omega
  refine ⟨⟨h.n.trans hI.fr.n, hI.fr.lo, hN, h.len, fun q hq => ?_, fun q z v hv => hI.fr.pgs q z v (hpg q z v hv).2, hrf⟩, h.L, fun q k f hf i hi => ?_, fun j hj hr i hi => ?_⟩
  · rw [h.has] at hq
    rw [h.pg]
    by_cases e : q = p
    · subst e
      rw [upF_same]
    · rw [upF_other _ _ _ _ e] at hq ⊢
      exact hI.fr.no q hq
  · obtain ⟨_, hs⟩ := hpg q k f hf
    have hv := hI.vw q k f hs i hi
    have hb := hI.fr.pgs q k f hs
    by_cases c : f = -1
    · rw [if_pos c] at hv ⊢
      exact hv
    · rw [if_neg c] at hv ⊢
      have h1 := cnt_pos (by omega : k < 16) hf
      have h2 := hrf f.toNat (by omega)
      have e : ((f.toNat : Nat) : Int) = f := by omega
      rw [e] at h2
      rw [h.z f.toNat i (by omega) hi, if_neg (fun x => by omega)]
      exact hv
  · rw [h.z j i hj hi]
    by_cases c : s.rf.getD j 0 = 0
    · rw [if_neg (fun x => x.2 c)]
      exact hI.z j hj c i hi
    · rw [if_pos ⟨hr, c⟩]
theorem Vb.gone {B : Nat} {w : World} {l : Lo} {s : Vs} (h : Vb B w l s) (p : Fin 6) (f : Int → Option Int) : Vb B (w.setCell ⟨l.b, p.1, none⟩ (.map none)) l { s with has := upF s.has p false, pg := upF s.pg p f } := by
  have ap : Apart (XB l.b) w (w.setCell ⟨l.b, p.1, none⟩ (.map none)) := Apart.at w l.b p.1 _ rfl
  have c := h.c.set p.1 (.map none)
  have e1 : (vCs s.has l.r l.m s.rf s.cp).set p.1 (.map none) = vCs (upF s.has p false) (upF l.r p (l.r p)) l.m s.rf s.cp := vCs_set s.has l.r l.m s.rf s.cp false (l.r p) p
  have e2 : upF l.r p (l.r p) = l.r := by
    funext q
    unfold upF
    split
    · rename_i e; rw [e]
    · rfl
  rw [e2] at e1
  rw [e1] at c
  have hne : ∀ q, upF s.has p false q = true → q ≠ p ∧ s.has q = true := fun q hq => by
    by_cases e : q = p
    · subst e
      rw [upF_same] at hq
      cases hq
    · rw [upF_other _ _ _ _ e] at hq
      exact ⟨e, hq⟩
  refine ⟨h.g, h.gm, c, h.m.stay ap (fun e => h.nbm e.symm), h.len, fun q hq => ?_, fun q q' hq hq' e => h.inj q q' (hne q hq).2 (hne q' hq').2 e⟩
  obtain ⟨hqp, hq'⟩ := hne q hq
  show B ≤ l.r q ∧ Sp _ (l.r q) (upF s.pg p f q)
  rw [upF_other _ _ _ _ hqp]
  exact ⟨(h.sp q hq').1, (h.sp q hq').2.stay ap ((h.sp q hq').2.ne h.c)⟩
theorem leave_any (B : Nat) (l : Lo) (s : Vs) (v : Int) (hv : v ≠ -1 → 0 ≤ v ∧ v < 64 ∧ 1 ≤ s.rf.getD v.toNat 0 ∧ s.rf.getD v.toNat 0 ≤ 1000) (w : World) (h : Vb B w l s) : Calls Try.prog 36 #[.pointer (some ⟨l.b, 6, none⟩), .int .i64 v] w fun r w' => r = .returned (.tuple #[]) ∧ Vb B w' l (lvA s v) ∧ Apart (XS l) w w' := by
  by_cases c : v = -1
  · subst c
    refine (leave_no l.b w).mono ?_
    rintro r w' ⟨rfl, rfl⟩
    exact ⟨rfl, h, Apart.refl _ _⟩
  · obtain ⟨h0, h1, h2, h3⟩ := hv c
    obtain ⟨g, rfl⟩ := Int.eq_ofNat_of_zero_le h0
    have e : lvA s (g : Int) = lvS s g := by unfold lvA; rw [if_neg c, Int.toNat_natCast]
    rw [Int.toNat_natCast] at h2 h3
    rw [e]
    exact leave_ok B l s g (by omega) ⟨h2, h3⟩ w h
structure Ek (B N : Nat) (w0 W : World) (l : Lo) (s : Vs) (p : Fin 6) (dn : List Int) (t : Vs) : Prop where
  it : It W w0.heap.size (l.r p) (s.pg p) dn
  v : Vb B W l t
  lv : Lv1 N s (s.pg p) dn t
  ap : Apart (XV l s) w0 W
set_option maxHeartbeats 4000000 in
theorem vend_ok (B : Nat) (l : Lo) (s : Vs) (N : Nat) (p : Fin 6) (w : World) (h : Vb B w l s) (hF : Fr N s) (hL : s.L.length = 2048) (hp : s.has p = true) : Calls Try.prog 11 #[.pointer (some ⟨l.b, 0, none⟩), .int .i64 p.1] w fun r w' => r = .returned (.int .i64 0) ∧ (∃ t, Vb B w' l t ∧ EndR N s p t) ∧ Apart (XV l s) w w' := by
  have cO := of_ok B l s p w h hp
  have hlp := (h.sp p hp).2.lt
  obtain ⟨o, hrun, hit⟩ := It.start (w := w) (h.sp p hp).2 (t := 60) Try.underlying60
  have HF0 : Hid3 (Ek B N w (w.alloc o) l s p [] s) := ⟨⟨hit, h.below (below_new w o), Lv1.start hF hL _, Apart.of_below (below_new w o)⟩⟩
  have HX := Hid3.mk (h.lts)
  have HH := Hid3.mk (And.intro hF hp)
  have HSP := Hid3.mk (fun b cs t (q : Nat × Nat) (hb : w.heap[b]? = some (Obj.cells cs t q)) => (h.sp p hp).2.ne hb)
  have hne : w.heap.size ≠ l.r p := fun e => by omega
  have hp6 : (p.1 : Int) < 6 := by omega
  clear h hit hF hL hp
  generalize hWX : w.alloc o = WX at *
  generalize hrp : l.r p = rp at *
  clear hWX
  go_enter Try.func11, Try.ntmps11
  go_wp2_with fail
  refine cO.mono ?_
  rintro r W ⟨rfl, hW⟩
  rw [hW]
  clear cO hW
  go_wp2_with (refine wpList_rng rfl 60 _ rfl _ _ rfl hrun ?_)
  go_frame
  go_loopw [] (fun wr => ∃ (dn : List Int) (t : Vs), Hid3 (Ek B N w wr l s p dn t)) (fun wr => 17 - itN wr w.heap.size)
  case atStart => exact ⟨[], s, HF0⟩
  case round =>
    obtain ⟨dn, t, HF⟩ := hrel
    have HI : Hid3 (It wr w.heap.size rp (s.pg p) dn) := ⟨by rw [← hrp]; exact HF.out.it⟩
    have hxt : XV l t = XV l s := Vb.hasr HF.out.lv.same.1
    have HXT : Hid3 (∀ k, XV l t k → k < w.heap.size) := ⟨fun k hk => HX.out k (by rw [← hxt]; exact hk)⟩
    clear hxt
    go_wp2_with (at_next; refine wpList_step rfl _ rfl w.heap.size rp rfl HI.out hne ?_ ?_)
    · intro hall
      have hV := HF.out.v
      have hlb := hV.c.lt
      have z0 : wr.cell? ⟨l.b, p.1, none⟩ = some (.map (some rp)) := by
        have := hV.at p
        rw [HF.out.lv.same.1, HH.out.2, hrp] at this
        exact this
      have f0 := hV.c.thaw p.1
      have HL : Hid3 (∃ t, Vb B (wr.setCell ⟨l.b, p.1, none⟩ (.map none)) l t ∧ EndR N s p t) := ⟨{ t with has := upF t.has p false, pg := upF t.pg p (fun _ => none) }, hV.gone p _, by
        have S := HF.out.lv
        have hdn := HF.out.it.dn
        refine ⟨by rw [← S.same.1], by rw [← S.same.2.1], S.same.2.2.1, S.same.2.2.2, S.len, S.L, fun j hj => ?_, S.z⟩
        have e := cn_eq (fun z => s.pg p z == some (j : Int)) 16 dn hdn.1 (fun x hx => by
          cases e : s.pg p x with
          | none => exact absurd e (hdn.2 x hx)
          | some v => exact (HH.out.1.pgs p x v e).1) (fun k _ hk => hall k (fun e => by simp [e] at hk))
        have := S.rf j hj
        rw [e] at this
        exact this⟩
      have HA : Hid3 (Apart (XV l s) w (wr.setCell ⟨l.b, p.1, none⟩ (.map none))) := ⟨HF.out.ap.trans (Apart.at wr l.b p.1 _ (.inl rfl))⟩
      clear hV hall HF HI
      go_wp2
      go_ret
      exact ⟨rfl, HL.out, HA.out⟩
    · intro z v w1 hz hen hI1 hap hsz1
      have hV1 : Vb B w1 l t := HF.out.v.stay hap (fun j hj e => by
        have e' : j = w.heap.size := e
        have := HXT.out j hj
        omega)
      have hdn := hI1.dn
      have hle := pigeon 16 (dn ++ [z]) hdn.1 (fun x hx => by
        cases e : s.pg p x with
        | none => exact absurd e (hdn.2 x hx)
        | some y => exact (HH.out.1.pgs p x y e).1)
      rw [List.length_append, List.length_singleton] at hle
      obtain ⟨hS, hv⟩ := HF.out.lv.step HH.out.1 hz hdn.1 hdn.2
      have cJ := leave_any B l t v hv w1 hV1
      have hIn := HI.out.n
      have HI2 := Hid3.mk hI1
      have HS := Hid3.mk hS
      have HA2 : Hid3 (Apart (XV l s) w w1) := ⟨HF.out.ap.then hap (fun i hi e => by have e' : i = w.heap.size := e; omega)⟩
      have HV1 := Hid3.mk hV1
      clear hI1 hV1 hdn hap HI hz hS hv
      go_wp2_with (refine wpList_ent rfl _ rfl _ _ rfl hen ?_)
      refine cJ.mono ?_
      rintro r W3 ⟨rfl, hV3, hA3⟩
      have HV3 := Hid3.mk hV3
      have HA3 := Hid3.mk hA3
      have hI3 := HI2.out.stay hA3 (fun e => by
        rcases e with e | e
        · have := HX.out l.b (.inl rfl); omega
        · have := HX.out l.m (.inr (.inl rfl)); omega) (fun e => by
        have hsp := HF.out.v.sp p (by rw [HF.out.lv.same.1]; exact HH.out.2)
        rw [hrp] at hsp
        rcases e with e | e
        · exact hsp.2.ne HF.out.v.c e
        · exact hsp.2.ne HF.out.v.m.blk e)
      have HI3 := Hid3.mk hI3
      have hIn3 := hI3.n
      rw [List.length_append, List.length_singleton] at hIn3
      clear cJ hV3 hA3 hI3
      go_wp2
      go_roundw
      case rel => exact ⟨dn ++ [z], lvA t v, ⟨⟨by rw [hrp]; exact HI3.out, HV3.out, HS.out, HA2.out.trans (XS.v HA3.out)⟩⟩⟩
      case measure => rw [hIn3, hIn]; omega
end Go.Proofs.Ytfmcoibpbcheiaa
