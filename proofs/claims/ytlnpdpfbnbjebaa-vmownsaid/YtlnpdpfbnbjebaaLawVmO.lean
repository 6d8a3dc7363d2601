/- VmOwn: the walk. -/
import Derived.Test.YtlnpdpfbnbjebaaVmY
namespace Go.Proofs.Ytlnpdpfbnbjebaa
open Go.RowKit Go.Maps
set_option linter.unusedVariables false
set_option maxRecDepth 100000
theorem ob_begin (B : Nat) (l : Lo) (nn : Int) (w : World) (h : Vb B w l (vs0 nn)) (hB : B ≤ w.heap.size) : Calls Try.prog 13 #[.pointer (some ⟨l.b, 0, none⟩), .int .i64 0] w fun r w' => r = .returned (.int .i64 0) ∧ ∃ l' : Lo, l'.b = l.b ∧ Vb B w' l' (amS nn 0 0) ∧ (∀ k, XV l' (amS nn 0 0) k → XV l (vs0 nn) k ∨ w.heap.size ≤ k) ∧ Apart (XB l.b) w w' := by
  refine Calls.mono (begin_ok B l (vs0 nn) 0 w h hB rfl) ?_
  rintro r w' ⟨rfl, h1, h2⟩
  rw [am_begin] at h1
  refine ⟨rfl, ⟨l.b, l.m, upF l.r 0 w.heap.size⟩, rfl, h1, fun k hk => ?_, h2⟩
  rcases hk with e | e | ⟨r, hr, e⟩
  · exact .inl (.inl e)
  · exact .inl (.inr (.inl e))
  · have hr' : decide (r = 0) = true := hr
    have e0 : r = 0 := of_decide_eq_true hr'
    subst e0
    have e' : k = upF l.r 0 w.heap.size 0 := e
    rw [upF_same] at e'
    exact .inr (by omega)
theorem ob_map (B : Nat) (l : Lo) (nn : Int) (i : Nat) (w : World) (hi : i < 16) (h : Vb B w l (amS nn 0 i)) : Calls Try.prog 14 #[.pointer (some ⟨l.b, 0, none⟩), .int .i64 0, .int .i64 (i : Nat)] w fun r w' => r = .returned (.int .i64 0) ∧ Vb B w' l (amS nn 0 (i + 1)) ∧ Apart (XB (l.r 0)) w w' := by
  refine Calls.mono (map_ok B l (amS nn 0 i) 0 (i : Int) w h rfl (by omega) (am_none nn 0 i)) ?_
  rintro r w' ⟨rfl, h1, h2⟩
  have e : ({ (amS nn 0 i) with pg := upF (amS nn 0 i).pg 0 (upI ((amS nn 0 i).pg 0) (i : Int) (some (-1))) } : Vs) = amS nn 0 (i + 1) := am_map nn 0 i
  rw [e] at h1
  exact ⟨rfl, h1, h2⟩
def flg0 : List Bool := [true, false, false, false, false, false]
def own0 : List Int := List.replicate 768 0
/-- The beginning, page by page. -/
structure Og (w W : World) (nn : Int) (l : Lo) (ab ob i : Nat) : Prop where
  v : Vb w.heap.size W l (amS nn 0 i)
  xa : ¬ XV l (amS nn 0 i) ab
  xo : ¬ XV l (amS nn 0 i) ob
  ha : Cl W ab 31 (flg0.map Value.bool)
  ho : Cl W ob 33 (own0.map (Value.int .u8))
  k : Below w.heap.size w W
  la : w.heap.size ≤ ab
  lo : w.heap.size ≤ ob
  ne : ab ≠ ob
theorem og_map (w W : World) (nn : Int) (l : Lo) (ab ob i : Nat) (hi : i < 16) (h : Og w W nn l ab ob i) : Calls Try.prog 14 #[.pointer (some ⟨l.b, 0, none⟩), .int .i64 0, .int .i64 (i : Nat)] W fun r w' => r = .returned (.int .i64 0) ∧ Og w w' nn l ab ob (i + 1) := by
  refine Calls.mono (ob_map w.heap.size l nn i W hi h.v) ?_
  rintro r w' ⟨rfl, h1, h2⟩
  have e0 : XV l (amS nn 0 (i + 1)) = XV l (amS nn 0 i) := rfl
  have hr : XV l (amS nn 0 i) (l.r 0) := .inr (.inr ⟨0, rfl, rfl⟩)
  exact ⟨rfl, h1, h.xa, h.xo, h.ha.stay h2 (fun e => h.xa (by have e' : ab = l.r 0 := e; rw [e']; exact hr)), h.ho.stay h2 (fun e => h.xo (by have e' : ob = l.r 0 := e; rw [e']; exact hr)), h.k.trans (h2.below w.heap.size (fun k (e : k = l.r 0) => by rw [e]; exact h.v.ge hr) h.k.size), h.la, h.lo, h.ne⟩
theorem og_ow (w W : World) (N : Nat) (l : Lo) (ab ob : Nat) (h1 : 1 ≤ N) (h2 : N ≤ 64) (h : Og w W N l ab ob 4) : Ow w W l.b ab ob N flg0 own0 0 := by
  have hI := am_iv N h1 h2 0 4 (by omega)
  refine ⟨⟨l, amS N 0 4, fun _ _ => 0, ⟨rfl, h.v, hI, by show (0 : Int) ≤ 0 ∧ (0 : Int) ≤ ((0 : Nat) : Int); omega⟩, h.xa, h.xo, all6 rfl rfl rfl rfl rfl rfl, fun p hp => ?_⟩, h.ha, h.ho, rfl, List.length_replicate, h.k, h.la, h.lo, h.ne⟩
  have hp' : decide (p = 0) = true := hp
  have e0 : p = 0 := of_decide_eq_true hp'
  subst e0
  refine ⟨fun k hk e => ?_, fun a ha => ?_⟩
  · have e' : (if (0 : Fin 6) = 0 ∧ 0 ≤ (k : Int) ∧ (k : Int) < ((4 : Nat) : Int) then some (-1 : Int) else none) = none := e
    rw [if_pos ⟨rfl, by omega, by omega⟩] at e'
    cases e'
  · show 0 = (List.replicate 768 (0 : Int)).getD _ 0
    rw [List.getD_eq_getElem?_getD, List.getElem?_replicate]
    split <;> rfl
theorem flag_cell {w : World} {b : Nat} {L : List Bool} (h : Cl w b 31 (L.map Value.bool)) (k : Nat) (hk : k < L.length) : w.cell? ⟨b, k, none⟩ = some (.bool (L.getD k false)) := by
  rw [h.cell, List.getElem?_map, List.getElem?_eq_getElem hk, List.getD_eq_getElem?_getD, List.getElem?_eq_getElem hk]
  rfl
theorem byte_cell {w : World} {b : Nat} {L : List Int} (h : Cl w b 33 (L.map (Value.int .u8))) (k : Nat) (hk : k < L.length) : w.cell? ⟨b, k, none⟩ = some (.int .u8 (L.getD k 0)) := by
  rw [h.cell, List.getElem?_map, List.getElem?_eq_getElem hk, List.getD_eq_getElem?_getD, List.getElem?_eq_getElem hk]
  rfl
theorem row_range {w : World} {b : Nat} {L : List Int} (h : Cl w b 33 (L.map (Value.int .u8))) (p : Nat) : w.rangeAt b (p * 128) ((rwL L p).map (Value.int .u8)) := fun j v hv => by
  rw [List.getElem?_map] at hv
  obtain ⟨x, hx, rfl⟩ := Option.map_eq_some_iff.1 hv
  rw [h.cell, List.getElem?_map]
  unfold rwL at hx
  rw [List.getElem?_take] at hx
  split at hx
  · rw [List.getElem?_drop] at hx
    rw [hx]
    rfl
  · cases hx
theorem row_there {w : World} {b : Nat} {L : List Int} (h : Cl w b 33 (L.map (Value.int .u8))) (hl : L.length = 768) (p n : Nat) (hp : p < 6) (hn : n = 128) : w.there b (p * 128) n := fun j hj => by
  rw [byte_cell h _ (by omega)]
  exact ⟨rfl, h.thaw _⟩
theorem cl_row {w : World} {b : Nat} {t : TypeId} : ∀ (vs : List Int) {L : List Int} (k : Nat), Cl w b t (L.map (Value.int .u8)) → k + vs.length ≤ L.length → Cl (w.setCells b k (vs.map (Value.int .u8))) b t ((putL L k vs).map (Value.int .u8))
  | [], L, k, h, _ => by rw [putL_nil]; exact h
  | x :: vs, L, k, h, hk => by
    rw [List.length_cons] at hk
    have h1 := h.set k (.int .u8 x)
    rw [← List.map_set] at h1
    have h2 := cl_row vs (k + 1) h1 (by rw [List.length_set]; omega)
    have e : putL (L.set k x) (k + 1) vs = putL L k (x :: vs) := by
      rw [← putL_one x (by omega : k < L.length)]
      exact putL_putL (L := L) (u := [x]) (v := vs) (k := k) (by simp; omega)
    rw [e] at h2
    exact h2
theorem row_apart (b : Nat) : ∀ (vs : List Value) (w : World) (k : Nat) (X : Nat → Prop), X b → Apart X w (w.setCells b k vs)
  | [], w, k, X, _ => Apart.refl _ _
  | v :: vs, w, k, X, h => (Apart.at w b k v h).trans (row_apart b vs _ (k + 1) X h)
set_option maxHeartbeats 2000000 in
theorem own_law (x0 : Nat) (v : Value) (l : List Dv) (h0 : x0 ≤ 255) (w : World) (hd : Dvs w.heap.size w v l) : Calls Try.prog 4 #[.int .u8 x0, v] w fun r w' => r = .returned (.bool true) ∧ Below w.heap.size w w' := by
  obtain ⟨ad, cap, rfl, hll, hcell⟩ := id hd
  have HD : Hid3 (Dvs w.heap.size w (.slice ad l.length cap) l) := ⟨hd⟩
  obtain ⟨N, hN⟩ : ∃ N : Nat, N = x0 % 8 + 1 := ⟨_, rfl⟩
  have hN1 : 1 ≤ N := by omega
  have hN8 : N ≤ 8 := by omega
  obtain ⟨nn, hnn⟩ : ∃ nn : Int, nn = (N : Int) := ⟨_, rfl⟩
  have hnz : (x0 : Int) % 8 + 1 = nn := by omega
  have cN := vnew_good nn w (by omega) (by omega)
  have HNN := Hid3.mk hnn
  clear hd hcell hN hnn
  go_enter Try.func4, Try.ntmps4
  go_wp2_with fail
  refine cN.mono ?_
  rintro r W0 ⟨l0, rfl, hV, hB0⟩
  have H0 : Hid3 (Vb w.heap.size W0 l0 (vs0 nn) ∧ Below w.heap.size w W0) := ⟨hV, hB0⟩
  clear cN hV hB0 hnz
  go_wp2_with fail
  refine (live_ok W0).mono ?_
  rintro r W1 ⟨rfl, hB1⟩
  have H1 : Hid3 (Vb w.heap.size W1 l0 (vs0 nn) ∧ Below w.heap.size w W1 ∧ ∀ k, XV l0 (vs0 nn) k → k < W1.heap.size) := ⟨H0.out.1.below hB1, H0.out.2.trans (hB1.mono H0.out.2.size), (H0.out.1.below hB1).lts⟩
  clear hB1 H0
  go_wp2_with (refine wpList_zalloc rfl 33 rfl _ rfl _ ((own0).map (Value.int .u8)).toArray rfl own_zero ?_)
  have HA : Hid3 (∀ WA, WA = (W1.alloc (.cells #[.bool false, .bool false, .bool false, .bool false, .bool false, .bool false] 31)).alloc (.cells ((own0).map (Value.int .u8)).toArray 33) → Vb w.heap.size WA l0 (vs0 nn) ∧ Below w.heap.size w WA ∧ Cl WA W1.heap.size 31 [.bool false, .bool false, .bool false, .bool false, .bool false, .bool false] ∧ Cl WA (W1.heap.size + 1) 33 (own0.map (Value.int .u8)) ∧ (∀ k, XV l0 (vs0 nn) k → k < W1.heap.size) ∧ WA.heap.size = W1.heap.size + 2 ∧ w.heap.size ≤ W1.heap.size) := ⟨fun WA e => by
    obtain ⟨a1, a2, a3⟩ := H1.out
    have b1 := below_new W1 (.cells #[.bool false, .bool false, .bool false, .bool false, .bool false, .bool false] 31)
    have b2 := below_new (W1.alloc (.cells #[.bool false, .bool false, .bool false, .bool false, .bool false, .bool false] 31)) (.cells ((own0).map (Value.int .u8)).toArray 33)
    have c2 := Cl.new (W1.alloc (.cells #[.bool false, .bool false, .bool false, .bool false, .bool false, .bool false] 31)) 33 ((own0).map (Value.int .u8))
    rw [show (W1.alloc (.cells #[.bool false, .bool false, .bool false, .bool false, .bool false, .bool false] 31)).heap.size = W1.heap.size + 1 by simp] at c2
    subst e
    exact ⟨(a1.below b1).below b2, (a2.trans (b1.mono a2.size)).trans (b2.mono (Nat.le_trans a2.size (by simp))), (Cl.new W1 31 [.bool false, .bool false, .bool false, .bool false, .bool false, .bool false]).alloc _, c2, a3, by simp, a2.size⟩⟩
  generalize hWA : (W1.alloc (.cells #[.bool false, .bool false, .bool false, .bool false, .bool false, .bool false] 31)).alloc (.cells ((own0).map (Value.int .u8)).toArray 33) = WA at *
  have HA2 := Hid3.mk (HA.out WA rfl)
  clear HA hWA H1
  generalize W1.heap.size = ab at *
  have cB := ob_begin w.heap.size l0 nn WA HA2.out.1 (by have := HA2.out.2.2.2.2.2; omega)
  have HLB : Hid3 (w.heap.size ≤ l0.b) := ⟨HA2.out.1.g⟩
  have HXB : Hid3 (XV l0 (vs0 nn) l0.b) := ⟨.inl rfl⟩
  generalize hvb : l0.b = vb at *
  refine Calls.mono cB ?_
  rintro r W3 ⟨rfl, lo, hlb, hV3, hx3, hA3⟩
  obtain ⟨ob, hob⟩ : ∃ ob : Nat, ob = ab + 1 := ⟨_, rfl⟩
  have HG : Hid3 (W3.cell? ⟨ab, 0, none⟩ = some (.bool false) ∧ W3.frozen? ⟨ab, 0, none⟩ = false ∧ Og w (W3.setCell ⟨ab, 0, none⟩ (.bool true)) nn lo ab ob 0) := ⟨by
    obtain ⟨b1, b2, b3, b4, b5, b6, b7⟩ := HA2.out
    have hvbl : vb < ab := b5 vb HXB.out
    have c1 := b3.stay hA3 (fun e => by have e' : ab = vb := e; omega)
    have c2 := b4.stay hA3 (fun e => by have e' : ab + 1 = vb := e; omega)
    have na : ¬ XV lo (amS nn 0 0) ab := fun e => (hx3 _ e).elim (fun e => by have := b5 _ e; omega) (fun e => by omega)
    have no : ¬ XV lo (amS nn 0 0) (ab + 1) := fun e => (hx3 _ e).elim (fun e => by have := b5 _ e; omega) (fun e => by omega)
    have ap : Apart (XB ab) W3 (W3.setCell ⟨ab, 0, none⟩ (.bool true)) := Apart.at W3 ab 0 _ rfl
    have k3 := b2.trans (hA3.below w.heap.size (fun k (e : k = vb) => by rw [e]; exact HLB.out) b2.size)
    rw [hob]
    refine ⟨(c1.cell 0), c1.thaw 0, hV3.stay ap (fun j hj (e : j = ab) => na (by rw [← e]; exact hj)), na, no, ?_, c2.stay ap (fun (e : ab + 1 = ab) => by omega), k3.trans (ap.below w.heap.size (fun k (e : k = ab) => by rw [e]; exact b7) k3.size), b7, by omega, by omega⟩
    exact c1.set 0 (.bool true)⟩
  rw [← hlb]
  rw [← hob]
  clear hV3 hx3 hA3 HA2 HLB HXB hob cB hlb hvb
  have g0 := HG.out.1
  have g1 := HG.out.2.1
  have HG2 : Hid3 (Og w (W3.setCell ⟨ab, 0, none⟩ (.bool true)) nn lo ab ob 0) := ⟨HG.out.2.2⟩
  clear HG
  go_wp2
  clear g0 g1
  go_loopw [8] (fun i W => ∃ k : Nat, k ≤ 4 ∧ i = .int .i64 (k : Int) ∧ Hid3 (Og w W nn lo ab ob k)) (fun i _ => 4 - (intOf i).toNat)
  case atStart => exact ⟨0, by omega, rfl, HG2⟩
  case round =>
    obtain ⟨k, hk, rfl, HK⟩ := hrel
    clear HG2
    by_cases hk8 : k < 4
    · have hkz : (k : Int) < 4 := by omega
      have cM := og_map w wr nn lo ab ob k (by omega) HK.out
      go_wp2_with fail
      refine Calls.mono cM ?_
      rintro r W2 ⟨rfl, hG2⟩
      have HK2 := Hid3.mk hG2
      clear hG2 cM
      go_wp2
      go_roundw
      case rel => exact ⟨k + 1, by omega, by go_num, HK2⟩
      case measure => simp [intOf]; omega
    · have hkz : ¬ (k : Int) < 4 := by omega
      have e : k = 4 := by omega
      have HO : Hid3 (Ow w wr lo.b ab ob N flg0 own0 0) := ⟨og_ow w wr N lo ab ob hN1 (by omega) (by have := HK.out; rw [HNN.out, e] at this; exact this)⟩
      generalize lo.b = vb2 at *
      generalize hk4 : (k : Int) = k4 at *
      clear HK HNN e hk4 hk hk8
      go_wp2_with fail
      clear hkz
      go_loopw [9] (fun i W => ∃ (k : Nat) (HL : List Bool) (OL : List Int), k ≤ 60 ∧ k ≤ l.length ∧ i = .int .i64 (k : Int) ∧ Hid3 (Ow w W vb2 ab ob N HL OL (16 * k))) (fun i _ => 61 - (intOf i).toNat)
      case atStart => exact ⟨0, flg0, own0, by omega, Nat.zero_le _, rfl, HO⟩
      case round =>
        obtain ⟨k, HL, OL, hk60, hkl, rfl, HK⟩ := hrel
        clear HO
        have hw1 : IntKind.i64.wrap ((k : Int) + 1) = ((k + 1 : Nat) : Int) := by rw [IntKind.wrap_i64]; omega
        by_cases hgo : k < l.length ∧ k < 60
        · obtain ⟨hlt, h60⟩ := hgo
          have hltz : (k : Int) < (l.length : Int) := by omega
          have h60z : (k : Int) < 60 := by omega
          have hc90 : 16 * k ≤ 90000 := by omega
          obtain ⟨_, _, e0, _, hc⟩ := HD.out.below HK.out.k
          injection e0 with e1 e2 e3
          obtain ⟨ok, g, off, e4, hg, c0, c1, c2, c3, c4, c5⟩ := hc k l[k] (List.getElem?_eq_getElem hlt)
          rw [← e1] at e4
          subst e4
          clear hc e1 e3
          generalize l[k] = d at *
          obtain ⟨dk, dp, dq, dm, dc, dv, dbs⟩ := d
          obtain ⟨sa, scap, hdv, _⟩ := ok.b
          simp only at c0 c1 c2 c3 c4 c5 hdv
          subst hdv
          clear ok
          have HN : Hid3 (∀ W2 HL' OL', OwK w W2 vb2 ab ob N (16 * k) HL' OL' → ∀ W', Apart (X2 ab ob) W2 W' → Cl W' ab 31 (HL'.map Value.bool) → Cl W' ob 33 (OL'.map (Value.int .u8)) → Ow w W' vb2 ab ob N HL' OL' (16 * (k + 1))) := ⟨fun W2 HL' OL' h W' a b c => by
            have := h W' a b c
            rw [show 16 * (k + 1) = 16 * k + 16 by omega]
            exact this⟩
          by_cases k1 : dk = 1
          · subst k1
            go_wp2_with fail
            refine (ow_end w wr _ (below_new wr _) vb2 ab ob N (16 * k) HL OL dp HK.out).mono ?_
            rintro r W2 ⟨e, rfl, hca, hco, hst, hcase⟩
            have hb := hst wr.heap.size (Nat.le_refl _) (by simp)
            have x1 : W2.cell? ⟨wr.heap.size, 1, none⟩ = some (.int .i64 dp) := (World.cell?_of_block (w := _) hb).trans (by simp [go_sem])
            clear hb hst
            rcases hcase with ⟨he, hK⟩ | ⟨rfl, ⟨p, hp6⟩, hp, hK⟩
            · have HK2 : Hid3 (Ow w W2 vb2 ab ob N HL OL (16 * (k + 1))) := ⟨HN.out _ _ _ hK W2 (Apart.refl _ _) hca hco⟩
              clear hK hca hco HN HK
              go_wp2
              go_roundw
              case rel => exact ⟨k + 1, HL, OL, by omega, by omega, by first | rfl | trivial, HK2⟩
              case measure => simp [intOf]; omega
            · simp only at hp
              subst hp
              have hpz : (p : Int) < 6 := by omega
              have y1 := flag_cell hca p (by rw [HK.out.hl]; omega)
              have y2 := hca.thaw p
              have HK2 : Hid3 (Ow w (W2.setCell ⟨ab, p, none⟩ (.bool false)) vb2 ab ob N (HL.set p false) OL (16 * (k + 1))) := ⟨HN.out _ _ _ hK _ (Apart.at W2 ab p _ (.inl rfl)) (by
                have := hca.set p (.bool false)
                rw [← List.map_set] at this
                exact this) (hco.stay (Apart.at (X := XB ab) W2 ab p _ rfl) (fun e => HK.out.ne e.symm))⟩
              clear hK hca hco HN HK
              go_wp2
              go_roundw
              case rel => exact ⟨k + 1, _, OL, by omega, by omega, by first | rfl | trivial, HK2⟩
              case measure => simp [intOf]; omega
          · by_cases k2 : dk = 2
            · subst k2
              go_wp2_with fail
              refine (ow_fork w wr _ (below_new wr _) vb2 ab ob N (16 * k) HL OL dp dq HK.out).mono ?_
              rintro r W2 ⟨e, rfl, hca, hco, hst, hcase⟩
              have hb := hst wr.heap.size (Nat.le_refl _) (by simp)
              have x1 : W2.cell? ⟨wr.heap.size, 1, none⟩ = some (.int .i64 dp) := (World.cell?_of_block (w := _) hb).trans (by simp [go_sem])
              have x2 : W2.cell? ⟨wr.heap.size, 2, none⟩ = some (.int .i64 dq) := (World.cell?_of_block (w := _) hb).trans (by simp [go_sem])
              have hXa : wr.heap.size ≠ ab := fun e => by have := HK.out.ha.lt; omega
              have hXo : wr.heap.size ≠ ob := fun e => by have := HK.out.ho.lt; omega
              have HXX := Hid3.mk (And.intro hXa hXo)
              clear hb hst hXa hXo
              rcases hcase with ⟨he, hK⟩ | ⟨rfl, ⟨p, hp6⟩, ⟨q, hq6⟩, hp, hq, hpq, hK⟩
              · have HK2 : Hid3 (Ow w W2 vb2 ab ob N HL OL (16 * (k + 1))) := ⟨HN.out _ _ _ hK W2 (Apart.refl _ _) hca hco⟩
                clear hK hca hco HN HK
                go_wp2
                go_roundw
                case rel => exact ⟨k + 1, HL, OL, by omega, by omega, by first | rfl | trivial, HK2⟩
                case measure => simp [intOf]; omega
              · simp only at hp hq hpq hK
                subst hp
                subst hq
                have hpz : (p : Int) < 6 := by omega
                have hqz : (q : Int) < 6 := by omega
                have hol := HK.out.ol
                have hhl := HK.out.hl
                have hne := HK.out.ne
                have hrl := rwL_len hol hp6
                have hcd : Cl W2.drew ab 31 (HL.map Value.bool) := hca
                have hod : Cl W2.drew ob 33 (OL.map (Value.int .u8)) := hco
                have a1 : Apart (X2 ab ob) W2.drew (W2.drew.setCell ⟨ab, q, none⟩ (.bool true)) := Apart.at W2.drew ab q _ (.inl rfl)
                have hca1 : Cl (W2.drew.setCell ⟨ab, q, none⟩ (.bool true)) ab 31 ((HL.set q true).map Value.bool) := by
                  have := hcd.set q (.bool true)
                  rw [← List.map_set] at this
                  exact this
                have hco1 : Cl (W2.drew.setCell ⟨ab, q, none⟩ (.bool true)) ob 33 (OL.map (Value.int .u8)) := hod.stay (Apart.at (X := XB ab) W2.drew ab q _ rfl) (fun e => hne e.symm)
                have a2 : Apart (X2 ab ob) (W2.drew.setCell ⟨ab, q, none⟩ (.bool true)) ((W2.drew.setCell ⟨ab, q, none⟩ (.bool true)).setCells ob (q * 128) ((rwL OL p).map (Value.int .u8))) := row_apart ob _ _ _ _ (.inr rfl)
                have hco2 := cl_row (rwL OL p) (q * 128) hco1 (by rw [hrl, hol]; omega)
                have hca2 : Cl ((W2.drew.setCell ⟨ab, q, none⟩ (.bool true)).setCells ob (q * 128) ((rwL OL p).map (Value.int .u8))) ab 31 ((HL.set q true).map Value.bool) := hca1.stay (row_apart ob _ _ _ (XB ob) rfl) (fun e => hne e)
                have HK2 : Hid3 (Ow w ((W2.drew.setCell ⟨ab, q, none⟩ (.bool true)).setCells ob (q * 128) ((rwL OL p).map (Value.int .u8))) vb2 ab ob N (HL.set q true) (putL OL (q * 128) (rwL OL p)) (16 * (k + 1))) := ⟨HN.out _ _ _ hK _ (((Apart.of_below (below_drew W2)).trans a1).trans a2) hca2 hco2⟩
                have r0 : W2.drew.rangeAt ob (p * 128) ((rwL OL p).map (Value.int .u8)) := row_range hod p
                have r1 : (W2.drew.setCell ⟨ab, q, none⟩ (.bool true)).rangeAt ob (p * 128) ((rwL OL p).map (Value.int .u8)) := row_range hco1 p
                have r2 : ((W2.drew.setCell ⟨ab, q, none⟩ (.bool true)).setCells ob (q * 128) ((rwL OL p).map (Value.int .u8))).rangeAt ob (p * 128) ((rwL OL p).map (Value.int .u8)) := World.rangeAt_setCells_apart r1 ob (q * 128) _ (.inr (by rw [List.length_map, hrl]; omega))
                have xx : ∀ (W' : World) (Y : Nat → Prop), Apart Y W2 W' → ¬ Y wr.heap.size → wr.heap.size < W2.heap.size → W'.cell? ⟨wr.heap.size, 1, none⟩ = some (.int .i64 (p : Int)) ∧ W'.cell? ⟨wr.heap.size, 2, none⟩ = some (.int .i64 (q : Int)) := fun W' Y ap hy hl => ⟨(World.cell?_of_block (w := W2) (ap.block _ hl hy)).trans x1, (World.cell?_of_block (w := W2) (ap.block _ hl hy)).trans x2⟩
                have hlX : wr.heap.size < W2.heap.size := World.block_lt_of_cell? W2 _ x1
                have hyX : ¬ X2 ab ob wr.heap.size := fun e => e.elim HXX.out.1 HXX.out.2
                have s0 := xx W2.drew _ (Apart.of_below (X := X2 ab ob) (below_drew W2)) hyX hlX
                have s1 := xx _ _ ((Apart.of_below (X := X2 ab ob) (below_drew W2)).trans a1) hyX hlX
                have s2 := xx _ _ (((Apart.of_below (X := X2 ab ob) (below_drew W2)).trans a1).trans a2) hyX hlX
                have HS0 := Hid3.mk (And.intro s0.1 (And.intro s0.2 r0))
                have HS1 := Hid3.mk (And.intro s1.1 (And.intro s1.2 r1))
                have HS2 := Hid3.mk (And.intro s2.1 (And.intro s2.2 r2))
                have HST1 := Hid3.mk (run_storeB W2.drew ab q (HL.getD q false) true (flag_cell hcd q (by omega)) (hcd.thaw q))
                have HSZ : Hid3 ((Try.prog.info? 32).map (·.size) = some ((rwL OL p).map (Value.int .u8)).length) := ⟨by rw [List.length_map, hrl]; exact row_size⟩
                have HST2 : Hid3 ((Instr.storeAt 32 (.pointer (some ⟨ob, q * 128, none⟩)) (.agg ((rwL OL p).map (Value.int .u8)).toArray)).run Try.prog (W2.drew.setCell ⟨ab, q, none⟩ (.bool true)) = .ok () ((W2.drew.setCell ⟨ab, q, none⟩ (.bool true)).setCells ob (q * 128) ((rwL OL p).map (Value.int .u8)))) := ⟨by
                  have := run_storeAt_mid (P := Try.prog) (W2.drew.setCell ⟨ab, q, none⟩ (.bool true)) ob (q * 128) 32 ((rwL OL p).map (Value.int .u8)).toArray (row_there hco1 hol q _ hq6 (by simp [hrl])) (by rw [List.size_toArray]; exact HSZ.out) (mids _)
                  simpa using this⟩
                clear hK hca hco hcd hod a1 hca1 hco1 a2 hco2 hca2 r0 r1 r2 xx hlX hyX s0 s1 s2 HXX HN HK hol hhl hne hrl
                generalize wr.heap.size = X at *
                go_wp2_with fail
                refine wp_region_held_drew (S := fun w' => w'.cell? ⟨X, 1, none⟩ = some (.int .i64 (p : Nat)) ∧ w'.cell? ⟨X, 2, none⟩ = some (.int .i64 (q : Nat)) ∧ w'.rangeAt ob (p * 128) ((rwL OL p).map (Value.int .u8))) (by kernel_rfl) HS0.out (fun hHeld => ?_)
                refine takeD (i := 0) (v := ?v72) (some 72) rfl rfl (by kernel_rfl) (by kernel_rfl) (by kernel_rfl) (fun _ _ _ h => h) (Or.inl ⟨by rfl, ?hy72⟩) (by assumption) ?_
                case hy72 => (intro w' hSw; (try dsimp only at hSw); (try obtain ⟨hs1, hs2, hs3⟩ := hSw); go_simp; try (with_reducible rfl))
                simp only [Act.put, List.setIfInBounds_toArray, List.set_cons_zero, List.set_cons_succ]
                refine takeD (i := 1) (v := ?v73) (some 73) rfl rfl (by kernel_rfl) (by kernel_rfl) (by kernel_rfl) (fun _ _ _ h => h) (Or.inl ⟨by rfl, ?hy73⟩) (by assumption) ?_
                case hy73 => (intro w' hSw; (try dsimp only at hSw); (try obtain ⟨hs1, hs2, hs3⟩ := hSw); go_simp; try (with_reducible rfl))
                simp only [Act.put, List.setIfInBounds_toArray, List.set_cons_zero, List.set_cons_succ]
                refine takeD (i := 2) (v := ?v74) (some 74) rfl rfl (by kernel_rfl) (by kernel_rfl) (by kernel_rfl) (fun _ _ _ h => h) (Or.inl ⟨by rfl, ?hy74⟩) (by assumption) ?_
                case hy74 => (intro w' hSw; (try dsimp only at hSw); (try obtain ⟨hs1, hs2, hs3⟩ := hSw); go_simp; try (with_reducible rfl))
                simp only [Act.put, List.setIfInBounds_toArray, List.set_cons_zero, List.set_cons_succ]
                refine takeD (i := 3) (v := ?v75) (some 75) rfl rfl (by kernel_rfl) (by kernel_rfl) (by kernel_rfl) (fun _ _ _ h => h) (Or.inl ⟨by rfl, ?hy75⟩) (by assumption) ?_
                case hy75 => (intro w' hSw; (try dsimp only at hSw); (try obtain ⟨hs1, hs2, hs3⟩ := hSw); go_simp; try (with_reducible rfl))
                simp only [Act.put, List.setIfInBounds_toArray, List.set_cons_zero, List.set_cons_succ]
                refine takeD (i := 4) (v := ?v76) (some 76) rfl rfl (by kernel_rfl) (by kernel_rfl) (by kernel_rfl) (fun _ _ _ h => h) (Or.inl ⟨by rfl, ?hy76⟩) (by assumption) ?_
                case hy76 => (intro w' hSw; (try dsimp only at hSw); (try obtain ⟨hs1, hs2, hs3⟩ := hSw); go_simp; try (with_reducible rfl))
                simp only [Act.put, List.setIfInBounds_toArray, List.set_cons_zero, List.set_cons_succ]
                refine takeD (i := 5) (v := ?v77) (some 77) rfl rfl (by kernel_rfl) (by kernel_rfl) (by kernel_rfl) (fun _ _ _ h => h) (Or.inl ⟨by rfl, ?hy77⟩) (by assumption) ?_
                case hy77 => (intro w' hSw; (try dsimp only at hSw); (try obtain ⟨hs1, hs2, hs3⟩ := hSw); go_simp; try (with_reducible rfl))
                simp only [Act.put, List.setIfInBounds_toArray, List.set_cons_zero, List.set_cons_succ]
                refine takeD (i := 6) (v := ?v78) (some 78) rfl rfl (by kernel_rfl) (by kernel_rfl) (by kernel_rfl) (fun _ _ _ h => h) (Or.inl ⟨by rfl, ?hy78⟩) (by assumption) ?_
                case hy78 => (intro w' hSw; (try dsimp only at hSw); (try obtain ⟨hs1, hs2, hs3⟩ := hSw); go_simp; try (with_reducible rfl))
                simp only [Act.put, List.setIfInBounds_toArray, List.set_cons_zero, List.set_cons_succ]
                refine takeD (i := 8) (v := ?v80) (some 80) rfl rfl (by kernel_rfl) (by kernel_rfl) (by kernel_rfl) (fun _ _ _ h => h) (Or.inl ⟨by rfl, ?hy80⟩) (by assumption) ?_
                case hy80 => (intro w' hSw; (try dsimp only at hSw); (try obtain ⟨hs1, hs2, hs3⟩ := hSw); go_simp; try (with_reducible rfl))
                simp only [Act.put, List.setIfInBounds_toArray, List.set_cons_zero, List.set_cons_succ]
                refine wpAnyH_take (i := 7) (v := .agg ((rwL OL p).map (Value.int .u8)).toArray) rfl (by kernel_rfl) (by kernel_rfl) (by kernel_rfl) (fun _ _ _ h => h) (yieldsIf_load_mid (by rfl) 32 _ rfl ob (p * 128) rfl ((rwL OL p).map (Value.int .u8)) _ (fun w hw => hw.2.2) Try.underlying32 rfl HSZ.out) (by assumption) ?_
                simp only [Act.put, List.setIfInBounds_toArray]
                refine wpAnyH_ready (rs := [9]) (by kernel_rfl) (by simp) (AllReadyH.cons rfl (fun K hK => ?_) AllReadyH.nil)
                refine step_store none rfl rfl 4 _ _ rfl _ _ rfl rfl HST1.out ?_
                refine hK.out _ _ HS1.out (fun hHeld2 => ?_)
                clear hK K hHeld
                have hHeld := hHeld2
                clear hHeld2
                try simp only [Act.put]
                refine takeD (i := 10) (v := ?v81) (some 81) rfl rfl (by kernel_rfl) (by kernel_rfl) (by kernel_rfl) (fun _ _ _ h => h) (Or.inl ⟨by rfl, ?hy81⟩) (by assumption) ?_
                case hy81 => (intro w' hSw; (try dsimp only at hSw); (try obtain ⟨hs1, hs2, hs3⟩ := hSw); go_simp; try (with_reducible rfl))
                simp only [Act.put]
                refine wpAnyH_ready (rs := [11]) (by kernel_rfl) (by simp) (AllReadyH.cons rfl (fun K hK => ?_) AllReadyH.nil)
                refine step_store none rfl rfl 32 _ _ rfl _ _ rfl rfl HST2.out ?_
                refine hK.out _ _ HS2.out (fun hHeld2 => ?_)
                clear hK K hHeld
                have hHeld := hHeld2
                clear hHeld2
                try simp only [Act.put]
                refine wpAnyH_done (by kernel_rfl) ?_ _
                go_wp2
                go_roundw
                case rel => exact ⟨k + 1, _, _, by omega, by omega, by first | rfl | trivial, HK2⟩
                case measure => simp [intOf]; omega
            · have HM : Hid3 (∀ W2, Below wr.heap.size wr W2 → Ow w W2 vb2 ab ob N HL OL (16 * (k + 1))) := ⟨fun W2 kb => by
                have := HK.out.up kb
                obtain ⟨l0, s0, V0, v0, r0⟩ := this.v
                exact ⟨⟨l0, s0, V0, ⟨v0.e, v0.v, v0.i, v0.cp.1, by have := v0.cp.2; omega⟩, r0⟩, this.ha, this.ho, this.hl, this.ol, this.k, this.la, this.lo, this.ne⟩⟩
              by_cases k56 : dk = 5 ∨ dk = 6
              · by_cases hm : 0 ≤ dm ∧ dm < 128
                · obtain ⟨a, rfl⟩ := Int.eq_ofNat_of_zero_le hm.1
                  have ha128 : a < 128 := by omega
                  have haz : (a : Int) < 128 := by omega
                  have haz0 : (0 : Int) ≤ (a : Int) := by omega
                  clear hm
                  rcases k56 with k5 | k6
                  all_goals
                    first
                      | subst k5
                      | subst k6
                    go_wp2_with fail
                    refine (ow_poke w wr _ (below_new wr _) vb2 ab ob N (16 * k) HL OL dp dc a ha128 hc90 HK.out).mono ?_
                    rintro r W2 ⟨e, rfl, hca, hco, hst, hcase⟩
                    have hb := hst wr.heap.size (Nat.le_refl _) (by simp)
                    have x1 : W2.cell? ⟨wr.heap.size, 1, none⟩ = some (.int .i64 dp) := (World.cell?_of_block (w := _) hb).trans (by simp [go_sem])
                    have x3 : W2.cell? ⟨wr.heap.size, 3, none⟩ = some (.int .i64 (a : Nat)) := (World.cell?_of_block (w := _) hb).trans (by simp [go_sem])
                    have x4 : W2.cell? ⟨wr.heap.size, 4, none⟩ = some (.int .u8 dc) := (World.cell?_of_block (w := _) hb).trans (by simp [go_sem])
                    clear hb hst HM
                    rcases hcase with ⟨he, hK⟩ | ⟨rfl, ⟨p, hp6⟩, hp, hK⟩
                    · have HK2 : Hid3 (Ow w W2 vb2 ab ob N HL OL (16 * (k + 1))) := ⟨HN.out _ _ _ hK W2 (Apart.refl _ _) hca hco⟩
                      clear hK hca hco HN HK
                      go_wp2
                      go_roundw
                      case rel => exact ⟨k + 1, HL, OL, by omega, by omega, by first | rfl | trivial, HK2⟩
                      case measure => simp [intOf]; omega
                    · simp only at hp hK
                      subst hp
                      have hpz : (p : Int) < 6 := by omega
                      have y1 := byte_cell hco (p * 128 + a) (by rw [HK.out.ol]; omega)
                      have y2 := hco.thaw (p * 128 + a)
                      have HK2 : Hid3 (Ow w (W2.setCell ⟨ob, p * 128 + a, none⟩ (.int .u8 dc)).drew vb2 ab ob N HL (OL.set (p * 128 + a) dc) (16 * (k + 1))) := ⟨HN.out _ _ _ hK _ (Apart.at W2 ob (p * 128 + a) (.int .u8 dc) (.inr rfl)).drew (hca.stay (Apart.at (X := XB ob) W2 ob (p * 128 + a) (.int .u8 dc) rfl).drew (fun e => HK.out.ne e)) (by
                        have := hco.set (p * 128 + a) (.int .u8 dc)
                        rw [← List.map_set] at this
                        exact this)⟩
                      generalize OL.getD (p * 128 + a) 0 = ov at *
                      clear hK hca hco HN HK
                      go_wp2
                      go_region
                      go_wp2
                      go_roundw
                      case rel => exact ⟨k + 1, HL, _, by omega, by omega, by first | rfl | trivial, HK2⟩
                      case measure => simp [intOf]; omega
                · have hm2 : dm < 0 ∨ (0 ≤ dm ∧ ¬ dm < 128) := by omega
                  have HK2 : Hid3 (Ow w (wr.alloc (.cells #[.int .i64 dk, .int .i64 dp, .int .i64 dq, .int .i64 dm, .int .u8 dc, .slice sa dbs.length scap] 39)) vb2 ab ob N HL OL (16 * (k + 1))) := ⟨HM.out _ (below_new _ _)⟩
                  clear HM HN HK
                  rcases k56 with k5 | k6
                  all_goals
                    first
                      | subst k5
                      | subst k6
                    rcases hm2 with hm2 | ⟨hm2, hm3⟩
                    all_goals
                      go_wp2
                      go_roundw
                      case rel => exact ⟨k + 1, HL, OL, by omega, by omega, by first | rfl | trivial, HK2⟩
                      case measure => simp [intOf]; omega
              · have k5 : ¬ dk = 5 := fun e => k56 (.inl e)
                have k6 : ¬ dk = 6 := fun e => k56 (.inr e)
                have HK2 : Hid3 (Ow w (wr.alloc (.cells #[.int .i64 dk, .int .i64 dp, .int .i64 dq, .int .i64 dm, .int .u8 dc, .slice sa dbs.length scap] 39)) vb2 ab ob N HL OL (16 * (k + 1))) := ⟨HM.out _ (below_new _ _)⟩
                clear HM HN HK k56
                go_wp2
                go_roundw
                case rel => exact ⟨k + 1, HL, OL, by omega, by omega, by first | rfl | trivial, HK2⟩
                case measure => simp [intOf]; omega
        · have hgo2 : ¬ ((k : Int) < (l.length : Int)) ∨ ((k : Int) < (l.length : Int) ∧ ¬ ((k : Int) < 60)) := by omega
          generalize 16 * k = cc at *
          clear hgo hw1
          generalize hkk : (k : Int) = kk at *
          clear hkk hk60 hkl
          rcases hgo2 with hgo2 | ⟨hgo2, hgo3⟩
          all_goals
            go_wp2_with fail
            go_loopw [11] (fun i W => ∃ p : Nat, p ≤ 6 ∧ i = .int .i64 (p : Int) ∧ W = wr) (fun i _ => 7 - (intOf i).toNat)
            case atStart => exact ⟨0, by omega, rfl, rfl⟩
            case round =>
              obtain ⟨p, hp, rfl, rfl⟩ := hrel
              by_cases hp6 : p < 6
              · have hpz : (p : Int) < 6 := by omega
                go_wp2_with fail
                go_loopw [12] (fun i W => ∃ a : Nat, a ≤ 128 ∧ i = .int .i64 (a : Int) ∧ W = wr) (fun i _ => 129 - (intOf i).toNat)
                case atStart => exact ⟨0, by omega, rfl, rfl⟩
                case round =>
                  obtain ⟨a, ha, rfl, rfl⟩ := hrel
                  by_cases ha128 : a < 128
                  · have haz : (a : Int) < 128 := by omega
                    have cP := ow_peek w wr vb2 ab ob N cc HL OL p a hp6 ha128 HK.out
                    have y1 := flag_cell HK.out.ha p (by rw [HK.out.hl]; exact hp6)
                    have y2 := byte_cell HK.out.ho (p * 128 + a) (by rw [HK.out.ol]; omega)
                    have hw2 : IntKind.i64.wrap ((a : Int) + 1) = ((a + 1 : Nat) : Int) := by rw [IntKind.wrap_i64]; omega
                    generalize OL.getD (p * 128 + a) 0 = ov at *
                    have hjj : (ov != ov) = false := by simp
                    cases hh : HL.getD p false with
                    | true =>
                      rw [hh] at cP y1
                      simp only [if_true] at cP
                      go_wp2_with fail
                      refine cP.mono ?_
                      rintro r V ⟨rfl, rfl⟩
                      go_wp2
                      go_roundw
                      case rel => exact ⟨a + 1, by omega, by first | rfl | trivial, by first | rfl | trivial⟩
                      case measure => simp [intOf]; omega
                    | false =>
                      rw [hh] at cP y1
                      simp only [Bool.false_eq_true, if_false] at cP
                      go_wp2_with fail
                      refine cP.mono ?_
                      rintro r V ⟨rfl, rfl⟩
                      go_wp2
                      go_roundw
                      case rel => exact ⟨a + 1, by omega, by first | rfl | trivial, by first | rfl | trivial⟩
                      case measure => simp [intOf]; omega
                  · have haz : ¬ (a : Int) < 128 := by omega
                    have hw2 : IntKind.i64.wrap ((p : Int) + 1) = ((p + 1 : Nat) : Int) := by rw [IntKind.wrap_i64]; omega
                    go_wp2
                    go_roundw
                    case rel => exact ⟨p + 1, by omega, by first | rfl | trivial, by first | rfl | trivial⟩
                    case measure => simp [intOf]; omega
              · have hpz : ¬ (p : Int) < 6 := by omega
                have HB := Hid3.mk HK.out.k
                go_wp2
                go_ret
                exact ⟨rfl, HB.out⟩
end Go.Proofs.Ytlnpdpfbnbjebaa
