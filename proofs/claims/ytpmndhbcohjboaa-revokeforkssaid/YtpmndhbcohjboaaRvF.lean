/- The program's book; what is taken out of it. -/
import Derived.Test.YtpmndhbcohjboaaRvE
namespace Go.Proofs.Ytpmndhbcohjboaa
open Go.RowKit Go.Maps
set_option linter.unusedVariables false
set_option maxRecDepth 100000
def uCs (V : List Int) : List Value := V.map (Value.int .u8)
theorem uCs_append (L M : List Int) : uCs (L ++ M) = uCs L ++ uCs M := List.map_append
theorem uCs_len (L : List Int) : (uCs L).length = L.length * 1 := by simp [uCs]
theorem uCs_at (L : List Int) (k : Nat) (h : k < L.length) : (uCs L)[k]? = some (.int .u8 L[k]) := by simp [uCs, h]
theorem uCs_one (L : List Int) : ∀ u ∈ uCs L, u.oneCell' = true := fun u hu => by
  obtain ⟨d, _, rfl⟩ := List.mem_map.1 hu
  rfl
theorem uCs_take {L : List Int} {k : Nat} (h : k < L.length) : uCs (L.take (k + 1)) = uCs (L.take k) ++ [.int .u8 L[k]] := by
  rw [List.take_succ_eq_append_getElem h, uCs_append]
  rfl
theorem lost1_any (x : Int) (w : World) : Calls Try.prog 38 #[.int .u8 x] w fun e w' => e = .returned (.int .u8 x) ∧ w' = w := by
  go_enter Try.func38, Try.ntmps38
  go_wp2
  go_ret
  exact ⟨rfl, rfl⟩
set_option maxHeartbeats 4000000 in
theorem list_u (B : Nat) (v : Value) (L : List Int) (w : World) (hR : RowO w B 5 1 v L.length (uCs L)) (hl : L.length ≤ 1000) :
    Calls Try.prog 37 #[v, .func (.func 38) #[] #[]] w fun e w' => ∃ v', e = .returned v' ∧ RowO w' w.heap.size 5 1 v' L.length (uCs L) ∧ Below w.heap.size w w' := by
  obtain ⟨a0, cap0, rfl⟩ := hR.sl
  have HR := Hid3.mk hR
  clear hR
  go_enter Try.func37, Try.ntmps37
  go_wp2_with (refine wpList_make rfl 43 5 1 app8 _ _ rfl L.length w.heap.size rfl rfl (by omega) (Nat.le_refl _) ?_; intro w1 hrow1 hb1; have HS := Hid3.mk (And.intro hrow1 hb1); clear hrow1 hb1)
  go_loopw [5, 7, 13] (fun s5 _ s13 wr => ∃ kk : Nat, kk ≤ L.length ∧ s13 = .int .i64 kk ∧ Hid3 (RowO wr w.heap.size 5 1 s5 kk (uCs (L.take kk)) ∧ Below w.heap.size w wr)) (fun _ _ s13 _ => L.length - (intOf s13).toNat)
  case atStart => exact ⟨0, Nat.zero_le _, rfl, HS⟩
  case round =>
    obtain ⟨kk, hkk, rfl, HI⟩ := hrel
    clear HS
    by_cases hlt : kk < L.length
    · have hltz : (kk : Int) < (L.length : Int) := by omega
      obtain ⟨g, off, rfl, c0⟩ : ∃ g off, a0 = some ⟨g, off, none⟩ ∧ wr.cell? ⟨g, off + kk, none⟩ = some (.int .u8 L[kk]) := by
        rcases HR.out.form with ⟨_, h, _⟩ | ⟨g, off, cap, h, _, _, hg, hc⟩
        · omega
        · injection h with h _ _
          exact ⟨g, off, h, (HI.out.2.cell hg).trans (hc _ _ (uCs_at L kk hlt))⟩
      have hgl : g < wr.heap.size := World.block_lt_of_cell? wr _ c0
      have hcall := lost1_any L[kk] wr
      obtain ⟨a5, c5, rfl⟩ := HI.out.1.sl
      have h1 := below_new wr (.cells #[.int .u8 L[kk]] 5)
      have HQ1 := Hid3.mk (HI.out.1.below h1)
      have HQ2 := Hid3.mk (HI.out.2.trans (h1.mono HI.out.2.size))
      have HM := Hid3.mk (news_new wr 5 [.int .u8 L[kk]])
      have HA := Hid3.mk (uCs_take hlt)
      clear h1 HI
      generalize L[kk] = x at *
      go_wp2_with fail
      refine hcall.mono ?_
      rintro e W2 ⟨rfl, hW⟩
      rw [hW]
      clear hcall hW
      go_wp2_with (at_builtin; refine wpList_appO rfl _ _ 43 5 1 app8 rfl w.heap.size _ kk (uCs (L.take kk)) rfl HQ1.out ⟨wr.heap.size, 0, none⟩ 1 1 [.int .u8 x] rfl rfl HM.out (by simp [Value.oneCell']) (by omega) HQ2.out.size ?_; intro v' W4 hown4 hgrow hat; have H4 := Hid3.mk (And.intro hown4 (HQ2.out.grown hgrow HQ2.out.size (fun k e => (HQ1.out.lt k e).1))); clear hown4 hgrow hat)
      go_roundw
      case rel => exact ⟨kk + 1, by omega, by go_num, ⟨by rw [HA.out]; exact H4.out.1, H4.out.2⟩⟩
      case measure => simp [intOf]; omega
    · have hltz : ¬ (kk : Int) < (L.length : Int) := by omega
      obtain rfl : kk = L.length := by omega
      obtain ⟨h1, h2⟩ := HI.out
      rw [List.take_length] at h1
      have H1 := Hid3.mk h1
      have H2 := Hid3.mk h2
      clear h1 h2 HI
      go_wp2
      go_ret
      exact ⟨_, rfl, H1.out, H2.out⟩
def upd {n : Nat} {α : Type} (f : Fin n → α) (k : Fin n) (v : α) : Fin n → α := fun i => if i = k then v else f i
theorem upd_same {n : Nat} {α : Type} (f : Fin n → α) (k : Fin n) (v : α) : upd f k v k = v := by simp [upd]
theorem upd_other {n : Nat} {α : Type} (f : Fin n → α) (k i : Fin n) (v : α) (h : i ≠ k) : upd f k v i = f i := by simp [upd, h]
theorem all6 {P : Fin 6 → Prop} (h0 : P 0) (h1 : P 1) (h2 : P 2) (h3 : P 3) (h4 : P 4) (h5 : P 5) : ∀ k, P k
  | 0 => h0 | 1 => h1 | 2 => h2 | 3 => h3 | 4 => h4 | 5 => h5
/-- What is asked back, and the vectors. -/
structure Rs where
  d : List Dm
  v : Fin 6 → List Int
structure Rs.Ok (q : Rs) (N : Nat) : Prop where
  few : q.d.length ≤ 8
  keys : KeysD q.d
  rng : ∀ d ∈ q.d, 0 ≤ d.1 ∧ d.1 < 6 ∧ 0 ≤ d.2.1 ∧ d.2.1 < 64 ∧ 0 ≤ d.2.2 ∧ d.2.2 ≤ 2000000000
  vec : ∀ e, (q.v e).length + q.d.length ≤ N
def q0 : Rs := ⟨[], fun _ => []⟩
theorem q0_ok (N : Nat) : q0.Ok N := ⟨Nat.zero_le _, List.Pairwise.nil, (fun d h => by cases h), fun _ => Nat.zero_le _⟩
def bCs (av : Value) (m : Nat) (vs : Fin 6 → Value) : List Value := [av, .map (some m), vs 0, vs 1, vs 2, vs 3, vs 4, vs 5]
theorem bCs_at (av : Value) (m : Nat) (vs : Fin 6 → Value) : ∀ e : Fin 6, (bCs av m vs)[2 + e.1]? = some (vs e) := all6 rfl rfl rfl rfl rfl rfl
theorem bCs_set (av : Value) (m : Nat) (vs : Fin 6 → Value) (u : Value) : ∀ e : Fin 6, (bCs av m vs).set (2 + e.1) u = bCs av m (upd vs e u) := all6 rfl rfl rfl rfl rfl rfl
/-- The program's book. -/
structure Bk (B : Nat) (w : World) (b m : Nat) (av : Value) (vs : Fin 6 → Value) (q : Rs) : Prop where
  g : B ≤ b
  gm : B ≤ m
  k : Cl w b 60 (bCs av m vs)
  a : RowO w B 63 2 av q.d.length (dCs q.d)
  m : Mq w m q.d
  v : ∀ e, RowO w B 5 1 (vs e) (q.v e).length (uCs (q.v e))
  ap : ∀ e f g, (vs e).ownBlock = some g → (vs f).ownBlock = some g → e = f
theorem Bk.nm {B : Nat} {w : World} {b m : Nat} {av : Value} {vs : Fin 6 → Value} {q : Rs} (h : Bk B w b m av vs q) : b ≠ m := by
  have hr : w.heap[b]? = some (.cells (bCs av m vs).toArray 60 (0, 0)) := h.k
  obtain ⟨a1, c1, h1, _⟩ := h.m
  intro e
  rw [e, h1] at hr
  cases hr
theorem Mq.ne_row {w : World} {r B n size g : Nat} {L : List Dm} {e : TypeId} {v : Value} {xs : List Value} (h : Mq w r L) (k : RowO w B e size v n xs) (hg : v.ownBlock = some g) : g ≠ r := fun e => by
  obtain ⟨cur, hc⟩ := k.kind g hg
  obtain ⟨a, c, h1, _⟩ := h
  rw [e, h1] at hc
  cases hc
theorem Bk.below {B : Nat} {w w' : World} {b m : Nat} {av : Value} {vs : Fin 6 → Value} {q : Rs} (h : Bk B w b m av vs q) (k : Below w.heap.size w w') : Bk B w' b m av vs q :=
  ⟨h.g, h.gm, h.k.below k, h.a.below k, h.m.below k, fun e => (h.v e).below k, h.ap⟩
/-- The blocks that a book has. -/
def XK (b m : Nat) (av : Value) (vs : Fin 6 → Value) : Nat → Prop := fun k => k = b ∨ k = m ∨ av.ownBlock = some k ∨ ∃ e, (vs e).ownBlock = some k
theorem Bk.lt {B : Nat} {w : World} {b m : Nat} {av : Value} {vs : Fin 6 → Value} {q : Rs} (h : Bk B w b m av vs q) (k : Nat) (hk : XK b m av vs k) : B ≤ k ∧ k < w.heap.size := by
  rcases hk with rfl | rfl | hk | ⟨e, hk⟩
  · exact ⟨h.g, h.k.lt⟩
  · exact ⟨h.gm, h.m.lt⟩
  · exact h.a.lt k hk
  · exact (h.v e).lt k hk
theorem Bk.stay {B : Nat} {w w' : World} {b m : Nat} {av : Value} {vs : Fin 6 → Value} {q : Rs} {X : Nat → Prop} (h : Bk B w b m av vs q) (k : Apart X w w') (hx : ∀ i, X i → ¬ XK b m av vs i) : Bk B w' b m av vs q :=
  ⟨h.g, h.gm, h.k.stay k (fun e => hx _ e (.inl rfl)), h.a.stay k (fun g hg e => hx _ e (.inr (.inr (.inl hg)))), h.m.stay k (fun e => hx _ e (.inr (.inl rfl))), fun e => (h.v e).stay k (fun g hg i => hx _ i (.inr (.inr (.inr ⟨e, hg⟩)))), h.ap⟩
/-- Its cells. -/
structure BkC (w : World) (b m : Nat) (av : Value) (vs : Fin 6 → Value) : Prop where
  c0 : w.cell? ⟨b, 0, none⟩ = some av
  c1 : w.cell? ⟨b, 1, none⟩ = some (.map (some m))
  cv : ∀ e : Fin 6, w.cell? ⟨b, 2 + e.1, none⟩ = some (vs e)
  f : ∀ j, w.frozen? ⟨b, j, none⟩ = false
  l : b < w.heap.size
theorem Bk.c {B : Nat} {w : World} {b m : Nat} {av : Value} {vs : Fin 6 → Value} {q : Rs} (h : Bk B w b m av vs q) : BkC w b m av vs :=
  ⟨h.k.cell 0, h.k.cell 1, fun e => (h.k.cell _).trans (bCs_at av m vs e), h.k.thaw, h.k.lt⟩
theorem dget_mem {L : List Dm} (hK : KeysD L) (d : Dm) (hd : d ∈ L) : dget L d.1 d.2.1 = some d.2.2 := by
  induction L with
  | nil => cases hd
  | cons e L ih =>
    by_cases he : hasK d.1 d.2.1 e = true
    · have h1 : dget (e :: L) d.1 d.2.1 = some e.2.2 := by simp [dget, he]
      rw [h1]
      have he2 : e.1 = d.1 ∧ e.2.1 = d.2.1 := of_decide_eq_true he
      rcases List.mem_cons.1 hd with rfl | hd
      · rfl
      · exact absurd he2 ((List.pairwise_cons.1 hK).1 d hd)
    · have he' : hasK d.1 d.2.1 e = false := by simpa using he
      have h1 : dget (e :: L) d.1 d.2.1 = dget L d.1 d.2.1 := by simp [dget, he']
      rw [h1]
      rcases List.mem_cons.1 hd with rfl | hd
      · exact absurd (decide_eq_true (And.intro rfl rfl)) he
      · exact ih (List.pairwise_cons.1 hK).2 hd
/-- What is left while those are taken out one by one. -/
def lft (L T : List Dm) : List Dm := L.filter (fun d => !(T.any (fun t => hasK t.1 t.2.1 d)))
theorem lft_nil (L : List Dm) : lft L [] = L := List.filter_eq_self.2 (fun d _ => by simp)
theorem lft_snoc (L T : List Dm) (t : Dm) : lft L (T ++ [t]) = dout (lft L T) t.1 t.2.1 := by
  unfold lft dout
  rw [List.filter_filter]
  refine List.filter_congr fun d _ => ?_
  rw [List.any_append, List.any_cons, List.any_nil, Bool.or_false, Bool.not_or]
  exact Bool.and_comm _ _
theorem key_eq {L : List Dm} (hK : KeysD L) {d e : Dm} (hd : d ∈ L) (he : e ∈ L) (h : e.1 = d.1 ∧ e.2.1 = d.2.1) : e = d := by
  have h1 := dget_mem hK d hd
  have h2 := dget_mem hK e he
  rw [h.1, h.2, h1] at h2
  have h3 := Option.some.inj h2
  exact Prod.ext h.1 (Prod.ext h.2 h3.symm)
theorem lft_all {L : List Dm} (hK : KeysD L) (p : Dm → Bool) : lft L (L.filter p) = L.filter (fun d => !p d) := by
  unfold lft
  refine List.filter_congr fun d hd => ?_
  congr 1
  cases hp : p d with
  | true => exact List.any_eq_true.2 ⟨d, List.mem_filter.2 ⟨hd, hp⟩, decide_eq_true ⟨rfl, rfl⟩⟩
  | false =>
    refine List.any_eq_false.2 fun t ht hk => ?_
    have ht2 := List.mem_filter.1 ht
    have hk2 : d.1 = t.1 ∧ d.2.1 = t.2.1 := of_decide_eq_true hk
    have := key_eq hK ht2.1 hd hk2
    rw [← this] at ht2
    rw [hp] at ht2
    cases ht2.2
theorem KeysD.sub {L : List Dm} (h : KeysD L) (p : Dm → Bool) : KeysD (L.filter p) := List.Pairwise.sublist List.filter_sublist h
end Go.Proofs.Ytpmndhbcohjboaa
