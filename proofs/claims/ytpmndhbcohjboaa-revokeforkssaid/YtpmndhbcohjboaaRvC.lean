/- Rows that grow; the program's add, next. -/
import Derived.Test.YtpmndhbcohjboaaRvB
namespace Go.Proofs.Ytpmndhbcohjboaa
open Go.RowKit Go.Maps
set_option linter.unusedVariables false
set_option maxRecDepth 100000
theorem info_parts {t : TypeId} {z : Value} {s b : Nat} (h : (Try.prog.info? t).map (fun i => (i.zero, i.size, i.bytes)) = some (some z, s, b)) : ∃ i, Try.prog.info? t = some i ∧ i.zero = some z ∧ i.size = s ∧ i.bytes = b := by
  rw [Option.map_eq_some_iff] at h
  obtain ⟨i, hi, e⟩ := h
  injection e with e1 e2
  injection e2 with e2 e3
  exact ⟨i, hi, e1, e2, e3⟩
structure AppT (t e : TypeId) (size : Nat) : Prop where
  out : ∃ i z bytes, Try.prog.underlying t = some (.slice e) ∧ Try.prog.info? e = some i ∧ i.zero = some z ∧ i.size = size ∧ i.bytes = bytes ∧ z.cells.size = size ∧ 0 < size ∧ bytes ≤ 100
theorem AppT.of {t e : TypeId} {size bytes : Nat} {z : Value} (ht : Try.prog.underlying t = some (.slice e)) (h : (Try.prog.info? e).map (fun i => (i.zero, i.size, i.bytes)) = some (some z, size, bytes)) (hz : z.cells.size = size) (h0 : 0 < size) (hb : bytes ≤ 100) : AppT t e size := by
  obtain ⟨i, hi, h1, h2, h3⟩ := info_parts h
  exact ⟨i, z, bytes, ht, hi, h1, h2, h3, hz, h0, hb⟩
theorem appD : AppT 56 63 2 := AppT.of (z := .agg #[.int .u8 0, .int .u8 0]) (bytes := 2) Try.underlying56 (by kernel_rfl) rfl (by omega) (by omega)
theorem appV : AppT 54 5 1 := AppT.of (z := .int .u8 0) (bytes := 1) Try.underlying54 (by kernel_rfl) rfl (by omega) (by omega)
theorem app8 : AppT 43 5 1 := AppT.of (z := .int .u8 0) (bytes := 1) Try.underlying43 (by kernel_rfl) rfl (by omega) (by omega)
theorem appA : AppT 35 39 3 := AppT.of (z := .agg #[.int .u8 0, .int .u8 0, .int .i64 0]) (bytes := 16) Try.underlying35 (by kernel_rfl) rfl (by omega) (by omega)
theorem wp_appO (w : World) {o : Oper} {a : Act} {K : Act → World → Prop} {Q : Exit → Act → World → Prop} (s x : Operand) (t e : TypeId) (size : Nat) (hT : AppT t e size)
    (ho : o.op = .call { callee := .builtin .append, args := #[s, x], argTypes := #[t, t] })
    (B : Nat) (v : Value) (n : Nat) (xs : List Value) (hs : a.eval s = v) (hown : RowO w B e size v n xs) (ad : Addr) (m c : Nat) (news : List Value) (hx : a.eval x = .slice (some ad) m c) (hl : news.length = m * size) (hnews : ∀ j u, news[j]? = some u → w.cell? (ad.add j) = some u) (h1 : ∀ u ∈ news, u.oneCell' = true) (hb : n + m ≤ 100000) (hB : B ≤ w.heap.size)
    (h : ∀ v' w', RowO w' B e size v' (n + m) (xs ++ news) → w.grownBy w' v.ownBlock → (v'.ownBlock = v.ownBlock ∨ v'.ownBlock = some w.heap.size) → K (a.put o.dst v') w') : o.wp Try.prog a w K Q := by
  obtain ⟨i, z, bytes, g1, g2, g3, g4, g5, g6, g7, g8⟩ := hT.out
  have hby : (n + m) * bytes ≤ 140737488355328 := Nat.le_trans (Nat.mul_le_mul hb g8) (by omega)
  obtain ⟨v', w', hr, h2, h3, h4⟩ := run_appO w B t o.type e i z size bytes g1 g2 g3 g4 g5 g6 g7 v n xs hown ad m c news hl hnews h1 (by unfold maxLen; omega) hby hB
  unfold Oper.wp execOp
  simp only [ho, resolve, invoke, builtin, Sem.run_bind, Sem.run_pure, Result.andThen_ok, List.map_toArray, List.map_cons, List.map_nil, hs, hx, hr]
  exact h v' w' h2 h3 h4
theorem wpList_appO {w : World} {ops : Array Oper} {rest : List Oper} {o : Oper} {a : Act} {Q : Exit → Act → World → Prop} (hgd : o.guard = none) (s x : Operand) (t e : TypeId) (size : Nat) (hT : AppT t e size)
    (ho : o.op = .call { callee := .builtin .append, args := #[s, x], argTypes := #[t, t] })
    (B : Nat) (v : Value) (n : Nat) (xs : List Value) (hs : a.eval s = v) (hown : RowO w B e size v n xs) (ad : Addr) (m c : Nat) (news : List Value) (hx : a.eval x = .slice (some ad) m c) (hl : news.length = m * size) (hnews : ∀ j u, news[j]? = some u → w.cell? (ad.add j) = some u) (h1 : ∀ u ∈ news, u.oneCell' = true) (hb : n + m ≤ 100000) (hB : B ≤ w.heap.size)
    (h : ∀ v' w', RowO w' B e size v' (n + m) (xs ++ news) → w.grownBy w' v.ownBlock → (v'.ownBlock = v.ownBlock ∨ v'.ownBlock = some w.heap.size) → wpList Try.prog ops Q rest (a.put o.dst v') w') : wpList Try.prog ops Q (o :: rest) a w :=
  wpList_plain hgd fun _ hK => wp_appO w s x t e size hT ho B v n xs hs hown ad m c news hx hl hnews h1 hb hB fun v' w' h2 h3 h4 => hK _ _ (h v' w' h2 h3 h4)
theorem step_appO {w : World} {ops : Array Oper} {o : Oper} {a : Act} {K : Act → World → Prop} {Q : Exit → Act → World → Prop} {E : Prop} (hgd : o.guard = none) (s x : Operand) (t e : TypeId) (size : Nat) (hT : AppT t e size)
    (ho : o.op = .call { callee := .builtin .append, args := #[s, x], argTypes := #[t, t] })
    (B : Nat) (v : Value) (n : Nat) (xs : List Value) (hs : a.eval s = v) (hown : RowO w B e size v n xs) (ad : Addr) (m c : Nat) (news : List Value) (hx : a.eval x = .slice (some ad) m c) (hl : news.length = m * size) (hnews : ∀ j u, news[j]? = some u → w.cell? (ad.add j) = some u) (h1 : ∀ u ∈ news, u.oneCell' = true) (hb : n + m ≤ 100000) (hB : B ≤ w.heap.size)
    (h : ∀ v' w', RowO w' B e size v' (n + m) (xs ++ news) → w.grownBy w' v.ownBlock → (v'.ownBlock = v.ownBlock ∨ v'.ownBlock = some w.heap.size) → K (a.put o.dst v') w') :
    if Region.wanted o (yielded ops a.tmps) = true then Oper.wp Try.prog o a w K Q else E := by
  have hw : Region.wanted o (yielded ops a.tmps) = true := by simp [Region.wanted, hgd]
  rw [if_pos hw]
  exact wp_appO w s x t e size hT ho B v n xs hs hown ad m c news hx hl hnews h1 hb hB h
theorem RowO.sl {w : World} {B : Nat} {e : TypeId} {size n : Nat} {v : Value} {xs : List Value} (h : RowO w B e size v n xs) : ∃ a cap, v = .slice a n cap := by
  rcases h.2 with ⟨h1, h2⟩ | ⟨g, off, cap, cur, h1, _⟩
  · exact ⟨none, 0, by rw [h2]; exact h1⟩
  · exact ⟨_, _, h1⟩
/-- A row at a place grew. -/
structure AddR (w w' : World) (B pb po : Nat) (t : TypeId) (c : List Value) (e : TypeId) (size : Nat) (v : Value) (n : Nat) (xs : List Value) : Prop where
  out : ∃ v', Cl w' pb t (c.set po v') ∧ RowO w' B e size v' n xs ∧ Apart (fun k => k = pb ∨ some k = v.ownBlock) w w' ∧ (v'.ownBlock = v.ownBlock ∨ ∃ g, w.heap.size ≤ g ∧ v'.ownBlock = some g)
theorem Apart.of_grown {X : Nat → Prop} {a b : World} {row : Option Nat} (h : a.grownBy b row) (hr : ∀ k, k < a.heap.size → some k = row → X k) : Apart X a b :=
  ⟨h.os, h.tape, h.output, h.size, fun k hk hx => h.block k hk (fun e => hx (hr k hk e))⟩
theorem addR_of {w W3 W4 : World} {B pb po : Nat} {t e : TypeId} {c : List Value} {size n : Nat} {v v' : Value} {xs : List Value} (hc : Cl w pb t c) (hne : v.ownBlock ≠ some pb) (h3 : Below w.heap.size w W3) (hg : W3.grownBy W4 v.ownBlock) (hr : RowO W4 B e size v' n xs) (ha : v'.ownBlock = v.ownBlock ∨ v'.ownBlock = some W3.heap.size) : Cl W4 pb t c ∧ AddR w (W4.setCell ⟨pb, po, none⟩ v') B pb po t c e size v n xs := by
  have hlt := hc.lt
  have hs3 := h3.size
  have h4 : Cl W4 pb t c := (hg.block pb (by omega) (fun e => hne e.symm)).trans (hc.below h3)
  have hA : Apart (fun k => k = pb ∨ some k = v.ownBlock) w W4 := (Apart.of_below h3).trans (Apart.of_grown hg (fun k _ e => .inr e))
  have hx : ∀ g, v'.ownBlock = some g → ¬ g = pb := fun g hg e => by
    subst e
    rcases ha with h | h
    · exact hne (h.symm.trans hg)
    · rw [h] at hg
      have := Option.some.inj hg
      omega
  exact ⟨h4, ⟨v', h4.set po v', hr.stay (Apart.set W4 ⟨pb, po, none⟩ v') hx, hA.trans (Apart.at W4 pb po v' (.inl rfl)), ha.imp id (fun e => ⟨_, hs3, e⟩)⟩⟩
theorem news_new (w : World) (t : TypeId) (cs : List Value) : ∀ j u, cs[j]? = some u → (w.alloc (.cells cs.toArray t)).cell? ((⟨w.heap.size, 0, none⟩ : Addr).add j) = some u := fun j u hu => by
  rw [Addr.add_lit, Nat.zero_add, (Cl.new w t cs).cell j]
  exact hu
theorem news_newd (w : World) (t : TypeId) (cs : List Value) : ∀ j u, cs[j]? = some u → (w.alloc (.cells cs.toArray t)).drew.cell? ((⟨w.heap.size, 0, none⟩ : Addr).add j) = some u := news_new w t cs
def dC (d : Dm) : List Value := [.int .u8 d.1, .int .u8 d.2.1]
def dCs (L : List Dm) : List Value := L.flatMap dC
theorem dCs_append (L M : List Dm) : dCs (L ++ M) = dCs L ++ dCs M := List.flatMap_append
set_option maxHeartbeats 2000000 in
theorem add_d (B pb po : Nat) (t : TypeId) (c : List Value) (v : Value) (n : Nat) (xs : List Value) (x y : Int) (w : World) (hc : Cl w pb t c) (hv : c[po]? = some v) (hR : RowO w B 63 2 v n xs) (hne : v.ownBlock ≠ some pb) (hl : n ≤ 1000) (hB : B ≤ w.heap.size) :
    Calls Try.prog 31 #[.pointer (some ⟨pb, po, none⟩), dkV x y] w fun e w' => e = .returned (.tuple #[]) ∧ AddR w w' B pb po t c 63 2 v (n + 1) (xs ++ [.int .u8 x, .int .u8 y]) := by
  have hX1 := below_new w (.cells #[.int .u8 x, .int .u8 y] 63)
  have hC1 := hc.below hX1
  have hbx := Cl.new w 63 [.int .u8 x, .int .u8 y]
  have hsz : w.heap.size ≤ (w.alloc (.cells #[.int .u8 x, .int .u8 y] 63)).heap.size := hX1.size
  have hR1 := hR.below hX1
  have HF : ∀ W1 : World, W1 = w.alloc (.cells #[.int .u8 x, .int .u8 y] 63) → Hid3 (∀ v' W4, RowO W4 B 63 2 v' (n + 1) (xs ++ [.int .u8 x, .int .u8 y]) → (W1.alloc (.cells #[.int .u8 x, .int .u8 y] 63)).drew.grownBy W4 v.ownBlock → (v'.ownBlock = v.ownBlock ∨ v'.ownBlock = some (W1.alloc (.cells #[.int .u8 x, .int .u8 y] 63)).drew.heap.size) → Cl W4 pb t c ∧ AddR w (W4.setCell ⟨pb, po, none⟩ v') B pb po t c 63 2 v (n + 1) (xs ++ [.int .u8 x, .int .u8 y])) := fun W1 e => ⟨fun v' W4 h1 h2 h3 => by
    subst e
    exact addR_of hc hne (hX1.trans ((below_newd _ _).mono hX1.size)) h2 h1 h3⟩
  unfold dkV
  obtain ⟨a0, cap0, rfl⟩ := hR.sl
  go_enter Try.func31, Try.ntmps31
  go_wp2_with fail
  have HF1 := HF _ rfl
  clear HF
  generalize (w.alloc (.cells #[.int .u8 x, .int .u8 y] 63)) = W1 at *
  have HR : Hid3 (RowO (W1.alloc (.cells #[.int .u8 x, .int .u8 y] 63)).drew B 63 2 (.slice a0 n cap0) n xs) := ⟨hR1.below (below_newd _ _)⟩
  have HM := Hid3.mk (news_newd W1 63 [.int .u8 x, .int .u8 y])
  have hBs : Hid3 (B ≤ (W1.alloc (.cells #[.int .u8 x, .int .u8 y] 63)).drew.heap.size) := ⟨Nat.le_trans hB (Nat.le_trans hsz (below_newd W1 _).size)⟩
  have y0 : W1.cell? ⟨pb, po, none⟩ = some (.slice a0 n cap0) := (hC1.cell po).trans hv
  have z0 : W1.cell? ⟨w.heap.size, 0, none⟩ = some (.int .u8 x) := hbx.cell 0
  have z1 : W1.cell? ⟨w.heap.size, 1, none⟩ = some (.int .u8 y) := hbx.cell 1
  have hl1 := hC1.lt
  have hl2 := hbx.lt
  clear hX1 hC1 hbx hR hR1 hc hB hsz
  go_region_law ((refine step_appO (by rfl) _ _ 56 63 2 appD (by rfl) B _ n xs (by rfl) (by exact HR.out) ⟨W1.heap.size, 0, none⟩ 1 1 [.int .u8 x, .int .u8 y] (by rfl) (by rfl) (by exact HM.out) (by simp [Value.oneCell']) (by omega) (by exact hBs.out) ?_; intro v' W4 hown4 hgrow hat; obtain ⟨a4, c4, rfl⟩ := hown4.sl; obtain ⟨k1, k2⟩ := HF1.out _ W4 hown4 hgrow hat; have K2 := Hid3.mk k2; have u0 : W4.cell? ⟨pb, po, none⟩ = some (.slice a0 n cap0) := (k1.cell po).trans hv; have u1 := k1.thaw po; have u2 := k1.lt; clear hown4 hgrow hat k1 k2))
  all_goals
    go_wp2
    go_end0
    exact ⟨rfl, K2.out⟩
set_option maxHeartbeats 2000000 in
theorem add_u (B pb po : Nat) (t : TypeId) (c : List Value) (v : Value) (n : Nat) (xs : List Value) (x : Int) (w : World) (hc : Cl w pb t c) (hv : c[po]? = some v) (hR : RowO w B 5 1 v n xs) (hne : v.ownBlock ≠ some pb) (hl : n ≤ 1000) (hB : B ≤ w.heap.size) :
    Calls Try.prog 35 #[.pointer (some ⟨pb, po, none⟩), .int .u8 x] w fun e w' => e = .returned (.tuple #[]) ∧ AddR w w' B pb po t c 5 1 v (n + 1) (xs ++ [.int .u8 x]) := by
  obtain ⟨a0, cap0, rfl⟩ := hR.sl
  have hX1 := below_new w (.cells #[.int .u8 x] 5)
  have HF : Hid3 (∀ v' W4, RowO W4 B 5 1 v' (n + 1) (xs ++ [.int .u8 x]) → (w.alloc (.cells #[.int .u8 x] 5)).grownBy W4 (Value.ownBlock (.slice a0 n cap0)) → (v'.ownBlock = Value.ownBlock (.slice a0 n cap0) ∨ v'.ownBlock = some (w.alloc (.cells #[.int .u8 x] 5)).heap.size) → Cl W4 pb t c ∧ AddR w (W4.setCell ⟨pb, po, none⟩ v') B pb po t c 5 1 (.slice a0 n cap0) (n + 1) (xs ++ [.int .u8 x])) := ⟨fun v' W4 h1 h2 h3 => addR_of hc hne hX1 h2 h1 h3⟩
  have HR : Hid3 (RowO (w.alloc (.cells #[.int .u8 x] 5)) B 5 1 (.slice a0 n cap0) n xs) := ⟨hR.below hX1⟩
  have HM := Hid3.mk (news_new w 5 [.int .u8 x])
  have hBs : Hid3 (B ≤ (w.alloc (.cells #[.int .u8 x] 5)).heap.size) := ⟨Nat.le_trans hB hX1.size⟩
  have y0 : w.cell? ⟨pb, po, none⟩ = some (.slice a0 n cap0) := (hc.cell po).trans hv
  have hl1 := hc.lt
  clear hX1 hR hc hB
  go_enter Try.func35, Try.ntmps35
  go_wp2_with (at_builtin; refine wpList_appO rfl _ _ 54 5 1 appV rfl B _ n xs rfl HR.out ⟨w.heap.size, 0, none⟩ 1 1 [.int .u8 x] rfl rfl HM.out (by simp [Value.oneCell']) (by omega) hBs.out ?_; intro v' W4 hown4 hgrow hat; obtain ⟨a4, c4, rfl⟩ := hown4.sl; obtain ⟨k1, k2⟩ := HF.out _ W4 hown4 hgrow hat; have K2 := Hid3.mk k2; have u0 : W4.cell? ⟨pb, po, none⟩ = some (.slice a0 n cap0) := (k1.cell po).trans hv; have u1 := k1.thaw po; have u2 := k1.lt; clear hown4 hgrow hat k1 k2)
  go_end0
  exact ⟨rfl, K2.out⟩
theorem RowO.tl {w : World} {B : Nat} {e : TypeId} {g off n cap : Nat} {x : Value} {xs : List Value} (h : RowO w B e 1 (.slice (some ⟨g, off, none⟩) (n + 1) (cap + 1)) (n + 1) (x :: xs)) (off' : Nat) (ho : off' = off + 1 ∨ cap = 0) (hn : cap = 0 → off' = off) : RowO w B e 1 (.slice (some ⟨g, off', none⟩) n cap) n xs := by
  have hlen := h.1
  rcases h.2 with ⟨h, _⟩ | ⟨g', off0, cap', cur, h1, h2, h3, h4, h5, h6, h7⟩
  · cases h
  · injection h1 with h1 _ hc
    injection h1 with h1
    injection h1 with hg ho'
    subst hg ho' hc
    refine ⟨by simp only [List.length_cons] at hlen; omega, .inr ⟨g, off', cap, cur, rfl, h2, h3, by omega, by omega, ?_, ?_⟩⟩
    · by_cases hc : cap = 0
      · have := hn hc
        omega
      · have : off' = off + 1 := by omega
        omega
    · by_cases hc : cap = 0
      · have : n = 0 := by omega
        subst this
        simp only [List.length_cons] at hlen
        have : xs = [] := List.eq_nil_of_length_eq_zero (by omega)
        subst this
        simp
      · have : off' = off + 1 := by omega
        subst this
        rw [Nat.mul_one] at h7 ⊢
        have hd : cur.toList.drop off = x :: (cur.toList.drop (off + 1)) := by
          cases hd : cur.toList.drop off with
          | nil => rw [hd] at h7; simp at h7
          | cons a l =>
            rw [hd, List.take_succ_cons] at h7
            injection h7 with h7 h8
            rw [h7, ← List.tail_drop, hd]
            rfl
        rw [hd, List.take_succ_cons] at h7
        injection h7
/-- What next leaves. -/
structure NextR (w w' : World) (B pb po : Nat) (t : TypeId) (c : List Value) (v : Value) (n : Nat) (xs : List Value) : Prop where
  out : ∃ v', Cl w' pb t (c.set po v') ∧ RowO w' B 5 1 v' n xs ∧ Apart (fun k => k = pb) w w' ∧ v'.ownBlock = v.ownBlock
set_option maxHeartbeats 1000000 in
theorem next_none (pb po : Nat) (w : World) (hv : w.cell? ⟨pb, po, none⟩ = some (.slice none 0 0) ∨ ∃ a cap, w.cell? ⟨pb, po, none⟩ = some (.slice a 0 cap)) :
    Calls Try.prog 39 #[.pointer (some ⟨pb, po, none⟩)] w fun e w' => e = .returned (.tuple #[.int .u8 0, .bool false]) ∧ w' = w := by
  obtain ⟨a, cap, hv⟩ : ∃ a cap, w.cell? ⟨pb, po, none⟩ = some (.slice a 0 cap) := by
    rcases hv with hv | hv
    · exact ⟨_, _, hv⟩
    · exact hv
  go_enter Try.func39, Try.ntmps39
  go_wp2
  go_ret2
  exact ⟨rfl, rfl⟩
set_option maxHeartbeats 2000000 in
theorem next_some (B pb po : Nat) (t : TypeId) (c : List Value) (v : Value) (n : Nat) (x : Int) (xs : List Value) (w : World) (hc : Cl w pb t c) (hv : c[po]? = some v) (hR : RowO w B 5 1 v (n + 1) (.int .u8 x :: xs)) (hne : v.ownBlock ≠ some pb) :
    Calls Try.prog 39 #[.pointer (some ⟨pb, po, none⟩)] w fun e w' => e = .returned (.tuple #[.int .u8 x, .bool true]) ∧ NextR w w' B pb po t c v n xs := by
  rcases hR.form with ⟨_, h, _⟩ | ⟨g, off, cap, rfl, hcap, hBg, hg, hcell⟩
  · cases h
  obtain ⟨cap, rfl⟩ : ∃ k, cap = k + 1 := ⟨cap - 1, by omega⟩
  have x0 : w.cell? ⟨g, off, none⟩ = some (.int .u8 x) := hcell 0 _ rfl
  have y0 : w.cell? ⟨pb, po, none⟩ = some (.slice (some ⟨g, off, none⟩) (n + 1) (cap + 1)) := (hc.cell po).trans hv
  have y1 := hc.thaw po
  have HT := fun (off' : Nat) (h1 : off' = off + 1 ∨ cap = 0) (h2 : cap = 0 → off' = off) => (⟨_, hc.set po _, (hR.tl off' h1 h2).stay (Apart.set w ⟨pb, po, none⟩ (.slice (some ⟨g, off', none⟩) n cap)) (fun k hk e => hne (hk.trans (congrArg some e))), Apart.at w pb po _ rfl, rfl⟩ : ∃ v', Cl (w.setCell ⟨pb, po, none⟩ (.slice (some ⟨g, off', none⟩) n cap)) pb t (c.set po v') ∧ RowO (w.setCell ⟨pb, po, none⟩ (.slice (some ⟨g, off', none⟩) n cap)) B 5 1 v' n xs ∧ Apart (fun k => k = pb) w (w.setCell ⟨pb, po, none⟩ (.slice (some ⟨g, off', none⟩) n cap)) ∧ v'.ownBlock = Value.ownBlock (.slice (some ⟨g, off, none⟩) (n + 1) (cap + 1)))
  have HT2 := Hid3.mk HT
  clear HT hc hR hcell
  by_cases h0 : cap = 0
  · subst h0
    obtain rfl : n = 0 := by omega
    have HT3 := Hid3.mk (HT2.out off (.inr rfl) (fun _ => rfl))
    clear HT2
    go_enter Try.func39, Try.ntmps39
    go_wp2
    go_ret2
    exact ⟨rfl, ⟨HT3.out⟩⟩
  · have HT3 := Hid3.mk (HT2.out (off + 1) (.inl rfl) (fun e => absurd e h0))
    clear HT2
    have hn1 : ¬ ((n : Int) + 1 = 0) := by omega
    have hn2 : (1 : Int) ≤ (n : Int) + 1 := by omega
    have hn3 : n + 1 - 1 = n := by omega
    go_enter Try.func39, Try.ntmps39
    go_wp2
    go_ret2
    exact ⟨rfl, ⟨HT3.out⟩⟩
end Go.Proofs.Ytpmndhbcohjboaa
