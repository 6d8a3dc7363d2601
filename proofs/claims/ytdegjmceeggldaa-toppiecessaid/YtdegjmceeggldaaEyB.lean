/- An extent is given up. The program's calls, with what they come to told by plain data. -/
import Derived.Test.YtdegjmceeggldaaExK
import Derived.Test.YtdegjmceeggldaaExL
import Derived.Test.YtdegjmceeggldaaEyA
import Derived.Test.YtdegjmceeggldaaExW
namespace Go.Proofs.Ytdegjmceeggldaa
open Go.RowKit Go.Shelf Go.Maps
set_option linter.unusedVariables false
set_option maxRecDepth 100000
end Go.Proofs.Ytdegjmceeggldaa
namespace Go.Proofs.Ytdegjmceeggldaa
open Go.RowKit Go.Shelf Go.Maps
set_option linter.unusedVariables false
set_option maxRecDepth 100000
/-- Nobody, or somebody else, has it. -/
def NoX (s : Xt) (ow id : Nat) (c : Int) : Prop := (c = 5 ∧ ∀ y ∈ s.l, y.id ≠ id) ∨ (c = 7 ∧ ∃ pre x post, s.l = pre ++ x :: post ∧ (∀ y ∈ pre, y.id ≠ id) ∧ x.id = id ∧ x.ow ≠ ow)
/-- It lies there, and is somebody's. -/
structure AtX (s : Xt) (ow id : Nat) (pre : List Ex) (x : Ex) (post : List Ex) : Prop where
  l : s.l = pre ++ x :: post
  n : ∀ y ∈ pre, y.id ≠ id
  i : x.id = id
  o : x.ow = ow
theorem had_cases (s : Xt) (ow id : Nat) : (∃ c, NoX s ow id c) ∨ ∃ pre x post, AtX s ow id pre x post := by
  rcases fnd_at id s.l with h | ⟨pre, x, post, h1, h2, h3⟩
  · exact .inl ⟨5, .inl ⟨rfl, h⟩⟩
  · by_cases ho : x.ow = ow
    · exact .inr ⟨pre, x, post, h1, h2, h3, ho⟩
    · exact .inl ⟨7, .inr ⟨rfl, pre, x, post, h1, h2, h3, ho⟩⟩
theorem NoX.ne {s : Xt} {ow id : Nat} {c : Int} (h : NoX s ow id c) : c ≠ 0 := by
  rcases h with ⟨rfl, _⟩ | ⟨rfl, _⟩ <;> decide
theorem NoX.r {B : Nat} {w : World} {L : Lo} {s : Xt} {ow id : Nat} {c : Int} (k : NoX s ow id c) (h : Pt B w L s) : ∃ v, hadR ow (pst (notId id) (L.h, zEx) L.ns).2 = (v, c) := by
  rcases k with ⟨rfl, h1⟩ | ⟨rfl, pre, x, post, h1, h2, h3, h4⟩
  · rw [h.none id h1]
    exact ⟨_, rfl⟩
  · obtain ⟨q, b, y, d, r, e1, _⟩ := h.at id pre post x h1 h2 h3
    rw [e1]
    exact ⟨.pointer none, by simp [hadR, h4]⟩
theorem Lo.head {L : Lo} {A rest : List Ln} (hA : A ≠ []) (hs : L.all = A ++ rest) (rest' : List Ln) : (A ++ rest').head?.map Prod.fst = some L.h := by
  cases A with
  | nil => exact absurd rfl hA
  | cons a A =>
    rw [List.cons_append, Lo.all, List.cons.injEq] at hs
    rw [List.cons_append, List.head?_cons, ← hs.1]
    rfl
/-- A list changed behind some of its links. -/
theorem TStp.chg {B : Nat} {w w' : World} {L : Lo} {s s' : Xt} (h : Pt B w L s) (hB : B ≤ w.heap.size) (ok : s'.Ok) (hN : s'.N = s.N) (hla : s'.last = s.last) {A rest rest' : List Ln} (hA : A ≠ []) (hs : L.all = A ++ rest) (hk : Lks w' (A ++ rest'))
    (hl : (A ++ rest').map Prod.snd = zEx :: s'.l) (hu : ((A ++ rest').map Prod.fst).Sublist ((A ++ rest).map Prod.fst)) {X : Nat → Prop} (ap : Apart X w w') (hX : ∀ k, X k → k ∈ L.all.map Prod.fst) : TStp B w w' L s' := by
  refine TStp.mk' h hB ok (A ++ rest') hk hl (Lo.head hA hs rest') ?_ ?_ ?_ (ap.wide (fun k _ hk => .inr (hX k hk)))
  · have := h.t.l.u
    rw [show (L.h, zEx) :: L.ns = A ++ rest from hs] at this
    exact this.sublist hu
  · intro k hk
    rw [hs]
    exact .inl (hu.subset hk)
  · rw [hN, hla]
    exact h.t.t.stay ap (fun hx => h.n (hX _ hx))
/-- A list with one more. -/
theorem TStp.ins {B : Nat} {w w' : World} {L : Lo} {s s' : Xt} (h : Pt B w L s) (hB : B ≤ w.heap.size) (ok : s'.Ok) (hN : s'.N = s.N) (hla : s'.last = s.last + 1) {P r : List Ln} {b d : Nat} {y y' x : Ex} (hs : L.all = P ++ (b, y) :: r)
    (a : AddC w w' L.t L.h s.N s.last b y' x P r d) (hl : (P ++ (b, y') :: (d, x.num (s.last + 1)) :: r).map Prod.snd = zEx :: s'.l) : TStp B w w' L s' := by
  have hu := h.t.l.u
  have hlow := h.t.l.l
  rw [show (L.h, zEx) :: L.ns = P ++ (b, y) :: r from hs] at hu hlow
  have hb : b ∈ L.all.map Prod.fst := by rw [hs]; simp
  refine TStp.mk' h hB ok (P ++ (b, y') :: (d, x.num (s.last + 1)) :: r) a.k hl ?_ ?_ ?_ (by rw [hN, hla]; exact a.t) (a.ap.wide (fun k _ hk => hk.elim .inl (fun e => .inr (e ▸ hb))))
  · cases P with
    | nil =>
      have : (L.h, zEx) = (b, y) := by
        rw [List.nil_append, Lo.all, List.cons.injEq] at hs
        exact hs.1
      rw [List.nil_append, List.head?_cons]
      exact congrArg some (congrArg Prod.fst this).symm
    | cons p P =>
      rw [List.cons_append, Lo.all, List.cons.injEq] at hs
      rw [List.cons_append, List.head?_cons, ← hs.1]
      rfl
  · have h2 := ins_nodup (c := (d, x.num (s.last + 1))) hu hlow a.d0
    rw [List.map_append, List.map_cons] at h2 ⊢
    exact h2
  · intro k hk
    rw [hs]
    rw [List.map_append, List.map_cons, List.map_cons] at hk
    rw [List.map_append, List.map_cons]
    rcases List.mem_append.1 hk with hk | hk
    · exact .inl (List.mem_append_left _ hk)
    · rcases List.mem_cons.1 hk with rfl | hk
      · exact .inl (List.mem_append_right _ (List.mem_cons_self ..))
      · rcases List.mem_cons.1 hk with rfl | hk
        · exact .inr a.d0
        · exact .inl (List.mem_append_right _ (List.mem_cons_of_mem _ hk))
variable {B : Nat} {w : World} {L : Lo} {s : Xt}
theorem Pt.nslen (h : Pt B w L s) : L.ns.length = s.l.length := by rw [← h.l, List.length_map]
theorem ok_own (ok : s.Ok) {ow id : Nat} {pre post : List Ex} {x : Ex} (k : AtX s ow id pre x post) (tw : Nat) : ({ s with l := pre ++ x.own tw :: post } : Xt).Ok := by
  have hx : x ∈ s.l := by rw [k.l]; simp
  have hp := ok.srt
  rw [k.l] at hp
  exact ok.one k.l rfl rfl (ok.ln x hx).1 (ok.ln x hx).2 (List.pairwise_cons.1 (List.pairwise_append.1 hp).2.1).1
theorem grow_post (ok : s.Ok) {ow id m : Nat} {pre post : List Ex} {x : Ex} (k : AtX s ow id pre x post) (hm : 1 ≤ m) (hf : freeX s.l ((x.st + x.ln : Nat) : Int) m) : ∀ y ∈ post, x.st + (x.ln + m) ≤ y.st := by
  intro y hy
  have hp := ok.srt
  rw [k.l] at hp
  have h1 := (List.pairwise_cons.1 (List.pairwise_append.1 hp).2.1).1 y hy
  have hy2 : y ∈ s.l := by rw [k.l]; simp [hy]
  have h2 := (ok.ln y hy2).1
  rcases hf y hy2 with h3 | h3 <;> omega
theorem ok_grow (ok : s.Ok) {ow id m : Nat} {pre post : List Ex} {x : Ex} (k : AtX s ow id pre x post) (hm : 1 ≤ m) (hm2 : x.st + x.ln + m ≤ s.N) (hf : freeX s.l ((x.st + x.ln : Nat) : Int) m) (hx : x.st + (x.ln + m) ≤ 1000) : ({ s with l := pre ++ x.len (x.ln + m) hx :: post } : Xt).Ok :=
  ok.one k.l rfl rfl (by show 1 ≤ x.ln + m; omega) (by show x.st + (x.ln + m) ≤ s.N; omega) (grow_post ok k hm hf)
theorem p_split_no (h : Pt B w L s) (ow id : Nat) (a : Int) (c : Int) (k : NoX s ow id c) :
    Calls Try.prog 6 #[.pointer (some ⟨L.t, 0, none⟩), .int .u8 ow, .int .u32 id, .int .i64 a] w fun e w' => e = .returned (.tuple #[.int .u32 0, .int .i64 c]) ∧ TStp B w w' L s := by
  obtain ⟨v, hv⟩ := k.r h
  exact (xsplit_no _ _ _ _ _ L.ns ow id a v c w h.t (Nat.le_refl _) hv k.ne).mono fun e w' q => ⟨q.1, TStp.same h q.2⟩
theorem p_split_far (h : Pt B w L s) (ow id : Nat) (a : Int) (pre post : List Ex) (x : Ex) (k : AtX s ow id pre x post) (ha : a ≤ (x.st : Int) ∨ ((x.st + x.ln : Nat) : Int) ≤ a) :
    Calls Try.prog 6 #[.pointer (some ⟨L.t, 0, none⟩), .int .u8 ow, .int .u32 id, .int .i64 a] w fun e w' => e = .returned (.tuple #[.int .u32 0, .int .i64 2]) ∧ TStp B w w' L s := by
  obtain ⟨q, b, y, d, r, h1, h2, h3, h4⟩ := h.at id pre post x k.l k.n k.i
  exact (xsplit_far _ _ _ _ _ L.ns ow id b d a y x q r w h.t (Nat.le_refl _) h1 h2 k.o ha).mono fun e w' q => ⟨q.1, TStp.same h q.2⟩
theorem p_split_full (h : Pt B w L s) (ow id a : Nat) (pre post : List Ex) (x : Ex) (k : AtX s ow id pre x post) (ha1 : x.st < a) (ha2 : a < x.st + x.ln) (hlen : 24 ≤ s.l.length) :
    Calls Try.prog 6 #[.pointer (some ⟨L.t, 0, none⟩), .int .u8 ow, .int .u32 id, .int .i64 a] w fun e w' => e = .returned (.tuple #[.int .u32 0, .int .i64 4]) ∧ TStp B w w' L s := by
  obtain ⟨q, b, y, d, r, h1, h2, h3, h4⟩ := h.at id pre post x k.l k.n k.i
  have hn := h.nslen
  have := h.ok.len
  exact (xsplit_full _ _ _ _ _ L.ns ow id b d a y x q r w h.t (Nat.le_refl _) h1 h2 k.o ha1 ha2 (by omega) (by omega)).mono fun e w' q => ⟨q.1, TStp.same h q.2⟩
theorem ok_split (ok : s.Ok) {ow id a : Nat} {pre post : List Ex} {x : Ex} (k : AtX s ow id pre x post) (ha1 : x.st < a) (ha2 : a < x.st + x.ln) (hlen : s.l.length < 24) (hx : x.st + (a - x.st) ≤ 1000) : (⟨s.N, pre ++ x.len (a - x.st) hx :: (x.cut a (Nat.le_of_lt ha2)).num (s.last + 1) :: post, s.last + 1⟩ : Xt).Ok := by
  have hxm : x ∈ s.l := by rw [k.l]; simp
  have hp := ok.srt
  rw [k.l] at hp
  have hp1 := List.pairwise_append.1 hp
  have hpo := (List.pairwise_cons.1 hp1.2.1).1
  have hxl := ok.ln x hxm
  have ok1 : ({ s with l := pre ++ x.len (a - x.st) hx :: post } : Xt).Ok := ok.one k.l rfl rfl (by show 1 ≤ a - x.st; omega) (by show x.st + (a - x.st) ≤ s.N; omega) (fun y hy => by have := hpo y hy; show x.st + (a - x.st) ≤ y.st; omega)
  have := ok1.add (pre := pre ++ [x.len (a - x.st) hx]) (post := post) (x.cut a (Nat.le_of_lt ha2)) (by simp) ?_ ?_ (by show 1 ≤ x.st + x.ln - a; omega) (by show a + (x.st + x.ln - a) ≤ s.N; omega) (by rw [k.l] at hlen; simpa using hlen)
  · rw [List.append_assoc] at this
    exact this
  · intro y hy
    rcases List.mem_append.1 hy with hy | hy
    · have := hp1.2.2 y hy x (List.mem_cons_self ..)
      show y.st + y.ln ≤ a
      omega
    · rw [List.mem_singleton.1 hy]
      show x.st + (a - x.st) ≤ a
      omega
  · intro y hy
    have := hpo y hy
    show a + (x.st + x.ln - a) ≤ y.st
    omega
theorem p_split (h : Pt B w L s) (hB : B ≤ w.heap.size) (ow id a : Nat) (pre post : List Ex) (x : Ex) (k : AtX s ow id pre x post) (ha1 : x.st < a) (ha2 : a < x.st + x.ln) (hlen : s.l.length < 24) (hlast : s.last < 1000000) (hx : x.st + (a - x.st) ≤ 1000) :
    Calls Try.prog 6 #[.pointer (some ⟨L.t, 0, none⟩), .int .u8 ow, .int .u32 id, .int .i64 a] w fun e w' => e = .returned (.tuple #[.int .u32 (s.last + 1 : Nat), .int .i64 0]) ∧ TStp B w w' L ⟨s.N, pre ++ x.len (a - x.st) hx :: (x.cut a (Nat.le_of_lt ha2)).num (s.last + 1) :: post, s.last + 1⟩ := by
  obtain ⟨q, b, y, d, r, h1, h2, h3, h4⟩ := h.at id pre post x k.l k.n k.i
  refine (xsplit_ok _ _ _ _ _ L.ns ow id b d a y x q r w h.t (Nat.le_refl _) h1 h2 k.o ha1 ha2 (by rw [h.nslen]; exact hlen) hlast h.n hx).mono ?_
  rintro e w' ⟨rfl, d', hA⟩
  refine ⟨rfl, TStp.ins h hB (ok_split h.ok k ha1 ha2 hlen hx) rfl rfl h2 hA ?_⟩
  rw [List.map_append, h4, List.map_cons, List.map_cons, h3]
  rfl
theorem p_merge_no (h : Pt B w L s) (ow id ib : Nat) (c : Int) (k : NoX s ow id c) :
    Calls Try.prog 9 #[.pointer (some ⟨L.t, 0, none⟩), .int .u8 ow, .int .u32 id, .int .u32 ib] w fun e w' => e = .returned (.int .i64 c) ∧ TStp B w w' L s := by
  obtain ⟨v, hv⟩ := k.r h
  exact (merge_no _ _ _ _ _ L.ns ow id ib v c w h.t (Nat.le_refl _) hv k.ne).mono fun e w' q => ⟨q.1, TStp.same h q.2⟩
theorem p_merge_no2 (h : Pt B w L s) (ow ia ib : Nat) (c : Int) (pre post : List Ex) (x : Ex) (ka : AtX s ow ia pre x post) (k : NoX s ow ib c) :
    Calls Try.prog 9 #[.pointer (some ⟨L.t, 0, none⟩), .int .u8 ow, .int .u32 ia, .int .u32 ib] w fun e w' => e = .returned (.int .i64 c) ∧ TStp B w w' L s := by
  obtain ⟨v, hv⟩ := k.r h
  obtain ⟨q, b, y, d, r, h1, h2, h3, h4⟩ := h.at ia pre post x ka.l ka.n ka.i
  exact (merge_no2 _ _ _ _ _ L.ns ow ia ib b d y x r v c w h.t (Nat.le_refl _) h1 ka.o hv k.ne).mono fun e w' q => ⟨q.1, TStp.same h q.2⟩
theorem p_merge_state (h : Pt B w L s) (ow ia ib : Nat) (pre post pre' post' : List Ex) (x z : Ex) (ka : AtX s ow ia pre x post) (kb : AtX s ow ib pre' z post') (hne : x.st + x.ln ≠ z.st ∨ x.st + x.ln = z.st ∧ sameG x z = false) :
    Calls Try.prog 9 #[.pointer (some ⟨L.t, 0, none⟩), .int .u8 ow, .int .u32 ia, .int .u32 ib] w fun e w' => e = .returned (.int .i64 9) ∧ TStp B w w' L s := by
  obtain ⟨q, b, y, d, r, h1, h2, h3, h4⟩ := h.at ia pre post x ka.l ka.n ka.i
  obtain ⟨q', b', y', d', r', k1, k2, k3, k4⟩ := h.at ib pre' post' z kb.l kb.n kb.i
  rcases hne with hne | ⟨hne, hg⟩
  · exact (merge_far _ _ _ _ _ L.ns ow ia ib b d b' d' y x y' z r r' q q' w h.t (Nat.le_refl _) h1 h2 ka.o k1 k2 kb.o hne).mono fun e w' q => ⟨q.1, TStp.same h q.2⟩
  · exact (merge_grd _ _ _ _ _ L.ns ow ia ib b d b' d' y x y' z r r' q q' w h.t (Nat.le_refl _) h1 h2 ka.o k1 k2 kb.o hne hg).mono fun e w' q => ⟨q.1, TStp.same h q.2⟩
/-- What begins where another one ends lies right behind it. -/
theorem merge_next (ok : s.Ok) {ow ia ib : Nat} {pre post pre' post' : List Ex} {x z : Ex} (ka : AtX s ow ia pre x post) (kb : AtX s ow ib pre' z post') (hne : x.st + x.ln = z.st) : ∃ p2, post = z :: p2 ∧ AtX s ow ib (pre ++ [x]) z p2 := by
  have hx : x ∈ s.l := by rw [ka.l]; simp
  have hz : z ∈ s.l := by rw [kb.l]; simp
  have hx1 := (ok.ln x hx).1
  have hp := ok.srt
  have hz2 := hz
  rw [ka.l] at hp hz2
  have hp1 := List.pairwise_append.1 hp
  have hpo := List.pairwise_cons.1 hp1.2.1
  have hzp : z ∈ post := by
    rcases List.mem_append.1 hz2 with h | h
    · have := hp1.2.2 z h x (List.mem_cons_self ..); omega
    · rcases List.mem_cons.1 h with rfl | h
      · omega
      · exact h
  cases post with
  | nil => cases hzp
  | cons u p2 =>
    have hu : z = u := by
      rcases List.mem_cons.1 hzp with h | h
      · exact h
      · have h1 := (List.pairwise_cons.1 hpo.2).1 z h
        have h2 := hpo.1 u (List.mem_cons_self ..)
        have h3 := (ok.ln u (by rw [ka.l]; simp)).1
        omega
    subst hu
    refine ⟨p2, rfl, ⟨by rw [ka.l]; simp, fun y hy e => ?_, kb.i, kb.o⟩⟩
    have hids := ok.ids
    rw [ka.l, show pre ++ x :: z :: p2 = (pre ++ [x]) ++ z :: p2 by simp, List.map_append, List.map_cons] at hids
    exact (List.nodup_append.1 hids).2.2 y.id (List.mem_map.2 ⟨y, hy, rfl⟩) z.id (List.mem_cons_self ..) (e.trans kb.i.symm)
theorem ok_merge (ok : s.Ok) {ow ia : Nat} {pre post : List Ex} {x z : Ex} (ka : AtX s ow ia pre x (z :: post)) (hne : x.st + x.ln = z.st) (hxz : x.st + (x.ln + z.ln) ≤ 1000) : ({ s with l := pre ++ x.len (x.ln + z.ln) hxz :: post } : Xt).Ok := by
  have ok1 : ({ s with l := pre ++ x :: post } : Xt).Ok := ok.of_l (by rw [ka.l]; exact List.Sublist.append_left (List.Sublist.cons_cons _ (List.sublist_cons_self _ _)) _)
  have hz : z ∈ s.l := by rw [ka.l]; simp
  have hzl := ok.ln z hz
  have hp := ok.srt
  rw [ka.l] at hp
  have hpo := (List.pairwise_cons.1 (List.pairwise_cons.1 (List.pairwise_append.1 hp).2.1).2).1
  exact ok1.one (pre := pre) (post := post) (x := x) rfl rfl rfl (by show 1 ≤ x.ln + z.ln; omega) (by show x.st + (x.ln + z.ln) ≤ s.N; omega) (fun y hy => by have := hpo y hy; show x.st + (x.ln + z.ln) ≤ y.st; omega)
theorem p_merge (h : Pt B w L s) (hB : B ≤ w.heap.size) (ow ia ib : Nat) (pre post : List Ex) (x z : Ex) (ka : AtX s ow ia pre x (z :: post)) (kb : AtX s ow ib (pre ++ [x]) z post) (hne : x.st + x.ln = z.st) (hg : sameG x z = true) (hxz : x.st + (x.ln + z.ln) ≤ 1000) :
    Calls Try.prog 9 #[.pointer (some ⟨L.t, 0, none⟩), .int .u8 ow, .int .u32 ia, .int .u32 ib] w fun e w' => e = .returned (.int .i64 0) ∧ TStp B w w' L { s with l := pre ++ x.len (x.ln + z.ln) hxz :: post } := by
  obtain ⟨q, b, y, d, r, h1, h2, h3, h4⟩ := h.at ia pre (z :: post) x ka.l ka.n ka.i
  obtain ⟨q', b', y', d', r', k1, k2, k3, k4⟩ := h.at ib (pre ++ [x]) post z kb.l kb.n kb.i
  have hr : r = (d', z) :: r' := by
    have e := h2.symm.trans k2
    have hlen : (q ++ [(b, y)]).length + 1 = (q' ++ [(b', y')]).length := by
      have e1 := congrArg List.length h4
      have e2 := congrArg List.length k4
      rw [List.length_map] at e1 e2
      rw [e1, e2]
      simp
    rw [show (q ++ [(b, y)]) ++ (d, x) :: r = ((q ++ [(b, y)]) ++ [(d, x)]) ++ r by simp] at e
    exact (List.append_inj e (by rw [List.length_append, List.length_singleton, hlen])).2
  refine (merge_ok _ _ _ _ _ L.ns ow ia ib b d b' d' y x y' z r r' q q' w h.t (Nat.le_refl _) h1 h2 ka.o k1 k2 kb.o hr hne hg hxz).mono fun e w' c => ⟨c.1, ?_⟩
  refine TStp.chg h hB (ok_merge h.ok ka hne hxz) rfl rfl (A := q ++ [(b, y)]) (rest := (d, x) :: r) (rest' := (d, x.len (x.ln + z.ln) hxz) :: r') (by simp) h2 c.2.2 ?_ ?_ c.2.1 ?_
  · rw [List.map_append, h4, List.map_cons, k3]; rfl
  · rw [hr]
    simp only [List.map_append, List.map_cons]
    exact List.Sublist.append_left (List.Sublist.cons_cons _ (List.sublist_cons_self _ _)) _
  · rintro i rfl
    rw [Lo.all, h2]; simp
end Go.Proofs.Ytdegjmceeggldaa
