/- vm: each call of both: the same answer, the same state behind it. -/
import Derived.Test.YtfmcoibpbcheiaaVmYb
import Derived.Test.YtfmcoibpbcheiaaVrR
namespace Go.Proofs.Ytfmcoibpbcheiaa
open Go.RowKit Go.Maps
set_option linter.unusedVariables false
set_option maxRecDepth 100000
theorem vw_sub {pg pg' : Fin 6 → Int → Option Int} {L : List Int} {V : Fin 6 → Nat → Int} (h : Vw pg L V) (hs : ∀ p z f, pg' p z = some f → pg p z = some f) : Vw pg' L V := fun p k f hf i hi => h p k f (hs p _ f hf) i hi
theorem vw_map {pg : Fin 6 → Int → Option Int} {L : List Int} {V : Fin 6 → Nat → Int} (h : Vw pg L V) (p : Fin 6) (k : Nat) (hk : k < 16) : Vw (upF pg p (upI (pg p) (k : Int) (some (-1)))) L (mpV0 V p k) := fun q i f hf j hj => by
  rcases pg_up hf with ⟨e0, e, e2⟩ | ⟨hne, e⟩
  · injection e2 with e2
    rw [if_pos e2]
    unfold mpV0
    rw [if_pos ⟨e0, by omega⟩]
  · rw [h q i f e j hj]
    unfold mpV0
    rw [if_neg (fun x => hne ⟨x.1, by omega⟩)]
theorem vw_fork {pg : Fin 6 → Int → Option Int} {L : List Int} {V : Fin 6 → Nat → Int} (h : Vw pg L V) (p q : Fin 6) : Vw (upF pg q (pg p)) L (fkV V p q) := fun r k f hf i hi => by
  by_cases c : r = q
  · subst c
    rw [upF_same] at hf
    have := h p k f hf i hi
    unfold fkV
    rw [if_pos rfl]
    exact this
  · rw [upF_other _ _ _ _ c] at hf
    have := h r k f hf i hi
    unfold fkV
    rw [if_neg c]
    exact this
/-- One answer of both. -/
structure B1 (N : Nat) (s : Vs) (V : Fin 6 → Nat → Int) (fp fr : FuncId) (args : Array Value) (A : World → (Nat → Prop) → Prop) (e : Int) (K : Vs → Prop) (V' : Fin 6 → Nat → Int) : Prop where
  p : ∀ B w vb l c, Va B w vb N l s V c → B ≤ w.heap.size → c ≤ 80000 → A w (XV l s) → Calls Try.prog fp (#[.pointer (some ⟨vb, 0, none⟩)] ++ args) w fun r w' => r = .returned (.int .i64 e) ∧ ∃ s', K s' ∧ Vt B w w' vb N l s s' V' (c + 16)
  r : ∀ B w o L, Rb B w o N s L → L.length = 2048 → Vw s.pg L V → 0 ≤ s.cp ∧ s.cp ≤ 80000 → A w (XR o) → Calls Try.prog fr (#[.pointer (some ⟨o.b, 0, none⟩)] ++ args) w fun r w' => r = .returned (.int .i64 e) ∧ Apart (XR o) w w' ∧ ∀ s', K s' → ∃ L', Rb B w' o N s' L' ∧ L'.length = 2048 ∧ Vw s'.pg L' V'
theorem Vt.more {B : Nat} {w w' : World} {vb N : Nat} {l : Lo} {s s' : Vs} {V' : Fin 6 → Nat → Int} {c : Nat} (h : Vt B w w' vb N l s s' V' c) : Vt B w w' vb N l s s' V' (c + 16) := by
  obtain ⟨l', k, hx⟩ := h.out
  exact ⟨⟨l', ⟨k.e, k.v, k.i, by have := k.cp; omega⟩, hx⟩, h.ap⟩
def noA (_ : World) (_ : Nat → Prop) : Prop := True
/-- What a call that changes nothing comes to, of the document's. -/
theorem rsame {B : Nat} {w w' : World} {o : Ro} {N : Nat} {s : Vs} {L : List Int} {V : Fin 6 → Nat → Int} (h : Rb B w o N s L) (hL : L.length = 2048) (hV : Vw s.pg L V) (e : w' = w) : Apart (XR o) w w' ∧ ∀ s', s' = s → ∃ L', Rb B w' o N s' L' ∧ L'.length = 2048 ∧ Vw s'.pg L' V := by
  subst e
  exact ⟨Apart.refl _ _, fun s' e => by subst e; exact ⟨L, h, hL, hV⟩⟩
theorem begin_both {N : Nat} {s : Vs} {V : Fin 6 → Nat → Int} (h : Iv N s V) (pid : Int) : ∃ e K V', B1 N s V 21 46 #[.int .i64 pid] noA e K V' := by
  by_cases he : freshE s pid = 0
  · obtain ⟨p, rfl, hp⟩ := freshE_ok s pid he
    refine ⟨0, fun s' => s' = bgS s p, V, ⟨fun B w vb l c hv hB _ _ => ?_, fun B w o L hR hL hV _ _ => ?_⟩⟩
    · refine (va_begin B l s V vb N c p.1 w hv hB).mono ?_
      rintro r w' ⟨rfl, ⟨k, _⟩ | ⟨q, _, hq, _, k⟩⟩
      · exact absurd he k
      · have : p = q := by ext; omega
        subst this
        exact ⟨by rw [he], _, rfl, k.more⟩
    · refine (rbegin_ok B o N s L p w hR h.fr hp).mono ?_
      rintro r w' ⟨rfl, k1, k2⟩
      exact ⟨rfl, k2, fun s' e => by subst e; exact ⟨L, k1, hL, vw_sub hV (fun q z f hf => by have := bg_same h.fr hp; have hf' : upF s.pg p (fun _ => none) q z = some f := hf; rw [this] at hf'; exact hf')⟩⟩
  · refine ⟨freshE s pid, fun s' => s' = s, V, ⟨fun B w vb l c hv hB _ _ => ?_, fun B w o L hR hL hV _ _ => ?_⟩⟩
    · refine (va_begin B l s V vb N c pid w hv hB).mono ?_
      rintro r w' ⟨rfl, ⟨_, k⟩ | ⟨q, k, _⟩⟩
      · exact ⟨rfl, _, rfl, k.more⟩
      · exact absurd k he
    · refine (rbegin_bad B o N s L pid w hR he).mono ?_
      rintro r w' ⟨rfl, e⟩
      exact ⟨rfl, rsame hR hL hV e⟩
theorem end_both {N : Nat} {s : Vs} {V : Fin 6 → Nat → Int} (h : Iv N s V) (pid : Int) : ∃ e K V', B1 N s V 11 47 #[.int .i64 pid] noA e K V' := by
  rcases prc_cases s pid with ⟨h1, h2⟩ | ⟨p, h1, rfl, h2⟩
  · have ee : endE s pid = 5 := by unfold endE; rw [h1]
    refine ⟨5, fun s' => s' = s, V, ⟨fun B w vb l c hv hB _ _ => ?_, fun B w o L hR hL hV _ _ => ?_⟩⟩
    · refine (va_end B l s V vb N c pid w hv).mono ?_
      rintro r w' ⟨rfl, s', k, ⟨_, e⟩ | ⟨q, e, _⟩⟩
      · exact ⟨by rw [ee], s', e, k.more⟩
      · rw [h1] at e; cases e
    · refine (rend_bad B o N s L pid w hR h1).mono ?_
      rintro r w' ⟨rfl, e⟩
      exact ⟨rfl, rsame hR hL hV e⟩
  · have ee : endE s p.1 = 0 := by unfold endE; rw [h1]
    refine ⟨0, fun s' => EndR N s p s', V, ⟨fun B w vb l c hv hB _ _ => ?_, fun B w o L hR hL hV _ _ => ?_⟩⟩
    · refine (va_end B l s V vb N c p.1 w hv).mono ?_
      rintro r w' ⟨rfl, s', k, ⟨e, _⟩ | ⟨q, e, k2⟩⟩
      · rw [h1] at e; cases e
      · rw [h1] at e
        injection e with e
        subst e
        exact ⟨by rw [ee], s', k2, k.more⟩
    · refine (rend_ok B o N s L p w hR h.fr h2).mono ?_
      rintro r w' ⟨rfl, k1, k2⟩
      refine ⟨rfl, k2, fun s' e => ⟨L, k1.congr e.has e.pg e.cp, hL, vw_sub hV (fun q z f hf => ?_)⟩⟩
      rw [e.pg] at hf
      by_cases c : q = p
      · subst c
        rw [upF_same] at hf
        cases hf
      · rw [upF_other _ _ _ _ c] at hf
        exact hf
theorem fork_both {N : Nat} {s : Vs} {V : Fin 6 → Nat → Int} (h : Iv N s V) (pid to : Int) : ∃ e K V', B1 N s V 24 48 #[.int .i64 pid, .int .i64 to] noA e K V' := by
  by_cases he : forkE s pid to = 0
  · obtain ⟨p, q, rfl, rfl, hp, hq⟩ : ∃ p q : Fin 6, pid = p.1 ∧ to = q.1 ∧ s.has p = true ∧ s.has q = false := by
      unfold forkE at he
      rcases prc_cases s pid with ⟨h1, h2⟩ | ⟨p, h1, h3, h2⟩
      · rw [h1] at he; cases he
      · rw [h1] at he
        obtain ⟨q, h4, h5⟩ := freshE_ok s to he
        exact ⟨p, q, h3, h4, h2, h5⟩
    refine ⟨0, fun s' => s' = fkS s p q, fkV V p q, ⟨fun B w vb l c hv hB _ _ => ?_, fun B w o L hR hL hV _ _ => ?_⟩⟩
    · refine (va_fork B l s V vb N c p.1 q.1 w hv hB).mono ?_
      rintro r w' ⟨rfl, ⟨k, _⟩ | ⟨p', q', _, _, e1, e2, _, _, k⟩⟩
      · exact absurd he k
      · have : p = p' := by ext; omega
        subst this
        have : q = q' := by ext; omega
        subst this
        exact ⟨by rw [he], _, rfl, k.more⟩
    · refine (rfork_ok B o N s L p q w hR hp hq).mono ?_
      rintro r w' ⟨rfl, k1, k2⟩
      exact ⟨rfl, k2, fun s' e => by subst e; exact ⟨L, k1, hL, vw_fork hV p q⟩⟩
  · refine ⟨forkE s pid to, fun s' => s' = s, V, ⟨fun B w vb l c hv hB _ _ => ?_, fun B w o L hR hL hV _ _ => ?_⟩⟩
    · refine (va_fork B l s V vb N c pid to w hv hB).mono ?_
      rintro r w' ⟨rfl, ⟨_, k⟩ | ⟨p', q', k, _⟩⟩
      · exact ⟨rfl, _, rfl, k.more⟩
      · exact absurd k he
    · refine (rfork_bad B o N s L pid to w hR he).mono ?_
      rintro r w' ⟨rfl, e⟩
      exact ⟨rfl, rsame hR hL hV e⟩
theorem map_both {N : Nat} {s : Vs} {V : Fin 6 → Nat → Int} (h : Iv N s V) (pid k : Int) : ∃ e K V', B1 N s V 22 49 #[.int .i64 pid, .int .i64 k] noA e K V' := by
  by_cases he : mapE s pid k = 0
  · obtain ⟨p, n, rfl, rfl, hn, hp, hg⟩ := mapE_ok he
    refine ⟨0, fun s' => s' = mpS s p n, mpV0 V p n, ⟨fun B w vb l c hv hB _ _ => ?_, fun B w o L hR hL hV _ _ => ?_⟩⟩
    · refine (va_map B l s V vb N c p.1 n w hv).mono ?_
      rintro r w' ⟨rfl, ⟨k, _⟩ | ⟨p', n', _, e1, e2, _, _, _, k⟩⟩
      · exact absurd he k
      · have : p = p' := by ext; omega
        subst this
        have : n = n' := by omega
        subst this
        exact ⟨by rw [he], _, rfl, k.more⟩
    · refine (rmap_ok B o N s L p n w hR hp hn hg).mono ?_
      rintro r w' ⟨rfl, k1, k2⟩
      exact ⟨rfl, k2, fun s' e => by subst e; exact ⟨L, k1, hL, vw_map hV p n hn⟩⟩
  · refine ⟨mapE s pid k, fun s' => s' = s, V, ⟨fun B w vb l c hv hB _ _ => ?_, fun B w o L hR hL hV _ _ => ?_⟩⟩
    · refine (va_map B l s V vb N c pid k w hv).mono ?_
      rintro r w' ⟨rfl, ⟨_, k⟩ | ⟨p', n', k, _⟩⟩
      · exact ⟨rfl, _, rfl, k.more⟩
      · exact absurd k he
    · refine (rmap_bad B o N s L pid k w hR he).mono ?_
      rintro r w' ⟨rfl, e⟩
      exact ⟨rfl, rsame hR hL hV e⟩
theorem unmap_both {N : Nat} {s : Vs} {V : Fin 6 → Nat → Int} (h : Iv N s V) (pid k : Int) : ∃ e K V', B1 N s V 50 51 #[.int .i64 pid, .int .i64 k] noA e K V' := by
  by_cases he : unmapE s pid k = 0
  · obtain ⟨p, n, v, rfl, rfl, hn, hp, hg⟩ := unmapE_ok he
    refine ⟨0, fun s' => s' = umS1 (lvA s v) p n, V, ⟨fun B w vb l c hv hB _ _ => ?_, fun B w o L hR hL hV _ _ => ?_⟩⟩
    · refine (va_unmap B l s V vb N c p.1 n w hv).mono ?_
      rintro r w' ⟨rfl, ⟨k, _⟩ | ⟨p', n', v', _, e1, e2, _, _, hg', k⟩⟩
      · exact absurd he k
      · have : p = p' := by ext; omega
        subst this
        have : n = n' := by omega
        subst this
        rw [hg] at hg'
        injection hg' with hg'
        subst hg'
        exact ⟨by rw [he], _, rfl, k.more⟩
    · refine (runmap_ok B o N s L p n w hR hp hn (by rw [hg]; simp)).mono ?_
      rintro r w' ⟨rfl, k1, k2⟩
      obtain ⟨_, i2, i3, i4⟩ := unmap_iv h hn hg
      have epg : (umS1 (lvA s v) p n).pg = (umS s p n).pg := by
        show upF (lvA s v).pg p (upI ((lvA s v).pg p) (n : Int) none) = upF s.pg p (upI (s.pg p) (n : Int) none)
        rw [i4]
      refine ⟨rfl, k2, fun s' e => ?_⟩
      subst e
      refine ⟨L, k1.congr i3 epg i2, hL, vw_sub hV (fun q z f hf => ?_)⟩
      rw [epg] at hf
      rcases pg_up hf with ⟨_, _, e2⟩ | ⟨_, e⟩
      · cases e2
      · exact e
  · refine ⟨unmapE s pid k, fun s' => s' = s, V, ⟨fun B w vb l c hv hB _ _ => ?_, fun B w o L hR hL hV _ _ => ?_⟩⟩
    · refine (va_unmap B l s V vb N c pid k w hv).mono ?_
      rintro r w' ⟨rfl, ⟨_, k⟩ | ⟨p', n', v', k, _⟩⟩
      · exact ⟨rfl, _, rfl, k.more⟩
      · exact absurd k he
    · refine (runmap_bad B o N s L pid k w hR he).mono ?_
      rintro r w' ⟨rfl, e⟩
      exact ⟨rfl, rsame hR hL hV e⟩
theorem poke_both {N : Nat} {s : Vs} {V : Fin 6 → Nat → Int} (h : Iv N s V) (pid addr b : Int) : ∃ e K V', B1 N s V 23 52 #[.int .i64 pid, .int .i64 addr, .int .u8 b] noA e K V' := by
  refine ⟨fillE N s pid addr 1, fun s' => s' = fillS N s pid addr 1 (fun _ => b), fillV N s V pid addr 1 (fun _ => b), ⟨fun B w vb l c hv hB hc _ => ?_, fun B w o L hR hL hV hcp _ => ?_⟩⟩
  · refine (va_poke B l s V vb N c pid addr b w hv (by omega)).mono ?_
    rintro r w' ⟨rfl, k⟩
    exact ⟨rfl, _, rfl, k⟩
  · refine (rpoke_any B o N s L V pid addr b w hR h.fr hV hL (by omega)).mono ?_
    rintro r w' ⟨rfl, k1, k2⟩
    exact ⟨rfl, k2, fun s' e => by subst e; exact k1⟩
theorem fill_both {N : Nat} {s : Vs} {V : Fin 6 → Nat → Int} (h : Iv N s V) (pid addr : Int) (m cap : Nat) (x : Option Addr) (b : Nat → Int) (hm : (m : Int) ≤ 9223372036854775807) : ∃ e K V', B1 N s V 15 53 #[.int .i64 pid, .int .i64 addr, .slice x m cap] (fun w X => Bts w x m b X) e K V' := by
  refine ⟨fillE N s pid addr m, fun s' => s' = fillS N s pid addr m b, fillV N s V pid addr m b, ⟨fun B w vb l c hv hB hc hA => ?_, fun B w o L hR hL hV hcp hA => ?_⟩⟩
  · refine (va_fill B l s V vb N c pid addr m cap x b w hv hc hA).mono ?_
    rintro r w' ⟨rfl, k⟩
    exact ⟨rfl, _, rfl, k⟩
  · rcases prc_cases s pid with ⟨h1, h2⟩ | ⟨p, h1, rfl, h2⟩
    · have e5 : fillE N s pid addr m = 5 := by unfold fillE; rw [h1]
      refine (rfill_noent B o N s L pid addr _ w hR h1).mono ?_
      rintro r w' ⟨rfl, rfl⟩
      exact ⟨by rw [e5], Apart.refl _ _, fun s' e => by subst e; exact fl_err (by rw [e5]; omega) hR hL hV⟩
    · cases ha : inA addr m with
      | false =>
        have e2 : fillE N s p.1 addr m = 2 := by unfold fillE; rw [h1]; simp only [ha, if_true]
        refine (rfill_range B o N s L p addr x m cap w hR h2 ha hm).mono ?_
        rintro r w' ⟨rfl, rfl⟩
        exact ⟨by rw [e2], Apart.refl _ _, fun s' e => by subst e; exact fl_err (by rw [e2]; omega) hR hL hV⟩
      | true =>
        have ha' : (decide (0 ≤ addr) && decide (addr < 512) && decide ((m : Int) ≤ 512 - addr)) = true := ha
        simp only [Bool.and_eq_true, decide_eq_true_eq] at ha'
        obtain ⟨a, rfl⟩ := Int.eq_ofNat_of_zero_le ha'.1.1
        refine (rfill_in B o N s L V p a m cap x b w hR h.fr hV hL hcp h2 (by omega) (by omega) hA).mono ?_
        rintro r w' ⟨rfl, k1, k2⟩
        exact ⟨rfl, k2, fun s' e => by subst e; exact k1⟩
/-- Both, in a set of blocks. -/
structure Bo (B : Nat) (w : World) (vb rb N c : Nat) (S : Nat → Prop) : Prop where
  ex : ∃ l s V o L, Va B w vb N l s V c ∧ o.b = rb ∧ Rb B w o N s L ∧ L.length = 2048 ∧ Vw s.pg L V ∧ (∀ k, XV l s k → S k) ∧ (∀ k, XR o k → S k) ∧ (∀ k, XV l s k → ¬ XR o k)
  g : ∀ k, S k → B ≤ k ∧ k < w.heap.size
theorem Rb.lts {B : Nat} {w : World} {o : Ro} {N : Nat} {s : Vs} {L : List Int} (h : Rb B w o N s L) {k : Nat} (hk : XR o k) : k < w.heap.size := by
  rcases hk with rfl | rfl | rfl
  · obtain ⟨P, c, _⟩ := h.c
    exact c.lt
  · exact h.m.lt
  · exact h.m.ltg
theorem Bo.keep {B : Nat} {w w' : World} {vb rb N c : Nat} {S X : Nat → Prop} (h : Bo B w vb rb N c S) (k : Apart X w w') (hx : ∀ j, S j → ¬ X j) : Bo B w' vb rb N c S := by
  obtain ⟨l, s, V, o, L, h1, h2, h3, h4, h5, h6, h7, h8⟩ := h.ex
  exact ⟨⟨l, s, V, o, L, ⟨h1.e, h1.v.stay k (fun j hj => hx j (h6 j hj)), h1.i, h1.cp⟩, h2, h3.keep k (fun j hj => hx j (h7 j hj)), h4, h5, h6, h7, h8⟩, fun j hj => ⟨(h.g j hj).1, Nat.lt_of_lt_of_le (h.g j hj).2 k.size⟩⟩
theorem Bo.below {B : Nat} {w w' : World} {vb rb N c : Nat} {S : Nat → Prop} (h : Bo B w vb rb N c S) (k : Below w.heap.size w w') : Bo B w' vb rb N c S := h.keep (Apart.of_below (X := fun _ => False) k) (fun _ _ x => x)
theorem Bo.up {B : Nat} {w : World} {vb rb N c c' : Nat} {S : Nat → Prop} (h : Bo B w vb rb N c S) (hc : c ≤ c') : Bo B w vb rb N c' S := by
  obtain ⟨l, s, V, o, L, h1, h2⟩ := h.ex
  exact ⟨⟨l, s, V, o, L, ⟨h1.e, h1.v, h1.i, by have := h1.cp; omega⟩, h2⟩, h.g⟩
/-- What a deed on both comes to. -/
def Mv (B : Nat) (w w' : World) (vb rb N c : Nat) (S : Nat → Prop) : Prop := ∃ S', Bo B w' vb rb N (c + 16) S' ∧ (∀ k, S' k → S k ∨ w.heap.size ≤ k) ∧ Apart S w w'
theorem Mv.same {B : Nat} {w w' : World} {vb rb N c : Nat} {S : Nat → Prop} (h : Bo B w vb rb N c S) (k : Below w.heap.size w w') : Mv B w w' vb rb N c S := ⟨S, (h.below k).up (by omega), fun _ => .inl, Apart.of_below k⟩
theorem Mv.pre {B : Nat} {w w1 w2 : World} {vb rb N c : Nat} {S : Nat → Prop} (k : Below w.heap.size w w1) (h : Mv B w1 w2 vb rb N c S) : Mv B w w2 vb rb N c S := by
  obtain ⟨S', h1, h2, h3⟩ := h
  exact ⟨S', h1, fun j hj => (h2 j hj).imp id (fun x => Nat.le_trans k.size x), (Apart.of_below k).trans h3⟩
theorem Mv.post {B : Nat} {w w1 w2 : World} {vb rb N c : Nat} {S : Nat → Prop} (h : Mv B w w1 vb rb N c S) (k : Below w1.heap.size w1 w2) : Mv B w w2 vb rb N c S := by
  obtain ⟨S', h1, h2, h3⟩ := h
  exact ⟨S', h1.below k, h2, h3.trans (Apart.of_below k)⟩
theorem Mv.low {B : Nat} {w w' : World} {vb rb N c : Nat} {S : Nat → Prop} (h : Mv B w w' vb rb N c S) (k : Bo B w vb rb N c S) (hB : B ≤ w.heap.size) : Below B w w' := h.elim fun S' x => x.2.2.below B (fun j hj => (k.g j hj).1) hB
/-- In the midst of it: the program's has been called. -/
structure Mid (B : Nat) (w w1 : World) (vb N c : Nat) (S : Nat → Prop) (o : Ro) (s s' : Vs) (L : List Int) (V' : Fin 6 → Nat → Int) : Prop where
  a : ∃ l', Va B w1 vb N l' s' V' (c + 16) ∧ (∀ k, XV l' s' k → (S k ∨ w.heap.size ≤ k) ∧ ¬ XR o k)
  r : Rb B w1 o N s L
  ap : Apart S w w1
  x : ∀ k, XR o k → S k
theorem Mid.mk' {B : Nat} {w w1 : World} {vb N c : Nat} {S : Nat → Prop} {l : Lo} {o : Ro} {s s' : Vs} {L : List Int} {V' : Fin 6 → Nat → Int} (hR : Rb B w o N s L) (h6 : ∀ k, XV l s k → S k) (h7 : ∀ k, XR o k → S k) (h8 : ∀ k, XV l s k → ¬ XR o k) (vt : Vt B w w1 vb N l s s' V' (c + 16)) : Mid B w w1 vb N c S o s s' L V' := by
  obtain ⟨l', k1, k2⟩ := vt.out
  refine ⟨⟨l', k1, fun k hk => ?_⟩, hR.keep vt.ap (fun j hj x => h8 j x hj), vt.ap.wide (fun i _ x => h6 i x), h7⟩
  rcases k2 k hk with e | e
  · exact ⟨.inl (h6 k e), h8 k e⟩
  · exact ⟨.inr e, fun x => by have := hR.lts x; omega⟩
theorem Mid.mv {B : Nat} {w w1 w2 : World} {vb N c : Nat} {S : Nat → Prop} {o : Ro} {s s' : Vs} {L : List Int} {V' : Fin 6 → Nat → Int} (h : Mid B w w1 vb N c S o s s' L V') (hS : ∀ k, S k → B ≤ k ∧ k < w.heap.size) (hB : B ≤ w.heap.size) (ap : Apart (XR o) w1 w2) (k : ∃ L', Rb B w2 o N s' L' ∧ L'.length = 2048 ∧ Vw s'.pg L' V') : Mv B w w2 vb o.b N c S := by
  obtain ⟨l', k1, k2⟩ := h.a
  obtain ⟨L', r1, r2, r3⟩ := k
  have hv2 : Vb B w2 l' s' := k1.v.stay ap (fun j hj => (k2 j hj).2)
  refine ⟨fun k => XV l' s' k ∨ XR o k, ⟨⟨l', s', V', o, L', ⟨k1.e, hv2, k1.i, k1.cp⟩, rfl, r1, r2, r3, fun _ => .inl, fun _ => .inr, fun k hk => (k2 k hk).2⟩, fun k hk => ?_⟩, fun k hk => ?_, h.ap.trans (ap.wide (fun i _ x => h.x i x))⟩
  · rcases hk with e | e
    · exact ⟨hv2.ge e, hv2.lts k e⟩
    · exact ⟨r1.ge e, r1.lts e⟩
  · rcases hk with e | e
    · exact (k2 k e).1
    · exact .inl (h.x k e)
end Go.Proofs.Ytfmcoibpbcheiaa
