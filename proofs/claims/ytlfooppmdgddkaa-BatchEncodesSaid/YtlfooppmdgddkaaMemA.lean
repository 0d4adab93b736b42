/- mem: towers as rows of numbers: what they are, what is found by them, what another one turns. -/
import Derived.Test.YtlfooppmdgddkaaCelK
namespace Go.Proofs.Ytlfooppmdgddkaa
open Go.RowKit
set_option maxRecDepth 100000

theorem lessC_irr (a : Ce) : lessC a a = false := lessC_one ⟨rfl, rfl⟩
theorem lessC_congr {a b a' b' : Ce} (h1 : a.key = a'.key) (h2 : a.seq = a'.seq) (h3 : b.key = b'.key) (h4 : b.seq = b'.seq) : lessC a b = lessC a' b' := by
  unfold lessC
  rw [h1, h2, h3, h4]
theorem lessC_asym {a b : Ce} (h : lessC a b = true) : lessC b a = false := by
  cases hb : lessC b a with
  | false => rfl
  | true => have := lessC_trans h hb; rw [lessC_irr] at this; cases this
/-- a < b, not c < b: a < c. -/
theorem lessC_lt_le {a b c : Ce} (h1 : lessC a b = true) (h2 : lessC c b = false) : lessC a c = true := by
  by_cases h : c.key = b.key ∧ c.seq = b.seq
  · rw [lessC_congr (a' := a) (b' := b) rfl rfl h.1 h.2]; exact h1
  · have := lessC_other h
    rw [h2] at this
    exact lessC_trans h1 (by cases hb : lessC b c; rw [hb] at this; cases this; rfl)
/-- not b < a, b < c: a < c. -/
theorem lessC_le_lt {a b c : Ce} (h1 : lessC b a = false) (h2 : lessC b c = true) : lessC a c = true := by
  by_cases h : b.key = a.key ∧ b.seq = a.seq
  · rw [lessC_congr (a' := b) (b' := c) h.1.symm h.2.symm rfl rfl]; exact h2
  · have := lessC_other h
    rw [h1] at this
    exact lessC_trans (by cases hb : lessC a b; rw [hb] at this; cases this; rfl) h2
theorem lessC_tot {a b : Ce} (h : ¬ (a.key = b.key ∧ a.seq = b.seq)) (h2 : lessC a b = false) : lessC b a = true := by
  have := lessC_other h
  rw [h2] at this
  cases hb : lessC b a
  · rw [hb] at this; cases this
  · rfl

/-- A node: its cell, where its tower begins, how high it is. -/
structure Nd where
  c : Ce
  t : Nat
  h : Nat
deriving Inhabited
abbrev nd (N : List Nd) (k : Nat) : Nd := N.getD k default
/-- The node that follows at a height. -/
def nxt (N : List Nd) (A : List Nat) (a h : Nat) : Nat := A.getD ((nd N a).t + h) 0
/-- a stands ahead of a cell. -/
def ltC (N : List Nd) (a : Nat) (c : Ce) : Prop := a = 0 ∨ lessC (nd N a).c c = true
/-- b is what follows a at h. -/
def Link (N : List Nd) (a h b : Nat) : Prop :=
  (b = 0 ∧ ∀ d, 0 < d → d < N.length → h < (nd N d).h → ¬ ltC N a (nd N d).c) ∨
  (0 < b ∧ b < N.length ∧ h < (nd N b).h ∧ ltC N a (nd N b).c ∧ ∀ d, 0 < d → d < N.length → h < (nd N d).h → ltC N a (nd N d).c → d = b ∨ lessC (nd N b).c (nd N d).c = true)
/-- The towers. -/
structure Sk (N : List Nd) (A : List Nat) : Prop where
  fit : ∀ k, k < N.length → (nd N k).t + (nd N k).h ≤ A.length
  apart : ∀ j k, j < k → k < N.length → (nd N j).t + (nd N j).h ≤ (nd N k).t
  high : ∀ k, k < N.length → 1 ≤ (nd N k).h ∧ (nd N k).h ≤ 12
  head : 0 < N.length ∧ (nd N 0).h = 12
  link : ∀ a h, a < N.length → h < (nd N a).h → Link N a h (nxt N A a h)
  two : ∀ a b, 0 < a → a < N.length → 0 < b → b < N.length → (nd N a).c.key = (nd N b).c.key → (nd N a).c.seq = (nd N b).c.seq → a = b
/-- p is the last node ahead of a cell, at a height. -/
structure Pa (N : List Nd) (A : List Nat) (c : Ce) (h p : Nat) : Prop where
  lt : p < N.length
  hi : h < (nd N p).h
  ahead : ltC N p c
  stop : nxt N A p h = 0 ∨ lessC (nd N (nxt N A p h)).c c = false

section
variable {N : List Nd} {A : List Nat} {c : Ce} {h p : Nat}
theorem ltC_trans {a b : Nat} (h1 : ltC N a (nd N b).c) (h2 : lessC (nd N b).c c = true) : ltC N a c := by
  rcases h1 with h1 | h1
  · exact .inl h1
  · exact .inr (lessC_trans h1 h2)
theorem ltC_le {a : Nat} {d : Ce} (h1 : ltC N a c) (h2 : lessC d c = false) : ltC N a d := by
  rcases h1 with h1 | h1
  · exact .inl h1
  · exact .inr (lessC_lt_le h1 h2)
/-- What stands ahead of the cell and is high enough is p, or ahead of it. -/
theorem Pa.last (s : Sk N A) (q : Pa N A c h p) {d : Nat} (d0 : 0 < d) (dn : d < N.length) (dh : h < (nd N d).h) (hd : lessC (nd N d).c c = true) : d = p ∨ (0 < p ∧ lessC (nd N d).c (nd N p).c = true) := by
  have hl := s.link p h q.lt q.hi
  have hno : ¬ ltC N p (nd N d).c := fun hp => by
    rcases hl with ⟨hb, hl⟩ | ⟨b0, bn, bh, _, hl⟩
    · exact hl d d0 dn dh hp
    · have hs : lessC (nd N (nxt N A p h)).c c = false := by
        rcases q.stop with e | e
        · omega
        · exact e
      rcases hl d d0 dn dh hp with e | e
      · rw [e, hs] at hd; cases hd
      · have := lessC_trans e hd; rw [hs] at this; cases this
  by_cases hdp : d = p
  · exact .inl hdp
  · have p0 : 0 < p := Nat.pos_of_ne_zero fun e => hno (.inl e)
    refine .inr ⟨p0, lessC_tot (fun hk => hdp (s.two d p d0 dn p0 q.lt hk.1.symm hk.2.symm)) ?_⟩
    cases hx : lessC (nd N p).c (nd N d).c
    · rfl
    · exact absurd (.inr hx) hno
/-- At height 0: whether a cell of one key and number is there is seen behind p. -/
theorem Pa.known (s : Sk N A) (q : Pa N A c 0 p) {d : Nat} (d0 : 0 < d) (dn : d < N.length) (hk : (nd N d).c.key = c.key) (hs : (nd N d).c.seq = c.seq) : d = nxt N A p 0 := by
  have dh := (s.high d dn).1
  have hlt : ltC N p (nd N d).c := ltC_le q.ahead (lessC_one ⟨hk, hs⟩)
  rcases s.link p 0 q.lt q.hi with ⟨hb, hl⟩ | ⟨b0, bn, bh, _, hl⟩
  · exact absurd hlt (hl d d0 dn (by omega))
  · rcases hl d d0 dn (by omega) hlt with e | e
    · exact e
    · have hst : lessC (nd N (nxt N A p 0)).c c = false := by
        rcases q.stop with e | e
        · omega
        · exact e
      have : lessC (nd N (nxt N A p 0)).c c = lessC (nd N (nxt N A p 0)).c (nd N d).c := lessC_congr rfl rfl hk.symm hs.symm
      rw [hst, e] at this
      cases this
end

theorem nd_app {N : List Nd} (x : Nd) {k : Nat} (hk : k < N.length) : nd (N ++ [x]) k = nd N k := by
  show (N ++ [x]).getD k default = N.getD k default
  rw [List.getD_eq_getElem?_getD, List.getD_eq_getElem?_getD, List.getElem?_append_left hk]
theorem nd_new {N : List Nd} (x : Nd) : nd (N ++ [x]) N.length = x := by
  show (N ++ [x]).getD N.length default = x
  rw [List.getD_eq_getElem?_getD, List.getElem?_append_right (Nat.le_refl _)]
  simp

/-- The arena while a tower is laid: k heights are done. -/
structure Wk (N : List Nd) (A : List Nat) (x : Nd) (P : Nat → Nat) (k : Nat) (B : List Nat) : Prop where
  len : B.length = A.length + x.h
  old : ∀ a h, a < N.length → h < (nd N a).h → nxt (N ++ [x]) B a h = if h < k ∧ a = P h then N.length else nxt N A a h
  new : ∀ h, h < k → nxt (N ++ [x]) B N.length h = nxt N A (P h) h
section
variable {N : List Nd} {A B : List Nat} {x : Nd} {P : Nat → Nat} {k : Nat}
theorem Wk.begin (s : Sk N A) : Wk N A x P 0 (A ++ List.replicate x.h 0) :=
  ⟨by simp, fun a h ha hh => by
    rw [if_neg (by omega)]
    unfold nxt
    have hf := s.fit a ha
    rw [nd_app x ha, List.getD_eq_getElem?_getD, List.getD_eq_getElem?_getD, List.getElem?_append_left (by omega)], fun h hk => by omega⟩
/-- One height more. -/
theorem Wk.step (s : Sk N A) (w : Wk N A x P k B) (hx : x.t = A.length) (hk : k < x.h) (hP : P k < N.length) (hPk : k < (nd N (P k)).h) :
    Wk N A x P (k + 1) ((B.set (x.t + k) (nxt (N ++ [x]) B (P k) k)).set ((nd N (P k)).t + k) N.length) := by
  have hfp := s.fit (P k) hP
  have hB := w.len
  have hpk : nxt (N ++ [x]) B (P k) k = nxt N A (P k) k := by rw [w.old _ _ hP hPk, if_neg (by omega)]
  rw [hpk]
  refine ⟨by simp [hB], fun a h ha hh => ?_, fun h hh => ?_⟩
  · have ho := w.old a h ha hh
    have hfa := s.fit a ha
    unfold nxt at ho ⊢
    rw [nd_app x ha] at ho ⊢
    rw [List.getD_eq_getElem?_getD, List.getElem?_set, List.getElem?_set]
    by_cases he : (nd N (P k)).t + k = (nd N a).t + h
    · have hap : a = P k ∧ h = k := by
        rcases Nat.lt_trichotomy a (P k) with h1 | h1 | h1
        · have := s.apart a (P k) h1 hP; omega
        · subst h1; exact ⟨rfl, by omega⟩
        · have := s.apart (P k) a h1 ha; omega
      obtain ⟨rfl, rfl⟩ := hap
      rw [if_pos he, if_pos (by rw [List.length_set]; omega), if_pos ⟨by omega, rfl⟩]
      rfl
    · rw [if_neg he, if_neg (by omega), ← List.getD_eq_getElem?_getD, ho]
      by_cases h1 : h < k ∧ a = P h
      · rw [if_pos h1, if_pos ⟨by omega, h1.2⟩]
      · rw [if_neg h1, if_neg (fun h2 => by
          rcases Nat.lt_or_ge h k with h3 | h3
          · exact h1 ⟨h3, h2.2⟩
          · have : h = k := by omega
            subst this
            rw [h2.2] at he
            exact he rfl)]
  · unfold nxt
    rw [nd_new, List.getD_eq_getElem?_getD, List.getElem?_set, if_neg (by omega), List.getElem?_set]
    by_cases he : h = k
    · subst he
      rw [if_pos rfl, if_pos (by omega)]
      rfl
    · rw [if_neg (by omega), ← List.getD_eq_getElem?_getD]
      have := w.new h (by omega)
      unfold nxt at this
      rw [nd_new] at this
      exact this
/-- All heights are done: the towers stand again. -/
theorem Wk.done (s : Sk N A) (w : Wk N A x P x.h B) (hx : x.t = A.length) (h1 : 1 ≤ x.h) (h12 : x.h ≤ 12) (hP : ∀ h, h < x.h → Pa N A x.c h (P h)) (hno : ∀ d, 0 < d → d < N.length → ¬ ((nd N d).c.key = x.c.key ∧ (nd N d).c.seq = x.c.seq)) :
    Sk (N ++ [x]) B := by
  have hl : (N ++ [x]).length = N.length + 1 := by simp
  have hc : ∀ k, k < (N ++ [x]).length → (k < N.length ∧ nd (N ++ [x]) k = nd N k) ∨ (k = N.length ∧ nd (N ++ [x]) k = x) := fun k hk => by
    rcases Nat.lt_or_ge k N.length with h | h
    · exact .inl ⟨h, nd_app x h⟩
    · have : k = N.length := by omega
      subst this
      exact .inr ⟨rfl, nd_new x⟩
  have h0 := s.head.1
  have hlt : ∀ {a : Nat} {d : Ce}, a < N.length → (ltC (N ++ [x]) a d ↔ ltC N a d) := fun {a d} ha => by
    unfold ltC
    rw [nd_app x ha]
  have hltn : ∀ {d : Ce}, ltC (N ++ [x]) N.length d ↔ lessC x.c d = true := fun {d} => by
    unfold ltC
    rw [nd_new]
    exact ⟨fun h => by rcases h with h | h; omega; exact h, .inr⟩
  refine ⟨fun k hk => ?_, fun j k hjk hk => ?_, fun k hk => ?_, ⟨by omega, by rw [nd_app x h0]; exact s.head.2⟩, fun a h ha hh => ?_, fun a b a0 ha b0 hb hk hs => ?_⟩
  · have hB := w.len
    rcases hc k hk with ⟨h, e⟩ | ⟨h, e⟩
    · rw [e]; have := s.fit k h; omega
    · rw [e]; omega
  · have hj := nd_app x (N := N) (k := j) (by omega)
    rw [hj]
    rcases hc k hk with ⟨h, e⟩ | ⟨h, e⟩
    · rw [e]; exact s.apart j k hjk h
    · rw [e, hx]; exact s.fit j (by omega)
  · rcases hc k hk with ⟨h, e⟩ | ⟨h, e⟩
    · rw [e]; exact s.high k h
    · rw [e]; exact ⟨h1, h12⟩
  · rcases hc a ha with ⟨han, e⟩ | ⟨han, e⟩
    · rw [e] at hh
      have hL := s.link a h han hh
      rw [w.old a h han hh]
      by_cases hp : h < x.h ∧ a = P h
      · obtain ⟨hp1, hp2⟩ := hp
        rw [if_pos ⟨hp1, hp2⟩]
        have q := hP h hp1
        rw [← hp2] at q
        refine .inr ⟨h0, by omega, by rw [nd_new]; exact hp1, ?_, fun d d0 dn dh hd => ?_⟩
        · rw [nd_new, hlt han]; exact q.ahead
        · rcases hc d dn with ⟨hdn, ed⟩ | ⟨hdn, ed⟩
          · rw [ed] at dh hd ⊢
            rw [hlt han] at hd
            rw [nd_new]
            rcases hL with ⟨_, hL⟩ | ⟨b0, bn, bh, _, hL⟩
            · exact absurd hd (hL d d0 hdn dh)
            · have hst : lessC (nd N (nxt N A a h)).c x.c = false := by
                rcases q.stop with e | e
                · omega
                · exact e
              have hcb := lessC_tot (fun hk => hno _ b0 bn hk) hst
              rcases hL d d0 hdn dh hd with e | e
              · rw [e]; exact .inr hcb
              · exact .inr (lessC_trans hcb e)
          · exact .inl hdn
      · rw [if_neg hp]
        have hpp : h < x.h → a ≠ P h := fun h1 h2 => hp ⟨h1, h2⟩
        rcases hL with ⟨hb, hL⟩ | ⟨b0, bn, bh, hab, hL⟩
        · refine .inl ⟨hb, fun d d0 dn dh hd => ?_⟩
          rw [hlt han] at hd
          rcases hc d dn with ⟨hdn, ed⟩ | ⟨hdn, ed⟩
          · rw [ed] at dh hd
            exact hL d d0 hdn dh hd
          · rw [ed] at dh hd
            have q := hP h dh
            have hne := hpp dh
            rcases hd with rfl | hd
            · exact hL (P h) (by omega) q.lt q.hi (.inl rfl)
            · by_cases a0 : a = 0
              · subst a0
                exact hL (P h) (by omega) q.lt q.hi (.inl rfl)
              · rcases q.last s (by omega) han hh hd with e | ⟨p0, e⟩
                · exact hne e
                · exact hL (P h) p0 q.lt q.hi (.inr e)
        · have hnb := nd_app x bn
          refine .inr ⟨b0, by omega, by rw [hnb]; exact bh, by rw [hnb, hlt han]; exact hab, fun d d0 dn dh hd => ?_⟩
          rw [hlt han] at hd
          rw [hnb]
          rcases hc d dn with ⟨hdn, ed⟩ | ⟨hdn, ed⟩
          · rw [ed] at dh hd ⊢
            exact hL d d0 hdn dh hd
          · rw [ed] at dh hd ⊢
            have q := hP h dh
            have hne := hpp dh
            have hap : 0 < P h ∧ ltC N a (nd N (P h)).c := by
              by_cases a0 : a = 0
              · exact ⟨by omega, .inl a0⟩
              · rcases hd with hd | hd
                · exact absurd hd a0
                · rcases q.last s (by omega) han hh hd with e | ⟨p0, e⟩
                  · exact absurd e hne
                  · exact ⟨p0, .inr e⟩
            have hpc : lessC (nd N (P h)).c x.c = true := by
              rcases q.ahead with e | e
              · omega
              · exact e
            rcases hL (P h) hap.1 q.lt q.hi hap.2 with e | e
            · rw [← e]; exact .inr hpc
            · exact .inr (lessC_trans e hpc)
    · subst han
      rw [e] at hh
      rw [w.new h hh]
      have q := hP h hh
      rcases s.link (P h) h q.lt q.hi with ⟨hb, hL⟩ | ⟨b0, bn, bh, hab, hL⟩
      · refine .inl ⟨hb, fun d d0 dn dh hd => ?_⟩
        rw [hltn] at hd
        rcases hc d dn with ⟨hdn, ed⟩ | ⟨hdn, ed⟩
        · rw [ed] at dh hd
          refine hL d d0 hdn dh ?_
          rcases q.ahead with e | e
          · exact .inl e
          · exact .inr (lessC_trans e hd)
        · rw [ed, lessC_irr] at hd; cases hd
      · have hst : lessC (nd N (nxt N A (P h) h)).c x.c = false := by
          rcases q.stop with e | e
          · omega
          · exact e
        have hcb := lessC_tot (fun hk => hno _ b0 bn hk) hst
        have hnb := nd_app x bn
        refine .inr ⟨b0, by omega, by rw [hnb]; exact bh, by rw [hnb, hltn]; exact hcb, fun d d0 dn dh hd => ?_⟩
        rw [hltn] at hd
        rw [hnb]
        rcases hc d dn with ⟨hdn, ed⟩ | ⟨hdn, ed⟩
        · rw [ed] at dh hd ⊢
          refine hL d d0 hdn dh ?_
          rcases q.ahead with e | e
          · exact .inl e
          · exact .inr (lessC_trans e hd)
        · rw [ed, lessC_irr] at hd; cases hd
  · rcases hc a ha with ⟨han, ea⟩ | ⟨han, ea⟩ <;> rcases hc b hb with ⟨hbn, eb⟩ | ⟨hbn, eb⟩ <;> rw [ea, eb] at hk hs
    · exact s.two a b a0 han b0 hbn hk hs
    · exact absurd ⟨hk, hs⟩ (hno a a0 han)
    · exact absurd ⟨hk.symm, hs.symm⟩ (hno b b0 hbn)
    · omega
end
/-- The head alone. -/
theorem Sk.begin (c : Ce) : Sk [⟨c, 0, 12⟩] (List.replicate 12 0) := by
  have h0 : nd [⟨c, 0, 12⟩] 0 = ⟨c, 0, 12⟩ := rfl
  refine ⟨fun k hk => ?_, fun j k hjk hk => ?_, fun k hk => ?_, ⟨by simp, rfl⟩, fun a h ha hh => ?_, fun a b a0 ha b0 hb _ _ => ?_⟩
  · have : k = 0 := by simpa using hk
    subst this; rw [h0]; simp
  · have : k = 0 := by simpa using hk
    omega
  · have : k = 0 := by simpa using hk
    subst this; rw [h0]; simp
  · refine .inl ⟨?_, fun d d0 dn => by simp at dn; omega⟩
    unfold nxt
    rw [List.getD_eq_getElem?_getD, List.getElem?_replicate]
    split <;> rfl
  · simp at ha; omega
end Go.Proofs.Ytlfooppmdgddkaa
