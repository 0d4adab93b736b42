/- match: pieces that are looked for one behind the other. -/
import Derived.Test.YtacmbomnjedbeaaWords
import Derived.Lib.IndexMore
namespace Go.Proofs.Ytacmbomnjedbeaa
open Go.RowKit
set_option maxRecDepth 100000

/-- What stands behind the first place of a piece. -/
def cutO (s p : List UInt8) : Option (List UInt8) := if 0 ≤ Lib.index s p then some (s.drop ((Lib.index s p).toNat + p.length)) else none
theorem cut_some {s p r : List UInt8} (h : cutO s p = some r) : (Lib.cut s p).2.1 = r ∧ (Lib.cut s p).2.2 = true := by
  unfold cutO at h
  unfold Lib.cut
  by_cases h0 : 0 ≤ Lib.index s p
  · rw [if_pos h0] at h ⊢
    exact ⟨Option.some.inj h, rfl⟩
  · rw [if_neg h0] at h; cases h
theorem cut_none {s p : List UInt8} (h : cutO s p = none) : (Lib.cut s p).2.2 = false := by
  unfold cutO at h
  unfold Lib.cut
  by_cases h0 : 0 ≤ Lib.index s p
  · rw [if_pos h0] at h; cases h
  · rw [if_neg h0]
/-- The first place of a piece. -/
def First (s p x r : List UInt8) : Prop := s = x ++ p ++ r ∧ ∀ y z, s = y ++ p ++ z → x.length ≤ y.length
theorem occ_iff {s p : List UInt8} {i : Nat} (hi : i ≤ s.length) : Lib.occAt s p i = true ↔ ∃ y z, s = y ++ p ++ z ∧ y.length = i := by
  unfold Lib.occAt
  rw [List.isPrefixOf_iff_prefix]
  constructor
  · rintro ⟨z, hz⟩
    exact ⟨s.take i, z, by rw [List.append_assoc, hz, List.take_append_drop], by rw [List.length_take]; omega⟩
  · rintro ⟨y, z, h, rfl⟩
    exact ⟨z, by rw [h, List.append_assoc, List.drop_left]⟩
theorem cutO_spec (s p : List UInt8) : (cutO s p = none ∧ ∀ y z, s ≠ y ++ p ++ z) ∨ ∃ x r, cutO s p = some r ∧ First s p x r := by
  rcases Lib.index_spec s p with ⟨h1, h2⟩ | ⟨i, h1, h2, h3, h4⟩
  · refine .inl ⟨by unfold cutO; rw [h1]; simp, fun y z h => ?_⟩
    have hy : y.length ≤ s.length := by rw [h]; simp
    have := h2 y.length hy
    rw [(occ_iff hy).2 ⟨y, z, h, rfl⟩] at this
    cases this
  · obtain ⟨y, z, h5, h6⟩ := (occ_iff h2).1 h3
    refine .inr ⟨y, z, ?_, h5, fun y' z' h7 => ?_⟩
    · unfold cutO
      rw [h1, if_pos (by omega), Int.toNat_natCast, ← h6, h5, List.append_assoc, ← List.append_assoc, List.drop_left' (by rw [List.length_append])]
    · rw [h6]
      by_cases hlt : y'.length < i
      · have h8 := h4 _ hlt
        rw [(occ_iff (by omega)).2 ⟨y', z', h7, rfl⟩] at h8
        cases h8
      · omega
theorem First.unique {s p x r x' r' : List UInt8} (h : First s p x r) (h' : First s p x' r') : r = r' := by
  have h1 := h.2 _ _ h'.1
  have h2 := h'.2 _ _ h.1
  have h3 := h.1.symm.trans h'.1
  rw [List.append_assoc, List.append_assoc] at h3
  have h4 := List.append_inj h3 (by omega)
  exact List.append_cancel_left h4.2
theorem cutO_of {s p x r : List UInt8} (h : First s p x r) : cutO s p = some r := by
  rcases cutO_spec s p with ⟨_, h2⟩ | ⟨x', r', h1, h2⟩
  · exact absurd h.1 (h2 _ _)
  · rw [h1, h2.unique h]
theorem cutO_some {s p r : List UInt8} (h : cutO s p = some r) : ∃ x, First s p x r := by
  rcases cutO_spec s p with ⟨h1, _⟩ | ⟨x', r', h1, h2⟩
  · rw [h1] at h; cases h
  · rw [h1] at h
    cases h
    exact ⟨x', h2⟩
/-- A piece that stands anywhere is found, and no less stands behind it. -/
theorem cutO_any {s p y z : List UInt8} (h : s = y ++ p ++ z) : ∃ r, cutO s p = some r ∧ z <:+ r := by
  rcases cutO_spec s p with ⟨_, h2⟩ | ⟨x, r, h1, h2⟩
  · exact absurd h (h2 _ _)
  · refine ⟨r, h1, ?_⟩
    have h3 := h2.2 _ _ h
    have h4 := h2.1.symm.trans h
    rw [List.append_assoc, List.append_assoc] at h4
    have h6 : z = (y ++ (p ++ z)).drop (y.length + p.length) := by rw [← List.append_assoc, List.drop_left' (by rw [List.length_append])]
    rw [← h4, ← List.append_assoc, List.drop_append, List.drop_of_length_le (by rw [List.length_append]; omega), List.nil_append] at h6
    rw [h6]
    exact List.drop_suffix _ _
theorem append_chop {b : List UInt8} {u x y : List UInt8} (h : u ++ b = x ++ (y ++ b)) : u = x ++ y := by
  rw [← List.append_assoc] at h
  exact List.append_cancel_right h
/-- What stands behind does not matter for what is found ahead of it. -/
theorem cutO_app {u p y : List UInt8} (b : List UInt8) : cutO u p = some y ↔ cutO (u ++ b) p = some (y ++ b) := by
  constructor
  · intro h
    obtain ⟨x, h1, h2⟩ := cutO_some h
    refine cutO_of (x := x) ⟨by rw [h1]; simp, fun y' z' h3 => ?_⟩
    by_cases hlt : y'.length < x.length
    · have h4 : (u ++ b).take (y'.length + p.length) = y' ++ p := by rw [h3, ← List.length_append, List.take_left]
      have hl : y'.length + p.length ≤ u.length := by rw [h1]; simp only [List.length_append]; omega
      rw [List.take_append_of_le_length hl] at h4
      exact h2 y' (u.drop (y'.length + p.length)) (by rw [← h4, List.take_append_drop])
    · omega
  · intro h
    obtain ⟨x, h1, h2⟩ := cutO_some h
    have h3 : u = x ++ p ++ y := append_chop h1
    exact cutO_of (x := x) ⟨h3, fun y' z' h4 => h2 y' (z' ++ b) (by rw [h4]; simp)⟩
/-- Pieces one behind the other, each at its first place: what stands behind them. -/
def midsF : List UInt8 → List (List UInt8) → Option (List UInt8)
  | s, [] => some s
  | s, p :: ps => match cutO s p with
    | none => none
    | some r => midsF r ps
theorem mids_none {s p : List UInt8} {ps : List (List UInt8)} (h : cutO s p = none) : midsF s (p :: ps) = none := by rw [midsF, h]
theorem mids_some {s p r : List UInt8} {ps : List (List UInt8)} (h : cutO s p = some r) : midsF s (p :: ps) = midsF r ps := by rw [midsF, h]
theorem mids_suffix : ∀ {ps : List (List UInt8)} {s r : List UInt8}, midsF s ps = some r → r <:+ s
  | [], s, r, h => by
    simp only [midsF, Option.some.injEq] at h
    rw [h]
    exact List.suffix_refl _
  | p :: ps, s, r, h => by
    cases hc : cutO s p with
    | none => rw [mids_none hc] at h; cases h
    | some t =>
      rw [mids_some hc] at h
      obtain ⟨x, h1, _⟩ := cutO_some hc
      exact (mids_suffix h).trans ⟨x ++ p, h1.symm⟩
theorem mids_app : ∀ {ps : List (List UInt8)} {u r : List UInt8} (b : List UInt8), midsF u ps = some r ↔ midsF (u ++ b) ps = some (r ++ b)
  | [], u, r, b => by simp [midsF]
  | p :: ps, u, r, b => by
    constructor
    · intro h
      cases hc : cutO u p with
      | none => rw [mids_none hc] at h; cases h
      | some t =>
        rw [mids_some hc] at h
        rw [mids_some ((cutO_app b).1 hc)]
        exact (mids_app b).1 h
    · intro h
      cases hc : cutO (u ++ b) p with
      | none => rw [mids_none hc] at h; cases h
      | some t =>
        rw [mids_some hc] at h
        obtain ⟨q, hq⟩ := (List.suffix_append r b).trans (mids_suffix h)
        have hb : b <:+ t := (List.suffix_append r b).trans (mids_suffix h)
        obtain ⟨y, hy⟩ := hb
        subst hy
        rw [mids_some ((cutO_app b).2 hc)]
        exact (mids_app b).2 h
/-- Pieces that are there in this order are found. -/
theorem mids_any : ∀ {ps : List (List UInt8)} {s s0 r0 : List UInt8}, midsF s0 ps = some r0 → s0 <:+ s → ∃ r, midsF s ps = some r ∧ r0 <:+ r
  | [], s, s0, r0, h, hs => by
    simp only [midsF, Option.some.injEq] at h
    exact ⟨s, rfl, h ▸ hs⟩
  | p :: ps, s, s0, r0, h, ⟨t, ht⟩ => by
    cases hc : cutO s0 p with
    | none => rw [mids_none hc] at h; cases h
    | some u =>
      rw [mids_some hc] at h
      obtain ⟨x, h1, _⟩ := cutO_some hc
      obtain ⟨r, h2, h3⟩ := cutO_any (s := s) (p := p) (y := t ++ x) (z := u) (by rw [← ht, h1]; simp)
      obtain ⟨r', h4, h5⟩ := mids_any h h3
      exact ⟨r', by rw [mids_some h2]; exact h4, h5⟩
theorem mids_has {s p y z r0 : List UInt8} {ps : List (List UInt8)} (h : s = y ++ p ++ z) (h2 : midsF z ps = some r0) : ∃ r, midsF s (p :: ps) = some r ∧ r0 <:+ r := by
  obtain ⟨r, h3, h4⟩ := cutO_any h
  obtain ⟨r', h5, h6⟩ := mids_any h2 h4
  exact ⟨r', by rw [mids_some h3]; exact h5, h6⟩
/-- Has a value all pieces: the first one, those between, the last one. -/
def hasP (s a : List UInt8) (ms : List (List UInt8)) (b : List UInt8) : Bool := a.isPrefixOf s && match midsF (s.drop a.length) ms with
  | none => false
  | some r => b.isSuffixOf r
/-- As the document tells it. -/
def hasQ (s a : List UInt8) (ms : List (List UInt8)) (b : List UInt8) : Bool :=
  decide (a.length + b.length ≤ s.length) && (a.isPrefixOf s && (b.isSuffixOf s && (midsF ((s.drop a.length).take (s.length - b.length - a.length)) ms).isSome))
theorem hasP_eq (s a : List UInt8) (ms : List (List UInt8)) (b : List UInt8) : hasP s a ms b = hasQ s a ms b := by
  unfold hasP hasQ
  rw [Bool.eq_iff_iff]
  simp only [Bool.and_eq_true, decide_eq_true_eq, List.isPrefixOf_iff_prefix, List.isSuffixOf_iff_suffix]
  constructor
  · rintro ⟨⟨s1, h1⟩, h2⟩
    have hd : s.drop a.length = s1 := by rw [← h1, List.drop_left]
    rw [hd] at h2 ⊢
    cases hm : midsF s1 ms with
    | none => rw [hm] at h2; cases h2
    | some r =>
      rw [hm] at h2
      simp only [List.isSuffixOf_iff_suffix] at h2
      obtain ⟨q, hq⟩ := h2
      obtain ⟨u, hu⟩ : b <:+ s1 := (show b <:+ r from ⟨q, hq⟩).trans (mids_suffix hm)
      have hl : s.length = a.length + (u.length + b.length) := by rw [← h1, ← hu]; simp
      refine ⟨by omega, ⟨s1, h1⟩, ⟨a ++ u, by rw [List.append_assoc, hu, h1]⟩, ?_⟩
      have ht : s1.take (s.length - b.length - a.length) = u := by rw [← hu, hl]; exact List.take_left' (by omega)
      rw [ht]
      have : midsF u ms = some q := (mids_app b).2 (by rw [hu, hq]; exact hm)
      rw [this]
      rfl
  · rintro ⟨hl, ⟨s1, h1⟩, ⟨t, h2⟩, h3⟩
    have hd : s.drop a.length = s1 := by rw [← h1, List.drop_left]
    have hs : s.length = a.length + s1.length := by rw [← h1]; simp
    rw [hd] at h3 ⊢
    refine ⟨⟨s1, h1⟩, ?_⟩
    have hu : s1.take (s.length - b.length - a.length) ++ b = s1 := by
      have h4 : s1.drop (s.length - b.length - a.length) = b := by
        have h5 : s.drop (s.length - b.length) = b := by
          have hlt : t.length = s.length - b.length := by rw [← h2]; simp
          rw [← hlt, ← h2, List.drop_left]
        rw [← hd, List.drop_drop, show a.length + (s.length - b.length - a.length) = s.length - b.length by omega, h5]
      conv => lhs; rhs; rw [← h4]
      exact List.take_append_drop _ _
    cases hm : midsF (s1.take (s.length - b.length - a.length)) ms with
    | none => rw [hm] at h3; cases h3
    | some q =>
      have := (mids_app b).1 hm
      rw [hu] at this
      rw [this]
      simp only [List.isSuffixOf_iff_suffix]
      exact List.suffix_append _ _
end Go.Proofs.Ytacmbomnjedbeaa
