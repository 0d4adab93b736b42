/- match: pieces that are looked for one behind the other. -/
import Derived.Test.YtacmbomnjedbeaaWords
import Derived.Lib.IndexMore
import Derived.Lib.AtoiAll
namespace Go.Proofs.Ytacmbomnjedbeaa
open Go.RowKit
set_option maxRecDepth 100000

/-- What stands behind the first place of a piece. -/
def cutO (s p : List UInt8) : Option (List UInt8) := if 0 ≤ Lib.index s p then some (s.drop ((Lib.index s p).toNat + p.length)) else none
theorem cut_some {s p r : List UInt8} (h : cutO s p = some r) : (Lib.cut s p).2.1 = r ∧ (Lib.cut s p).2.2 = true := by
  unfold cutO at h
  unfold Lib.cut
  by_cases h0 : 0 ≤ Lib.index s p
  · rw [if_pos h0] at h ⊢
    exact ⟨Option.some.inj h, rfl⟩
  · rw [if_neg h0] at h; cases h
theorem cut_none {s p : List UInt8} (h : cutO s p = none) : (Lib.cut s p).2.2 = false := by
  unfold cutO at h
  unfold Lib.cut
  by_cases h0 : 0 ≤ Lib.index s p
  · rw [if_pos h0] at h; cases h
  · rw [if_neg h0]
/-- The first place of a piece. -/
def First (s p x r : List UInt8) : Prop := s = x ++ p ++ r ∧ ∀ y z, s = y ++ p ++ z → x.length ≤ y.length
theorem occ_iff {s p : List UInt8} {i : Nat} (hi : i ≤ s.length) : Lib.occAt s p i = true ↔ ∃ y z, s = y ++ p ++ z ∧ y.length = i := by
  unfold Lib.occAt
  rw [List.isPrefixOf_iff_prefix]
  constructor
  · rintro ⟨z, hz⟩
    exact ⟨s.take i, z, by rw [List.append_assoc, hz, List.take_append_drop], by rw [List.length_take]; omega⟩
  · rintro ⟨y, z, h, rfl⟩
    exact ⟨z, by rw [h, List.append_assoc, List.drop_left]⟩
theorem cutO_spec (s p : List UInt8) : (cutO s p = none ∧ ∀ y z, s ≠ y ++ p ++ z) ∨ ∃ x r, cutO s p = some r ∧ First s p x r := by
  rcases Lib.index_spec s p with ⟨h1, h2⟩ | ⟨i, h1, h2, h3, h4⟩
  · refine .inl ⟨by unfold cutO; rw [h1]; simp, fun y z h => ?_⟩
    have hy : y.length ≤ s.length := by rw [h]; simp
    have := h2 y.length hy
    rw [(occ_iff hy).2 ⟨y, z, h, rfl⟩] at this
    cases this
  · obtain ⟨y, z, h5, h6⟩ := (occ_iff h2).1 h3
    refine .inr ⟨y, z, ?_, h5, fun y' z' h7 => ?_⟩
    · unfold cutO
      rw [h1, if_pos (by omega), Int.toNat_natCast, ← h6, h5, List.append_assoc, ← List.append_assoc, List.drop_left' (by rw [List.length_append])]
    · rw [h6]
      by_cases hlt : y'.length < i
      · have h8 := h4 _ hlt
        rw [(occ_iff (by omega)).2 ⟨y', z', h7, rfl⟩] at h8
        cases h8
      · omega
theorem First.unique {s p x r x' r' : List UInt8} (h : First s p x r) (h' : First s p x' r') : r = r' := by
  have h1 := h.2 _ _ h'.1
  have h2 := h'.2 _ _ h.1
  have h3 := h.1.symm.trans h'.1
  rw [List.append_assoc, List.append_assoc] at h3
  have h4 := List.append_inj h3 (by omega)
  exact List.append_cancel_left h4.2
theorem cutO_of {s p x r : List UInt8} (h : First s p x r) : cutO s p = some r := by
  rcases cutO_spec s p with ⟨_, h2⟩ | ⟨x', r', h1, h2⟩
  · exact absurd h.1 (h2 _ _)
  · rw [h1, h2.unique h]
theorem cutO_some {s p r : List UInt8} (h : cutO s p = some r) : ∃ x, First s p x r := by
  rcases cutO_spec s p with ⟨h1, _⟩ | ⟨x', r', h1, h2⟩
  · rw [h1] at h; cases h
  · rw [h1] at h
    cases h
    exact ⟨x', h2⟩
/-- A piece that stands anywhere is found, and no less stands behind it. -/
theorem cutO_any {s p y z : List UInt8} (h : s = y ++ p ++ z) : ∃ r, cutO s p = some r ∧ z <:+ r := by
  rcases cutO_spec s p with ⟨_, h2⟩ | ⟨x, r, h1, h2⟩
  · exact absurd h (h2 _ _)
  · refine ⟨r, h1, ?_⟩
    have h3 := h2.2 _ _ h
    have h4 := h2.1.symm.trans h
    rw [List.append_assoc, List.append_assoc] at h4
    have h6 : z = (y ++ (p ++ z)).drop (y.length + p.length) := by rw [← List.append_assoc, List.drop_left' (by rw [List.length_append])]
    rw [← h4, ← List.append_assoc, List.drop_append, List.drop_of_length_le (by rw [List.length_append]; omega), List.nil_append] at h6
    rw [h6]
    exact List.drop_suffix _ _
theorem append_chop {b : List UInt8} {u x y : List UInt8} (h : u ++ b = x ++ (y ++ b)) : u = x ++ y := by
  rw [← List.append_assoc] at h
  exact List.append_cancel_right h
/-- What stands behind does not matter for what is found ahead of it. -/
theorem cutO_app {u p y : List UInt8} (b : List UInt8) : cutO u p = some y ↔ cutO (u ++ b) p = some (y ++ b) := by
  constructor
  · intro h
    obtain ⟨x, h1, h2⟩ := cutO_some h
    refine cutO_of (x := x) ⟨by rw [h1]; simp, fun y' z' h3 => ?_⟩
    by_cases hlt : y'.length < x.length
    · have h4 : (u ++ b).take (y'.length + p.length) = y' ++ p := by rw [h3, ← List.length_append, List.take_left]
      have hl : y'.length + p.length ≤ u.length := by rw [h1]; simp only [List.length_append]; omega
      rw [List.take_append_of_le_length hl] at h4
      exact h2 y' (u.drop (y'.length + p.length)) (by rw [← h4, List.take_append_drop])
    · omega
  · intro h
    obtain ⟨x, h1, h2⟩ := cutO_some h
    have h3 : u = x ++ p ++ y := append_chop h1
    exact cutO_of (x := x) ⟨h3, fun y' z' h4 => h2 y' (z' ++ b) (by rw [h4]; simp)⟩
/-- Pieces one behind the other, each at its first place: what stands behind them. -/
def midsF : List UInt8 → List (List UInt8) → Option (List UInt8)
  | s, [] => some s
  | s, p :: ps => match cutO s p with
    | none => none
    | some r => midsF r ps
theorem mids_none {s p : List UInt8} {ps : List (List UInt8)} (h : cutO s p = none) : midsF s (p :: ps) = none := by rw [midsF, h]
theorem mids_some {s p r : List UInt8} {ps : List (List UInt8)} (h : cutO s p = some r) : midsF s (p :: ps) = midsF r ps := by rw [midsF, h]
theorem mids_suffix : ∀ {ps : List (List UInt8)} {s r : List UInt8}, midsF s ps = some r → r <:+ s
  | [], s, r, h => by
    simp only [midsF, Option.some.injEq] at h
    rw [h]
    exact List.suffix_refl _
  | p :: ps, s, r, h => by
    cases hc : cutO s p with
    | none => rw [mids_none hc] at h; cases h
    | some t =>
      rw [mids_some hc] at h
      obtain ⟨x, h1, _⟩ := cutO_some hc
      exact (mids_suffix h).trans ⟨x ++ p, h1.symm⟩
theorem mids_app : ∀ {ps : List (List UInt8)} {u r : List UInt8} (b : List UInt8), midsF u ps = some r ↔ midsF (u ++ b) ps = some (r ++ b)
  | [], u, r, b => by simp [midsF]
  | p :: ps, u, r, b => by
    constructor
    · intro h
      cases hc : cutO u p with
      | none => rw [mids_none hc] at h; cases h
      | some t =>
        rw [mids_some hc] at h
        rw [mids_some ((cutO_app b).1 hc)]
        exact (mids_app b).1 h
    · intro h
      cases hc : cutO (u ++ b) p with
      | none => rw [mids_none hc] at h; cases h
      | some t =>
        rw [mids_some hc] at h
        obtain ⟨q, hq⟩ := (List.suffix_append r b).trans (mids_suffix h)
        have hb : b <:+ t := (List.suffix_append r b).trans (mids_suffix h)
        obtain ⟨y, hy⟩ := hb
        subst hy
        rw [mids_some ((cutO_app b).2 hc)]
        exact (mids_app b).2 h
/-- Pieces that are there in this order are found. -/
theorem mids_any : ∀ {ps : List (List UInt8)} {s s0 r0 : List UInt8}, midsF s0 ps = some r0 → s0 <:+ s → ∃ r, midsF s ps = some r ∧ r0 <:+ r
  | [], s, s0, r0, h, hs => by
    simp only [midsF, Option.some.injEq] at h
    exact ⟨s, rfl, h ▸ hs⟩
  | p :: ps, s, s0, r0, h, ⟨t, ht⟩ => by
    cases hc : cutO s0 p with
    | none => rw [mids_none hc] at h; cases h
    | some u =>
      rw [mids_some hc] at h
      obtain ⟨x, h1, _⟩ := cutO_some hc
      obtain ⟨r, h2, h3⟩ := cutO_any (s := s) (p := p) (y := t ++ x) (z := u) (by rw [← ht, h1]; simp)
      obtain ⟨r', h4, h5⟩ := mids_any h h3
      exact ⟨r', by rw [mids_some h2]; exact h4, h5⟩
theorem mids_has {s p y z r0 : List UInt8} {ps : List (List UInt8)} (h : s = y ++ p ++ z) (h2 : midsF z ps = some r0) : ∃ r, midsF s (p :: ps) = some r ∧ r0 <:+ r := by
  obtain ⟨r, h3, h4⟩ := cutO_any h
  obtain ⟨r', h5, h6⟩ := mids_any h2 h4
  exact ⟨r', by rw [mids_some h3]; exact h5, h6⟩
/-- Has a value all pieces: the first one, those between, the last one. -/
def hasP (s a : List UInt8) (ms : List (List UInt8)) (b : List UInt8) : Bool := a.isPrefixOf s && match midsF (s.drop a.length) ms with
  | none => false
  | some r => b.isSuffixOf r
/-- As the document tells it. -/
def hasQ (s a : List UInt8) (ms : List (List UInt8)) (b : List UInt8) : Bool :=
  decide (a.length + b.length ≤ s.length) && (a.isPrefixOf s && (b.isSuffixOf s && (midsF ((s.drop a.length).take (s.length - b.length - a.length)) ms).isSome))
theorem hasP_eq (s a : List UInt8) (ms : List (List UInt8)) (b : List UInt8) : hasP s a ms b = hasQ s a ms b := by
  unfold hasP hasQ
  rw [Bool.eq_iff_iff]
  simp only [Bool.and_eq_true, decide_eq_true_eq, List.isPrefixOf_iff_prefix, List.isSuffixOf_iff_suffix]
  constructor
  · rintro ⟨⟨s1, h1⟩, h2⟩
    have hd : s.drop a.length = s1 := by rw [← h1, List.drop_left]
    rw [hd] at h2 ⊢
    cases hm : midsF s1 ms with
    | none => rw [hm] at h2; cases h2
    | some r =>
      rw [hm] at h2
      simp only [List.isSuffixOf_iff_suffix] at h2
      obtain ⟨q, hq⟩ := h2
      obtain ⟨u, hu⟩ : b <:+ s1 := (show b <:+ r from ⟨q, hq⟩).trans (mids_suffix hm)
      have hl : s.length = a.length + (u.length + b.length) := by rw [← h1, ← hu]; simp
      refine ⟨by omega, ⟨s1, h1⟩, ⟨a ++ u, by rw [List.append_assoc, hu, h1]⟩, ?_⟩
      have ht : s1.take (s.length - b.length - a.length) = u := by rw [← hu, hl]; exact List.take_left' (by omega)
      rw [ht]
      have : midsF u ms = some q := (mids_app b).2 (by rw [hu, hq]; exact hm)
      rw [this]
      rfl
  · rintro ⟨hl, ⟨s1, h1⟩, ⟨t, h2⟩, h3⟩
    have hd : s.drop a.length = s1 := by rw [← h1, List.drop_left]
    have hs : s.length = a.length + s1.length := by rw [← h1]; simp
    rw [hd] at h3 ⊢
    refine ⟨⟨s1, h1⟩, ?_⟩
    have hu : s1.take (s.length - b.length - a.length) ++ b = s1 := by
      have h4 : s1.drop (s.length - b.length - a.length) = b := by
        have h5 : s.drop (s.length - b.length) = b := by
          have hlt : t.length = s.length - b.length := by rw [← h2]; simp
          rw [← hlt, ← h2, List.drop_left]
        rw [← hd, List.drop_drop, show a.length + (s.length - b.length - a.length) = s.length - b.length by omega, h5]
      conv => lhs; rhs; rw [← h4]
      exact List.take_append_drop _ _
    cases hm : midsF (s1.take (s.length - b.length - a.length)) ms with
    | none => rw [hm] at h3; cases h3
    | some q =>
      have := (mids_app b).1 hm
      rw [hu] at this
      rw [this]
      simp only [List.isSuffixOf_iff_suffix]
      exact List.suffix_append _ _
end Go.Proofs.Ytacmbomnjedbeaa
namespace Go.Proofs.Ytacmbomnjedbeaa
open Go.RowKit
set_option maxRecDepth 100000

/-- What stands behind a dash ahead. -/
def bodyN : List UInt8 → List UInt8
  | [] => []
  | c :: d => if c = 45 then d else c :: d
def negN : List UInt8 → Bool
  | [] => false
  | c :: _ => decide (c = 45)
def digB9 (b : UInt8) : Bool := decide (48 ≤ b.toNat ∧ b.toNat ≤ 57)
/-- Is a text a number? -/
def isNum (s : List UInt8) : Bool := decide (1 ≤ (bodyN s).length ∧ (bodyN s).length ≤ 18 ∧ ¬ ((bodyN s).getD 0 0 = 48 ∧ 1 < s.length)) && (bodyN s).all digB9
def decA (a : Nat) (d : List UInt8) : Nat := d.foldl (fun a b => a * 10 + (b.toNat - 48)) a
def numV (s : List UInt8) : Int := if negN s = true then -(decA 0 (bodyN s) : Int) else (decA 0 (bodyN s) : Int)
theorem dig_bd {b : UInt8} (h : digB9 b = true) : 48 ≤ b.toNat ∧ b.toNat ≤ 57 := by
  unfold digB9 at h
  exact of_decide_eq_true h
theorem decA_split : ∀ (d : List UInt8) (a : Nat), decA a d = a * 10 ^ d.length + decA 0 d
  | [], a => by simp [decA]
  | b :: d, a => by
    have h1 := decA_split d (a * 10 + (b.toNat - 48))
    have h2 := decA_split d (0 * 10 + (b.toNat - 48))
    unfold decA at h1 h2 ⊢
    simp only [List.foldl_cons, List.length_cons] at *
    rw [h1, h2, Nat.pow_succ, Nat.add_mul, Nat.mul_assoc a 10, Nat.mul_comm 10]
    simp only [Nat.zero_mul, Nat.zero_add]
    omega
theorem decA_lt : ∀ (d : List UInt8), d.all digB9 = true → decA 0 d < 10 ^ d.length
  | [], _ => by simp [decA]
  | b :: d, h => by
    simp only [List.all_cons, Bool.and_eq_true] at h
    have h1 := decA_lt d h.2
    have h2 := dig_bd h.1
    have h3 := decA_split d (0 * 10 + (b.toNat - 48))
    have h4 : decA 0 (b :: d) = decA (0 * 10 + (b.toNat - 48)) d := rfl
    rw [h4, h3, List.length_cons, Nat.pow_succ]
    have h5 : (0 * 10 + (b.toNat - 48)) * 10 ^ d.length ≤ 9 * 10 ^ d.length := Nat.mul_le_mul_right _ (by omega)
    omega
theorem decA_ge {b : UInt8} {d : List UInt8} (hb : 49 ≤ b.toNat) : 10 ^ d.length ≤ decA 0 (b :: d) := by
  have h3 := decA_split d (0 * 10 + (b.toNat - 48))
  have h4 : decA 0 (b :: d) = decA (0 * 10 + (b.toNat - 48)) d := rfl
  rw [h4, h3]
  have h5 : 1 * 10 ^ d.length ≤ (0 * 10 + (b.toNat - 48)) * 10 ^ d.length := Nat.mul_le_mul_right _ (by omega)
  omega
theorem parse_ok : ∀ (d : List UInt8) (a : Nat), d.all digB9 = true → (a + 1) * 10 ^ d.length ≤ 1000000000000000000 → Lib.parseUint10 a d = .ok (decA a d)
  | [], a, _, _ => rfl
  | b :: d, a, h, hb => by
    simp only [List.all_cons, Bool.and_eq_true] at h
    have h2 := dig_bd h.1
    have h3 : (a * 10 + (b.toNat - 48) + 1) * 10 ^ d.length ≤ 1000000000000000000 := by
      refine Nat.le_trans ?_ hb
      rw [List.length_cons, Nat.pow_succ, Nat.mul_comm (10 ^ d.length) 10, ← Nat.mul_assoc]
      exact Nat.mul_le_mul_right _ (by omega)
    have h4 : 1 ≤ 10 ^ d.length := Nat.le_trans Nat.one_le_two_pow (Nat.pow_le_pow_left (by omega) _)
    have h5 : a * 10 + (b.toNat - 48) + 1 ≤ 1000000000000000000 := by
      refine Nat.le_trans ?_ h3
      conv => lhs; rw [← Nat.mul_one (a * 10 + (b.toNat - 48) + 1)]
      exact Nat.mul_le_mul_left _ h4
    rw [Lib.parseUint10, if_pos h2, if_neg (by omega), if_neg (by omega), parse_ok d _ h.2 h3]
    rfl
theorem isNum_out {s : List UInt8} (h : isNum s = true) : 1 ≤ (bodyN s).length ∧ (bodyN s).length ≤ 18 ∧ ¬ ((bodyN s).getD 0 0 = 48 ∧ 1 < s.length) ∧ (bodyN s).all digB9 = true := by
  unfold isNum at h
  rw [Bool.and_eq_true, decide_eq_true_eq] at h
  exact ⟨h.1.1, h.1.2.1, h.1.2.2, h.2⟩
theorem numV_lt {s : List UInt8} (h : isNum s = true) : decA 0 (bodyN s) < 1000000000000000000 := by
  obtain ⟨_, h2, _, h4⟩ := isNum_out h
  exact Nat.lt_of_lt_of_le (decA_lt _ h4) (Nat.pow_le_pow_right (n := 10) (by omega) h2)
theorem atoi_num {s : List UInt8} (h : isNum s = true) : Lib.atoiAll s = .ok (numV s) := by
  obtain ⟨h1, h2, h3, h4⟩ := isNum_out h
  have h5 := numV_lt h
  have h6 : Lib.parseUint10 0 (bodyN s) = .ok (decA 0 (bodyN s)) := parse_ok _ 0 h4 (by
    rw [Nat.zero_add, Nat.one_mul]
    exact Nat.pow_le_pow_right (n := 10) (by omega) h2)
  cases s with
  | nil => simp [bodyN] at h1
  | cons c d =>
    by_cases hc : c = 45
    · subst hc
      simp only [bodyN, if_true] at h1 h4 h5 h6
      have hd : d ≠ [] := fun e => by rw [e] at h1; simp at h1
      unfold Lib.atoiAll numV
      simp only [bodyN, negN, if_true, decide_true]
      rw [if_pos (show ((45 : UInt8).toNat = 43 ∨ (45 : UInt8).toNat = 45) from .inr rfl)]
      unfold Lib.parseMag
      rw [if_neg hd, h6]
      simp only
      rw [if_neg (by simp), if_neg (by omega)]
      simp
    · simp only [bodyN, if_neg hc] at h1 h4 h5 h6
      have hcd := dig_bd (by simp only [List.all_cons, Bool.and_eq_true] at h4; exact h4.1)
      unfold Lib.atoiAll numV
      simp only [bodyN, negN, if_neg hc, decide_eq_false hc]
      rw [if_neg (by omega)]
      unfold Lib.parseMag
      rw [if_neg (by simp), h6]
      simp only
      rw [if_neg (by omega), if_neg (by omega), if_neg (by omega)]
      simp
/-- As the document compares two numbers. -/
def belowB (a b : List UInt8) : Bool :=
  if negN a ≠ negN b then negN a else if a.length ≠ b.length then decide (a.length < b.length) != negN a else (!(a == b)) && (Op.bytesLess a b != negN a)
theorem less_dec : ∀ (x y : List UInt8), x.length = y.length → x.all digB9 = true → y.all digB9 = true → (Op.bytesLess x y = true ↔ decA 0 x < decA 0 y)
  | [], [], _, _, _ => by simp [Op.bytesLess, decA]
  | [], _ :: _, h, _, _ => by simp at h
  | _ :: _, [], h, _, _ => by simp at h
  | a :: x, b :: y, h, h1, h2 => by
    simp only [List.length_cons, Nat.add_right_cancel_iff] at h
    simp only [List.all_cons, Bool.and_eq_true] at h1 h2
    have hx := dig_bd h1.1
    have hy := dig_bd h2.1
    have e1 : decA 0 (a :: x) = decA (0 * 10 + (a.toNat - 48)) x := rfl
    have e2 : decA 0 (b :: y) = decA (0 * 10 + (b.toNat - 48)) y := rfl
    have l1 := decA_lt x h1.2
    have l2 := decA_lt y h2.2
    have ih := less_dec x y h h1.2 h2.2
    rw [e1, e2, decA_split x, decA_split y, h]
    rw [h] at l1
    simp only [Nat.zero_mul, Nat.zero_add]
    simp only [Op.bytesLess, Bool.or_eq_true, Bool.and_eq_true, decide_eq_true_eq, beq_iff_eq]
    generalize 10 ^ y.length = m at *
    generalize decA 0 x = u at *
    generalize decA 0 y = v at *
    rcases Nat.lt_trichotomy a.toNat b.toNat with hab | hab | hab
    · have hm : (a.toNat - 48 + 1) * m ≤ (b.toNat - 48) * m := Nat.mul_le_mul_right _ (by omega)
      rw [Nat.add_mul, Nat.one_mul] at hm
      exact ⟨fun _ => by omega, fun _ => .inl (UInt8.lt_iff_toNat_lt.2 hab)⟩
    · obtain rfl : a = b := UInt8.toNat_inj.1 hab
      rw [ih]
      constructor
      · rintro (h | h)
        · exact absurd (UInt8.lt_iff_toNat_lt.1 h) (by omega)
        · omega
      · intro h
        exact .inr ⟨rfl, by omega⟩
    · have hm : (b.toNat - 48 + 1) * m ≤ (a.toNat - 48) * m := Nat.mul_le_mul_right _ (by omega)
      rw [Nat.add_mul, Nat.one_mul] at hm
      constructor
      · rintro (h | ⟨h, _⟩)
        · exact absurd (UInt8.lt_iff_toNat_lt.1 h) (by omega)
        · rw [h] at hab; omega
      · intro h
        omega
theorem dec_inj : ∀ (x y : List UInt8), x.length = y.length → x.all digB9 = true → y.all digB9 = true → decA 0 x = decA 0 y → x = y
  | [], [], _, _, _, _ => rfl
  | [], _ :: _, h, _, _, _ => by simp at h
  | _ :: _, [], h, _, _, _ => by simp at h
  | a :: x, b :: y, h, h1, h2, he => by
    simp only [List.length_cons, Nat.add_right_cancel_iff] at h
    simp only [List.all_cons, Bool.and_eq_true] at h1 h2
    have hx := dig_bd h1.1
    have hy := dig_bd h2.1
    have e1 : decA 0 (a :: x) = decA (0 * 10 + (a.toNat - 48)) x := rfl
    have e2 : decA 0 (b :: y) = decA (0 * 10 + (b.toNat - 48)) y := rfl
    have l1 := decA_lt x h1.2
    have l2 := decA_lt y h2.2
    rw [e1, e2, decA_split x, decA_split y, h] at he
    rw [h] at l1
    simp only [Nat.zero_mul, Nat.zero_add] at he
    have hab : a.toNat = b.toNat := by
      generalize 10 ^ y.length = m at *
      rcases Nat.lt_trichotomy a.toNat b.toNat with hab | hab | hab
      · have hm : (a.toNat - 48 + 1) * m ≤ (b.toNat - 48) * m := Nat.mul_le_mul_right _ (by omega)
        rw [Nat.add_mul, Nat.one_mul] at hm
        omega
      · exact hab
      · have hm : (b.toNat - 48 + 1) * m ≤ (a.toNat - 48) * m := Nat.mul_le_mul_right _ (by omega)
        rw [Nat.add_mul, Nat.one_mul] at hm
        omega
    obtain rfl : a = b := UInt8.toNat_inj.1 hab
    rw [dec_inj x y h h1.2 h2.2 (by omega)]
theorem first_ge {s : List UInt8} (h : isNum s = true) (h2 : 1 < s.length) : ∃ c d, bodyN s = c :: d ∧ 49 ≤ c.toNat := by
  obtain ⟨h1, _, h3, h4⟩ := isNum_out h
  cases hb : bodyN s with
  | nil => rw [hb] at h1; simp at h1
  | cons c d =>
    refine ⟨c, d, rfl, ?_⟩
    rw [hb] at h3 h4
    simp only [List.all_cons, Bool.and_eq_true] at h4
    have := dig_bd h4.1
    have hc : c ≠ 48 := fun e => h3 ⟨by rw [e]; rfl, h2⟩
    have : c.toNat ≠ 48 := fun e => hc (UInt8.toNat_inj.1 e)
    omega
theorem neg_len {s : List UInt8} (h : isNum s = true) : s.length = (bodyN s).length + (if negN s = true then 1 else 0) := by
  cases s with
  | nil => rfl
  | cons c d =>
    by_cases hc : c = 45
    · simp [bodyN, negN, hc]
    · simp [bodyN, negN, hc]
theorem neg_pos {s : List UInt8} (h : isNum s = true) (hn : negN s = true) : 1 ≤ decA 0 (bodyN s) := by
  have hl := neg_len h
  obtain ⟨h1, _⟩ := isNum_out h
  rw [if_pos hn] at hl
  obtain ⟨c, d, e, hc⟩ := first_ge h (by omega)
  rw [e]
  have := decA_ge (d := d) hc
  have : 1 ≤ 10 ^ d.length := Nat.le_trans Nat.one_le_two_pow (Nat.pow_le_pow_left (by omega) _)
  omega
theorem len_dec {a b : List UInt8} (ha : isNum a = true) (hb : isNum b = true) (h : (bodyN a).length < (bodyN b).length) : decA 0 (bodyN a) < decA 0 (bodyN b) := by
  obtain ⟨h1, _, _, h4⟩ := isNum_out ha
  have hl := neg_len hb
  obtain ⟨c, d, e, hc⟩ := first_ge hb (by omega)
  have h5 := decA_lt _ h4
  rw [e] at h ⊢
  simp only [List.length_cons] at h
  have h6 := decA_ge (d := d) hc
  have h7 : 10 ^ (bodyN a).length ≤ 10 ^ d.length := Nat.pow_le_pow_right (by omega) (by omega)
  omega
theorem body_eq {a b : List UInt8} (hn : negN a = negN b) (h : bodyN a = bodyN b) (ha : isNum a = true) (hb : isNum b = true) : a = b := by
  have h1 := isNum_out ha
  have h2 := isNum_out hb
  cases a with
  | nil => simp [bodyN] at h1
  | cons c d =>
    cases b with
    | nil => simp [bodyN] at h2
    | cons c' d' =>
      by_cases hc : c = 45 <;> by_cases hc' : c' = 45 <;> simp [negN, bodyN, hc, hc'] at hn h
      · rw [hc, hc', h]
      · rw [h.1, h.2]
theorem less_neg {a b : List UInt8} (hn : negN a = negN b) (h : a.length = b.length) : Op.bytesLess a b = Op.bytesLess (bodyN a) (bodyN b) := by
  cases a with
  | nil => cases b with
    | nil => rfl
    | cons => simp at h
  | cons c d =>
    cases b with
    | nil => simp at h
    | cons c' d' =>
      by_cases hc : c = 45 <;> by_cases hc' : c' = 45 <;> simp [negN, bodyN, hc, hc'] at hn ⊢
      simp [Op.bytesLess]
theorem below_num {a b : List UInt8} (ha : isNum a = true) (hb : isNum b = true) : belowB a b = decide (numV a < numV b) := by
  have la := neg_len ha
  have lb := neg_len hb
  obtain ⟨a1, a2, a3, a4⟩ := isNum_out ha
  obtain ⟨b1, b2, b3, b4⟩ := isNum_out hb
  unfold belowB
  by_cases hn : negN a = negN b
  · rw [if_neg (by simp [hn])]
    rw [hn] at la
    by_cases hl : a.length = b.length
    · rw [if_neg (by simp [hl]), less_neg hn hl]
      have hbl : (bodyN a).length = (bodyN b).length := by omega
      have h1 := less_dec _ _ hbl a4 b4
      have h3 := dec_inj _ _ hbl a4 b4
      unfold numV
      rw [hn]
      by_cases hab : a = b
      · subst hab; simp
      · have hne : bodyN a ≠ bodyN b := fun e => hab (body_eq hn e ha hb)
        have hne2 : decA 0 (bodyN a) ≠ decA 0 (bodyN b) := fun e => hne (h3 e)
        rw [show (a == b) = false from beq_eq_false_iff_ne.2 hab]
        rw [Bool.eq_iff_iff]
        simp only [Bool.not_false, Bool.true_and, decide_eq_true_eq]
        cases hng : negN b with
        | true =>
          simp only [if_true, bne_iff_ne, ne_eq, Bool.not_eq_true]
          rw [Bool.eq_false_iff, ne_eq, h1]
          omega
        | false =>
          simp only [Bool.false_eq_true, if_false, bne_iff_ne, ne_eq, Bool.not_eq_false]
          rw [h1]
          omega
    · rw [if_pos (by simpa using hl)]
      unfold numV
      rw [hn]
      rcases Nat.lt_or_ge (bodyN a).length (bodyN b).length with h | h
      · have h1 := len_dec ha hb h
        rw [decide_eq_true (show a.length < b.length by omega)]
        cases negN b with
        | true => simp only [if_true]; rw [decide_eq_false (by omega)]; rfl
        | false => simp only [Bool.false_eq_true, if_false]; rw [decide_eq_true (by omega)]; rfl
      · have h1 := len_dec hb ha (by omega)
        rw [decide_eq_false (show ¬ a.length < b.length by omega)]
        cases negN b with
        | true => simp only [if_true]; rw [decide_eq_true (by omega)]; rfl
        | false => simp only [Bool.false_eq_true, if_false]; rw [decide_eq_false (by omega)]; rfl
  · rw [if_pos (by simpa using hn)]
    unfold numV
    cases ha2 : negN a with
    | true =>
      have : negN b = false := by
        cases hb2 : negN b with
        | true => rw [ha2, hb2] at hn; exact absurd rfl hn
        | false => rfl
      rw [this]
      have := neg_pos ha ha2
      simp only [if_true, Bool.false_eq_true, if_false]
      rw [decide_eq_true (by omega)]
    | false =>
      have : negN b = true := by
        cases hb2 : negN b with
        | true => rfl
        | false => rw [ha2, hb2] at hn; exact absurd rfl hn
      rw [this]
      simp only [if_true, Bool.false_eq_true, if_false]
      rw [decide_eq_false (by omega)]
theorem numV_inj {a b : List UInt8} (ha : isNum a = true) (hb : isNum b = true) (h : numV a = numV b) : a = b := by
  have la := neg_len ha
  have lb := neg_len hb
  obtain ⟨a1, a2, a3, a4⟩ := isNum_out ha
  obtain ⟨b1, b2, b3, b4⟩ := isNum_out hb
  have hn : negN a = negN b := by
    unfold numV at h
    cases ha2 : negN a with
    | true =>
      have := neg_pos ha ha2
      cases hb2 : negN b with
      | true => rfl
      | false => rw [ha2, hb2] at h; simp only [if_true, Bool.false_eq_true, if_false] at h; omega
    | false =>
      cases hb2 : negN b with
      | true => have := neg_pos hb hb2; rw [ha2, hb2] at h; simp only [if_true, Bool.false_eq_true, if_false] at h; omega
      | false => rfl
  have hd : decA 0 (bodyN a) = decA 0 (bodyN b) := by
    unfold numV at h
    rw [hn] at h
    cases hb2 : negN b with
    | true => rw [hb2] at h; simp only [if_true] at h; omega
    | false => rw [hb2] at h; simp only [Bool.false_eq_true, if_false] at h; omega
  refine body_eq hn (dec_inj _ _ ?_ a4 b4 hd) ha hb
  rcases Nat.lt_trichotomy (bodyN a).length (bodyN b).length with h1 | h1 | h1
  · have := len_dec ha hb h1; omega
  · exact h1
  · have := len_dec hb ha h1; omega
end Go.Proofs.Ytacmbomnjedbeaa
