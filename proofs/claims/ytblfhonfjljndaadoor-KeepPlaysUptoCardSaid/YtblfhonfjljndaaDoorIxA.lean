/- Rows of texts that rise; over any program. -/
import Derived.Test.YtblfhonfjljndaaDoorWords
namespace Go.Proofs.YtblfhonfjljndaaDoor
open Go.RowKit
set_option maxRecDepth 100000

theorem less_irr : ∀ x : List UInt8, Op.bytesLess x x = false
  | [] => rfl
  | a :: x => by
    show (decide (a < a) || (a == a && Op.bytesLess x x)) = false
    rw [less_irr x, decide_eq_false (by rw [UInt8.lt_iff_toNat_lt]; omega)]
    simp
theorem less_asym : ∀ (x y : List UInt8), x ≠ y → Op.bytesLess x y = !Op.bytesLess y x
  | [], [], h => absurd rfl h
  | [], b :: y, _ => rfl
  | a :: x, [], _ => rfl
  | a :: x, b :: y, h => by
    show (decide (a < b) || (a == b && Op.bytesLess x y)) = !(decide (b < a) || (b == a && Op.bytesLess y x))
    by_cases hab : a = b
    · subst hab
      have hxy : x ≠ y := fun e => h (by rw [e])
      rw [less_asym x y hxy, decide_eq_false (by rw [UInt8.lt_iff_toNat_lt]; omega)]
      simp
    · have hba : ¬ b = a := fun e => hab e.symm
      have h1 : (a == b) = false := by simpa using hab
      have h2 : (b == a) = false := by simpa using hba
      rw [h1, h2]
      simp only [Bool.false_and, Bool.or_false]
      have : a.toNat ≠ b.toNat := fun e => hab (UInt8.toNat_inj.1 e)
      by_cases hl : a < b
      · rw [decide_eq_true hl, decide_eq_false (by rw [UInt8.lt_iff_toNat_lt] at *; omega)]; rfl
      · rw [decide_eq_false hl, decide_eq_true (by rw [UInt8.lt_iff_toNat_lt] at *; omega)]; rfl
theorem less_trans : ∀ (x y z : List UInt8), Op.bytesLess x y = true → Op.bytesLess y z = true → Op.bytesLess x z = true
  | [], [], _, h, _ => by cases h
  | _ :: _, [], _, h, _ => by cases h
  | [], _ :: _, [], _, h => by cases h
  | _ :: _, _ :: _, [], _, h => by cases h
  | [], _ :: _, _ :: _, _, _ => rfl
  | a :: x, b :: y, c :: z, h1, h2 => by
    have e1 : (decide (a < b) || (a == b && Op.bytesLess x y)) = true := h1
    have e2 : (decide (b < c) || (b == c && Op.bytesLess y z)) = true := h2
    show (decide (a < c) || (a == c && Op.bytesLess x z)) = true
    simp only [Bool.or_eq_true, Bool.and_eq_true, decide_eq_true_eq, beq_iff_eq] at *
    rcases e1 with e1 | ⟨rfl, e1⟩
    · left
      rcases e2 with e2 | ⟨rfl, _⟩
      · rw [UInt8.lt_iff_toNat_lt] at *; omega
      · exact e1
    · rcases e2 with e2 | ⟨rfl, e2⟩
      · exact .inl e2
      · exact .inr ⟨rfl, less_trans x y z e1 e2⟩
theorem less_ne {x y : List UInt8} (h : Op.bytesLess x y = true) : x ≠ y := by
  rintro rfl
  rw [less_irr] at h; cases h
theorem less_tot {x y : List UInt8} (h : Op.bytesLess x y = false) (hne : x ≠ y) : Op.bytesLess y x = true := by
  have := less_asym x y hne
  rw [h] at this
  simpa using this.symm

abbrev Tx := List (List UInt8)
/-- It rises, each once. -/
def riseT (L : Tx) : Prop := L.Pairwise fun a b => Op.bytesLess a b = true
theorem riseT_ext : ∀ {L M : Tx}, riseT L → riseT M → (∀ c, c ∈ L ↔ c ∈ M) → L = M
  | [], [], _, _, _ => rfl
  | [], b :: M, _, _, h => absurd ((h b).2 (List.mem_cons_self ..)) (by simp)
  | a :: L, [], _, _, h => absurd ((h a).1 (List.mem_cons_self ..)) (by simp)
  | a :: L, b :: M, hl, hm, h => by
    obtain ⟨hl1, hl2⟩ := List.pairwise_cons.1 hl
    obtain ⟨hm1, hm2⟩ := List.pairwise_cons.1 hm
    have hab : a = b := by
      rcases List.mem_cons.1 ((h a).1 (List.mem_cons_self ..)) with e | e
      · exact e
      · rcases List.mem_cons.1 ((h b).2 (List.mem_cons_self ..)) with e2 | e2
        · exact e2.symm
        · have := less_trans _ _ _ (hl1 b e2) (hm1 a e)
          rw [less_irr] at this; cases this
    subst hab
    rw [riseT_ext hl2 hm2 fun c => ⟨fun hc => ?_, fun hc => ?_⟩]
    · rcases List.mem_cons.1 ((h c).1 (List.mem_cons_of_mem _ hc)) with e | e
      · subst e; have := hl1 c hc; rw [less_irr] at this; cases this
      · exact e
    · rcases List.mem_cons.1 ((h c).2 (List.mem_cons_of_mem _ hc)) with e | e
      · subst e; have := hm1 c hc; rw [less_irr] at this; cases this
      · exact e
theorem riseT_at {L : Tx} (h : riseT L) {i j : Nat} (hij : i < j) (hj : j < L.length) : Op.bytesLess (L[i]'(Nat.lt_trans hij hj)) L[j] = true :=
  List.pairwise_iff_getElem.1 h i j (Nat.lt_trans hij hj) hj hij
theorem takeWhile_at {α : Type} (p : α → Bool) : ∀ (L : List α), ∃ n, n ≤ L.length ∧ (∀ j (hj : j < L.length), j < n → p L[j] = true) ∧ ∀ hn : n < L.length, p L[n] = false
  | [] => ⟨0, by simp, fun j hj => by simp at hj, fun hn => by simp at hn⟩
  | a :: L => by
    by_cases h : p a = true
    · obtain ⟨n, h1, h4, h5⟩ := takeWhile_at p L
      refine ⟨n + 1, by simpa using h1, fun j hj hjn => ?_, fun hn => ?_⟩
      · match j, hj, hjn with
        | 0, _, _ => exact h
        | j + 1, hj, hjn => exact h4 j (by simpa using hj) (by omega)
      · exact h5 (by simpa using hn)
    · exact ⟨0, by simp, fun j _ hj => by omega, fun _ => by simpa using h⟩
/-- Where a text comes in a row that rises. -/
theorem comesT {L : Tx} (h : riseT L) (s : List UInt8) : ∃ n, n ≤ L.length ∧ (∀ j (hj : j < L.length), j < n → Op.bytesLess L[j] s = true) ∧ (∀ hn : n < L.length, Op.bytesLess L[n] s = false) ∧ (s ∈ L ↔ ∃ hn : n < L.length, L[n] = s) ∧
    ((∀ hn : n < L.length, L[n] ≠ s) → riseT ((L.take n ++ [s]) ++ L.drop n) ∧ ∀ x, x ∈ (L.take n ++ [s]) ++ L.drop n ↔ x ∈ L ∨ x = s) := by
  obtain ⟨n, h1, h4, h5⟩ := takeWhile_at (fun x => Op.bytesLess x s) L
  have hmem : s ∈ L ↔ ∃ hn : n < L.length, L[n] = s := by
    constructor
    · intro hs
      obtain ⟨j, hj, e⟩ := List.mem_iff_getElem.1 hs
      have hnj : n ≤ j := by
        rcases Nat.lt_or_ge j n with h6 | h6
        · have h7 : Op.bytesLess L[j] s = true := h4 j hj h6
          rw [e, less_irr] at h7; cases h7
        · exact h6
      refine ⟨by omega, ?_⟩
      rcases Nat.lt_or_ge n j with h6 | h6
      · have h7 := riseT_at h h6 hj
        have h8 : Op.bytesLess L[n] s = false := h5 (by omega)
        rw [e] at h7
        rw [h7] at h8; cases h8
      · obtain rfl : n = j := by omega
        exact e
    · rintro ⟨hn, e⟩
      exact e ▸ List.getElem_mem _
  refine ⟨n, h1, h4, h5, hmem, fun hno => ⟨?_, fun x => ?_⟩⟩
  · have hsp : L.take n ++ L.drop n = L := List.take_append_drop n L
    have h' := h
    unfold riseT at h'
    rw [← hsp] at h'
    obtain ⟨p1, p2, p3⟩ := List.pairwise_append.1 h'
    have ht : ∀ a ∈ L.take n, Op.bytesLess a s = true := fun a ha => by
      obtain ⟨j, hj, rfl⟩ := List.mem_iff_getElem.1 ha
      rw [List.length_take] at hj
      rw [List.getElem_take]
      exact h4 j (by omega) (by omega)
    have hd : ∀ b ∈ L.drop n, Op.bytesLess s b = true := fun b hb => by
      obtain ⟨j, hj, rfl⟩ := List.mem_iff_getElem.1 hb
      rw [List.length_drop] at hj
      rw [List.getElem_drop]
      have hn : n < L.length := by omega
      have e1 : Op.bytesLess s L[n] = true := less_tot (h5 hn) (hno hn)
      rcases Nat.eq_zero_or_pos j with e | e
      · subst e; exact e1
      · exact less_trans _ _ _ e1 (riseT_at h (by omega) (by omega))
    refine List.pairwise_append.2 ⟨List.pairwise_append.2 ⟨p1, List.pairwise_singleton _ _, fun a ha b hb => ?_⟩, p2, fun a ha b hb => ?_⟩
    · rw [List.mem_singleton] at hb
      subst hb
      exact ht a ha
    · rcases List.mem_append.1 ha with ha | ha
      · exact p3 a ha b hb
      · rw [List.mem_singleton] at ha
        subst ha
        exact hd b hb
  · conv => rhs; rw [← List.take_append_drop n L]
    simp only [List.mem_append, List.mem_singleton]
    constructor
    · rintro ((h | h) | h)
      · exact .inl (.inl h)
      · exact .inr h
      · exact .inl (.inr h)
    · rintro ((h | h) | h)
      · exact .inl (.inl h)
      · exact .inr h
      · exact .inl (.inr h)
end Go.Proofs.YtblfhonfjljndaaDoor
