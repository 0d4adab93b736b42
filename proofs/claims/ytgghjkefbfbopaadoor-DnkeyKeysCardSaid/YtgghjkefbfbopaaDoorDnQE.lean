/- dn: the document's reader: part, Parse. -/
import Derived.Test.YtgghjkefbfbopaaDoorDnQD
namespace Go.Proofs.YtgghjkefbfbopaaDoor
open Go.RowKit
set_option maxRecDepth 100000

theorem while_same {p q : UInt8 → Bool} (hpq : ∀ b, p b = true → q b = true) (m : List UInt8) : (m.takeWhile p = m.takeWhile q ∧ m.dropWhile p = m.dropWhile q) ∨ ∃ c r, m.dropWhile p = c :: r ∧ q c = true ∧ p c = false := by
  induction m with
  | nil => exact .inl ⟨rfl, rfl⟩
  | cons b m ih =>
    by_cases hp : p b = true
    · have hq := hpq b hp
      rw [List.takeWhile_cons, if_pos hp, List.dropWhile_cons, if_pos hp, List.takeWhile_cons, if_pos hq, List.dropWhile_cons, if_pos hq]
      rcases ih with ⟨h1, h2⟩ | h
      · exact .inl ⟨by rw [h1], h2⟩
      · exact .inr h
    · by_cases hq : q b = true
      · exact .inr ⟨b, m, by rw [List.dropWhile_cons, if_neg hp], hq, by simpa using hp⟩
      · rw [List.takeWhile_cons, if_neg hp, List.dropWhile_cons, if_neg hp, List.takeWhile_cons, if_neg hq, List.dropWhile_cons, if_neg hq]
        exact .inl ⟨rfl, rfl⟩
theorem typ_q (b : UInt8) (h : typP b = true) : typQ b = true := by
  have h1 : typN b.toNat := of_decide_eq_true h
  unfold typQ
  by_cases h32 : b = 32
  · rw [h32] at h1; exact absurd (show typN 32 from h1) (by decide)
  · by_cases h61 : b = 61
    · rw [h61] at h1; exact absurd (show typN 61 from h1) (by decide)
    · rw [decide_eq_false h32, decide_eq_false h61]; rfl
def partQ (l : List UInt8) : Option ((List UInt8 × List UInt8) × List UInt8) :=
  if isTyp ((skipB l).takeWhile typQ) then
    match skipB ((skipB l).dropWhile typQ) with
    | 61 :: l3 => (valueB l3).bind fun p => if p.1 = [] then none else some (((skipB l).takeWhile typQ, p.1), p.2)
    | _ => none
  else none
theorem in_q {m : List UInt8} {c : UInt8} {r : List UInt8} (hd : m.dropWhile typP = c :: r) (hc : typQ c = true) : c ∈ m.takeWhile typQ := by
  induction m with
  | nil => simp at hd
  | cons b m ih =>
    by_cases hp : typP b = true
    · rw [List.dropWhile_cons, if_pos hp] at hd
      rw [List.takeWhile_cons, if_pos (typ_q b hp)]
      exact List.mem_cons_of_mem _ (ih hd)
    · rw [List.dropWhile_cons, if_neg hp] at hd
      injection hd with h1 _
      rw [h1, List.takeWhile_cons, if_pos hc]
      exact List.mem_cons_self ..
theorem typ_none {m : List UInt8} {c : UInt8} {r : List UInt8} (hd : m.dropWhile typP = c :: r) (hc : typQ c = true) (hc2 : typP c = false) : ¬ isTyp (m.takeWhile typQ) := by
  intro ⟨_, _, _, h⟩
  have := h c (in_q hd hc)
  rw [typP, decide_eq_true this] at hc2
  cases hc2
theorem part_eq (l : List UInt8) : partR l = partQ l := by
  unfold partR partQ
  rcases while_same typ_q (skipB l) with ⟨h1, h2⟩ | ⟨c, r, hd, hc, hc2⟩
  · rw [h1, h2]; rfl
  · rw [if_neg (typ_none hd hc hc2)]
    have h32 : c ≠ 32 := by rintro rfl; revert hc; decide
    have h61 : c ≠ 61 := by rintro rfl; revert hc; decide
    rw [hd, skip_no h32]
    split
    · split
      · rename_i l3 heq; injection heq with h _; exact absurd h h61
      · rfl
    · rfl

end Go.Proofs.YtgghjkefbfbopaaDoor
