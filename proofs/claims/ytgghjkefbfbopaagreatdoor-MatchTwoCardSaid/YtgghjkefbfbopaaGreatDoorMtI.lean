/- match: the law Norms; the document's find. -/
import Derived.Test.YtgghjkefbfbopaaGreatDoorMtH
namespace Go.Proofs.YtgghjkefbfbopaaGreatDoor
open Go.RowKit
set_option maxRecDepth 100000

section
variable {w : World}
/-- Where a text is in another one, from a place on. -/
def findI (s p : List UInt8) (at_ : Nat) : Int := if 0 ≤ Lib.index (s.drop at_) p then (at_ : Int) + Lib.index (s.drop at_) p else -1
theorem find_some {s p r : List UInt8} {at_ : Nat} (ha : at_ ≤ s.length) (h : cutO (s.drop at_) p = some r) : ∃ k : Nat, findI s p at_ = k ∧ k + p.length ≤ s.length ∧ s.drop (k + p.length) = r := by
  unfold cutO at h
  by_cases h0 : 0 ≤ Lib.index (s.drop at_) p
  · rw [if_pos h0] at h
    have hr := Lib.index_room _ _ h0
    rw [List.length_drop] at hr
    injection h with h
    rw [List.drop_drop] at h
    refine ⟨at_ + (Lib.index (s.drop at_) p).toNat, ?_, by omega, by rw [← h]; congr 1; omega⟩
    unfold findI
    rw [if_pos h0]
    omega
  · rw [if_neg h0] at h; cases h
theorem find_none {s p : List UInt8} {at_ : Nat} (h : cutO (s.drop at_) p = none) : findI s p at_ = -1 := by
  unfold cutO at h
  unfold findI
  by_cases h0 : 0 ≤ Lib.index (s.drop at_) p
  · rw [if_pos h0] at h; cases h
  · rw [if_neg h0]
theorem find_hit {s p : List UInt8} {at_ i : Nat} (hi : at_ + i + p.length ≤ s.length) (hn : Lib.NoOcc (s.drop at_) p i) (he : (s.drop (at_ + i)).take p.length = p) : findI s p at_ = ((at_ + i : Nat) : Int) := by
  have h1 : Lib.occAt (s.drop at_) p i = true := by
    rw [Lib.occAt_iff_take _ _ _ (by rw [List.length_drop]; omega), List.drop_drop, beq_iff_eq]
    exact he
  have h2 := Lib.index_hit hn (by rw [List.length_drop]; omega) h1
  unfold findI
  rw [h2, if_pos (by omega)]
  omega
theorem find_next {s p : List UInt8} {at_ i : Nat} (hi : at_ + i + p.length ≤ s.length) (hn : Lib.NoOcc (s.drop at_) p i) (he : (s.drop (at_ + i)).take p.length ≠ p) : Lib.NoOcc (s.drop at_) p (i + 1) := by
  refine hn.succ ?_
  rw [Lib.occAt_iff_take _ _ _ (by rw [List.length_drop]; omega), List.drop_drop]
  exact beq_eq_false_iff_ne.2 he
theorem find_past {s p : List UInt8} {at_ i : Nat} (ha : at_ ≤ s.length) (hi : ¬ at_ + i + p.length ≤ s.length) (hn : Lib.NoOcc (s.drop at_) p i) : findI s p at_ = -1 := by
  have h1 : Lib.index (s.drop at_) p = -1 := by
    by_cases hp : p = []
    · subst hp
      simp only [List.length_nil, Nat.add_zero] at hi
      have := hn 0 (by omega)
      simp [Lib.occAt] at this
    · exact Lib.index_past hp hn (by rw [List.length_drop]; omega)
  unfold findI
  rw [h1, if_neg (by omega)]
end
end Go.Proofs.YtgghjkefbfbopaaGreatDoor
