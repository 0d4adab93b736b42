/- dn: the document's Print and Up; the law Prints. -/
import Derived.Test.YtgghjkefbfbopaaDoorDnPO
import Derived.Deep.RegionHeld3
namespace Go.Proofs.YtgghjkefbfbopaaDoor
open Go.RowKit
set_option maxRecDepth 100000

theorem in_step {b : UInt8} {l : List UInt8} {k : Nat} (h : k < l.length) (h1 : b ∉ l.take k) (h2 : l[k] ≠ b) : b ∉ l.take (k + 1) := by
  rw [List.take_succ_eq_append_getElem h, List.mem_append, List.mem_singleton]
  rintro (h | rfl)
  · exact h1 h
  · exact h2 rfl
theorem hexB_lo : ∀ n, n < 10 → (hexB n).toNat = 48 + n := by decide
theorem hexB_hi : ∀ n, n < 16 → ¬ n < 10 → (hexB n).toNat = 97 + n - 10 := by decide
theorem stroke_if {b : UInt8} (hb : ¬ (b.toNat < 32 ∨ 126 < b.toNat)) (f g m h q : Bool) (hm : decide (b ∈ sepB) = m) (hh : decide (b ∈ ([35, 32] : List UInt8)) = h) (hq : decide (b = 32) = q) :
    strokeB b f g = if (m || (f && h) || (g && q)) = true then [92, b] else [b] := by
  unfold strokeB
  rw [if_neg hb]
  subst hm hh hq
  congr 1
  simp only [Bool.or_eq_true, Bool.and_eq_true, decide_eq_true_eq, List.mem_cons, List.not_mem_nil, or_false, eq_iff_iff]
  constructor
  · rintro (h | ⟨h, k⟩ | ⟨h, k | k⟩)
    · exact .inl (.inl h)
    · exact .inl (.inr ⟨k, .inl h⟩)
    · exact .inl (.inr ⟨k, .inr h⟩)
    · exact .inr ⟨k, h⟩
  · rintro ((h | ⟨k, h | h⟩) | ⟨k, h⟩)
    · exact .inl h
    · exact .inr (.inl ⟨h, k⟩)
    · exact .inr (.inr ⟨h, .inl k⟩)
    · exact .inr (.inr ⟨h, .inr k⟩)

end Go.Proofs.YtgghjkefbfbopaaDoor
