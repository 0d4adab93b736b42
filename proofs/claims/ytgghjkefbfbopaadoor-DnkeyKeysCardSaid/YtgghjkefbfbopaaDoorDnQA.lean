/- dn: the document's reader: blanks, typ. -/
import Derived.Test.YtgghjkefbfbopaaDoorDnPO
import Derived.BigQuiet
namespace Go.Proofs.YtgghjkefbfbopaaDoor
open Go.RowKit
set_option maxRecDepth 100000

theorem get_at {s : List UInt8} {k : Nat} (h : k < s.length) : ∃ c, s.drop k = c :: s.drop (k + 1) ∧ ∀ h', (⟨s.toArray⟩ : ByteArray)[k]'h' = c :=
  ⟨s[k], List.drop_eq_getElem_cons h, fun h' => sv_get s k h h'⟩
theorem drop_end {s : List UInt8} {k : Nat} (h : ¬ k < s.length) : s.drop k = [] := List.drop_of_length_le (by omega)
theorem beq_lit (c x : UInt8) : ((c.toNat : Int) == (x.toNat : Int)) = decide (c = x) := by
  rw [Bool.eq_iff_iff, beq_iff_eq, decide_eq_true_eq, ← UInt8.toNat_inj]; omega
theorem bne_lit (c x : UInt8) : ((c.toNat : Int) != (x.toNat : Int)) = !decide (c = x) := by
  rw [bne, beq_lit]

end Go.Proofs.YtgghjkefbfbopaaDoor
