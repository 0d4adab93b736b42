/- octet: Join; the ways in which the statements look at bytes; the document's answer. -/
import Derived.Test.YtlfooppmdgddkaaOctD
namespace Go.Proofs.Ytlfooppmdgddkaa
open Go.RowKit

theorem take_next {α : Type} {xs ys : List α} {k : Nat} (hx : k < xs.length) (hy : k < ys.length) (h : xs.take k = ys.take k) (he : xs[k] = ys[k]) : xs.take (k + 1) = ys.take (k + 1) := by
  rw [List.take_succ_eq_append_getElem hx, List.take_succ_eq_append_getElem hy, h, he]
theorem byte_bne (a b : UInt8) : ((a.toNat : Int) != (b.toNat : Int)) = decide (a ≠ b) := by
  rw [Bool.eq_iff_iff]; simp only [bne_iff_ne, ne_eq, decide_eq_true_eq, ← UInt8.toNat_inj]; omega
/-- How much rows weigh. -/
def weight (L : List (List UInt8)) : Nat := (L.map fun p => p.length + 3).sum
theorem weight_snoc (L : List (List UInt8)) (k : Nat) (h : k < L.length) : weight (L.take (k + 1)) = weight (L.take k) + (L[k].length + 3) := by
  unfold weight
  rw [List.take_succ_eq_append_getElem h, List.map_append, List.sum_append]
  simp
theorem weight_take (L : List (List UInt8)) (k : Nat) : weight (L.take k) ≤ weight L := by
  have e : weight L = weight (L.take k) + weight (L.drop k) := by
    unfold weight
    rw [← List.sum_append, ← List.map_append, List.take_append_drop]
  omega
end Go.Proofs.Ytlfooppmdgddkaa
