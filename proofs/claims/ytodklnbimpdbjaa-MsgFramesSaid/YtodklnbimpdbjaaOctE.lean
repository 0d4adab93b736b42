/- octet: Join; the ways in which the statements look at bytes; the document's answer. -/
import Derived.Test.YtodklnbimpdbjaaOctA
namespace Go.Proofs.Ytodklnbimpdbjaa
open Go.RowKit

theorem take_next {α : Type} {xs ys : List α} {k : Nat} (hx : k < xs.length) (hy : k < ys.length) (h : xs.take k = ys.take k) (he : xs[k] = ys[k]) : xs.take (k + 1) = ys.take (k + 1) := by
  rw [List.take_succ_eq_append_getElem hx, List.take_succ_eq_append_getElem hy, h, he]
theorem byte_bne (a b : UInt8) : ((a.toNat : Int) != (b.toNat : Int)) = decide (a ≠ b) := by
  rw [Bool.eq_iff_iff]; simp only [bne_iff_ne, ne_eq, decide_eq_true_eq, ← UInt8.toNat_inj]; omega
end Go.Proofs.Ytodklnbimpdbjaa
