/- octet: rows joined; the document's answer to numbers and rows; bytes with room behind them. -/
import Derived.Test.YtodklnbimpdbjaaOctE
namespace Go.Proofs.Ytodklnbimpdbjaa
open Go.RowKit
set_option maxRecDepth 100000

/-- All rows, one behind the other. -/
theorem flat_snoc (L : List (List UInt8)) (k : Nat) (h : k < L.length) : (L.take (k + 1)).flatten = (L.take k).flatten ++ L[k] := by
  rw [List.take_succ_eq_append_getElem h, List.flatten_append]
  simp
theorem flat_take (L : List (List UInt8)) (k : Nat) : (L.take k).flatten.length ≤ L.flatten.length := by
  have e : L.flatten = (L.take k).flatten ++ (L.drop k).flatten := by
    rw [← List.flatten_append, List.take_append_drop]
  rw [e, List.length_append]; omega
def flen (L : List (List UInt8)) (k : Nat) : Nat := (L.take k).flatten.length
theorem flen_snoc (L : List (List UInt8)) (k : Nat) (h : k < L.length) : flen L (k + 1) = flen L k + L[k].length := by
  unfold flen; rw [flat_snoc L k h, List.length_append]
theorem flen_le (L : List (List UInt8)) (k : Nat) : flen L k ≤ L.flatten.length := flat_take L k
theorem flen_all (L : List (List UInt8)) (k : Nat) (h : L.length ≤ k) : flen L k = L.flatten.length := by unfold flen; rw [List.take_of_length_le h]
end Go.Proofs.Ytodklnbimpdbjaa
