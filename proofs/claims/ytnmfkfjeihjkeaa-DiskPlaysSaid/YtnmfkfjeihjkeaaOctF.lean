/- octet: rows joined; the document's answer to numbers and rows; bytes with room behind them. -/
import Derived.Test.YtnmfkfjeihjkeaaOctE
namespace Go.Proofs.Ytnmfkfjeihjkeaa
open Go.RowKit
set_option maxRecDepth 100000

/-- All rows, one behind the other. -/
theorem flat_snoc (L : List (List UInt8)) (k : Nat) (h : k < L.length) : (L.take (k + 1)).flatten = (L.take k).flatten ++ L[k] := by
  rw [List.take_succ_eq_append_getElem h, List.flatten_append]
  simp
def flen (L : List (List UInt8)) (k : Nat) : Nat := (L.take k).flatten.length
end Go.Proofs.Ytnmfkfjeihjkeaa
