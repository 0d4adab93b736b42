/- octet: the check sum of rows: the statement's own walk. -/
import Derived.Test.YtnmfkfjeihjkeaaOctL
namespace Go.Proofs.Ytnmfkfjeihjkeaa
open Go.RowKit
set_option maxRecDepth 100000

theorem weight_flat (L : List (List UInt8)) : L.flatten.length ≤ weight L := by
  unfold weight
  induction L with
  | nil => simp
  | cons a L ih => simp only [List.flatten_cons, List.length_append, List.map_cons, List.sum_cons]; omega
end Go.Proofs.Ytnmfkfjeihjkeaa
