/- dn: the document's Print and Up; the law Prints. -/
import Derived.Test.YtgghjkefbfbopaaDoorDnPS
namespace Go.Proofs.YtgghjkefbfbopaaDoor
open Go.RowKit
set_option maxRecDepth 100000

theorem catP (o t P : List UInt8) : (⟨o.toArray⟩ : ByteArray) ++ ⟨t.toArray⟩ ++ ⟨#[61]⟩ ++ ⟨P.toArray⟩ = ⟨(o ++ t ++ [61] ++ P).toArray⟩ := by
  rw [← cat_data, ← cat_data, ← cat_data]
theorem catQ (o t P : List UInt8) : (⟨o.toArray⟩ : ByteArray) ++ ⟨#[44]⟩ ++ ⟨t.toArray⟩ ++ ⟨#[61]⟩ ++ ⟨P.toArray⟩ = ⟨(o ++ [44] ++ t ++ [61] ++ P).toArray⟩ := by
  rw [← cat_data, ← cat_data, ← cat_data, ← cat_data]

end Go.Proofs.YtgghjkefbfbopaaDoor
