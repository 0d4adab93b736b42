/- octet: what its small functions do to the world. -/
import Derived.Test.YtnmfkfjeihjkeaaRows
import Derived.Test.YtnmfkfjeihjkeaaWords
namespace Go.Proofs.Ytnmfkfjeihjkeaa
open Go.RowKit

theorem tyB : SliceTy Try.prog 32 5 (.int .u8 0) 1 := ⟨Try.underlying32, by kernel_rfl, rfl, Nat.le_refl _⟩
end Go.Proofs.Ytnmfkfjeihjkeaa
