/- octet: what its small functions do to the world. -/
import Derived.Test.YtcffefadagfdcaaRows
import Derived.Test.YtcffefadagfdcaaWords
namespace Go.Proofs.Ytcffefadagfdcaa
open Go.RowKit

theorem tyB : SliceTy Try.prog 24 5 (.int .u8 0) 1 := ⟨Try.underlying24, by kernel_rfl, rfl, Nat.le_refl _⟩
end Go.Proofs.Ytcffefadagfdcaa
