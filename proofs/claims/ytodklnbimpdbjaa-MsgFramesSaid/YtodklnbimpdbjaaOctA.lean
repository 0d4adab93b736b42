/- octet: what its small functions do to the world. -/
import Derived.Test.YtodklnbimpdbjaaRows
import Derived.Test.YtodklnbimpdbjaaWords
namespace Go.Proofs.Ytodklnbimpdbjaa
open Go.RowKit

theorem tyB : SliceTy Try.prog 22 5 (.int .u8 0) 1 := ⟨Try.underlying22, by kernel_rfl, rfl, Nat.le_refl _⟩
end Go.Proofs.Ytodklnbimpdbjaa
