/- octet: what its small functions do to the world. -/
import Derived.Test.YtagchhcpmibelaaRows
import Derived.Test.YtagchhcpmibelaaWords
namespace Go.Proofs.Ytagchhcpmibelaa
open Go.RowKit

theorem tyB : SliceTy Try.prog 32 5 (.int .u8 0) 1 := ⟨Try.underlying32, by kernel_rfl, rfl, Nat.le_refl _⟩
end Go.Proofs.Ytagchhcpmibelaa
