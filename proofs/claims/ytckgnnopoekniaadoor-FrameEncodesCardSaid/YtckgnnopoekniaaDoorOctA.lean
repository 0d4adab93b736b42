/- octet: what its small functions do to the world. -/
import Derived.Test.YtckgnnopoekniaaDoorRows
import Derived.Test.YtckgnnopoekniaaDoorWords
namespace Go.Proofs.YtckgnnopoekniaaDoor
open Go.RowKit

theorem tyB : SliceTy Tryd.prog 23 5 (.int .u8 0) 1 := ⟨Tryd.underlying23, by kernel_rfl, rfl, Nat.le_refl _⟩
end Go.Proofs.YtckgnnopoekniaaDoor
