/- octet: what its small functions do to the world. -/
import Derived.Test.YtbdkdbfcbakgmaaRows
import Derived.Test.YtbdkdbfcbakgmaaWords
namespace Go.Proofs.Ytbdkdbfcbakgmaa
open Go.RowKit

theorem tyB : SliceTy Try.prog 40 5 (.int .u8 0) 1 := ⟨Try.underlying40, by kernel_rfl, rfl, Nat.le_refl _⟩
end Go.Proofs.Ytbdkdbfcbakgmaa
