/- dn: what the law knows. -/
import Derived.Test.YtgghjkefbfbopaaDoorDnPI
namespace Go.Proofs.YtgghjkefbfbopaaDoor
open Go.RowKit
set_option maxRecDepth 100000

def kText : List UInt8 := [99, 110, 61, 97, 92, 44, 98, 32, 44, 32, 79, 32, 61, 32, 120, 32, 121]
def kName : List Av := [([99, 110], [97, 44, 98]), ([79], [120, 32, 121])]
theorem parse_known : parseB kText = (kName, 0) := by decide +kernel
theorem print_known : printB kName = [99, 110, 61, 97, 92, 44, 98, 44, 79, 61, 120, 32, 121] := by decide +kernel
theorem plain_known : ∀ a ∈ kName, Plain a.2 := by unfold Plain; decide +kernel

end Go.Proofs.YtgghjkefbfbopaaDoor
