/- dn: the document's reader: Half, stroke. -/
import Derived.Test.YtgghjkefbfbopaaDoorDnQB
import Derived.Test.YtgghjkefbfbopaaDoorDnPS
namespace Go.Proofs.YtgghjkefbfbopaaDoor
open Go.RowKit
set_option maxRecDepth 100000

def halfI (b : UInt8) : Int := match digB b with
  | some x => (x.toNat : Int)
  | none => -1
end Go.Proofs.YtgghjkefbfbopaaDoor
