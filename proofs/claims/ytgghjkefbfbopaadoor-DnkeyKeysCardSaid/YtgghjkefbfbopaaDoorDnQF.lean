/- dn: the document's Parse. -/
import Derived.Test.YtgghjkefbfbopaaDoorDnQE
namespace Go.Proofs.YtgghjkefbfbopaaDoor
open Go.RowKit
set_option maxRecDepth 100000

end Go.Proofs.YtgghjkefbfbopaaDoor
