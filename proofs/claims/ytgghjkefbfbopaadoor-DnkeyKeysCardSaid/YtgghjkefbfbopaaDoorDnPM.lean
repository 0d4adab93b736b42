/- dn: the law Ups. -/
import Derived.Test.YtgghjkefbfbopaaDoorDnPL
namespace Go.Proofs.YtgghjkefbfbopaaDoor
open Go.RowKit
set_option maxRecDepth 100000

end Go.Proofs.YtgghjkefbfbopaaDoor
