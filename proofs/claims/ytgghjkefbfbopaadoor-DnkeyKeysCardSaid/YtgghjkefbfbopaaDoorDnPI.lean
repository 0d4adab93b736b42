/- dn: what the law looks at; two names, part by part; the name above. -/
import Derived.Test.YtgghjkefbfbopaaDoorDnPH
import Derived.Test.YtgghjkefbfbopaaDoorDnG
import Derived.Test.YtgghjkefbfbopaaDoorDnK
namespace Go.Proofs.YtgghjkefbfbopaaDoor
open Go.RowKit
set_option maxRecDepth 100000

end Go.Proofs.YtgghjkefbfbopaaDoor
