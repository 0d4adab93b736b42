/- dn: what the law looks at; two names, part by part; the name above. -/
import Derived.Test.YtgghjkefbfbopaaGreatDoorDnPH
import Derived.Test.YtgghjkefbfbopaaGreatDoorDnG
import Derived.Test.YtgghjkefbfbopaaGreatDoorDnK
namespace Go.Proofs.YtgghjkefbfbopaaGreatDoor
open Go.RowKit
set_option maxRecDepth 100000

end Go.Proofs.YtgghjkefbfbopaaGreatDoor
