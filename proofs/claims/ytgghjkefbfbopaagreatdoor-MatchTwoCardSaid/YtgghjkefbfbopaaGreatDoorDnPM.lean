/- dn: the law Ups. -/
import Derived.Test.YtgghjkefbfbopaaGreatDoorDnPL
namespace Go.Proofs.YtgghjkefbfbopaaGreatDoor
open Go.RowKit
set_option maxRecDepth 100000

end Go.Proofs.YtgghjkefbfbopaaGreatDoor
