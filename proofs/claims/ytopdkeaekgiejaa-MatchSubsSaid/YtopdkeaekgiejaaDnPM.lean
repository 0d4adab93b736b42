/- dn: the law Ups. -/
import Derived.Test.YtopdkeaekgiejaaDnPL
namespace Go.Proofs.Ytopdkeaekgiejaa
open Go.RowKit
set_option maxRecDepth 100000

end Go.Proofs.Ytopdkeaekgiejaa
