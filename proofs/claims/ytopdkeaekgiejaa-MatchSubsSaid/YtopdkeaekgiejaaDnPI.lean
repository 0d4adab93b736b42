/- dn: what the law looks at; two names, part by part; the name above. -/
import Derived.Test.YtopdkeaekgiejaaDnPH
import Derived.Test.YtopdkeaekgiejaaDnG
import Derived.Test.YtopdkeaekgiejaaDnK
namespace Go.Proofs.Ytopdkeaekgiejaa
open Go.RowKit
set_option maxRecDepth 100000

end Go.Proofs.Ytopdkeaekgiejaa
