/- Own texts, put together: Zk. -/
import Derived.Test.YtkgnlobakicnjaaDoorQ24
/- The reference's Add: the walk, other signs. -/
namespace Go.Proofs.YtkgnlobakicnjaaDoor
open Go.RowKit
end Go.Proofs.YtkgnlobakicnjaaDoor
