/- Own texts, put together: Zc. -/
import Derived.Test.YtkgnlobakicnjaaDoorQ10
/- The reference's trim. -/
namespace Go.Proofs.YtkgnlobakicnjaaDoor
open Go.RowKit
end Go.Proofs.YtkgnlobakicnjaaDoor
