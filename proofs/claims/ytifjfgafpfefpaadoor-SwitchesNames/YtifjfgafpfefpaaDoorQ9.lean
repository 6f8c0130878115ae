/- Own texts, put together: Zc. -/
import Derived.Test.YtifjfgafpfefpaaDoorQ6
/- The reference's trim. -/
namespace Go.Proofs.YtifjfgafpfefpaaDoor
open Go.RowKit
end Go.Proofs.YtifjfgafpfefpaaDoor
