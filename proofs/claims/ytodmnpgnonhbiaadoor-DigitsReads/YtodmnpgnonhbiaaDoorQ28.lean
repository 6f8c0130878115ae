/- Own texts, put together: Xe. -/
import Derived.Test.YtodmnpgnonhbiaaDoorQ24
import Derived.Test.YtodmnpgnonhbiaaDoorQ25
import Derived.Test.YtodmnpgnonhbiaaDoorQ27
/- The lowest bit of a float, as package expand tells it. -/
namespace Go.Proofs.YtodmnpgnonhbiaaDoor
open Go.RowKit
end Go.Proofs.YtodmnpgnonhbiaaDoor
