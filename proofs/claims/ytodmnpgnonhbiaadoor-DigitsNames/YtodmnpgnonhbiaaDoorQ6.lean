/- Own texts, put together: Zd Ze Zf. -/
import Derived.Test.YtodmnpgnonhbiaaDoorQ1
namespace Go.Proofs.YtodmnpgnonhbiaaDoor
/- The reference's Neg; trim of any number. -/
section
open Go.RowKit
end

/- The reference's Low. -/
section
open Go.RowKit
end

/- The reference's High. -/
section
open Go.RowKit
end
end Go.Proofs.YtodmnpgnonhbiaaDoor
