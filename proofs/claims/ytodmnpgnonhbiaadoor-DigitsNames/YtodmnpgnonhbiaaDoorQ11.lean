/- Own texts, put together: Ee. -/
import Derived.Test.YtodmnpgnonhbiaaDoorQ8
/- Tame and safe, as the document has them: the two questions. -/
namespace Go.Proofs.YtodmnpgnonhbiaaDoor
open Go.RowKit
end Go.Proofs.YtodmnpgnonhbiaaDoor
