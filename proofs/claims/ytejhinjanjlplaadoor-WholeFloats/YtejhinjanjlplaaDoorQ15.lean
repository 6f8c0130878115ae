/- Own texts, put together: Ee. -/
import Derived.Test.YtejhinjanjlplaaDoorQ12
/- Tame and safe, as the document has them: the two questions. -/
namespace Go.Proofs.YtejhinjanjlplaaDoor
open Go.RowKit
end Go.Proofs.YtejhinjanjlplaaDoor
