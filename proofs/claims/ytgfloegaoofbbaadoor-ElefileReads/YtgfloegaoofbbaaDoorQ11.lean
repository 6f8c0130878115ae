/- Own texts, put together: Ee Ef. -/
import Derived.Test.YtgfloegaoofbbaaDoorQ10
import Derived.Below
namespace Go.Proofs.YtgfloegaoofbbaaDoor
/- Tame and safe, as the document has them: the two questions. -/
section
open Go.RowKit
end

/- What is refused. -/
section
open Go.RowKit
end
end Go.Proofs.YtgfloegaoofbbaaDoor
