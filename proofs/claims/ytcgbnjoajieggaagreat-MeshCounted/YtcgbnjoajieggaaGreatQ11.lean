/- Own texts, put together: Ec. -/
import Derived.Test.YtcgbnjoajieggaaGreatQ9
/- Which floats are tame, which are safe: the document's. -/
namespace Go.Proofs.YtcgbnjoajieggaaGreat
open Go.RowKit
end Go.Proofs.YtcgbnjoajieggaaGreat
