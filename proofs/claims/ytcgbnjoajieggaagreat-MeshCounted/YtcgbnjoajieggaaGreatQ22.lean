/- Own texts, put together: Zk. -/
import Derived.Test.YtcgbnjoajieggaaGreatQ20
/- The reference's Add: the walk, other signs. -/
namespace Go.Proofs.YtcgbnjoajieggaaGreat
open Go.RowKit
end Go.Proofs.YtcgbnjoajieggaaGreat
