/- Own texts, put together: Zc. -/
import Derived.Test.YtcgbnjoajieggaaGreatQ5
/- The reference's trim. -/
namespace Go.Proofs.YtcgbnjoajieggaaGreat
open Go.RowKit
end Go.Proofs.YtcgbnjoajieggaaGreat
