/- Own texts, put together: Zk Zl Zm. -/
import Derived.Test.YtcgbnjoajieggaaGreatQ8
import Derived.Test.YtcgbnjoajieggaaGreatQ18
namespace Go.Proofs.YtcgbnjoajieggaaGreat
/- The reference's Add: the walk, other signs. -/
section
open Go.RowKit
end

/- The reference's Add, Sub, Cmp, Abs, of whatever numbers. -/
section
open Go.RowKit
end

/- The reference's Add of whatever numbers; Sub, Cmp, Abs. -/
section
open Go.RowKit
end
end Go.Proofs.YtcgbnjoajieggaaGreat
