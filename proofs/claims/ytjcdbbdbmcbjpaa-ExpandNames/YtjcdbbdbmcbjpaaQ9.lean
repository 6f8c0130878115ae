/- Own texts, put together: Zq. -/
import Derived.Test.YtjcdbbdbmcbjpaaQ5
/- The reference's Mul, High and Low of whatever numbers. -/
namespace Go.Proofs.Ytjcdbbdbmcbjpaa
open Go.RowKit
end Go.Proofs.Ytjcdbbdbmcbjpaa
