/- Own texts, put together: Fb Fc. -/
import Derived.Test.YtcgbnjoajieggaaGreatQ1
import Derived.Test.YtcgbnjoajieggaaGreatQ6
namespace Go.Proofs.YtcgbnjoajieggaaGreat
/- Floats: IsNaN, IsInf, normalize, Frexp, Ldexp of package math, on the words that package whole hands them. -/
section
open Go.RowKit
end

/- Floats: Frexp and Ldexp. -/
section
open Go.RowKit
end
end Go.Proofs.YtcgbnjoajieggaaGreat
