/- Own texts, put together: Ee Ef Eg. -/
import Derived.Test.YtgoadpnoagaflaaDoorQ22
import Derived.Below
namespace Go.Proofs.YtgoadpnoagaflaaDoor
/- Tame and safe, as the document has them: the two questions. -/
section
open Go.RowKit
end

/- What is refused. -/
section
open Go.RowKit
end

/- The steps of sums, halves and products: each is the float that the language has of it. -/
section
open Go.RowKit
structure TwoSum (a b x fb fa lb la y : Nat) : Prop where
 s0 : floatBits .add .f64 a b = some x
 s1 : floatBits .sub .f64 x a = some fb
 s2 : floatBits .sub .f64 x fb = some fa
 s3 : floatBits .sub .f64 b fb = some lb
 s4 : floatBits .sub .f64 a fa = some la
 s5 : floatBits .add .f64 la lb = some y
end
end Go.Proofs.YtgoadpnoagaflaaDoor
