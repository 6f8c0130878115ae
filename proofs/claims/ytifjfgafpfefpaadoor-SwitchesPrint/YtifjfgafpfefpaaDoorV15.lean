/- Own texts, put together: Ee Ef Eg Et Ew Eh. -/
import Derived.Test.YtifjfgafpfefpaaDoorV11
import Derived.Test.YtifjfgafpfefpaaDoorV14
import Derived.Below
namespace Go.Proofs.YtifjfgafpfefpaaDoor
/- Tame and safe, as the document has them: the two questions. -/
section
open Go.RowKit
end

/- What is refused. -/
section
open Go.RowKit
end

/- The steps of sums, halves and products: each is the float that the language has of it. -/
section
open Go.RowKit
structure TwoSum (a b x fb fa lb la y : Nat) : Prop where
 s0 : floatBits .add .f64 a b = some x
 s1 : floatBits .sub .f64 x a = some fb
 s2 : floatBits .sub .f64 x fb = some fa
 s3 : floatBits .sub .f64 b fb = some lb
 s4 : floatBits .sub .f64 a fa = some la
 s5 : floatBits .add .f64 la lb = some y
end

/- Sums of tame words: what is rounded off is told exactly. -/
section
end

/- Products of safe words: what is rounded off is told exactly. -/
section
end

/- awake: the examples. -/
section
open Go.RowKit
theorem ex1 : TwoSum 4845873199050653696 4607182418800017408 4845873199050653696 0 4845873199050653696 4607182418800017408 0 4607182418800017408 := ⟨by decide +kernel, by decide +kernel, by decide +kernel, by decide +kernel, by decide +kernel, by decide +kernel⟩
end
end Go.Proofs.YtifjfgafpfefpaaDoor
