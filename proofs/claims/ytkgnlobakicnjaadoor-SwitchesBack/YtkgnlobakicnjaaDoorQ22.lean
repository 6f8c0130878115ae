/- Own texts, put together: Eg Et Ew Eh Ex. -/
import Derived.Test.YtkgnlobakicnjaaDoorQ15
import Derived.Test.YtkgnlobakicnjaaDoorQ18
import Derived.Test.YtkgnlobakicnjaaDoorQ21
namespace Go.Proofs.YtkgnlobakicnjaaDoor
/- The steps of sums, halves and products: each is the float that the language has of it. -/
section
open Go.RowKit
structure TwoSum (a b x fb fa lb la y : Nat) : Prop where
 s0 : floatBits .add .f64 a b = some x
 s1 : floatBits .sub .f64 x a = some fb
 s2 : floatBits .sub .f64 x fb = some fa
 s3 : floatBits .sub .f64 b fb = some lb
 s4 : floatBits .sub .f64 a fa = some la
 s5 : floatBits .add .f64 la lb = some y
end

/- Sums of tame words: what is rounded off is told exactly. -/
section
end

/- Products of safe words: what is rounded off is told exactly. -/
section
end

/- awake: the examples. -/
section
open Go.RowKit
theorem ex1 : TwoSum 4845873199050653696 4607182418800017408 4845873199050653696 0 4845873199050653696 4607182418800017408 0 4607182418800017408 := ⟨by decide +kernel, by decide +kernel, by decide +kernel, by decide +kernel, by decide +kernel, by decide +kernel⟩
end

/- What Sum, Diff and Prod answer, and what follows of it. -/
section
open Go.RowKit
end
end Go.Proofs.YtkgnlobakicnjaaDoor
