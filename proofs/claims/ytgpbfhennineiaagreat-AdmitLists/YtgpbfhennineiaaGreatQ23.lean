/- Own texts, put together: Eh. -/
import Derived.Test.YtgpbfhennineiaaGreatQ17
/- awake: the examples. -/
namespace Go.Proofs.YtgpbfhennineiaaGreat
open Go.RowKit
theorem ex1 : TwoSum 4845873199050653696 4607182418800017408 4845873199050653696 0 4845873199050653696 4607182418800017408 0 4607182418800017408 := ⟨by decide +kernel, by decide +kernel, by decide +kernel, by decide +kernel, by decide +kernel, by decide +kernel⟩
end Go.Proofs.YtgpbfhennineiaaGreat
