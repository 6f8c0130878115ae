/- Own texts, put together: Ew Eh Ex. -/
import Derived.Test.YtifjfgafpfefpaaDoorQ11
import Derived.Test.YtifjfgafpfefpaaDoorQ12
namespace Go.Proofs.YtifjfgafpfefpaaDoor
/- Products of safe words: what is rounded off is told exactly. -/
section
end

/- awake: the examples. -/
section
open Go.RowKit
theorem ex1 : TwoSum 4845873199050653696 4607182418800017408 4845873199050653696 0 4845873199050653696 4607182418800017408 0 4607182418800017408 := ⟨by decide +kernel, by decide +kernel, by decide +kernel, by decide +kernel, by decide +kernel, by decide +kernel⟩
end

/- What Sum, Diff and Prod answer, and what follows of it. -/
section
open Go.RowKit
end
end Go.Proofs.YtifjfgafpfefpaaDoor
