/- Own texts, put together: Ql. -/
import Derived.Test.YtgoadpnoagaflaaGreatDoorQ3
import Derived.Test.YtgoadpnoagaflaaGreatDoorQ5
import Derived.Shelf.Spec.SlicesGrow
import Derived.Shelf.SlicesQ.IndexFunc
import Derived.Test.YtgoadpnoagaflaaGreatDoorProg
/- slices.Grow of nothing, at floats and at nodes; slices.ContainsFunc at nodes: the library's contracts, laid at this program. -/
namespace Go.Proofs.YtgoadpnoagaflaaGreatDoor
set_option maxRecDepth 100000
open Go.Shelf Go.Proofs Go.RowKit Go.Lib
end Go.Proofs.YtgoadpnoagaflaaGreatDoor
