/- Own texts, put together: Zj Zk Zl Zm. -/
import Derived.Test.YtgoadpnoagaflaaGreatDoorQ12
import Derived.Test.YtgoadpnoagaflaaGreatDoorQ13
namespace Go.Proofs.YtgoadpnoagaflaaGreatDoor
/- The reference's Add: the walk, the same sign. -/
section
open Go.RowKit
end

/- The reference's Add: the walk, other signs. -/
section
open Go.RowKit
end

/- The reference's Add, Sub, Cmp, Abs, of whatever numbers. -/
section
open Go.RowKit
end

/- The reference's Add of whatever numbers; Sub, Cmp, Abs. -/
section
open Go.RowKit
end
end Go.Proofs.YtgoadpnoagaflaaGreatDoor
