/- Own texts, put together: Efk. -/
import Derived.Test.YtgoadpnoagaflaaDoorQ45
/- Package elefile: Read. -/
namespace Go.Proofs.YtgoadpnoagaflaaDoor
set_option maxRecDepth 100000
open Go.RowKit Go.Shelf Go.Lib
end Go.Proofs.YtgoadpnoagaflaaDoor
