/- Own texts, put together: Qg. -/
import Derived.Test.YtgoadpnoagaflaaDoorQ10
/- errors.As at a target of type Errno; told. -/
namespace Go.Proofs.YtgoadpnoagaflaaDoor
set_option maxRecDepth 100000
open Go.RowKit Go.Extern.Stop Go.Stop Go.Extern
end Go.Proofs.YtgoadpnoagaflaaDoor
