/- Own texts, put together: Qf. -/
import Derived.Test.YtgoadpnoagaflaaDoorQ3
import Derived.Test.YtgoadpnoagaflaaDoorQ5
/- errors.As at the two targets; what told tells. -/
namespace Go.Proofs.YtgoadpnoagaflaaDoor
open Go.RowKit Go.Extern.Stop Go.Stop Go.Extern
def h3 (t b : Nat) : Array Value := #[.pointer (some ⟨5, t, none⟩), .pointer (some ⟨b, 0, none⟩), .int .u64 150]
end Go.Proofs.YtgoadpnoagaflaaDoor
