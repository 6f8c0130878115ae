/- Own texts, put together: Qf Qg. -/
import Derived.Test.YtgoadpnoagaflaaGreatDoorQ4
import Derived.Test.YtgoadpnoagaflaaGreatDoorQ5
namespace Go.Proofs.YtgoadpnoagaflaaGreatDoor
/- errors.As at the two targets; what told tells. -/
section
open Go.RowKit Go.Extern.Stop Go.Stop Go.Extern
def h3 (t b : Nat) : Array Value := #[.pointer (some ⟨5, t, none⟩), .pointer (some ⟨b, 0, none⟩), .int .u64 150]
end

/- errors.As at a target of type Errno; told. -/
section
set_option maxRecDepth 100000
open Go.RowKit Go.Extern.Stop Go.Stop Go.Extern
end
end Go.Proofs.YtgoadpnoagaflaaGreatDoor
