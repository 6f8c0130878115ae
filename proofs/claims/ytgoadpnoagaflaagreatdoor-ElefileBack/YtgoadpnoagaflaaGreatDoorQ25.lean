/- Own texts, put together: Zs. -/
import Derived.Test.YtgoadpnoagaflaaGreatDoorQ21
/- The reference's Of, of any float. -/
namespace Go.Proofs.YtgoadpnoagaflaaGreatDoor
open Go.RowKit
theorem order_val {a b : Nat} (ha : Fin64 a) (hb : Fin64 b) : FloatKind.f64.format.order a b = some (if fval a < fval b then .lt else if fval a = fval b then .eq else .gt) := order_fin ha hb
end Go.Proofs.YtgoadpnoagaflaaGreatDoor
