/- Own texts, put together: Zr Zs. -/
import Derived.Test.YtjcdbbdbmcbjpaaQ1
import Derived.Test.YtjcdbbdbmcbjpaaQ8
import Derived.Test.YtjcdbbdbmcbjpaaQ9
namespace Go.Proofs.Ytjcdbbdbmcbjpaa
/- The reference's Of: what a float denotes. -/
section
open Go.RowKit
end

/- The reference's Of, of any float. -/
section
open Go.RowKit
theorem order_val {a b : Nat} (ha : Fin64 a) (hb : Fin64 b) : FloatKind.f64.format.order a b = some (if fval a < fval b then .lt else if fval a = fval b then .eq else .gt) := order_fin ha hb
theorem fin0 : Fin64 0 := by unfold Fin64 frung; decide
theorem fval0 : fval 0 = 0 := fval_zero_iff.2 rfl
end
end Go.Proofs.Ytjcdbbdbmcbjpaa
