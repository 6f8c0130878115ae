/- Own texts, put together: Pa Pb Pc Pd. -/
import Derived.Test.YtjcdbbdbmcbjpaaQ19
namespace Go.Proofs.Ytjcdbbdbmcbjpaa
/- The laws' helpers of package expand: long, same. -/
section
open Go.RowKit Go.Shelf
attribute [local go_sem ↓] Go.wp_at_zero Go.wp_at_succ
end

/- The laws' helpers of package expand: near. -/
section
open Go.RowKit Go.Shelf
attribute [local go_sem ↓] Go.wp_at_zero Go.wp_at_succ
theorem Bd.ab {h l : Int} {q : Rat} (hb : Bd h l q) : Bd h l (if q < 0 then -q else q) := by
 split
 · exact hb.neg
 · exact hb
end

/- The laws' helpers of package expand: has. -/
section
open Go.RowKit Go.Shelf
attribute [local go_sem ↓] Go.wp_at_zero Go.wp_at_succ
end

/- Package expand: joined, with whatever is so from round to round (for lists that are written out). -/
section
open Go.RowKit
end
end Go.Proofs.Ytjcdbbdbmcbjpaa
