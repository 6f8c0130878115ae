/- Own texts, put together: Ha. -/
import Derived.Test.YtodmnpgnonhbiaaDoorQ25
import Derived.Test.YtodmnpgnonhbiaaDoorQ27
/- How many bits a float has; that two numbers are the same. -/
namespace Go.Proofs.YtodmnpgnonhbiaaDoor
open Go.RowKit
attribute [local go_sem ↓] Go.wp_at_zero Go.wp_at_succ
theorem Rf.agg {w : World} {v : Value} {q : Rat} (h : Rf w v q) : ∃ S a n c E, v = .agg #[.int .i64 S, .slice a n c, .int .i64 E] := by
 obtain ⟨S, a, n, c, E, h, _⟩ := h.sgn
 exact ⟨S, a, n, c, E, h⟩
end Go.Proofs.YtodmnpgnonhbiaaDoor
