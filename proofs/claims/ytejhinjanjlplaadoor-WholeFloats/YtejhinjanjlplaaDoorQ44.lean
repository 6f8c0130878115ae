/- Own texts, put together: Hq. -/
import Derived.Test.YtejhinjanjlplaaDoorQ40
import Derived.Test.YtejhinjanjlplaaDoorQ41
import Derived.Test.YtejhinjanjlplaaDoorQ42
import Derived.Test.YtejhinjanjlplaaDoorQ43
/- WholeFloats: the law's walk. -/
namespace Go.Proofs.YtejhinjanjlplaaDoor
open Go.RowKit
attribute [local go_sem ↓] Go.wp_at_zero Go.wp_at_succ
theorem floats_law (a b : Nat) (w : World) (hT : Tab w) (la : a < 18446744073709551616) (lb : b < 18446744073709551616) :
   Calls Tryd.prog 3 #[.float .f64 a, .float .f64 b] w fun e w' => e = .returned (.bool true) ∧ Below w.heap.size w w' := by
 by_cases ha : Fin64 a
 · by_cases hb : Fin64 b
   · rcases (by grind : fval a < fval b ∨ fval a = fval b ∨ fval b < fval a) with h | h | h
     · exact floats_lt a b w hT la lb ha hb h
     · exact floats_eq a b w hT la lb ha hb h
     · exact floats_gt a b w hT la lb ha hb h
   · exact floats_yn a b w hT la lb ha hb
 · by_cases hb : Fin64 b
   · exact floats_ny a b w hT la lb ha hb
   · exact floats_nn a b w hT la lb ha hb
end Go.Proofs.YtejhinjanjlplaaDoor
