/- Own texts, put together: Le. -/
import Derived.Test.YtocnkgfoffpbfaaGreatDoorQ38
/- The rest of what the examples call: infinities and no number. -/
namespace Go.Proofs.YtocnkgfoffpbfaaGreatDoor
open Go.RowKit
attribute [local go_sem ↓] Go.wp_at_zero Go.wp_at_succ

set_option maxHeartbeats 1000000 in
theorem inf_neg (w : World) : Calls Tryz.prog 89 #[.int .i64 (-1)] w fun e w' => e = .returned (.float .f64 18442240474082181120) ∧ w' = w := by
 have b2 := run_frombits 18442240474082181120
 have b2' : ∀ w, (callFunc 75 #[.int .u64 18442240474082181120]).run Tryz.prog w = .ok (.value (.float .f64 18442240474082181120)) w := b2
 go_enter Tryz.func89, Tryz.ntmps89
 go_wp2
 go_ret
 exact ⟨rfl, rfl⟩

end Go.Proofs.YtocnkgfoffpbfaaGreatDoor
