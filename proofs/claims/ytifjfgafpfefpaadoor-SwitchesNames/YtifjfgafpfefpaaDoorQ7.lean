/- Own texts, put together: Fd. -/
import Derived.Test.YtifjfgafpfefpaaDoorQ5
/- Floats: Ldexp, on floats that are not below the normal ones. -/
namespace Go.Proofs.YtifjfgafpfefpaaDoor
open Go.RowKit
set_option maxHeartbeats 1000000 in
theorem Ldexp_of (a b : Nat) (k : Int) (w : World) (hf : ∀ w, Calls Tryd.prog 55 #[.float .f64 a, .int .i64 k] w fun e w' => e = .returned (.float .f64 b) ∧ w' = w) :
   Calls Tryd.prog 34 #[.float .f64 a, .int .i64 k] w fun e w' => e = .returned (.float .f64 b) ∧ w' = w := by
 have HF : Hid _ := hf
 clear hf
 go_enter Tryd.func34, Tryd.ntmps34
 go_wp2_with (first | (go_at_call 55; refine (HF.out _).mono ?_; rintro e w' ⟨rfl, rfl⟩))
 go_ret
 exact ⟨rfl, rfl⟩
end Go.Proofs.YtifjfgafpfefpaaDoor
