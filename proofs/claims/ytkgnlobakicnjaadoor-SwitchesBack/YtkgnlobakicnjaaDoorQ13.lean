/- Own texts, put together: Fd. -/
import Derived.Test.YtkgnlobakicnjaaDoorQ9
/- Floats: Ldexp, on floats that are not below the normal ones. -/
namespace Go.Proofs.YtkgnlobakicnjaaDoor
open Go.RowKit
set_option maxHeartbeats 1000000 in
theorem Ldexp_of (a b : Nat) (k : Int) (w : World) (hf : ∀ w, Calls Tryd.prog 85 #[.float .f64 a, .int .i64 k] w fun e w' => e = .returned (.float .f64 b) ∧ w' = w) :
   Calls Tryd.prog 59 #[.float .f64 a, .int .i64 k] w fun e w' => e = .returned (.float .f64 b) ∧ w' = w := by
 have HF : Hid _ := hf
 clear hf
 go_enter Tryd.func59, Tryd.ntmps59
 go_wp2_with (first | (go_at_call 85; refine (HF.out _).mono ?_; rintro e w' ⟨rfl, rfl⟩))
 go_ret
 exact ⟨rfl, rfl⟩
end Go.Proofs.YtkgnlobakicnjaaDoor
