/- Own texts, put together: Fd Ee Eu. -/
import Derived.Test.YtkbhmglmbolbiaaGreatDoorQ14
import Derived.Test.YtkbhmglmbolbiaaGreatDoorQ15
import Derived.Test.YtkbhmglmbolbiaaGreatDoorQ16
namespace Go.Proofs.YtkbhmglmbolbiaaGreatDoor
/- Floats: Ldexp, on floats that are not below the normal ones. -/
section
open Go.RowKit
set_option maxHeartbeats 1000000 in
theorem Ldexp_of (a b : Nat) (k : Int) (w : World) (hf : ∀ w, Calls Tryz.prog 135 #[.float .f64 a, .int .i64 k] w fun e w' => e = .returned (.float .f64 b) ∧ w' = w) :
   Calls Tryz.prog 117 #[.float .f64 a, .int .i64 k] w fun e w' => e = .returned (.float .f64 b) ∧ w' = w := by
 have HF : Hid _ := hf
 clear hf
 go_enter Tryz.func117, Tryz.ntmps117
 go_wp2_with (first | (go_at_call 135; refine (HF.out _).mono ?_; rintro e w' ⟨rfl, rfl⟩))
 go_ret
 exact ⟨rfl, rfl⟩
end

/- Tame and safe, as the document has them: the two questions. -/
section
open Go.RowKit
end

/- A float's halves, and two floats multiplied (Veltkamp, Dekker), in plain numbers. -/
section
end
end Go.Proofs.YtkbhmglmbolbiaaGreatDoor
