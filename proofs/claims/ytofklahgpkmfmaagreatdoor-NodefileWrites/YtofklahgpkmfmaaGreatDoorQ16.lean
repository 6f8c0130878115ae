/- Own texts, put together: Fd Ee Ef Eg Eu Ev Eh. -/
import Derived.Test.YtofklahgpkmfmaaGreatDoorQ11
import Derived.Test.YtofklahgpkmfmaaGreatDoorQ13
import Derived.Below
namespace Go.Proofs.YtofklahgpkmfmaaGreatDoor
/- Floats: Ldexp, on floats that are not below the normal ones. -/
section
open Go.RowKit
set_option maxHeartbeats 1000000 in
theorem Ldexp_of (a b : Nat) (k : Int) (w : World) (hf : ∀ w, Calls Tryz.prog 141 #[.float .f64 a, .int .i64 k] w fun e w' => e = .returned (.float .f64 b) ∧ w' = w) :
   Calls Tryz.prog 116 #[.float .f64 a, .int .i64 k] w fun e w' => e = .returned (.float .f64 b) ∧ w' = w := by
 have HF : Hid _ := hf
 clear hf
 go_enter Tryz.func116, Tryz.ntmps116
 go_wp2_with (first | (go_at_call 141; refine (HF.out _).mono ?_; rintro e w' ⟨rfl, rfl⟩))
 go_ret
 exact ⟨rfl, rfl⟩
end

/- Tame and safe, as the document has them: the two questions. -/
section
open Go.RowKit
end

/- What is refused. -/
section
open Go.RowKit
end

/- The steps of sums, halves and products: each is the float that the language has of it. -/
section
open Go.RowKit
structure TwoSum (a b x fb fa lb la y : Nat) : Prop where
 s0 : floatBits .add .f64 a b = some x
 s1 : floatBits .sub .f64 x a = some fb
 s2 : floatBits .sub .f64 x fb = some fa
 s3 : floatBits .sub .f64 b fb = some lb
 s4 : floatBits .sub .f64 a fa = some la
 s5 : floatBits .add .f64 la lb = some y
end

/- A float's halves, and two floats multiplied (Veltkamp, Dekker), in plain numbers. -/
section
end

/- Two floats multiplied: what is rounded off is told exactly (Dekker), in plain numbers. -/
section
theorem RN.neg {q x : Rat} (h : RN q x) : RN (-q) (-x) := by obtain ⟨T, k, R⟩ := h; exact ⟨T, _, R.neg⟩
end

/- awake: the examples. -/
section
open Go.RowKit
theorem ex1 : TwoSum 4845873199050653696 4607182418800017408 4845873199050653696 0 4845873199050653696 4607182418800017408 0 4607182418800017408 := ⟨by decide +kernel, by decide +kernel, by decide +kernel, by decide +kernel, by decide +kernel, by decide +kernel⟩
end
end Go.Proofs.YtofklahgpkmfmaaGreatDoor
