/- Own texts, put together: Ee Ef Eg Et Eh. -/
import Derived.Test.YtgoadpnoagaflaaGreatDoorQ21
import Derived.Below
namespace Go.Proofs.YtgoadpnoagaflaaGreatDoor
/- Tame and safe, as the document has them: the two questions. -/
section
open Go.RowKit
end

/- What is refused. -/
section
open Go.RowKit
end

/- The steps of sums, halves and products: each is the float that the language has of it. -/
section
open Go.RowKit
structure TwoSum (a b x fb fa lb la y : Nat) : Prop where
 s0 : floatBits .add .f64 a b = some x
 s1 : floatBits .sub .f64 x a = some fb
 s2 : floatBits .sub .f64 x fb = some fa
 s3 : floatBits .sub .f64 b fb = some lb
 s4 : floatBits .sub .f64 a fa = some la
 s5 : floatBits .add .f64 la lb = some y
end

/- Sums of tame words: what is rounded off is told exactly. -/
section
theorem fval_abs (b : Nat) : (fval b = fval (frung b) ∨ fval b = -fval (frung b)) := by
 have e1 : frung (frung b) = frung b := by unfold frung; omega
 have e2 : fneg (frung b) = false := by unfold fneg frung; simp
 rw [fval_eq b, fval_eq (frung b), e1, e2]
 generalize ((fmag (frung b) : Nat) : Rat) * p2 (fpl (frung b)) = z
 cases fneg b <;> simp [sgn1] <;> grind
theorem tame_top : fval 9110782046170513408 = p2 1000 := by
 rw [(fval_pos_lt (by omega)).1, show fmag 9110782046170513408 = 4503599627370496 by decide, show fpl 9110782046170513408 = 948 by decide]
 rw [show (1000 : Int) = 948 + ((52 : Nat) : Int) by omega, p2_add, p2_nat, Rat.mul_comm]
end

/- awake: the examples. -/
section
open Go.RowKit
theorem ex1 : TwoSum 4845873199050653696 4607182418800017408 4845873199050653696 0 4845873199050653696 4607182418800017408 0 4607182418800017408 := ⟨by decide +kernel, by decide +kernel, by decide +kernel, by decide +kernel, by decide +kernel, by decide +kernel⟩
end
end Go.Proofs.YtgoadpnoagaflaaGreatDoor
