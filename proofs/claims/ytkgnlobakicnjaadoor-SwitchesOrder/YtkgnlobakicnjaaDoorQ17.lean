/- Own texts, put together: Es. -/
import Derived.Test.YtkgnlobakicnjaaDoorQ11
/- Sums, differences and products of words. -/
namespace Go.Proofs.YtkgnlobakicnjaaDoor
def Lim (q : Rat) : Prop := q < p2 1023 ∧ -q < p2 1023
theorem abs_total (n : Int) (u : Rat) : ((n.natAbs : Nat) : Rat) * u = (if n < 0 then -((n : Rat) * u) else (n : Rat) * u) := by
 by_cases h : n < 0
 · rw [if_pos h]
   have e : ((n.natAbs : Nat) : Rat) = ((-n : Int) : Rat) := by
     rw [show ((n.natAbs : Nat) : Rat) = ((n.natAbs : Int) : Rat) from rfl, show (n.natAbs : Int) = -n by omega]
   rw [e, Rat.intCast_neg]; grind
 · rw [if_neg h]
   rw [show ((n.natAbs : Nat) : Rat) = ((n.natAbs : Int) : Rat) from rfl, show (n.natAbs : Int) = n by omega]
theorem fval_eq (b : Nat) : fval b = sgn1 (fneg b) * ((fmag (frung b) : Nat) * p2 (fpl (frung b))) := rfl
end Go.Proofs.YtkgnlobakicnjaaDoor
