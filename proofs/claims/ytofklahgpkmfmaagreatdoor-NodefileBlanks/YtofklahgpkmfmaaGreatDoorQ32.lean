/- Own texts, put together: Of Og Oh Oi Oj. -/
import Derived.Test.YtofklahgpkmfmaaGreatDoorQ4
import Derived.Test.YtofklahgpkmfmaaGreatDoorQ30
namespace Go.Proofs.YtofklahgpkmfmaaGreatDoor
/- Package orient: grown, differences as lists. -/
section
open Go.RowKit Go.Shelf
attribute [local go_sem ↓] Go.wp_at_zero Go.wp_at_succ
attribute [local go_sem] run_store_float
def pl (y x : Nat) (k : Nat) : List Nat := if k = 0 then [] else if k = 1 then gw [] y else gw (gw [] y) x
end

/- Package orient: exactSign, Sign. -/
section
open Go.RowKit Go.Shelf
attribute [local go_sem ↓] Go.wp_at_zero Go.wp_at_succ
attribute [local go_sem] run_store_float
end

/- Package orient: On, Cross. -/
section
open Go.RowKit Go.Shelf
attribute [local go_sem ↓] Go.wp_at_zero Go.wp_at_succ
attribute [local go_sem] run_store_float
def Btw (a b x : Rat) : Prop := (a ≤ x ∧ x ≤ b) ∨ (b ≤ x ∧ x ≤ a)
def OnP (ax ay bx by' px py : Nat) : Prop := P3 ax ay bx by' px py ∧ Btw (fval ax) (fval bx) (fval px) ∧ Btw (fval ay) (fval by') (fval py) ∧ S3 ax ay bx by' px py = 0
end

/- Package orient: Cross. -/
section
open Go.RowKit Go.Shelf
end

/- Which points may be, by reckoning. -/
section
theorem den_one {q : Rat} : q.den = 1 ↔ ∃ k : Int, q = (k : Rat) := by
 constructor
 · intro h
   refine ⟨q.num, ?_⟩
   apply Rat.ext
   · simp
   · simp [h]
 · rintro ⟨k, rfl⟩
   simp
theorem crd_iff (x : Nat) : Crd x ↔ frung x ≤ 5057542381537067008 ∧ (fval x * U 1174).den = 1 := by
 unfold Crd
 rw [den_one, ← M_one, steps_one]
instance (x : Nat) : Decidable (Crd x) := decidable_of_iff _ (crd_iff x).symm
instance (x y : Nat) : Decidable (Pt x y) := by unfold Pt; exact inferInstance
instance (ax ay bx by' cx cy : Nat) : Decidable (P3 ax ay bx by' cx cy) := by unfold P3; exact inferInstance
instance (a b x : Rat) : Decidable (Btw a b x) := by unfold Btw; exact inferInstance
instance (ax ay bx by' cx cy : Nat) : Decidable (OnP ax ay bx by' cx cy) := by unfold OnP; exact inferInstance
end
end Go.Proofs.YtofklahgpkmfmaaGreatDoor
