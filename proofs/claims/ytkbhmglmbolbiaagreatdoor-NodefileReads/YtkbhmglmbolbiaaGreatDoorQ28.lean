/- Own texts, put together: Ex. -/
import Derived.Test.YtkbhmglmbolbiaaGreatDoorQ24
/- What Sum, Diff and Prod answer, and what follows of it. -/
namespace Go.Proofs.YtkbhmglmbolbiaaGreatDoor
open Go.RowKit
def Pair (dom : Prop) (q : Rat) (x y : Nat) : Prop :=
 Fin64 x ∧ Fin64 y ∧ x < 18446744073709551616 ∧ y < 18446744073709551616 ∧ ((dom ∧ RV q (fval x) ∧ fval x + fval y = q) ∨ (¬ dom ∧ x = 0 ∧ y = 0))
theorem flip_lt {a : Nat} (h : a < 18446744073709551616) : fflip a < 18446744073709551616 := by unfold fflip; split <;> omega
theorem frung_flip {a : Nat} (h : a < 18446744073709551616) : frung (fflip a) = frung a := by unfold fflip frung; split <;> omega
theorem fval_flip {a : Nat} (h : a < 18446744073709551616) (hf : Fin64 a) : fval (fflip a) = -fval a := by
 unfold Fin64 frung at hf
 unfold fflip
 split
 · rename_i hs
   rw [Nat.add_comm]; exact fval_word (by omega)
 · rename_i hs
   obtain ⟨r, rfl⟩ : ∃ r, a = 9223372036854775808 + r := ⟨a - 9223372036854775808, by omega⟩
   rw [fval_word (by omega), show 9223372036854775808 + r - 9223372036854775808 = r by omega]; grind
def TameW (a b : Nat) : Prop := frung a ≤ 9110782046170513408 ∧ frung b ≤ 9110782046170513408
def SafeP (a b : Nat) : Prop := SafeW (frung a) ∧ SafeW (frung b)
end Go.Proofs.YtkbhmglmbolbiaaGreatDoor
