/- Own texts, put together: Zs. -/
import Derived.Test.YtocnkgfoffpbfaaGreatDoorQ15
/- The reference's Of, of any float. -/
namespace Go.Proofs.YtocnkgfoffpbfaaGreatDoor
open Go.RowKit

theorem order_val {a b : Nat} (ha : Fin64 a) (hb : Fin64 b) : FloatKind.f64.format.order a b = some (if fval a < fval b then .lt else if fval a = fval b then .eq else .gt) := order_fin ha hb
theorem fin0 : Fin64 0 := by unfold Fin64 frung; decide
theorem fval0 : fval 0 = 0 := fval_zero_iff.2 rfl
theorem rv_zero {x : Rat} (h : RV 0 x) : x = 0 := by
 obtain ⟨r, _, h⟩ := h
 rcases h with ⟨_, n, rfl⟩ | ⟨_, n, rfl⟩
 · rw [near_zero n]; exact fval0
 · rw [show (-0 : Rat) = 0 by grind] at n
   rw [near_zero n, fval0]; grind
end Go.Proofs.YtocnkgfoffpbfaaGreatDoor
