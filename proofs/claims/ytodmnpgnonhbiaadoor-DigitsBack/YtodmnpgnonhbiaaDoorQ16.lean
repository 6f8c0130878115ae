/- Own texts, put together: Zr Zs. -/
import Derived.Test.YtodmnpgnonhbiaaDoorQ8
import Derived.Test.YtodmnpgnonhbiaaDoorQ9
import Derived.Test.YtodmnpgnonhbiaaDoorQ12
import Derived.Test.YtodmnpgnonhbiaaDoorQ13
namespace Go.Proofs.YtodmnpgnonhbiaaDoor
/- The reference's Of: what a float denotes. -/
section
open Go.RowKit
def nanW (a b : Nat) (w : World) : Nat := Question.cut (.nanBits .f64 a b) (w.tape w.drawn (.nanBits .f64 a b))
theorem nanW_nan (a b : Nat) (w : World) : 9218868437227405312 < frung (nanW a b w) ∧ nanW a b w < 18446744073709551616 := by
 unfold nanW frung
 generalize w.tape w.drawn (.nanBits .f64 a b) = t
 simp only [Question.cut]
 have h1 : t % 2 < 2 := Nat.mod_lt _ (by omega)
 have h2 : (t / 2) % (2 ^ 52 - 1) < 2 ^ 52 - 1 := Nat.mod_lt _ (by omega)
 generalize t % 2 = x at *
 generalize (t / 2) % (2 ^ 52 - 1) = y at *
 omega
theorem run_sub_nan (a b : Nat) (h : floatBits .sub .f64 a b = none) (w : World) : (binOp .sub 23 (.float .f64 a) (.float .f64 b)).run Tryd.prog w = .ok (.float .f64 (nanW a b w)) w.drew := by
 have h' : FloatKind.f64.format.sub a b = none := h
 simp [binOp, Op.floatArith, h', nanW, Question.forced]
theorem nan_order {n : Nat} (h : 9218868437227405312 < frung n) (c : Nat) : FloatKind.f64.format.order n c = none := order_nan_left h
end

/- The reference's Of, of any float. -/
section
open Go.RowKit
theorem order_val {a b : Nat} (ha : Fin64 a) (hb : Fin64 b) : FloatKind.f64.format.order a b = some (if fval a < fval b then .lt else if fval a = fval b then .eq else .gt) := order_fin ha hb
theorem fin0 : Fin64 0 := by unfold Fin64 frung; decide
theorem fval0 : fval 0 = 0 := fval_zero_iff.2 rfl
theorem rv_zero {x : Rat} (h : RV 0 x) : x = 0 := by
 obtain ⟨r, _, h⟩ := h
 rcases h with ⟨_, n, rfl⟩ | ⟨_, n, rfl⟩
 · rw [near_zero n]; exact fval0
 · rw [show (-0 : Rat) = 0 by grind] at n
   rw [near_zero n, fval0]; grind
theorem self_sub {b : Nat} (h : Fin64 b) : ∃ n, floatBits .sub .f64 b b = some n ∧ FloatKind.f64.format.order n 0 = some .eq := by
 obtain ⟨r, h1, h2, _, h3⟩ := sub_bits h h (by
   have := p2_pos 1023
   exact ⟨by grind, by grind⟩)
 rw [show fval b - fval b = 0 by grind] at h3
 have h4 := rv_zero h3
 refine ⟨r, h1, ?_⟩
 rw [order_val h2 fin0, h4, fval0, if_neg (by grind), if_pos rfl]
end
end Go.Proofs.YtodmnpgnonhbiaaDoor
