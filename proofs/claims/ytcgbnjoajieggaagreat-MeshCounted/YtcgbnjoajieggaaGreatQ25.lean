/- Own texts, put together: Zq Zr Zs. -/
import Derived.Test.YtcgbnjoajieggaaGreatQ10
import Derived.Test.YtcgbnjoajieggaaGreatQ16
import Derived.Test.YtcgbnjoajieggaaGreatQ19
import Derived.Test.YtcgbnjoajieggaaGreatQ24
namespace Go.Proofs.YtcgbnjoajieggaaGreat
/- The reference's Mul, High and Low of whatever numbers. -/
section
open Go.RowKit
set_option maxHeartbeats 1000000 in
theorem mul_zero (a1 a2 : Option Addr) (n1 n2 c1 c2 : Nat) (S1 S2 E1 E2 : Int) (w : World) (h : S1 = 0 ∨ S2 = 0) :
   Calls Tryz.prog 119 #[.agg #[.int .i64 S1, .slice a1 n1 c1, .int .i64 E1], .agg #[.int .i64 S2, .slice a2 n2 c2, .int .i64 E2]] w fun e w' => e = .returned (.agg #[.int .i64 0, .slice none 0 0, .int .i64 0]) ∧ Below w.heap.size w w' := by
 by_cases h1 : S1 = 0
 · subst h1
   clear h
   go_enter Tryz.func119, Tryz.ntmps119
   go_wp2
   refine bodyPost_ret (v := .agg #[.int .i64 0, .slice none 0 0, .int .i64 0]) (by simp [results, Tryz.results119, go_sem]) rfl ?_
   exact ⟨rfl, below3 _ _ _ _⟩
 · obtain rfl : S2 = 0 := h.resolve_left h1
   have h1' : (S1 == 0) = false := by simpa using h1
   clear h h1
   go_enter Tryz.func119, Tryz.ntmps119
   go_wp2
   refine bodyPost_ret (v := .agg #[.int .i64 0, .slice none 0 0, .int .i64 0]) (by simp [results, Tryz.results119, go_sem]) rfl ?_
   exact ⟨rfl, below3 _ _ _ _⟩
end

/- The reference's Of: what a float denotes. -/
section
open Go.RowKit
def den (b : Nat) : Rat := if frung b < 9218868437227405312 then fval b else 0
def nanW (a b : Nat) (w : World) : Nat := Question.cut (.nanBits .f64 a b) (w.tape w.drawn (.nanBits .f64 a b))
end

/- The reference's Of, of any float. -/
section
open Go.RowKit
theorem order_val {a b : Nat} (ha : Fin64 a) (hb : Fin64 b) : FloatKind.f64.format.order a b = some (if fval a < fval b then .lt else if fval a = fval b then .eq else .gt) := order_fin ha hb
theorem fin0 : Fin64 0 := by unfold Fin64 frung; decide
theorem fval0 : fval 0 = 0 := fval_zero_iff.2 rfl
end
end Go.Proofs.YtcgbnjoajieggaaGreat
