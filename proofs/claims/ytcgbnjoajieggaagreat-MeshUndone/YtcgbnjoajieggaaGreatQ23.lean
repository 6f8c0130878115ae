/- Own texts, put together: Zp. -/
import Derived.Test.YtcgbnjoajieggaaGreatQ20
import Derived.Deep.DrawnRows
/- The reference's Neg, Sub, Cmp, Abs of whatever numbers. -/
namespace Go.Proofs.YtcgbnjoajieggaaGreat
open Go.RowKit
attribute [local go_sem ↓] Go.wp_at_zero Go.wp_at_succ
theorem Canon.neg {S E : Int} {ds : List Nat} (h : Canon S ds E) : Canon (-S) ds E := by
 rcases h with ⟨a, b, c⟩ | ⟨a, b, c, d⟩
 · exact Or.inl ⟨a, by omega, c⟩
 · exact Or.inr ⟨a, by omega, c, d⟩
theorem Rf.sgn {w : World} {v : Value} {q : Rat} (h : Rf w v q) : ∃ S a n c E, v = .agg #[.int .i64 S, .slice a n c, .int .i64 E] ∧ ((S = 0 ∧ q = 0) ∨ (S = 1 ∧ 0 < q) ∨ (S = -1 ∧ q < 0)) := by
 obtain ⟨S, ds, E, h1, h2, rfl⟩ := h
 obtain ⟨a, c, rfl, _⟩ := h1.form
 exact ⟨S, a, _, c, E, rfl, canon_sgn h2⟩
def sgq (q : Rat) : Int := if q < 0 then -1 else if q = 0 then 0 else 1
end Go.Proofs.YtcgbnjoajieggaaGreat
