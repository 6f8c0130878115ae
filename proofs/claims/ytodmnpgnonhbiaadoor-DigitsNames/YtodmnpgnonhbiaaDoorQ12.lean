/- Own texts, put together: Zk Zl Zm Zn Zo Zp Zq. -/
import Derived.Test.YtodmnpgnonhbiaaDoorQ8
import Derived.Test.YtodmnpgnonhbiaaDoorQ9
import Derived.Deep.DrawnRows
import Derived.BigRegion
namespace Go.Proofs.YtodmnpgnonhbiaaDoor
/- The reference's Add: the walk, other signs. -/
section
open Go.RowKit
end

/- The reference's Add, Sub, Cmp, Abs, of whatever numbers. -/
section
open Go.RowKit
end

/- The reference's Add of whatever numbers; Sub, Cmp, Abs. -/
section
open Go.RowKit
end

/- The reference's Mul: what stands while it goes. -/
section
open Go.RowKit
structure MulW (w : World) (O R : Nat) (S1 S2 SS E1 E2 : Int) (sv1 sv2 : Value) (zs : List Nat) (W : World) : Prop where
 a : BoxN W w.heap.size S1 sv1 E1
 b : BoxN W (w.heap.size + 1) S2 sv2 E2
 r : BoxN W (w.heap.size + 2) 0 (.slice none 0 0) 0
 o : BoxN W O SS (.slice (some ⟨R, 0, none⟩) zs.length zs.length) (E1 + E2)
 row : W.ownsRow R 2 1 (.slice (some ⟨R, 0, none⟩) zs.length zs.length) zs.length (i64s zs)
 bel : Below w.heap.size w W
 o1 : w.heap.size + 3 ≤ O
 o2 : w.heap.size + 3 ≤ R
 o3 : O ≠ R
theorem MulW.drew {w W : World} {O R : Nat} {S1 S2 SS E1 E2 : Int} {sv1 sv2 : Value} {zs : List Nat} (h : MulW w O R S1 S2 SS E1 E2 sv1 sv2 zs W) : MulW w O R S1 S2 SS E1 E2 sv1 sv2 zs W.drew := ⟨h.a, h.b, h.r, h.o, h.row, h.bel.drew, h.o1, h.o2, h.o3⟩
end

/- The reference's Mul: the walk. -/
section
open Go.RowKit
attribute [local go_sem ↓] Go.wp_at_zero Go.wp_at_succ
end

/- The reference's Neg, Sub, Cmp, Abs of whatever numbers. -/
section
open Go.RowKit
attribute [local go_sem ↓] Go.wp_at_zero Go.wp_at_succ
theorem Canon.neg {S E : Int} {ds : List Nat} (h : Canon S ds E) : Canon (-S) ds E := by
 rcases h with ⟨a, b, c⟩ | ⟨a, b, c, d⟩
 · exact Or.inl ⟨a, by omega, c⟩
 · exact Or.inr ⟨a, by omega, c, d⟩
theorem Rf.sgn {w : World} {v : Value} {q : Rat} (h : Rf w v q) : ∃ S a n c E, v = .agg #[.int .i64 S, .slice a n c, .int .i64 E] ∧ ((S = 0 ∧ q = 0) ∨ (S = 1 ∧ 0 < q) ∨ (S = -1 ∧ q < 0)) := by
 obtain ⟨S, ds, E, h1, h2, rfl⟩ := h
 obtain ⟨a, c, rfl, _⟩ := h1.form
 exact ⟨S, a, _, c, E, rfl, canon_sgn h2⟩
end

/- The reference's Mul, High and Low of whatever numbers. -/
section
open Go.RowKit
set_option maxHeartbeats 1000000 in
theorem mul_zero (a1 a2 : Option Addr) (n1 n2 c1 c2 : Nat) (S1 S2 E1 E2 : Int) (w : World) (h : S1 = 0 ∨ S2 = 0) :
   Calls Tryd.prog 27 #[.agg #[.int .i64 S1, .slice a1 n1 c1, .int .i64 E1], .agg #[.int .i64 S2, .slice a2 n2 c2, .int .i64 E2]] w fun e w' => e = .returned (.agg #[.int .i64 0, .slice none 0 0, .int .i64 0]) ∧ Below w.heap.size w w' := by
 by_cases h1 : S1 = 0
 · subst h1
   clear h
   go_enter Tryd.func27, Tryd.ntmps27
   go_wp2
   refine bodyPost_ret (v := .agg #[.int .i64 0, .slice none 0 0, .int .i64 0]) (by simp [results, Tryd.results27, go_sem]) rfl ?_
   exact ⟨rfl, below3 _ _ _ _⟩
 · obtain rfl : S2 = 0 := h.resolve_left h1
   have h1' : (S1 == 0) = false := by simpa using h1
   clear h h1
   go_enter Tryd.func27, Tryd.ntmps27
   go_wp2
   refine bodyPost_ret (v := .agg #[.int .i64 0, .slice none 0 0, .int .i64 0]) (by simp [results, Tryd.results27, go_sem]) rfl ?_
   exact ⟨rfl, below3 _ _ _ _⟩
end
end Go.Proofs.YtodmnpgnonhbiaaDoor
