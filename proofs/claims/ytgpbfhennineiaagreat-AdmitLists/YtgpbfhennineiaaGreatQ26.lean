/- Own texts, put together: Ex. -/
import Derived.Test.YtgpbfhennineiaaGreatQ22
import Derived.Test.YtgpbfhennineiaaGreatQ23
/- What Sum, Diff and Prod answer, and what follows of it. -/
namespace Go.Proofs.YtgpbfhennineiaaGreat
open Go.RowKit
def Pair (dom : Prop) (q : Rat) (x y : Nat) : Prop :=
 Fin64 x ∧ Fin64 y ∧ x < 18446744073709551616 ∧ y < 18446744073709551616 ∧ ((dom ∧ RV q (fval x) ∧ fval x + fval y = q) ∨ (¬ dom ∧ x = 0 ∧ y = 0))
theorem pair_zero {dom : Prop} {q : Rat} (h : ¬ dom) : Pair dom q 0 0 := ⟨fin_zero, fin_zero, by omega, by omega, Or.inr ⟨h, rfl, rfl⟩⟩
theorem flip_lt {a : Nat} (h : a < 18446744073709551616) : fflip a < 18446744073709551616 := by unfold fflip; split <;> omega
theorem frung_flip {a : Nat} (h : a < 18446744073709551616) : frung (fflip a) = frung a := by unfold fflip frung; split <;> omega
theorem fval_flip {a : Nat} (h : a < 18446744073709551616) (hf : Fin64 a) : fval (fflip a) = -fval a := by
 unfold Fin64 frung at hf
 unfold fflip
 split
 · rename_i hs
   rw [Nat.add_comm]; exact fval_word (by omega)
 · rename_i hs
   obtain ⟨r, rfl⟩ : ∃ r, a = 9223372036854775808 + r := ⟨a - 9223372036854775808, by omega⟩
   rw [fval_word (by omega), show 9223372036854775808 + r - 9223372036854775808 = r by omega]; grind
def TameW (a b : Nat) : Prop := frung a ≤ 9110782046170513408 ∧ frung b ≤ 9110782046170513408
def SafeP (a b : Nat) : Prop := SafeW (frung a) ∧ SafeW (frung b)
theorem sum_pair (a b : Nat) (w : World) (ha : a < 18446744073709551616) (hb : b < 18446744073709551616) :
   Calls Tryz.prog 99 #[.float .f64 a, .float .f64 b] w fun e w' => (∃ x y, e = .returned (.tuple #[.float .f64 x, .float .f64 y]) ∧ Pair (TameW a b) (fval a + fval b) x y) ∧ Below w.heap.size w w' := by
 by_cases h : TameW a b
 · obtain ⟨x, fb, fa, lb, la, y, hs, fx, fy, lx, ly, hv, he⟩ := twoSum_words h.1 h.2
   refine (sum_yes a b x fb fa lb la y w ha hb h.1 h.2 hs).mono ?_
   rintro e w' ⟨rfl, hbel⟩
   exact ⟨⟨x, y, rfl, fx, fy, lx, ly, Or.inl ⟨h, hv, he⟩⟩, hbel⟩
 · refine (sum_no a b w ha hb h).mono ?_
   rintro e w' ⟨rfl, hbel⟩
   exact ⟨⟨0, 0, rfl, pair_zero h⟩, hbel⟩
theorem diff_pair (a b : Nat) (w : World) (ha : a < 18446744073709551616) (hb : b < 18446744073709551616) :
   Calls Tryz.prog 60 #[.float .f64 a, .float .f64 b] w fun e w' => (∃ x y, e = .returned (.tuple #[.float .f64 x, .float .f64 y]) ∧ Pair (TameW a b) (fval a - fval b) x y) ∧ Below w.heap.size w w' := by
 by_cases h : TameW a b
 · obtain ⟨x, fb, fa, lb, la, y, hs, fx, fy, lx, ly, hv, he⟩ := twoSum_words (b := fflip b) h.1 (by rw [frung_flip hb]; exact h.2)
   rw [fval_flip hb (by unfold Fin64; have := h.2; omega), show fval a + -fval b = fval a - fval b by grind] at hv he
   refine (diff_yes a b x fb fa lb la y w ha hb h.1 h.2 hs).mono ?_
   rintro e w' ⟨rfl, hbel⟩
   exact ⟨⟨x, y, rfl, fx, fy, lx, ly, Or.inl ⟨h, hv, he⟩⟩, hbel⟩
 · refine (diff_no a b w ha hb h).mono ?_
   rintro e w' ⟨rfl, hbel⟩
   exact ⟨⟨0, 0, rfl, pair_zero h⟩, hbel⟩
theorem prod_pair (a b : Nat) (w : World) (ha : a < 18446744073709551616) (hb : b < 18446744073709551616) :
   Calls Tryz.prog 103 #[.float .f64 a, .float .f64 b] w fun e w' => (∃ x y, e = .returned (.tuple #[.float .f64 x, .float .f64 y]) ∧ Pair (SafeP a b) (fval a * fval b) x y) ∧ Below w.heap.size w w' := by
 by_cases h : SafeP a b
 · obtain ⟨x, a1, a2, b1, b2, p1, l1, q2, l2, p3, l3, p4, y, c, d, c', d', H1, H2, hs, fx, fy, lx, ly, hv, he⟩ := prod_words h.1 h.2
   refine (prod_yes a b x a1 a2 b1 b2 p1 l1 q2 l2 p3 l3 p4 y c d c' d' w ha hb h.1 h.2 H1 H2 hs).mono ?_
   rintro e w' ⟨rfl, hbel⟩
   exact ⟨⟨x, y, rfl, fx, fy, lx, ly, Or.inl ⟨h, hv, he⟩⟩, hbel⟩
 · refine (prod_no a b w ha hb h).mono ?_
   rintro e w' ⟨rfl, hbel⟩
   exact ⟨⟨0, 0, rfl, pair_zero h⟩, hbel⟩
end Go.Proofs.YtgpbfhennineiaaGreat
