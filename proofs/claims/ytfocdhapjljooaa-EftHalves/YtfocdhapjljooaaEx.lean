/- What Sum, Diff and Prod answer, and what follows of it. -/
import Derived.Test.YtfocdhapjljooaaEw
import Derived.Test.YtfocdhapjljooaaEh
namespace Go.Proofs.Ytfocdhapjljooaa
open Go.RowKit

/-- A number's float and what was rounded off, if that is promised; else 0, 0. -/
def Pair (dom : Prop) (q : Rat) (x y : Nat) : Prop :=
  Fin64 x ∧ Fin64 y ∧ x < 18446744073709551616 ∧ y < 18446744073709551616 ∧ ((dom ∧ RV q (fval x) ∧ fval x + fval y = q) ∨ (¬ dom ∧ x = 0 ∧ y = 0))

theorem pair_zero {dom : Prop} {q : Rat} (h : ¬ dom) : Pair dom q 0 0 := ⟨fin_zero, fin_zero, by omega, by omega, Or.inr ⟨h, rfl, rfl⟩⟩

theorem flip_lt {a : Nat} (h : a < 18446744073709551616) : fflip a < 18446744073709551616 := by unfold fflip; split <;> omega
theorem frung_flip {a : Nat} (h : a < 18446744073709551616) : frung (fflip a) = frung a := by unfold fflip frung; split <;> omega
theorem fval_flip {a : Nat} (h : a < 18446744073709551616) (hf : Fin64 a) : fval (fflip a) = -fval a := by
  unfold Fin64 frung at hf
  unfold fflip
  split
  · rename_i hs
    rw [Nat.add_comm]; exact fval_word (by omega)
  · rename_i hs
    obtain ⟨r, rfl⟩ : ∃ r, a = 9223372036854775808 + r := ⟨a - 9223372036854775808, by omega⟩
    rw [fval_word (by omega), show 9223372036854775808 + r - 9223372036854775808 = r by omega]; grind

theorem order_same {x v : Nat} (hx : Fin64 x) (hv : Fin64 v) (h : fval x = fval v) : (FloatKind.f64.format.order x v == some .eq) = true := by
  show (Ieee.double.order x v == some .eq) = true
  rw [order_fin hx hv, h, if_neg Rat.lt_irrefl, if_pos rfl]; rfl

theorem pair_rest {dom : Prop} {q : Rat} {x y : Nat} (h : Pair dom q x y) (hL : dom → Lim q) : ∃ s, floatBits .add .f64 x y = some s ∧ (FloatKind.f64.format.order s x == some .eq) = true := by
  obtain ⟨fx, fy, _, _, h⟩ := h
  rcases h with ⟨hd, hv, he⟩ | ⟨_, rfl, rfl⟩
  · obtain ⟨s, hs, fs, _, hr⟩ := add_bits fx fy (by rw [he]; exact hL hd)
    rw [he] at hr
    exact ⟨s, hs, order_same fs fx (hr.fn hv)⟩
  · exact ⟨0, by decide +kernel, by decide +kernel⟩

theorem pair_eq {dom dom' : Prop} {q q' : Rat} {x y v w : Nat} (h : Pair dom q x y) (h' : Pair dom' q' v w) (hd : dom ↔ dom') (hq : dom → q = q') :
    (FloatKind.f64.format.order x v == some .eq) = true ∧ (FloatKind.f64.format.order y w == some .eq) = true := by
  obtain ⟨fx, fy, _, _, h⟩ := h
  obtain ⟨fv, fw, _, _, h'⟩ := h'
  rcases h with ⟨d, hv, he⟩ | ⟨d, rfl, rfl⟩ <;> rcases h' with ⟨d', hv', he'⟩ | ⟨d', rfl, rfl⟩
  · have e := hq d
    subst e
    have e1 := hv.fn hv'
    exact ⟨order_same fx fv e1, order_same fy fw (by grind)⟩
  · exact absurd (hd.1 d) d'
  · exact absurd (hd.2 d') d
  · exact ⟨order_same fx fv rfl, order_same fy fw rfl⟩

theorem pair_neg {dom dom' : Prop} {q q' : Rat} {x y v w : Nat} (h : Pair dom q x y) (h' : Pair dom' q' v w) (hd : dom ↔ dom') (hq : dom → q' = -q) :
    (FloatKind.f64.format.order v (fflip x) == some .eq) = true ∧ (FloatKind.f64.format.order w (fflip y) == some .eq) = true := by
  obtain ⟨fx, fy, lx, ly, h⟩ := h
  obtain ⟨fv, fw, _, _, h'⟩ := h'
  have gx : Fin64 (fflip x) := by unfold Fin64; rw [frung_flip lx]; exact fx
  have gy : Fin64 (fflip y) := by unfold Fin64; rw [frung_flip ly]; exact fy
  have vx := fval_flip lx fx
  have vy := fval_flip ly fy
  rcases h with ⟨d, hv, he⟩ | ⟨d, rfl, rfl⟩ <;> rcases h' with ⟨d', hv', he'⟩ | ⟨d', rfl, rfl⟩
  · have e := hq d
    subst e
    have e1 := hv.neg.fn hv'
    exact ⟨order_same fv gx (by rw [vx]; grind), order_same fw gy (by rw [vy]; grind)⟩
  · exact absurd (hd.1 d) d'
  · exact absurd (hd.2 d') d
  · rw [fval_zero] at vx
    have z : (0 : Rat) = -0 := by grind
    exact ⟨order_same fv gx (by rw [vx, fval_zero]; exact z), order_same fw gy (by rw [vx, fval_zero]; exact z)⟩

def TameW (a b : Nat) : Prop := frung a ≤ 9110782046170513408 ∧ frung b ≤ 9110782046170513408
def SafeP (a b : Nat) : Prop := SafeW (frung a) ∧ SafeW (frung b)

theorem sum_pair (a b : Nat) (w : World) (ha : a < 18446744073709551616) (hb : b < 18446744073709551616) :
    Calls Try.prog 9 #[.float .f64 a, .float .f64 b] w fun e w' => (∃ x y, e = .returned (.tuple #[.float .f64 x, .float .f64 y]) ∧ Pair (TameW a b) (fval a + fval b) x y) ∧ Below w.heap.size w w' := by
  by_cases h : TameW a b
  · obtain ⟨x, fb, fa, lb, la, y, hs, fx, fy, lx, ly, hv, he⟩ := twoSum_words h.1 h.2
    refine (sum_yes a b x fb fa lb la y w ha hb h.1 h.2 hs).mono ?_
    rintro e w' ⟨rfl, hbel⟩
    exact ⟨⟨x, y, rfl, fx, fy, lx, ly, Or.inl ⟨h, hv, he⟩⟩, hbel⟩
  · refine (sum_no a b w ha hb h).mono ?_
    rintro e w' ⟨rfl, hbel⟩
    exact ⟨⟨0, 0, rfl, pair_zero h⟩, hbel⟩

theorem diff_pair (a b : Nat) (w : World) (ha : a < 18446744073709551616) (hb : b < 18446744073709551616) :
    Calls Try.prog 10 #[.float .f64 a, .float .f64 b] w fun e w' => (∃ x y, e = .returned (.tuple #[.float .f64 x, .float .f64 y]) ∧ Pair (TameW a b) (fval a - fval b) x y) ∧ Below w.heap.size w w' := by
  by_cases h : TameW a b
  · obtain ⟨x, fb, fa, lb, la, y, hs, fx, fy, lx, ly, hv, he⟩ := twoSum_words (b := fflip b) h.1 (by rw [frung_flip hb]; exact h.2)
    rw [fval_flip hb (by unfold Fin64; have := h.2; omega), show fval a + -fval b = fval a - fval b by grind] at hv he
    refine (diff_yes a b x fb fa lb la y w ha hb h.1 h.2 hs).mono ?_
    rintro e w' ⟨rfl, hbel⟩
    exact ⟨⟨x, y, rfl, fx, fy, lx, ly, Or.inl ⟨h, hv, he⟩⟩, hbel⟩
  · refine (diff_no a b w ha hb h).mono ?_
    rintro e w' ⟨rfl, hbel⟩
    exact ⟨⟨0, 0, rfl, pair_zero h⟩, hbel⟩

theorem prod_pair (a b : Nat) (w : World) (ha : a < 18446744073709551616) (hb : b < 18446744073709551616) :
    Calls Try.prog 13 #[.float .f64 a, .float .f64 b] w fun e w' => (∃ x y, e = .returned (.tuple #[.float .f64 x, .float .f64 y]) ∧ Pair (SafeP a b) (fval a * fval b) x y) ∧ Below w.heap.size w w' := by
  by_cases h : SafeP a b
  · obtain ⟨x, a1, a2, b1, b2, p1, l1, q2, l2, p3, l3, p4, y, c, d, c', d', H1, H2, hs, fx, fy, lx, ly, hv, he⟩ := prod_words h.1 h.2
    refine (prod_yes a b x a1 a2 b1 b2 p1 l1 q2 l2 p3 l3 p4 y c d c' d' w ha hb h.1 h.2 H1 H2 hs).mono ?_
    rintro e w' ⟨rfl, hbel⟩
    exact ⟨⟨x, y, rfl, fx, fy, lx, ly, Or.inl ⟨h, hv, he⟩⟩, hbel⟩
  · refine (prod_no a b w ha hb h).mono ?_
    rintro e w' ⟨rfl, hbel⟩
    exact ⟨⟨0, 0, rfl, pair_zero h⟩, hbel⟩

theorem lim_sum {a b : Nat} (h : TameW a b) : Lim (fval a + fval b) ∧ Lim (fval a - fval b) := by
  have b1 := tame_bound h.1
  have b2 := tame_bound h.2
  have hc := p2_pos 1000
  have ht := lim_top
  refine ⟨⟨?_, ?_⟩, ⟨?_, ?_⟩⟩ <;> rw [ht] <;> grind

theorem lim_prod {a b : Nat} (h : SafeP a b) : Lim (fval a * fval b) := by
  have b1 := safe_bound h.1
  have b2 := safe_bound h.2
  have he := p2_pos 450
  have := abs_mul_lt (a := fval a) (b := 2 * p2 450) (c := fval b) (d := 2 * p2 450) (by grind) (by grind) (by grind) (by grind)
  have ht : 2 * p2 450 * (2 * p2 450) ≤ p2 1023 := by
    rw [show 2 * p2 450 * (2 * p2 450) = p2 (1 + 450 + (1 + 450)) by rw [p2_add, p2_add, p2_one]]; exact p2_mono (by omega)
  exact ⟨by grind, by grind⟩


end Go.Proofs.Ytfocdhapjljooaa
