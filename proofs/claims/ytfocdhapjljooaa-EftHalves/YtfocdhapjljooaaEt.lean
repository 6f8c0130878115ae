/- Sums of tame words: what is rounded off is told exactly. -/
import Derived.Test.YtfocdhapjljooaaEs
import Derived.Test.YtfocdhapjljooaaEg
namespace Go.Proofs.Ytfocdhapjljooaa

/-- A rounded number is at most twice as great. -/
theorem RN.twice {q x c : Rat} (h : RN q x) (h1 : q ≤ c) (h2 : -q ≤ c) : x ≤ 2 * c ∧ -x ≤ 2 * c := by
  obtain ⟨T, k, R⟩ := h
  have := R.best (y := 0) (c := c) F_zero (by grind) (by grind)
  constructor <;> grind

theorem fval_abs (b : Nat) : (fval b = fval (frung b) ∨ fval b = -fval (frung b)) := by
  have e1 : frung (frung b) = frung b := by unfold frung; omega
  have e2 : fneg (frung b) = false := by unfold fneg frung; simp
  rw [fval_eq b, fval_eq (frung b), e1, e2]
  generalize ((fmag (frung b) : Nat) : Rat) * p2 (fpl (frung b)) = z
  cases fneg b <;> simp [sgn1] <;> grind

theorem tame_top : fval 9110782046170513408 = p2 1000 := by
  rw [(fval_pos_lt (by omega)).1, show fmag 9110782046170513408 = 4503599627370496 by decide, show fpl 9110782046170513408 = 948 by decide]
  rw [show (1000 : Int) = 948 + ((52 : Nat) : Int) by omega, p2_add, p2_nat, Rat.mul_comm]

theorem tame_bound {a : Nat} (h : frung a ≤ 9110782046170513408) : fval a ≤ p2 1000 ∧ -fval a ≤ p2 1000 := by
  have h1 : fval (frung a) ≤ p2 1000 := by
    rw [← tame_top]
    rcases Nat.lt_or_ge (frung a) 9110782046170513408 with e | e
    · exact Rat.le_of_lt (fval_lt e (by omega))
    · rw [show frung a = 9110782046170513408 by omega]; exact Rat.le_refl
  have h2 := fval_nonneg (r := frung a) (by omega)
  rcases fval_abs a with e | e <;> rw [e] <;> constructor <;> grind

theorem lim_top : p2 1023 = 8388608 * p2 1000 := by
  rw [show (1023 : Int) = ((23 : Nat) : Int) + 1000 by omega, p2_add, p2_nat]; rfl

theorem twoSum_words {a b : Nat} (ha : frung a ≤ 9110782046170513408) (hb : frung b ≤ 9110782046170513408) :
    ∃ x fb fa lb la y, TwoSum a b x fb fa lb la y ∧ Fin64 x ∧ Fin64 y ∧ x < 18446744073709551616 ∧ y < 18446744073709551616 ∧ RV (fval a + fval b) (fval x) ∧ fval x + fval y = fval a + fval b := by
  have fa_ : Fin64 a := by unfold Fin64; omega
  have fb_ : Fin64 b := by unfold Fin64; omega
  have ba := tame_bound ha
  have bb := tame_bound hb
  have hc := p2_pos 1000
  have ht := lim_top
  generalize p2 1000 = c at *
  have lim : ∀ q : Rat, q ≤ 1000 * c → -q ≤ 1000 * c → Lim q := fun q h1 h2 => ⟨by rw [ht]; grind, by rw [ht]; grind⟩
  obtain ⟨x, s0, fx, lx, rx⟩ := add_bits fa_ fb_ (lim _ (by grind) (by grind))
  have bx := rx.rn.twice (c := 2 * c) (by grind) (by grind)
  obtain ⟨vb, s1, fvb, lvb, rvb⟩ := sub_bits fx fa_ (lim _ (by grind) (by grind))
  have bvb := rvb.rn.twice (c := 5 * c) (by grind) (by grind)
  obtain ⟨va, s2, fva, lva, rva⟩ := sub_bits fx fvb (lim _ (by grind) (by grind))
  have bva := rva.rn.twice (c := 14 * c) (by grind) (by grind)
  obtain ⟨lb, s3, flb, llb, rlb⟩ := sub_bits fb_ fvb (lim _ (by grind) (by grind))
  have blb := rlb.rn.twice (c := 11 * c) (by grind) (by grind)
  obtain ⟨la, s4, fla, lla, rla⟩ := sub_bits fa_ fva (lim _ (by grind) (by grind))
  have bla := rla.rn.twice (c := 29 * c) (by grind) (by grind)
  obtain ⟨y, s5, fy, ly, ry⟩ := add_bits fla flb (lim _ (by grind) (by grind))
  exact ⟨x, vb, va, lb, la, y, ⟨s0, s1, s2, s3, s4, s5⟩, fx, fy, lx, ly, rx, twoSum_exact (fc_word fa_) (fc_word fb_) (fc_word fx) rx.rn rvb.rn rva.rn rlb.rn rla.rn ry.rn⟩

end Go.Proofs.Ytfocdhapjljooaa
