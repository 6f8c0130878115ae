/- Floats that are not below 0 are in the order of their words. -/
import Derived.Test.YtfocdhapjljooaaM8
namespace Go.Proofs.Ytfocdhapjljooaa

theorem fval_lt {r s : Nat} (h : r < s) (hs : s < 9218868437227405312) : fval r < fval s := by
  have h1 := (fval_pos_lt (Nat.lt_trans h hs)).1
  have h2 := (fval_pos_lt hs).1
  have key : (fpl r = fpl s ∧ fmag r < fmag s) ∨ (fpl r + 1 ≤ fpl s ∧ 4503599627370496 ≤ fmag s) := by
    unfold fpl fmag
    split <;> split <;> omega
  have hm := fmag_lt r
  rw [h1, h2]
  rcases key with ⟨e, hm⟩ | ⟨e, hm'⟩
  · rw [e]
    exact Rat.mul_lt_mul_of_pos_right (Rat.natCast_lt_natCast.2 hm) (p2_pos _)
  · have a1 := Rat.mul_lt_mul_of_pos_right (Rat.natCast_lt_natCast.2 hm) (p2_pos (fpl r))
    have a2 : ((9007199254740992 : Nat) : Rat) * p2 (fpl r) = ((4503599627370496 : Nat) : Rat) * p2 (fpl r + 1) := by
      rw [p2_add, p2_one, show ((9007199254740992 : Nat) : Rat) = ((4503599627370496 : Nat) : Rat) * 2 by decide +kernel]
      generalize ((4503599627370496 : Nat) : Rat) = X
      grind
    have a3 := Rat.mul_le_mul_of_nonneg_left (p2_mono e) (Rat.natCast_nonneg (a := 4503599627370496))
    have a4 := Rat.mul_le_mul_of_nonneg_right (Rat.natCast_le_natCast.2 hm') (Rat.le_of_lt (p2_pos (fpl s)))
    rw [a2] at a1
    generalize ((fmag r : Nat) : Rat) * p2 (fpl r) = X at *
    generalize ((4503599627370496 : Nat) : Rat) * p2 (fpl r + 1) = Y at *
    generalize ((4503599627370496 : Nat) : Rat) * p2 (fpl s) = Z at *
    generalize ((fmag s : Nat) : Rat) * p2 (fpl s) = V at *
    grind

/-- Two words that are no numbers' names below 0: as numbers in their order. -/
theorem order_rung {r s : Nat} (hr : r ≤ 9218868437227405312) (hs : s < 9218868437227405312) : Ieee.double.order r s = some (if r < s then .lt else if r = s then .eq else .gt) := by
  have hfs : Fin64 s := by unfold Fin64 frung; omega
  rcases Nat.lt_or_ge r 9218868437227405312 with h | h
  · have hfr : Fin64 r := by unfold Fin64 frung; omega
    rw [order_fin hfr hfs]
    rcases Nat.lt_trichotomy r s with e | e | e
    · rw [if_pos (fval_lt e hs), if_pos e]
    · subst e
      rw [if_neg Rat.lt_irrefl, if_pos rfl, if_neg (Nat.lt_irrefl _), if_pos rfl]
    · have := fval_lt e h
      rw [if_neg (by grind), if_neg (by grind), if_neg (by omega), if_neg (by omega)]
  · have e : r = 9218868437227405312 := by omega
    subst e
    rw [order_inf_fin (by unfold frung; omega) hfs]
    have : fneg 9218868437227405312 = false := by decide
    rw [this, if_neg (by decide : ¬ (false = true)), if_neg (by omega : ¬ 9218868437227405312 < s), if_neg (by omega : ¬ 9218868437227405312 = s)]

/-- A word of either sign and 0. -/
theorem fval_word {r : Nat} (h : r < 9218868437227405312) : fval (9223372036854775808 + r) = -fval r := by
  have e1 : frung (9223372036854775808 + r) = r := by unfold frung; omega
  have e2 : fneg (9223372036854775808 + r) = true := by unfold fneg; simp; omega
  have e3 : frung r = r := by unfold frung; omega
  have e4 : fneg r = false := by unfold fneg; simp; omega
  unfold fval
  rw [e1, e2, e3, e4]
  unfold sgn1
  rw [if_pos rfl, if_neg (by decide)]
  generalize ((fmag r : Nat) : Rat) * p2 (fpl r) = X
  grind

end Go.Proofs.Ytfocdhapjljooaa
