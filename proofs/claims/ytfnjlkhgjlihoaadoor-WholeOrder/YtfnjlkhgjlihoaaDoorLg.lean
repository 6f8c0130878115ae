/- The floats of greater numbers are not less. -/
import Derived.Test.YtfnjlkhgjlihoaaDoorLf
namespace Go.Proofs.YtfnjlkhgjlihoaaDoor

theorem near_self {r : Nat} (h : r < 9218868437227405312) : Near (fval r) r := by
  rw [(fval_pos_lt h).1]
  by_cases h0 : r = 0
  · subst h0
    left
    exact ⟨by rw [show fmag 0 = 0 by decide]; simp, rfl⟩
  by_cases h1 : r < 4503599627370496
  · have e1 : fmag r = r := by unfold fmag; rw [if_pos h1]
    have e2 : fpl r = -1074 := by unfold fpl; rw [if_pos h1]
    rw [e1, e2]
    have hu := p2_pos (((0 : Nat) : Int) - 1075)
    have eq : ((r : Nat) : Rat) * p2 (-1074) = ((2 * (r : Int) : Int) : Rat) * p2 (((0 : Nat) : Int) - 1075) := by
      rw [show (-1074 : Int) = 1 + (((0 : Nat) : Int) - 1075) by omega, p2_add, p2_one, Rat.intCast_mul]
      have : ((2 : Int) : Rat) = 2 := rfl
      have t : (((r : Nat) : Int) : Rat) = ((r : Nat) : Rat) := rfl
      rw [this, t]; grind
    have hp : 0 < ((r : Nat) : Rat) * p2 (-1074) := by
      rw [eq]
      have := lt_int hu (show (0 : Int) < 2 * (r : Int) by omega)
      rwa [show ((0 : Int) : Rat) = 0 from rfl, Rat.zero_mul] at this
    have := near_exact (T := 0) (k := r) hp ⟨Or.inl rfl, by rw [eq]; exact lt_int hu (by omega)⟩ eq (by omega)
    rwa [Nat.zero_mul, Nat.zero_add] at this
  · have e1 : fmag r = 4503599627370496 + r % 4503599627370496 := by unfold fmag; rw [if_neg h1]
    obtain ⟨T, hT⟩ : ∃ T : Nat, r / 4503599627370496 = T + 1 := ⟨r / 4503599627370496 - 1, by omega⟩
    have e2 : fpl r = (T : Int) - 1074 := by unfold fpl; rw [if_neg h1, hT]; omega
    have hr := Nat.div_add_mod r 4503599627370496
    have hm := Nat.mod_lt r (show 4503599627370496 > 0 by omega)
    rw [hT] at hr
    rw [e1, e2]
    generalize r % 4503599627370496 = u at *
    obtain ⟨k, hk⟩ : ∃ k, 4503599627370496 + u = k := ⟨_, rfl⟩
    have hrk : T * 4503599627370496 + k = r := by omega
    rw [hk, ← hrk]
    exact near_norm T k _ (by omega) (by omega) (by omega) rfl

theorem fval_mono {r s : Nat} (h : r ≤ s) (hs : s < 9218868437227405312) : fval r ≤ fval s := by
  rcases Rat.le_total (a := fval r) (b := fval s) with h1 | h1
  · exact h1
  · have := near_mono h1 (near_self hs) (near_self (by omega : r < 9218868437227405312))
    have e : r = s := by omega
    rw [e]; exact Rat.le_refl

theorem order_fin_inf {b c : Nat} (hb : Fin64 b) (hc : frung c = 9218868437227405312) : Ieee.double.order b c = some (if fneg c then .gt else .lt) := by
  unfold Ieee.Format.order
  rw [read_fin hb, read_inf hc]
  cases fneg c <;> rfl

theorem order_inf_inf {b c : Nat} (hb : frung b = 9218868437227405312) (hc : frung c = 9218868437227405312) : Ieee.double.order b c = some (if fneg b then (if fneg c then .eq else .lt) else (if fneg c then .gt else .eq)) := by
  unfold Ieee.Format.order
  rw [read_inf hb, read_inf hc]
  cases fneg b <;> cases fneg c <;> rfl

theorem neg_word {r : Nat} (h : r ≤ 9218868437227405312) : frung (9223372036854775808 + r) = r ∧ fneg (9223372036854775808 + r) = true := by
  unfold frung fneg
  refine ⟨by omega, ?_⟩
  rw [show (9223372036854775808 + r) / 9223372036854775808 = 1 by omega]; rfl

theorem pos_word {r : Nat} (h : r ≤ 9218868437227405312) : frung r = r ∧ fneg r = false := by
  unfold frung fneg
  refine ⟨by omega, ?_⟩
  rw [show r / 9223372036854775808 = 0 by omega]; rfl

theorem fval_neg_word {r : Nat} (h : r < 9218868437227405312) : fval (9223372036854775808 + r) = -fval r := by
  unfold fval
  rw [(neg_word (by omega : r ≤ 9218868437227405312)).1, (neg_word (by omega : r ≤ 9218868437227405312)).2, (pos_word (by omega : r ≤ 9218868437227405312)).1, (pos_word (by omega : r ≤ 9218868437227405312)).2]
  simp only [sgn1, if_true, Bool.false_eq_true, if_false]
  grind

/-- A word with its sign, not less than another. -/
theorem not_lt_pos {r s : Nat} (h : s ≤ r) (hr : r ≤ 9218868437227405312) : (Ieee.double.order r s == some .lt) = false := by
  have w1 := pos_word hr
  have w2 := pos_word (by omega : s ≤ 9218868437227405312)
  by_cases h1 : r = 9218868437227405312
  · by_cases h2 : s = 9218868437227405312
    · rw [order_inf_inf (w1.1.trans h1) (w2.1.trans h2), w1.2, w2.2]; rfl
    · rw [order_inf_fin (w1.1.trans h1) (by unfold Fin64; rw [w2.1]; omega), w1.2]; rfl
  · have hm := fval_mono h (by omega)
    rw [order_fin (by unfold Fin64; rw [w1.1]; omega) (by unfold Fin64; rw [w2.1]; omega), if_neg (by grind)]
    split <;> rfl

theorem not_lt_mixed {r s : Nat} (hr : r ≤ 9218868437227405312) (hs : s ≤ 9218868437227405312) : (Ieee.double.order r (9223372036854775808 + s) == some .lt) = false := by
  have w1 := pos_word hr
  have w2 := neg_word hs
  by_cases h1 : r = 9218868437227405312
  · by_cases h2 : s = 9218868437227405312
    · rw [order_inf_inf (w1.1.trans h1) (w2.1.trans h2), w1.2, w2.2]; rfl
    · rw [order_inf_fin (w1.1.trans h1) (by unfold Fin64; rw [w2.1]; omega), w1.2]; rfl
  · by_cases h2 : s = 9218868437227405312
    · rw [order_fin_inf (by unfold Fin64; rw [w1.1]; omega) (w2.1.trans h2), w2.2]; rfl
    · have a1 := fval_nonneg (by omega : r < 9218868437227405312)
      have a2 := fval_nonneg (by omega : s < 9218868437227405312)
      have a3 := fval_neg_word (by omega : s < 9218868437227405312)
      rw [order_fin (by unfold Fin64; rw [w1.1]; omega) (by unfold Fin64; rw [w2.1]; omega), if_neg (by grind)]
      split <;> rfl

theorem not_lt_neg {r s : Nat} (h : r ≤ s) (hs : s ≤ 9218868437227405312) : (Ieee.double.order (9223372036854775808 + r) (9223372036854775808 + s) == some .lt) = false := by
  have w1 := neg_word (by omega : r ≤ 9218868437227405312)
  have w2 := neg_word hs
  by_cases h2 : s = 9218868437227405312
  · by_cases h1 : r = 9218868437227405312
    · rw [order_inf_inf (w1.1.trans h1) (w2.1.trans h2), w1.2, w2.2]; rfl
    · rw [order_fin_inf (by unfold Fin64; rw [w1.1]; omega) (w2.1.trans h2), w2.2]; rfl
  · have hm := fval_mono h (by omega)
    have a1 := fval_neg_word (by omega : r < 9218868437227405312)
    have a2 := fval_neg_word (by omega : s < 9218868437227405312)
    rw [order_fin (by unfold Fin64; rw [w1.1]; omega) (by unfold Fin64; rw [w2.1]; omega), if_neg (by grind)]
    split <;> rfl

/-- Of a greater number the float is not less. -/
theorem floatOf_order {p q : Rat} {f g : Nat} (h : q ≤ p) (hf : FloatOf p f) (hg : FloatOf q g) : (FloatKind.f64.format.order f g == some .lt) = false := by
  show (Ieee.double.order f g == some .lt) = false
  rcases hf with ⟨a, hf⟩ | ⟨a, r, hf, rfl⟩ <;> rcases hg with ⟨b, hg⟩ | ⟨b, s, hg, rfl⟩
  · exact not_lt_pos (near_mono h hg hf) (near_nonneg hf).2
  · split
    · exact not_lt_pos (Nat.zero_le _) (near_nonneg hf).2
    · exact not_lt_mixed (near_nonneg hf).2 (near_nonneg hg).2
  · grind
  · have hm := near_mono (by grind : -p ≤ -q) hf hg
    have hs := (near_nonneg hg).2
    by_cases r0 : r = 0
    · rw [if_pos r0]
      split
      · exact not_lt_pos (Nat.le_refl _) (by omega)
      · exact not_lt_mixed (by omega) hs
    · rw [if_neg r0, if_neg (by omega)]
      exact not_lt_neg hm hs

end Go.Proofs.YtfnjlkhgjlihoaaDoor
