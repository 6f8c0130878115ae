/- Tame and safe, as the document has them. -/
import Derived.Test.YtfocdhapjljooaaEc
namespace Go.Proofs.Ytfocdhapjljooaa
open Go.RowKit

/-- A float turned about. -/
def fflip (b : Nat) : Nat := if b < 9223372036854775808 then b + 9223372036854775808 else b - 9223372036854775808

theorem negF_eq (b : Nat) (hb : b < 18446744073709551616) : Op.negFloat .f64 b = fflip b := by
  show b ^^^ 2 ^ 63 = fflip b
  unfold fflip
  split
  · rename_i h
    have := Nat.two_pow_add_eq_or_of_lt (i := 63) (b := b) (by simpa using h) 1
    rw [show b + 9223372036854775808 = 2 ^ 63 * 1 + b by omega, this]
    apply Nat.eq_of_testBit_eq
    intro i
    simp only [Nat.testBit_xor, Nat.testBit_or, Nat.testBit_two_pow, Nat.mul_one]
    by_cases e : 63 = i
    · subst e
      have : b.testBit 63 = false := Nat.testBit_lt_two_pow (by simpa using h)
      simp [this]
    · simp [e]
  · rename_i h
    obtain ⟨r, rfl⟩ : ∃ r, b = 9223372036854775808 + r := ⟨b - 9223372036854775808, by omega⟩
    have hr : r < 2 ^ 63 := by omega
    have := Nat.two_pow_add_eq_or_of_lt (i := 63) (b := r) hr 1
    rw [show 9223372036854775808 + r - 9223372036854775808 = r by omega, show 9223372036854775808 + r = 2 ^ 63 * 1 + r by omega, this]
    apply Nat.eq_of_testBit_eq
    intro i
    simp only [Nat.testBit_xor, Nat.testBit_or, Nat.testBit_two_pow, Nat.mul_one]
    by_cases e : 63 = i
    · subst e
      have : r.testBit 63 = false := Nat.testBit_lt_two_pow hr
      simp [this]
    · simp [e]

theorem run_negF (b : Nat) (hb : b < 18446744073709551616) (w : World) : (Op.unary .neg (.float .f64 b)).run Try.prog w = .ok (.float .f64 (fflip b)) w := by
  show Result.ok (Value.float .f64 (Op.negFloat .f64 b)) w = _
  rw [negF_eq b hb]

theorem eql_self (b : Nat) : (FloatKind.f64.format.order b b == some .eq) = decide (frung b ≤ 9218868437227405312) := by
  show (Ieee.double.order b b == some .eq) = _
  rcases Nat.lt_trichotomy (frung b) 9218868437227405312 with h | h | h
  · rw [order_fin h h, if_neg Rat.lt_irrefl, if_pos rfl]; simp; omega
  · rw [order_inf_self h]; simp; omega
  · rw [order_nan_left h]; simp; omega

theorem fin_zero : Fin64 0 := by unfold Fin64 frung; decide
theorem fval_zero : fval 0 = 0 := fval_zero_iff.2 rfl

theorem eql_zero2 (b : Nat) : (FloatKind.f64.format.order b 0 == some .eq) = decide (frung b = 0) := by
  show (Ieee.double.order b 0 == some .eq) = _
  rcases Nat.lt_trichotomy (frung b) 9218868437227405312 with h | h | h
  · rw [order_fin h fin_zero, fval_zero]
    by_cases e : fval b = 0
    · rw [e, if_neg Rat.lt_irrefl, if_pos rfl]; simp [fval_zero_iff.1 e]
    · have : frung b ≠ 0 := fun e' => e (fval_zero_iff.2 e')
      by_cases e2 : fval b < 0
      · rw [if_pos e2]; simp [this]
      · rw [if_neg e2, if_neg e]; simp [this]
  · rw [order_inf_fin h fin_zero]
    cases fneg b <;> simp <;> omega
  · rw [order_nan_left h]; simp; omega

theorem lt_zero (b : Nat) (hb : b < 18446744073709551616) : (FloatKind.f64.format.order b 0 == some .lt) = decide (9223372036854775808 < b ∧ frung b ≤ 9218868437227405312) := by
  show (Ieee.double.order b 0 == some .lt) = _
  rcases Nat.lt_trichotomy (frung b) 9218868437227405312 with h | h | h
  · rw [order_fin h fin_zero, fval_zero]
    rcases Nat.lt_or_ge b 9223372036854775808 with hs | hs
    · have e : frung b = b := by unfold frung; omega
      have := fval_nonneg (r := b) (by omega)
      rw [if_neg (by grind)]
      by_cases e2 : fval b = 0
      · rw [if_pos e2]; simp; omega
      · rw [if_neg e2]; simp; omega
    · obtain ⟨r, rfl⟩ : ∃ r, b = 9223372036854775808 + r := ⟨b - 9223372036854775808, by omega⟩
      have e : frung (9223372036854775808 + r) = r := by unfold frung; omega
      rw [e] at h
      rw [fval_word h]
      rcases Nat.eq_zero_or_pos r with e2 | e2
      · subst e2
        rw [fval_zero, if_neg (by grind), if_pos (by grind)]; simp
      · have := fval_lt e2 h
        rw [fval_zero] at this
        rw [if_pos (by grind)]; simp [e]; omega
  · rw [order_inf_fin h fin_zero]
    have : fneg b = decide (9223372036854775808 < b) := by
      unfold frung at h
      unfold fneg
      rcases Nat.lt_or_ge b 9223372036854775808 with hs | hs
      · rw [show b / 9223372036854775808 % 2 = 0 by omega]; simp; omega
      · rw [show b / 9223372036854775808 % 2 = 1 by omega]; simp; omega
    rw [this]
    by_cases e : 9223372036854775808 < b <;> simp [e] <;> omega
  · rw [order_nan_left h]; simp; omega

/-- A float's size. -/
def szw (b : Nat) : Nat := if 9223372036854775808 < b ∧ frung b ≤ 9218868437227405312 then b - 9223372036854775808 else b

theorem szw_leq {b c : Nat} (hb : b < 18446744073709551616) (h : frung b ≤ 9218868437227405312) (h0 : 0 < c) (hc : c < 9218868437227405312) :
    (FloatKind.f64.format.order (szw b) c == some .lt || FloatKind.f64.format.order (szw b) c == some .eq) = decide (frung b ≤ c) := by
  rcases Nat.lt_trichotomy b 9223372036854775808 with hs | hs | hs
  · have e : szw b = b := by unfold szw; rw [if_neg (by omega)]
    have e2 : frung b = b := by unfold frung; omega
    rw [e, leq_word hs hc, e2]
  · subst hs
    have e : szw 9223372036854775808 = 9223372036854775808 := by decide
    have e2 : frung 9223372036854775808 = 0 := by decide
    rw [e, e2]
    show (Ieee.double.order 9223372036854775808 c == some .lt || Ieee.double.order 9223372036854775808 c == some .eq) = _
    have hf : fval 9223372036854775808 = 0 := fval_zero_iff.2 e2
    have := fval_lt h0 hc
    rw [fval_zero] at this
    rw [order_fin (by unfold Fin64; rw [e2]; omega) (by unfold Fin64 frung; omega), hf, if_pos this]
    simp
  · have e : szw b = frung b := by unfold szw; rw [if_pos ⟨hs, h⟩]; unfold frung; omega
    rw [e, leq_word (by unfold frung; omega) hc]

theorem szw_geq {b c : Nat} (hb : b < 18446744073709551616) (h : frung b ≤ 9218868437227405312) (h0 : frung b ≠ 0) (hc : c < 9218868437227405312) :
    (FloatKind.f64.format.order (szw b) c == some .gt || FloatKind.f64.format.order (szw b) c == some .eq) = decide (c ≤ frung b) := by
  have e : szw b = frung b := by
    unfold szw
    split
    · unfold frung; omega
    · unfold frung at *; omega
  rw [e, geq_word h hc]

theorem size_any (b : Nat) (w : World) (hb : b < 18446744073709551616) :
    Calls Try.prog 50 #[.float .f64 b] w fun e w' => e = .returned (.float .f64 (szw b)) ∧ w' = w := by
  have h1 := lt_zero b hb
  have h2 := run_negF b hb
  have h3 : Hid (szw b = if decide (9223372036854775808 < b ∧ frung b ≤ 9218868437227405312) = true then fflip b else b) := by
    unfold Hid szw fflip
    by_cases e : 9223372036854775808 < b ∧ frung b ≤ 9218868437227405312
    · rw [if_pos e, if_pos (by simpa using e), if_neg (by omega)]
    · rw [if_neg e, if_neg (by simpa using e)]
  generalize decide (9223372036854775808 < b ∧ frung b ≤ 9218868437227405312) = t at *
  generalize szw b = z at *
  generalize fflip b = y at *
  have e := h3.out
  clear h3 hb
  cases t
  · simp at e
    subst e
    go_enter Try.func50, Try.ntmps50
    go_wp2
    go_ret
    exact ⟨rfl, rfl⟩
  · simp at e
    subst e
    go_enter Try.func50, Try.ntmps50
    go_wp2
    go_ret
    exact ⟨rfl, rfl⟩

end Go.Proofs.Ytfocdhapjljooaa
