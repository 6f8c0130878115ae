/- Floats: IsNaN, IsInf, normalize, Frexp, Ldexp of package math, on the words that package whole hands them. -/
import Derived.Test.YtfocdhapjljooaaB0
import Derived.Test.YtfocdhapjljooaaM7
namespace Go.Proofs.Ytfocdhapjljooaa
open Go.RowKit

theorem fin_order_self {b : Nat} (h : Fin64 b) : Ieee.double.order b b = some .eq := by
  rw [order_fin h h, if_neg (by exact Rat.lt_irrefl), if_pos rfl]

/-- Is the word that of no number? -/
def isnan (b : Nat) : Bool := decide (9218868437227405312 < frung b)
def isinf (b : Nat) : Bool := frung b == 9218868437227405312

theorem order_self (b : Nat) : (Ieee.double.order b b != some .eq) = isnan b := by
  unfold isnan
  rcases Nat.lt_trichotomy (frung b) 9218868437227405312 with h | h | h
  · rw [fin_order_self h]; simp; omega
  · rw [order_inf_self h, h]; simp
  · rw [order_nan_left h]; simp [h]

theorem order_big (b : Nat) : (Ieee.double.order (b % 9223372036854775808) 9218868437227405311 == some .gt) = isinf b := by
  unfold isinf
  have e : frung (b % 9223372036854775808) = frung b := by unfold frung; rw [Nat.mod_mod]
  have hm : Fin64 9218868437227405311 := by unfold Fin64 frung; decide
  rcases Nat.lt_trichotomy (frung b) 9218868437227405312 with h | h | h
  · have hr : b % 9223372036854775808 < 9218868437227405312 := h
    rw [order_fin (by unfold Fin64; rw [e]; exact h) hm]
    have h1 := fval_le_max hr
    have h2 : (frung b == 9218868437227405312) = false := by rw [beq_eq_false_iff_ne]; omega
    rw [h2]
    by_cases h3 : fval (b % 9223372036854775808) < fval 9218868437227405311
    · rw [if_pos h3]; rfl
    · rw [if_neg h3, if_pos (by grind)]; rfl
  · rw [order_inf_fin (by rw [e]; exact h) hm, h]
    have : fneg (b % 9223372036854775808) = false := by unfold fneg; rw [Nat.div_eq_of_lt (Nat.mod_lt _ (by omega))]; rfl
    rw [this]; rfl
  · rw [order_nan_left (by rw [e]; exact h)]
    have h2 : (frung b == 9218868437227405312) = false := by rw [beq_eq_false_iff_ne]; omega
    rw [h2]; rfl

set_option maxHeartbeats 1000000 in
theorem isNaN_any (b : Nat) (w : World) : Calls Try.prog 92 #[.float .f64 b] w fun e w' => e = .returned (.bool (isnan b)) ∧ w' = w := by
  have h := order_self b
  have h' : (FloatKind.f64.format.order b b != some .eq) = isnan b := h
  go_enter Try.func92, Try.ntmps92
  go_wp2
  go_ret
  refine ⟨?_, rfl⟩
  rw [← h']
  rfl

set_option maxHeartbeats 1000000 in
theorem isInf0_any (b : Nat) (w : World) (hb : b < 18446744073709551616) : Calls Try.prog 91 #[.float .f64 b, .int .i64 0] w fun e w' => e = .returned (.bool (isinf b)) ∧ w' = w := by
  have h' : (FloatKind.f64.format.order (b % 9223372036854775808) 9218868437227405311 == some .gt) = isinf b := order_big b
  have HB : Hid (b < 18446744073709551616) := hb
  clear hb
  go_enter Try.func91, Try.ntmps91
  go_wp2_with fail
  refine (abs_any b _ HB.out).mono ?_
  rintro e w' ⟨rfl, rfl⟩
  generalize b % 9223372036854775808 = c at *
  go_wp2
  go_ret
  refine ⟨?_, rfl⟩
  rw [← h']
  rfl

set_option maxHeartbeats 1000000 in
theorem normalize_big (r : Nat) (w : World) (h1 : 4503599627370496 ≤ r) (h2 : r < 9218868437227405312) : Calls Try.prog 93 #[.float .f64 r] w fun e w' => e = .returned (.tuple #[.float .f64 r, .int .i64 0]) ∧ w' = w := by
  have e1 : r % 9223372036854775808 = r := Nat.mod_eq_of_lt (by omega)
  have e2 : (FloatKind.f64.format.order r 4503599627370496 == some .lt) = false := by
    show (Ieee.double.order r 4503599627370496 == some .lt) = false
    rw [order_fin (by unfold Fin64 frung; omega) (by unfold Fin64 frung; decide), if_neg (by rw [small_iff h2]; omega)]
    split <;> rfl
  have H1 : Hid (r % 9223372036854775808 = r) := e1
  have H2 : Hid (r < 18446744073709551616) := (by omega : r < 18446744073709551616)
  clear e1 h1 h2
  go_enter Try.func93, Try.ntmps93
  go_wp2_with fail
  refine (abs_any r _ H2.out).mono ?_
  rw [H1.out]
  rintro e w' ⟨rfl, rfl⟩
  go_wp2
  go_ret2
  exact ⟨rfl, rfl⟩

set_option maxHeartbeats 1000000 in
theorem normalize_small (r L : Nat) (w : World) (h0 : r ≠ 0) (h1 : r < 4503599627370496) (hL : Nat.log2 r = L) : Calls Try.prog 93 #[.float .f64 r] w fun e w' => e = .returned (.tuple #[.float .f64 (L * 4503599627370496 + r * 2 ^ (52 - L)), .int .i64 (-52)]) ∧ w' = w := by
  have e1 : r % 9223372036854775808 = r := Nat.mod_eq_of_lt (by omega)
  have e2 : (FloatKind.f64.format.order r 4503599627370496 == some .lt) = true := by
    show (Ieee.double.order r 4503599627370496 == some .lt) = true
    rw [order_fin (by unfold Fin64 frung; omega) (by unfold Fin64 frung; decide), if_pos (by rw [small_iff (by omega)]; omega)]
    rfl
  have e3 : ∀ w, (binOp .mul 22 (.float .f64 r) (.float .f64 4841369599423283200)).run Try.prog w = .ok (.float .f64 (L * 4503599627370496 + r * 2 ^ (52 - L))) w := fun w => run_float_arith w .mul _ .f64 r 4841369599423283200 _ (mul_up r L h0 h1 hL)
  have H1 : Hid (r % 9223372036854775808 = r) := e1
  have H2 : Hid (r < 18446744073709551616) := (by omega : r < 18446744073709551616)
  clear e1 h1 h0 hL
  generalize L * 4503599627370496 + r * 2 ^ (52 - L) = y at *
  go_enter Try.func93, Try.ntmps93
  go_wp2_with fail
  refine (abs_any r _ H2.out).mono ?_
  rw [H1.out]
  rintro e w' ⟨rfl, rfl⟩
  go_wp2
  go_ret2
  exact ⟨rfl, rfl⟩

end Go.Proofs.Ytfocdhapjljooaa
