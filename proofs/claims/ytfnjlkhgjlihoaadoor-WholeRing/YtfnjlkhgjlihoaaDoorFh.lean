/- The float nearest to a magnitude: what the code makes of the unit that it keeps. -/
import Derived.Test.YtfnjlkhgjlihoaaDoorFg
namespace Go.Proofs.YtfnjlkhgjlihoaaDoor
open Go.RowKit
attribute [local go_sem ↓] Go.wp_at_zero Go.wp_at_succ

theorem float_of_nat (k : Nat) : floatOfInt .f64 (k : Int) = Ieee.double.nearest false k 0 := by
  unfold floatOfInt FloatKind.nearest
  have e : decide ((k : Int) < 0) = false := decide_eq_false (by omega)
  rw [e, Int.natAbs_natCast]
  rfl

theorem nearest_small (k L : Nat) (h0 : k ≠ 0) (h : k < 4503599627370496) (hL : Nat.log2 k = L) : Ieee.double.nearest false k 0 = (L + 1022) * 4503599627370496 + k * 2 ^ (52 - L) := by
  have h1 : L < 52 := by rw [← hL]; exact (Nat.log2_lt h0).2 h
  have h2 : k * 2 ^ (52 - L) < 9007199254740992 := by
    have a : k < 2 ^ (L + 1) := by rw [← hL]; exact Nat.lt_log2_self
    have b := Nat.mul_lt_mul_of_pos_right a (Nat.two_pow_pos (52 - L))
    rw [← Nat.pow_add, show L + 1 + (52 - L) = 53 by omega] at b
    exact b
  unfold Ieee.Format.nearest
  rw [if_neg h0]
  simp only [d_lp, d_bin, d_inf, hL]
  have e0 : (Ieee.double.fractionBits : Int) = 52 := rfl
  rw [e0, show max (0 + (L : Int) - 52) (-1074) = (L : Int) - 52 by omega, show (0 - ((L : Int) - 52)).toNat = 52 - L by omega, show ((L : Int) - 52 - 0).toNat = 0 by omega, show ((L : Int) - 52 - -1074).toNat = L + 1022 by omega, Nat.shiftLeft_eq]
  have e1 := cut_exact false (k * 2 ^ (52 - L)) 0
  rw [Nat.pow_zero, Nat.mul_one] at e1
  rw [e1, Nat.min_eq_left (by omega)]
  rfl

theorem shift_sum (L u z : Nat) (h : 4503599627370496 + u = z) : (L + 1023) * 4503599627370496 + u = (L + 1022) * 4503599627370496 + z := by
  rw [← h, show L + 1023 = (L + 1022) + 1 from rfl, Nat.add_mul (L + 1022), Nat.one_mul, Nat.add_assoc]

/-- Ldexp of the unit that is kept. -/
theorem ldexp_kept (T k : Nat) (w : World) (hk : k ≤ 9007199254740992) (hT : T = 0 ∨ 4503599627370496 ≤ k) (hT2 : T ≤ 100000) :
    Calls Tryd.prog 49 #[.float .f64 (floatOfInt .f64 (k : Int)), .int .i64 ((T : Int) - 1074)] w fun e w' => e = .returned (.float .f64 (min (T * 4503599627370496 + k) 9218868437227405312)) ∧ w' = w := by
  rw [float_of_nat]
  refine Ldexp_of _ _ _ w fun w => ?_
  by_cases h0 : k = 0
  · subst h0
    have : T = 0 := by omega
    subst this
    have e : Ieee.double.nearest false 0 0 = 0 := rfl
    rw [e]
    exact ldexp_zero _ w
  by_cases h1 : k < 4503599627370496
  · have : T = 0 := by omega
    subst this
    have hL := (Nat.log2_lt h0 (k := 52)).2 h1
    have a1 := Nat.log2_self_le h0
    have a2 : k < 2 ^ (Nat.log2 k + 1) := Nat.lt_log2_self
    rw [nearest_small k _ h0 h1 rfl, Nat.zero_mul, Nat.zero_add, Nat.min_eq_left (by omega)]
    generalize hLe : Nat.log2 k = L at *
    have b1 : 4503599627370496 ≤ k * 2 ^ (52 - L) := by
      have := Nat.mul_le_mul_right (2 ^ (52 - L)) a1
      rwa [← Nat.pow_add, show L + (52 - L) = 52 by omega] at this
    have b2 : k * 2 ^ (52 - L) < 9007199254740992 := by
      have := Nat.mul_lt_mul_of_pos_right a2 (Nat.two_pow_pos (52 - L))
      rwa [← Nat.pow_add, show L + 1 + (52 - L) = 53 by omega] at this
    obtain ⟨u, hu⟩ : ∃ u, 4503599627370496 + u = k * 2 ^ (52 - L) := ⟨k * 2 ^ (52 - L) - 4503599627370496, by omega⟩
    have hm := mul_norm (L + 2) u k L hL rfl hu h1 (by omega)
    have hx : (L + 1023) * 4503599627370496 + u = (L + 1022) * 4503599627370496 + k * 2 ^ (52 - L) := shift_sum L u _ hu
    exact ldexp_den (L + 1023) u (L + 2) _ _ _ k _ w hx rfl rfl (by omega) (by omega) (by omega) (by omega) (by omega) (by omega) hm
  by_cases h2 : k = 9007199254740992
  · subst h2
    have e : Ieee.double.nearest false 9007199254740992 0 = 1076 * 4503599627370496 + 0 := by
      have := nearest_norm 4503599627370496 1 0 (by omega) (by omega) (by omega) (by decide)
      exact this
    rw [e]
    by_cases h3 : T + 2 ≤ 2046
    · rw [Nat.min_eq_left (by omega)]
      exact ldexp_norm 1076 0 (T + 2) _ _ _ _ w rfl (by omega) rfl (by omega) (by omega) (by omega) (by omega) (by omega) h3
    · rw [Nat.min_eq_right (by omega)]
      exact ldexp_inf 1076 0 _ _ w rfl (by omega) (by omega) (by omega) (by omega) (by omega)
  · obtain ⟨u, rfl⟩ : ∃ u, k = 4503599627370496 + u := ⟨k - 4503599627370496, by omega⟩
    have e : Ieee.double.nearest false (4503599627370496 + u) 0 = 1075 * 4503599627370496 + u := by
      have := nearest_norm (4503599627370496 + u) 0 0 (by omega) (by omega) (by omega) (by omega)
      rw [Nat.pow_zero, Nat.mul_one] at this
      rw [this]; omega
    rw [e]
    by_cases h3 : T + 1 ≤ 2046
    · rw [Nat.min_eq_left (by omega)]
      exact ldexp_norm 1075 u (T + 1) _ _ _ _ w rfl (by omega) rfl (by omega) (by omega) (by omega) (by omega) (by omega) h3
    · rw [Nat.min_eq_right (by omega)]
      exact ldexp_inf 1075 u _ _ w rfl (by omega) (by omega) (by omega) (by omega) (by omega)

end Go.Proofs.YtfnjlkhgjlihoaaDoor
