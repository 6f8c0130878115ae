/- Own texts, put together: Xe. -/
import Derived.Test.YtgpbfhennineiaaGreatQ21
import Derived.Test.YtgpbfhennineiaaGreatQ26
import Derived.Test.YtgpbfhennineiaaGreatQ27
/- The lowest bit of a float, as package expand tells it. -/
namespace Go.Proofs.YtgpbfhennineiaaGreat
open Go.RowKit
theorem land_pred (t m : Nat) : (2 ^ t * (2 * m + 1)) &&& (2 ^ t * (2 * m + 1) - 1) = 2 ^ t * (2 * m) := by
 induction t with
 | zero =>
   rw [Nat.pow_zero, Nat.one_mul, Nat.one_mul, show 2 * m + 1 - 1 = 2 * m by omega]
   apply Nat.eq_of_testBit_eq
   intro i
   rw [Nat.testBit_and]
   cases i with
   | zero => simp [Nat.testBit_zero]
   | succ i => rw [Nat.testBit_succ, Nat.testBit_succ, show (2 * m + 1) / 2 = m by omega, show 2 * m / 2 = m by omega]; simp
 | succ t ih =>
   have hp : 0 < 2 ^ t * (2 * m + 1) := Nat.mul_pos (Nat.two_pow_pos t) (by omega)
   have e1 : 2 ^ (t + 1) * (2 * m + 1) = 2 * (2 ^ t * (2 * m + 1)) := by rw [Nat.pow_succ]; grind
   have e2 : 2 ^ (t + 1) * (2 * m) = 2 * (2 ^ t * (2 * m)) := by rw [Nat.pow_succ]; grind
   rw [e1, e2, ← ih]
   generalize 2 ^ t * (2 * m + 1) = a at *
   apply Nat.eq_of_testBit_eq
   intro i
   rw [Nat.testBit_and]
   cases i with
   | zero => simp [Nat.testBit_zero]
   | succ i => rw [Nat.testBit_succ, Nat.testBit_succ, Nat.testBit_succ, show 2 * a / 2 = a by omega, show (2 * a - 1) / 2 = a - 1 by omega, show 2 * (a &&& (a - 1)) / 2 = a &&& (a - 1) by omega, Nat.testBit_and]
theorem low_bit {n : Nat} (h : n ≠ 0) : ∃ t m, n = 2 ^ t * (2 * m + 1) := by
 induction n using Nat.strongRecOn with
 | ind n ih =>
   by_cases ho : n % 2 = 1
   · exact ⟨0, n / 2, by rw [Nat.pow_zero, Nat.one_mul]; omega⟩
   · obtain ⟨t, m, e⟩ := ih (n / 2) (by omega) (by omega)
     exact ⟨t + 1, m, by rw [Nat.pow_succ]; have : n = 2 * (n / 2) := by omega
                         rw [this, e]; grind⟩
theorem frac_bit {b : Nat} (hf : b % 4503599627370496 ≠ 0) : ∃ t m, t < 52 ∧ b = 2 ^ t * (2 * m + 1) ∧ b % 4503599627370496 = 2 ^ t * ((2 * m + 1) % 2 ^ (52 - t)) ∧ 2 ^ t ≤ b % 4503599627370496 := by
 obtain ⟨t, m, e⟩ := low_bit (n := b) (by omega)
 have ht : t < 52 := by
   rcases Nat.lt_or_ge t 52 with h | h
   · exact h
   · exfalso
     obtain ⟨j, rfl⟩ : ∃ j, t = 52 + j := ⟨t - 52, by omega⟩
     rw [Nat.pow_add, show (2 : Nat) ^ 52 = 4503599627370496 from rfl, Nat.mul_assoc] at e
     rw [e, Nat.mul_mod_right] at hf
     exact hf rfl
 have e52 : 4503599627370496 = 2 ^ t * 2 ^ (52 - t) := by rw [← Nat.pow_add, show t + (52 - t) = 52 by omega]
 have em : b % 4503599627370496 = 2 ^ t * ((2 * m + 1) % 2 ^ (52 - t)) := by
   rw [e52, e, Nat.mul_mod_mul_left]
 refine ⟨t, m, ht, e, em, ?_⟩
 rw [em]
 have : (2 * m + 1) % 2 ^ (52 - t) ≠ 0 := by
   intro h0
   rw [em, h0] at hf
   exact hf (by simp)
 have := Nat.mul_le_mul_left (2 ^ t) (Nat.pos_of_ne_zero this)
 omega
theorem frung_cut {b t : Nat} (h : 2 ^ t ≤ b % 4503599627370496) : frung (b - 2 ^ t) = frung b - 2 ^ t ∧ fneg (b - 2 ^ t) = fneg b ∧ fpl (frung b - 2 ^ t) = fpl (frung b) ∧ fmag (frung b - 2 ^ t) = fmag (frung b) - 2 ^ t ∧ 2 ^ t ≤ fmag (frung b) := by
 generalize 2 ^ t = x at *
 unfold frung fneg fpl fmag
 refine ⟨by omega, ?_, ?_, ?_, ?_⟩
 · rw [show (b - x) / 9223372036854775808 = b / 9223372036854775808 by omega]
 · split <;> split <;> omega
 · split <;> split <;> omega
 · split <;> omega
def LB (b l : Nat) : Prop := l < 9218868437227405312 ∧ ((frung b = 0 ∧ l = 0) ∨ (frung b ≠ 0 ∧ ∃ (L : Nat) (m : Int), fval l = U L ∧ fval b = (m : Rat) * U L ∧ m % 2 = 1))
theorem sgn_odd {b : Nat} {m : Nat} {L : Nat} (h : ((fmag (frung b) : Nat) : Rat) * p2 (fpl (frung b)) = ((2 * m + 1 : Nat) : Rat) * U L) : ∃ k : Int, fval b = (k : Rat) * U L ∧ k % 2 = 1 := by
 rw [fval_eq, h]
 unfold sgn1
 cases fneg b
 · exact ⟨(2 * m + 1 : Nat), by rw [if_neg (by decide)]; show 1 * (((2 * m + 1 : Nat) : Rat) * U L) = ((2 * m + 1 : Nat) : Rat) * U L; grind, by omega⟩
 · refine ⟨-((2 * m + 1 : Nat) : Int), ?_, by omega⟩
   rw [if_pos rfl, Rat.intCast_neg]
   show -1 * (((2 * m + 1 : Nat) : Rat) * U L) = -((2 * m + 1 : Nat) : Rat) * U L
   grind
theorem fpl_U (r : Nat) : ∃ P : Nat, p2 (fpl r) = U P := by
 refine ⟨(fpl r + 1074).toNat, ?_⟩
 unfold U
 rw [show (((fpl r + 1074).toNat : Nat) : Int) - 1074 = fpl r by unfold fpl; split <;> omega]
set_option maxHeartbeats 1000000 in
theorem lowest_pow (b : Nat) (w : World) (hb : b < 18446744073709551616) (h0 : b % 4503599627370496 = 0) : Calls Tryz.prog 111 #[.float .f64 b] w fun e w' => e = .returned (.float .f64 (frung b)) ∧ w' = w := by
 have r1 := run_bits b
 have h1 : bits .and .u64 (b : Int) 4503599627370495 = 0 := by
   rw [show (4503599627370495 : Int) = ((4503599627370495 : Nat) : Int) from rfl, u64_and_nat b _ hb (by omega), show (4503599627370495 : Nat) = 2 ^ 52 - 1 by decide, Nat.and_two_pow_sub_one_eq_mod, show (2 : Nat) ^ 52 = 4503599627370496 from rfl, h0]; rfl
 have HA : Hid (∀ w, Calls Tryz.prog 58 #[.float .f64 b] w fun e w' => e = .returned (.float .f64 (frung b)) ∧ w' = w) := fun w => abs_any b w hb
 clear h0 hb
 go_enter Tryz.func111, Tryz.ntmps111
 go_wp2_with fail
 refine (HA.out _).mono ?_
 rintro e w1 ⟨rfl, rfl⟩
 go_wp2
 go_ret
 exact ⟨rfl, rfl⟩
set_option maxHeartbeats 1000000 in
theorem lowest_frac (b c d : Nat) (w : World) (hb : b < 18446744073709551616) (h0 : b % 4503599627370496 ≠ 0) (hc : b &&& (b - 1) = c) (hd : floatBits .sub .f64 b c = some d) (hdl : d < 18446744073709551616) : Calls Tryz.prog 111 #[.float .f64 b] w fun e w' => e = .returned (.float .f64 (frung d)) ∧ w' = w := by
 have r1 := run_bits b
 have r2 := run_frombits c
 have h1 : (bits .and .u64 (b : Int) 4503599627370495 == 0) = false := by
   rw [show (4503599627370495 : Int) = ((4503599627370495 : Nat) : Int) from rfl, u64_and_nat b _ hb (by omega), show (4503599627370495 : Nat) = 2 ^ 52 - 1 by decide, Nat.and_two_pow_sub_one_eq_mod, show (2 : Nat) ^ 52 = 4503599627370496 from rfl]
   rw [beq_eq_false_iff_ne]; omega
 have hb1 : (1 : Int) ≤ (b : Int) := by omega
 have hbl : (b : Int) < 18446744073709551616 := by omega
 have h2 : bits .and .u64 (b : Int) ((b : Int) - 1) = (c : Int) := by
   rw [show (b : Int) - 1 = ((b - 1 : Nat) : Int) by omega, u64_and_nat b _ hb (by omega), hc]
 have rs : ∀ w, (binOp .sub 30 (.float .f64 b) (.float .f64 c)).run Tryz.prog w = .ok (.float .f64 d) w := fun w => run_float_arith w .sub _ .f64 _ _ _ hd
 have HA : Hid (∀ w, Calls Tryz.prog 58 #[.float .f64 d] w fun e w' => e = .returned (.float .f64 (frung d)) ∧ w' = w) := fun w => abs_any d w hdl
 clear h0 hb hc hd hdl
 go_enter Tryz.func111, Tryz.ntmps111
 go_wp2_with fail
 refine (HA.out _).mono ?_
 rintro e w1 ⟨rfl, rfl⟩
 go_wp2
 go_ret
 exact ⟨rfl, rfl⟩
theorem lowestE_any (b : Nat) (w : World) (hb : b < 18446744073709551616) (hf : Fin64 b) : Calls Tryz.prog 111 #[.float .f64 b] w fun e w' => (∃ l, e = .returned (.float .f64 l) ∧ LB b l) ∧ w' = w := by
 have hfr : frung b < 9218868437227405312 := hf
 by_cases h0 : b % 4503599627370496 = 0
 · refine (lowest_pow b w hb h0).mono ?_
   rintro e w' ⟨rfl, rfl⟩
   refine ⟨⟨_, rfl, hfr, ?_⟩, rfl⟩
   by_cases hz : frung b = 0
   · exact Or.inl ⟨hz, hz⟩
   · right
     refine ⟨hz, ?_⟩
     have hm : fmag (frung b) = 4503599627370496 := by unfold fmag; unfold frung at *; split <;> omega
     obtain ⟨P, hP⟩ := fpl_U (frung b)
     have e1 : ((fmag (frung b) : Nat) : Rat) * p2 (fpl (frung b)) = U (P + 52) := by rw [hP, hm, U_52]; rfl
     have hv : fval (frung b) = U (P + 52) := by rw [(fval_pos_lt hfr).1]; exact e1
     obtain ⟨k, hk1, hk2⟩ := sgn_odd (b := b) (m := 0) (L := P + 52) (by rw [e1, show ((2 * 0 + 1 : Nat) : Rat) = 1 from rfl]; grind)
     exact ⟨P + 52, k, hv, hk1, hk2⟩
 · obtain ⟨t, m, ht, e1, e2, e3⟩ := frac_bit h0
   have hc : b &&& (b - 1) = b - 2 ^ t := by
     conv => lhs; rw [e1]
     rw [land_pred, e1]
     have : 2 ^ t * (2 * m + 1) = 2 ^ t * (2 * m) + 2 ^ t := by grind
     omega
   obtain ⟨c1, c2, c3, c4, c5⟩ := frung_cut e3
   obtain ⟨P, hP⟩ := fpl_U (frung b)
   have hle : 2 ^ t ≤ frung b := by unfold frung; omega
   have fc : Fin64 (b - 2 ^ t) := by unfold Fin64; rw [c1]; exact Nat.lt_of_le_of_lt (Nat.sub_le _ _) hfr
   have hd : fval b - fval (b - 2 ^ t) = sgn1 (fneg b) * U (P + t) := by
     have e5 : ((fmag (frung b) : Nat) : Rat) = ((fmag (frung b) - 2 ^ t : Nat) : Rat) + ((2 ^ t : Nat) : Rat) := by rw [← Rat.natCast_add, Nat.sub_add_cancel c5]
     rw [fval_eq b, fval_eq (b - 2 ^ t), c1, c2, c3, c4, hP, U_add, e5]
     grind
   have hF : F (fval b - fval (b - 2 ^ t)) := by
     rw [hd]
     unfold sgn1
     cases fneg b
     · exact ⟨P + t, 1, by rw [if_neg (by decide), one_rat], by omega, by omega⟩
     · exact ⟨P + t, -1, by rw [if_pos rfl]; rfl, by omega, by omega⟩
   have hlim : Lim (fval b - fval (b - 2 ^ t)) := by
     rw [hd]
     have hPb : P + t ≤ 2096 := by
       have h1 : p2 (fpl (frung b)) = U P := hP
       unfold U at h1
       have h2 : fpl (frung b) = (P : Int) - 1074 := by
         have a := (p2_le_iff (a := fpl (frung b)) (b := (P : Int) - 1074)).1 (by rw [h1]; exact Rat.le_refl)
         have b := (p2_le_iff (b := fpl (frung b)) (a := (P : Int) - 1074)).1 (by rw [h1]; exact Rat.le_refl)
         omega
       unfold fpl at h2
       split at h2 <;> omega
     have h1 : U (P + t) < p2 1023 := by unfold U; exact p2_lt (by omega)
     have h2 := U_pos (P + t)
     unfold sgn1
     cases fneg b
     · rw [if_neg (by decide)]; exact ⟨by grind, by grind⟩
     · rw [if_pos rfl]; exact ⟨by grind, by grind⟩
   obtain ⟨d, d1, d2, d3, d4⟩ := sub_bits hf fc hlim
   have dv : fval d = sgn1 (fneg b) * U (P + t) := by rw [← hd]; exact d4.rn.exact hF
   refine (lowest_frac b (b - 2 ^ t) d w hb h0 hc d1 d3).mono ?_
   rintro e w' ⟨rfl, rfl⟩
   refine ⟨⟨_, rfl, d2, Or.inr ⟨by unfold frung; omega, ?_⟩⟩, rfl⟩
   have hv : fval (frung d) = U (P + t) := by
     have h1 := fval_nonneg (r := frung d) d2
     have h2 := U_pos (P + t)
     have hs : sgn1 (fneg b) = 1 ∨ sgn1 (fneg b) = -1 := by unfold sgn1; split <;> simp
     rcases fval_abs d with e | e <;> rcases hs with hs | hs <;> rw [hs] at dv <;> grind
   have hodd : ∃ j, fmag (frung b) = 2 ^ t * (2 * j + 1) := by
     have hfm : fmag (frung b) = b % 4503599627370496 ∨ fmag (frung b) = 4503599627370496 + b % 4503599627370496 := by
       unfold fmag frung; split <;> omega
     have e52 : 4503599627370496 = 2 ^ t * (2 * 2 ^ (51 - t)) := by rw [← Nat.pow_succ', ← Nat.pow_add, show t + (51 - t).succ = 52 by omega]
     have hmod : ∃ j, (2 * m + 1) % 2 ^ (52 - t) = 2 * j + 1 := by
       refine ⟨(2 * m + 1) % 2 ^ (52 - t) / 2, ?_⟩
       have : (2 * m + 1) % 2 ^ (52 - t) % 2 = 1 := by
         rw [Nat.mod_mod_of_dvd _ (by rw [show 52 - t = (51 - t) + 1 by omega, Nat.pow_succ]; exact Nat.dvd_mul_left _ _)]; omega
       omega
     obtain ⟨j, hj⟩ := hmod
     rcases hfm with h | h
     · exact ⟨j, by rw [h, e2, hj]⟩
     · exact ⟨2 ^ (51 - t) + j, by rw [h, e2, hj, e52]; grind⟩
   obtain ⟨j, hj⟩ := hodd
   obtain ⟨k, hk1, hk2⟩ := sgn_odd (b := b) (m := j) (L := P + t) (by rw [hj, hP, U_add, Rat.natCast_mul]; grind)
   exact ⟨P + t, k, hv, hk1, hk2⟩
end Go.Proofs.YtgpbfhennineiaaGreat
