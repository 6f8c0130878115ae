/- Own texts, put together: Fc. -/
import Derived.Test.YtofklahgpkmfmaaGreatDoorQ6
/- Floats: Frexp and Ldexp. -/
namespace Go.Proofs.YtofklahgpkmfmaaGreatDoor
open Go.RowKit
theorem and_exp (n : Nat) (h : n < 2048) : bits .and .u64 (n : Int) 2047 = (n : Int) := by
 rw [show (2047 : Int) = ((2047 : Nat) : Int) from rfl, u64_and_nat n _ (by omega) (by omega), show (2047 : Nat) = 2 ^ 11 - 1 by decide, Nat.and_two_pow_sub_one_eq_mod, Nat.mod_eq_of_lt h]
theorem andNot_exp (r : Nat) (h : r < 9223372036854775808) : bits .andNot .u64 (r : Int) 9218868437227405312 = ((r % 4503599627370496 : Nat) : Int) := by
 rw [show (9218868437227405312 : Int) = ((9218868437227405312 : Nat) : Int) from rfl, u64_andNot_nat r _ (by omega) (by omega)]
 congr 1
 have e : (18446744073709551615 - 9218868437227405312 : Nat) = 2 ^ 63 ||| (2 ^ 52 - 1) := by decide
 rw [e, Nat.and_or_distrib_left, Nat.and_two_pow_sub_one_eq_mod]
 have e2 : r &&& 2 ^ 63 = 0 := by
   apply Nat.eq_of_testBit_eq
   intro i
   rw [Nat.testBit_and, Nat.testBit_two_pow, Nat.zero_testBit]
   by_cases hi : 63 = i
   · subst hi; rw [Nat.testBit_lt_two_pow (by omega)]; rfl
   · simp [hi]
 rw [e2, Nat.zero_or]
theorem or_exp (T u : Nat) (hT : T < 2048) (hu : u < 4503599627370496) : bits .or .u64 (u : Int) ((T * 4503599627370496 : Nat) : Int) = ((T * 4503599627370496 + u : Nat) : Int) := by
 rw [u64_or_nat u _ (by omega) (by omega)]
 congr 1
 rw [show T * 4503599627370496 = 2 ^ 52 * T by rw [Nat.mul_comm], Nat.or_comm, ← Nat.two_pow_add_eq_or_of_lt hu]
theorem zero_order (r : Nat) (h0 : r ≠ 0) (h : r < 9218868437227405312) : (FloatKind.f64.format.order r 0 == some .eq) = false := by
 show (Ieee.double.order r 0 == some .eq) = false
 have hf : Fin64 r := by unfold Fin64 frung; omega
 rw [order_fin hf (by unfold Fin64 frung; decide)]
 have e0 : fval 0 = 0 := fval_zero_iff.2 rfl
 have e1 : fval r ≠ 0 := by rw [Ne, fval_zero_iff]; unfold frung; omega
 rw [e0]
 rw [if_neg e1]
 split <;> rfl
theorem fin_flags (r : Nat) (h : r < 9218868437227405312) : isinf r = false ∧ isnan r = false := by
 have e : frung r = r := Nat.mod_eq_of_lt (by omega)
 unfold isinf isnan
 rw [e]
 exact ⟨by rw [beq_eq_false_iff_ne]; omega, by simp; omega⟩
theorem ret_fi {a : Nat} {b c : Int} (h : b = c) : Ending.returned (.tuple #[.float .f64 a, .int .i64 b]) = .returned (.tuple #[.float .f64 a, .int .i64 c]) := by rw [h]
set_option maxHeartbeats 2000000 in
theorem frexp_core (r y : Nat) (e0 : Int) (w : World) (h0 : r ≠ 0) (h : r < 9218868437227405312) (hy1 : 4503599627370496 ≤ y) (hy2 : y < 9218868437227405312) (he1 : -100 ≤ e0) (he2 : e0 ≤ 100)
   (hn : ∀ w, Calls Tryz.prog 155 #[.float .f64 r] w fun e w' => e = .returned (.tuple #[.float .f64 y, .int .i64 e0]) ∧ w' = w) :
   Calls Tryz.prog 138 #[.float .f64 r] w fun e w' => e = .returned (.tuple #[.float .f64 (1022 * 4503599627370496 + y % 4503599627370496), .int .i64 (e0 + ((y / 4503599627370496 : Nat) : Int) - 1022)]) ∧ w' = w := by
 have z := zero_order r h0 h
 obtain ⟨f1, f2⟩ := fin_flags r h
 have b1 := run_bits y
 have b2 := run_frombits (1022 * 4503599627370496 + y % 4503599627370496)
 have c1 := and_exp (y / 4503599627370496) (by omega)
 have c1' : bits .and .u64 ((y : Int) / 4503599627370496) 2047 = ((y / 4503599627370496 : Nat) : Int) := by rw [show ((y : Int) / 4503599627370496) = ((y / 4503599627370496 : Nat) : Int) by omega]; exact c1
 have c2 := andNot_exp y (by omega)
 have c3 := or_exp 1022 (y % 4503599627370496) (by omega) (Nat.mod_lt _ (by omega))
 have c3' : bits .or .u64 ((y % 4503599627370496 : Nat) : Int) 4602678819172646912 = ((1022 * 4503599627370496 + y % 4503599627370496 : Nat) : Int) := c3
 have HI : Hid (∀ w, Calls Tryz.prog 109 #[.float .f64 r, .int .i64 0] w fun e w' => e = .returned (.bool false) ∧ w' = w) := fun w => by have := isInf0_any r w (by omega); rwa [f1] at this
 have HN : Hid (∀ w, Calls Tryz.prog 108 #[.float .f64 r] w fun e w' => e = .returned (.bool false) ∧ w' = w) := fun w => by have := isNaN_any r w; rwa [f2] at this
 have HM : Hid _ := hn
 have hE : y / 4503599627370496 < 2048 := by omega
 clear hn f1 f2 c1 c3 h0 h hy1 hy2
 generalize 1022 * 4503599627370496 + y % 4503599627370496 = z1 at *
 generalize y % 4503599627370496 = u at *
 generalize hEE : y / 4503599627370496 = E at *
 clear hEE
 have hEi : (E : Int) < 2048 := by omega
 go_enter Tryz.func138, Tryz.ntmps138
 go_wp2_with (first
   | (go_at_call 109; refine (HI.out _).mono ?_; rintro e w' ⟨rfl, rfl⟩)
   | (go_at_call 108; refine (HN.out _).mono ?_; rintro e w' ⟨rfl, rfl⟩)
   | (go_at_call 155; refine (HM.out _).mono ?_; rintro e w' ⟨rfl, rfl⟩))
 go_ret2
 exact ⟨ret_fi (by omega), rfl⟩
def bits53 (r : Nat) : Nat := if r < 4503599627370496 then r * 2 ^ (52 - Nat.log2 r) else 4503599627370496 + r % 4503599627370496
def place53 (r : Nat) : Int := if r < 4503599627370496 then -1126 + (Nat.log2 r : Int) else -1075 + ((r / 4503599627370496 : Nat) : Int)
theorem bits53_bounds (r : Nat) (h0 : r ≠ 0) : 4503599627370496 ≤ bits53 r ∧ bits53 r < 9007199254740992 := by
 unfold bits53
 split
 · rename_i h
   have a1 := Nat.log2_self_le h0
   have a2 : r < 2 ^ (Nat.log2 r + 1) := Nat.lt_log2_self
   have a3 : Nat.log2 r < 52 := (Nat.log2_lt h0).2 h
   have b1 := Nat.mul_le_mul_right (2 ^ (52 - Nat.log2 r)) a1
   have b2 := Nat.mul_lt_mul_of_pos_right a2 (Nat.two_pow_pos (52 - Nat.log2 r))
   rw [← Nat.pow_add, show Nat.log2 r + (52 - Nat.log2 r) = 52 by omega] at b1
   rw [← Nat.pow_add, show Nat.log2 r + 1 + (52 - Nat.log2 r) = 53 by omega] at b2
   exact ⟨b1, b2⟩
 · omega
theorem bits53_val (r : Nat) (h0 : r ≠ 0) : ((bits53 r : Nat) : Rat) * p2 (place53 r) = (fmag r : Nat) * p2 (fpl r) := by
 unfold bits53 place53 fmag fpl
 split
 · rename_i h
   have a3 : Nat.log2 r < 52 := (Nat.log2_lt h0).2 h
   rw [nat_mul_p2, Rat.mul_assoc, ← p2_add]
   congr 2
   omega
 · congr 2
   omega
theorem frexp_any (r : Nat) (w : World) (h0 : r ≠ 0) (h : r < 9218868437227405312) :
   Calls Tryz.prog 138 #[.float .f64 r] w fun e w' => e = .returned (.tuple #[.float .f64 (1022 * 4503599627370496 + (bits53 r - 4503599627370496)), .int .i64 (place53 r + 53)]) ∧ w' = w := by
 have hb := bits53_bounds r h0
 by_cases hs : r < 4503599627370496
 · have a3 : Nat.log2 r < 52 := (Nat.log2_lt h0).2 hs
   have e1 : bits53 r = r * 2 ^ (52 - Nat.log2 r) := by unfold bits53; rw [if_pos hs]
   have e2 : place53 r = -1126 + (Nat.log2 r : Int) := by unfold place53; rw [if_pos hs]
   have hc := frexp_core r (Nat.log2 r * 4503599627370496 + r * 2 ^ (52 - Nat.log2 r)) (-52) w h0 h (by omega) (by omega) (by omega) (by omega) (fun w => normalize_small r _ w h0 hs rfl)
   rw [← e1] at hc
   rw [show (Nat.log2 r * 4503599627370496 + bits53 r) % 4503599627370496 = bits53 r - 4503599627370496 by omega, show (Nat.log2 r * 4503599627370496 + bits53 r) / 4503599627370496 = Nat.log2 r + 1 by omega] at hc
   rw [e2, show -1126 + (Nat.log2 r : Int) + 53 = -52 + ((Nat.log2 r + 1 : Nat) : Int) - 1022 by omega]
   exact hc
 · have e1 : bits53 r = 4503599627370496 + r % 4503599627370496 := by unfold bits53; rw [if_neg hs]
   have e2 : place53 r = -1075 + ((r / 4503599627370496 : Nat) : Int) := by unfold place53; rw [if_neg hs]
   have hc := frexp_core r r 0 w h0 h (by omega) h (by omega) (by omega) (fun w => normalize_big r w (by omega) h)
   rw [e1, e2, show 4503599627370496 + r % 4503599627370496 - 4503599627370496 = r % 4503599627370496 by omega, show -1075 + ((r / 4503599627370496 : Nat) : Int) + 53 = 0 + ((r / 4503599627370496 : Nat) : Int) - 1022 by omega]
   exact hc
set_option maxHeartbeats 1000000 in
theorem Frexp_of (a b : Nat) (c : Int) (w : World) (hf : ∀ w, Calls Tryz.prog 138 #[.float .f64 a] w fun e w' => e = .returned (.tuple #[.float .f64 b, .int .i64 c]) ∧ w' = w) :
   Calls Tryz.prog 114 #[.float .f64 a] w fun e w' => e = .returned (.tuple #[.float .f64 b, .int .i64 c]) ∧ w' = w := by
 have HF : Hid _ := hf
 clear hf
 go_enter Tryz.func114, Tryz.ntmps114
 go_wp2_with (first | (go_at_call 138; refine (HF.out _).mono ?_; rintro e w' ⟨rfl, rfl⟩))
 go_ret2
 exact ⟨rfl, rfl⟩
theorem conv_norm (u : Nat) (hu : u < 4503599627370496) : floatToIntVal .f64 (1075 * 4503599627370496 + u) .u64 = some ((4503599627370496 + u : Nat) : Int) := by
 unfold floatToIntVal
 have h : FloatKind.f64.decode (1075 * 4503599627370496 + u) = .number false (4503599627370496 + u) 0 := read_norm 1075 u (by omega) (by omega) hu
 rw [h]
 have hn : 4503599627370496 + u ≤ 9007199254740992 := by omega
 generalize 4503599627370496 + u = n at *
 have h2 : Ieee.Datum.toInt .zero (.number false n 0) = some (n : Int) := by
   simp [Ieee.Datum.toInt, Ieee.Datum.integral, Ieee.Toward.cut, Ieee.signed]
 rw [h2]
 have h3 : IntKind.u64.min = 0 := by decide
 have h4 : IntKind.u64.max = 18446744073709551615 := by decide
 simp only [h3, h4]
 rw [if_pos ⟨by omega, by omega⟩]
end Go.Proofs.YtofklahgpkmfmaaGreatDoor
