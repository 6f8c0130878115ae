/- Own texts, put together: Fc Eo Eb Ec Ed Er Es Zr Zs Ee. -/
import Derived.Test.YtghchejehlljkaaQ1
import Derived.Test.YtghchejehlljkaaQ2
import Derived.Test.YtghchejehlljkaaQ4
import Derived.Test.YtghchejehlljkaaQ5
import Derived.WalkKit
import Derived.WalkSpells
import Derived.WalkLawsBesides
import Derived.Laws.FloatArith
/- Floats: Frexp and Ldexp. -/
namespace Go.Proofs.Ytghchejehlljkaa
open Go.RowKit

theorem and_exp (n : Nat) (h : n < 2048) : bits .and .u64 (n : Int) 2047 = (n : Int) := by
  rw [show (2047 : Int) = ((2047 : Nat) : Int) from rfl, u64_and_nat n _ (by omega) (by omega), show (2047 : Nat) = 2 ^ 11 - 1 by decide, Nat.and_two_pow_sub_one_eq_mod, Nat.mod_eq_of_lt h]

theorem and_exp_i (n : Nat) (h : n < 2048) : bits .and .i64 (n : Int) 2047 = (n : Int) := by
  have h127 : (BitVec.ofInt 64 2047).toNat = 2 ^ 11 - 1 := by decide
  have key : (BitVec.ofInt 64 (n : Int) &&& BitVec.ofInt 64 2047).toNat = n := by
    rw [BitVec.toNat_and, BitVec.toNat_ofInt, h127, Nat.and_two_pow_sub_one_eq_mod]
    omega
  show IntKind.i64.wrap ((BitVec.ofInt 64 (n : Int) &&& BitVec.ofInt 64 2047).toNat : Nat) = (n : Int)
  rw [key, IntKind.wrap_i64]
  omega

theorem andNot_exp (r : Nat) (h : r < 9223372036854775808) : bits .andNot .u64 (r : Int) 9218868437227405312 = ((r % 4503599627370496 : Nat) : Int) := by
  rw [show (9218868437227405312 : Int) = ((9218868437227405312 : Nat) : Int) from rfl, u64_andNot_nat r _ (by omega) (by omega)]
  congr 1
  have e : (18446744073709551615 - 9218868437227405312 : Nat) = 2 ^ 63 ||| (2 ^ 52 - 1) := by decide
  rw [e, Nat.and_or_distrib_left, Nat.and_two_pow_sub_one_eq_mod]
  have e2 : r &&& 2 ^ 63 = 0 := by
    apply Nat.eq_of_testBit_eq
    intro i
    rw [Nat.testBit_and, Nat.testBit_two_pow, Nat.zero_testBit]
    by_cases hi : 63 = i
    · subst hi; rw [Nat.testBit_lt_two_pow (by omega)]; rfl
    · simp [hi]
  rw [e2, Nat.zero_or]

theorem or_exp (T u : Nat) (hT : T < 2048) (hu : u < 4503599627370496) : bits .or .u64 (u : Int) ((T * 4503599627370496 : Nat) : Int) = ((T * 4503599627370496 + u : Nat) : Int) := by
  rw [u64_or_nat u _ (by omega) (by omega)]
  congr 1
  rw [show T * 4503599627370496 = 2 ^ 52 * T by rw [Nat.mul_comm], Nat.or_comm, ← Nat.two_pow_add_eq_or_of_lt hu]

theorem zero_order (r : Nat) (h0 : r ≠ 0) (h : r < 9218868437227405312) : (FloatKind.f64.format.order r 0 == some .eq) = false := by
  show (Ieee.double.order r 0 == some .eq) = false
  have hf : Fin64 r := by unfold Fin64 frung; omega
  rw [order_fin hf (by unfold Fin64 frung; decide)]
  have e0 : fval 0 = 0 := fval_zero_iff.2 rfl
  have e1 : fval r ≠ 0 := by rw [Ne, fval_zero_iff]; unfold frung; omega
  rw [e0]
  rw [if_neg e1]
  split <;> rfl

theorem fin_flags (r : Nat) (h : r < 9218868437227405312) : isinf r = false ∧ isnan r = false := by
  have e : frung r = r := Nat.mod_eq_of_lt (by omega)
  unfold isinf isnan
  rw [e]
  exact ⟨by rw [beq_eq_false_iff_ne]; omega, by simp; omega⟩

theorem ret_fi {a : Nat} {b c : Int} (h : b = c) : Ending.returned (.tuple #[.float .f64 a, .int .i64 b]) = .returned (.tuple #[.float .f64 a, .int .i64 c]) := by rw [h]

set_option maxHeartbeats 2000000 in
theorem frexp_core (r y : Nat) (e0 : Int) (w : World) (h0 : r ≠ 0) (h : r < 9218868437227405312) (hy1 : 4503599627370496 ≤ y) (hy2 : y < 9218868437227405312) (he1 : -100 ≤ e0) (he2 : e0 ≤ 100)
    (hn : ∀ w, Calls Try.prog 62 #[.float .f64 r] w fun e w' => e = .returned (.tuple #[.float .f64 y, .int .i64 e0]) ∧ w' = w) :
    Calls Try.prog 104 #[.float .f64 r] w fun e w' => e = .returned (.tuple #[.float .f64 (1022 * 4503599627370496 + y % 4503599627370496), .int .i64 (e0 + ((y / 4503599627370496 : Nat) : Int) - 1022)]) ∧ w' = w := by
  have z := zero_order r h0 h
  obtain ⟨f1, f2⟩ := fin_flags r h
  have b1 := run_bits y
  have b2 := run_frombits (1022 * 4503599627370496 + y % 4503599627370496)
  have c1 := and_exp (y / 4503599627370496) (by omega)
  have c1' : bits .and .u64 ((y : Int) / 4503599627370496) 2047 = ((y / 4503599627370496 : Nat) : Int) := by rw [show ((y : Int) / 4503599627370496) = ((y / 4503599627370496 : Nat) : Int) by omega]; exact c1
  have c2 := andNot_exp y (by omega)
  have c3 := or_exp 1022 (y % 4503599627370496) (by omega) (Nat.mod_lt _ (by omega))
  have c3' : bits .or .u64 ((y % 4503599627370496 : Nat) : Int) 4602678819172646912 = ((1022 * 4503599627370496 + y % 4503599627370496 : Nat) : Int) := c3
  have HI : Hid (∀ w, Calls Try.prog 61 #[.float .f64 r, .int .i64 0] w fun e w' => e = .returned (.bool false) ∧ w' = w) := fun w => by have := isInf0_any r w (by omega); rwa [f1] at this
  have HN : Hid (∀ w, Calls Try.prog 25 #[.float .f64 r] w fun e w' => e = .returned (.bool false) ∧ w' = w) := fun w => by have := isNaN_any r w; rwa [f2] at this
  have HM : Hid _ := hn
  have hE : y / 4503599627370496 < 2048 := by omega
  clear hn f1 f2 c1 c3 h0 h hy1 hy2
  generalize 1022 * 4503599627370496 + y % 4503599627370496 = z1 at *
  generalize y % 4503599627370496 = u at *
  generalize hEE : y / 4503599627370496 = E at *
  clear hEE
  have hEi : (E : Int) < 2048 := by omega
  go_enter Try.func104, Try.ntmps104
  go_wp2_with (first
    | (go_at_call 61; refine (HI.out _).mono ?_; rintro e w' ⟨rfl, rfl⟩)
    | (go_at_call 25; refine (HN.out _).mono ?_; rintro e w' ⟨rfl, rfl⟩)
    | (go_at_call 62; refine (HM.out _).mono ?_; rintro e w' ⟨rfl, rfl⟩))
  go_ret2
  exact ⟨ret_fi (by omega), rfl⟩

/-- The 53 bits and the place of a finite float that is not 0, its highest bit the 53rd. -/
def bits53 (r : Nat) : Nat := if r < 4503599627370496 then r * 2 ^ (52 - Nat.log2 r) else 4503599627370496 + r % 4503599627370496
def place53 (r : Nat) : Int := if r < 4503599627370496 then -1126 + (Nat.log2 r : Int) else -1075 + ((r / 4503599627370496 : Nat) : Int)

theorem bits53_bounds (r : Nat) (h0 : r ≠ 0) : 4503599627370496 ≤ bits53 r ∧ bits53 r < 9007199254740992 := by
  unfold bits53
  split
  · rename_i h
    have a1 := Nat.log2_self_le h0
    have a2 : r < 2 ^ (Nat.log2 r + 1) := Nat.lt_log2_self
    have a3 : Nat.log2 r < 52 := (Nat.log2_lt h0).2 h
    have b1 := Nat.mul_le_mul_right (2 ^ (52 - Nat.log2 r)) a1
    have b2 := Nat.mul_lt_mul_of_pos_right a2 (Nat.two_pow_pos (52 - Nat.log2 r))
    rw [← Nat.pow_add, show Nat.log2 r + (52 - Nat.log2 r) = 52 by omega] at b1
    rw [← Nat.pow_add, show Nat.log2 r + 1 + (52 - Nat.log2 r) = 53 by omega] at b2
    exact ⟨b1, b2⟩
  · omega

theorem bits53_val (r : Nat) (h0 : r ≠ 0) : ((bits53 r : Nat) : Rat) * p2 (place53 r) = (fmag r : Nat) * p2 (fpl r) := by
  unfold bits53 place53 fmag fpl
  split
  · rename_i h
    have a3 : Nat.log2 r < 52 := (Nat.log2_lt h0).2 h
    rw [nat_mul_p2, Rat.mul_assoc, ← p2_add]
    congr 2
    omega
  · congr 2
    omega

/-- Frexp of a finite float above 0. -/
theorem frexp_any (r : Nat) (w : World) (h0 : r ≠ 0) (h : r < 9218868437227405312) :
    Calls Try.prog 104 #[.float .f64 r] w fun e w' => e = .returned (.tuple #[.float .f64 (1022 * 4503599627370496 + (bits53 r - 4503599627370496)), .int .i64 (place53 r + 53)]) ∧ w' = w := by
  have hb := bits53_bounds r h0
  by_cases hs : r < 4503599627370496
  · have a3 : Nat.log2 r < 52 := (Nat.log2_lt h0).2 hs
    have e1 : bits53 r = r * 2 ^ (52 - Nat.log2 r) := by unfold bits53; rw [if_pos hs]
    have e2 : place53 r = -1126 + (Nat.log2 r : Int) := by unfold place53; rw [if_pos hs]
    have hc := frexp_core r (Nat.log2 r * 4503599627370496 + r * 2 ^ (52 - Nat.log2 r)) (-52) w h0 h (by omega) (by omega) (by omega) (by omega) (fun w => normalize_small r _ w h0 hs rfl)
    rw [← e1] at hc
    rw [show (Nat.log2 r * 4503599627370496 + bits53 r) % 4503599627370496 = bits53 r - 4503599627370496 by omega, show (Nat.log2 r * 4503599627370496 + bits53 r) / 4503599627370496 = Nat.log2 r + 1 by omega] at hc
    rw [e2, show -1126 + (Nat.log2 r : Int) + 53 = -52 + ((Nat.log2 r + 1 : Nat) : Int) - 1022 by omega]
    exact hc
  · have e1 : bits53 r = 4503599627370496 + r % 4503599627370496 := by unfold bits53; rw [if_neg hs]
    have e2 : place53 r = -1075 + ((r / 4503599627370496 : Nat) : Int) := by unfold place53; rw [if_neg hs]
    have hc := frexp_core r r 0 w h0 h (by omega) h (by omega) (by omega) (fun w => normalize_big r w (by omega) h)
    rw [e1, e2, show 4503599627370496 + r % 4503599627370496 - 4503599627370496 = r % 4503599627370496 by omega, show -1075 + ((r / 4503599627370496 : Nat) : Int) + 53 = 0 + ((r / 4503599627370496 : Nat) : Int) - 1022 by omega]
    exact hc

set_option maxHeartbeats 1000000 in
theorem frexp_zero (w : World) : Calls Try.prog 104 #[.float .f64 0] w fun e w' => e = .returned (.tuple #[.float .f64 0, .int .i64 0]) ∧ w' = w := by
  have z : (FloatKind.f64.format.order 0 0 == some .eq) = true := by decide
  go_enter Try.func104, Try.ntmps104
  go_wp2
  go_ret2
  exact ⟨rfl, rfl⟩

set_option maxHeartbeats 1000000 in
theorem Frexp_of (a b : Nat) (c : Int) (w : World) (hf : ∀ w, Calls Try.prog 104 #[.float .f64 a] w fun e w' => e = .returned (.tuple #[.float .f64 b, .int .i64 c]) ∧ w' = w) :
    Calls Try.prog 95 #[.float .f64 a] w fun e w' => e = .returned (.tuple #[.float .f64 b, .int .i64 c]) ∧ w' = w := by
  have HF : Hid _ := hf
  clear hf
  go_enter Try.func95, Try.ntmps95
  go_wp2_with (first | (go_at_call 104; refine (HF.out _).mono ?_; rintro e w' ⟨rfl, rfl⟩))
  go_ret2
  exact ⟨rfl, rfl⟩

theorem conv_norm (u : Nat) (hu : u < 4503599627370496) : floatToIntVal .f64 (1075 * 4503599627370496 + u) .u64 = some ((4503599627370496 + u : Nat) : Int) := by
  unfold floatToIntVal
  have h : FloatKind.f64.decode (1075 * 4503599627370496 + u) = .number false (4503599627370496 + u) 0 := read_norm 1075 u (by omega) (by omega) hu
  rw [h]
  have hn : 4503599627370496 + u ≤ 9007199254740992 := by omega
  generalize 4503599627370496 + u = n at *
  have h2 : Ieee.Datum.toInt .zero (.number false n 0) = some (n : Int) := by
    simp [Ieee.Datum.toInt, Ieee.Datum.integral, Ieee.Toward.cut, Ieee.signed]
  rw [h2]
  have h3 : IntKind.u64.min = 0 := by decide
  have h4 : IntKind.u64.max = 18446744073709551615 := by decide
  simp only [h3, h4]
  rw [if_pos ⟨by omega, by omega⟩]

end Go.Proofs.Ytghchejehlljkaa

/- The model's rounding is to the nearest, the even one between two. -/
namespace Go.Proofs.Ytghchejehlljkaa

theorem cut_even (neg : Bool) (n d : Nat) : ∃ k, Ieee.Toward.even.cut neg n d = k ∧ 2 * (k * 2 ^ d) ≤ 2 * n + 2 ^ d ∧ 2 * n ≤ 2 * (k * 2 ^ d) + 2 ^ d ∧ (2 * (k * 2 ^ d) = 2 * n + 2 ^ d → k % 2 = 0) ∧ (2 * n = 2 * (k * 2 ^ d) + 2 ^ d → k % 2 = 0) := by
  refine ⟨_, rfl, ?_⟩
  unfold Ieee.Toward.cut
  simp only [Nat.shiftLeft_eq, Nat.one_mul]
  rcases Nat.lt_or_ge (n.log2 + 2) d with h | h
  · rw [Nat.min_eq_right (by omega)]
    have h1 : n < 2 ^ (n.log2 + 1) := Nat.lt_log2_self
    have h2 : 2 ^ (n.log2 + 2) = 2 * 2 ^ (n.log2 + 1) := by rw [Nat.pow_succ]; omega
    have h3 : 2 ^ (n.log2 + 2) ≤ 2 ^ d := Nat.pow_le_pow_right (by omega) (by omega)
    generalize hg : 2 ^ (n.log2 + 2) = g at *
    generalize 2 ^ (n.log2 + 1) = g1 at *
    generalize 2 ^ d = D at *
    have e1 : n / g = 0 := Nat.div_eq_of_lt (by omega)
    have e2 : n % g = n := Nat.mod_eq_of_lt (by omega)
    rw [e1, e2]
    have e3 : (decide (g < 2 * n) || g == 2 * n && 0 % 2 == 1) = false := by simp; omega
    rw [e3]
    simp
    omega
  · rw [Nat.min_eq_left h]
    have hg : 0 < 2 ^ d := Nat.two_pow_pos d
    generalize 2 ^ d = g at *
    have hd := Nat.div_add_mod n g
    have hm := Nat.mod_lt n hg
    generalize n / g = low at *
    generalize n % g = rest at *
    rw [Nat.mul_comm] at hd
    by_cases hmore : g < 2 * rest ∨ (g = 2 * rest ∧ low % 2 = 1)
    · have e3 : (decide (g < 2 * rest) || g == 2 * rest && low % 2 == 1) = true := by simpa using hmore
      rw [e3]
      have : (low + true.toNat) * g = low * g + g := by simp [Nat.add_mul]
      rw [this]
      generalize low * g = P at *
      refine ⟨by omega, by omega, ?_, ?_⟩
      · intro h; simp; omega
      · intro h; simp; omega
    · have e3 : (decide (g < 2 * rest) || g == 2 * rest && low % 2 == 1) = false := by
        rw [Bool.eq_false_iff]; intro h; apply hmore; simpa using h
      rw [e3]
      have : (low + false.toNat) * g = low * g := by simp
      rw [this]
      generalize low * g = P at *
      refine ⟨by omega, by omega, ?_, ?_⟩
      · intro h; simp; omega
      · intro h; simp; omega

theorem int_eq {a b : Int} {u : Rat} (hu : 0 < u) (h : (a : Rat) * u = (b : Rat) * u) : a = b :=
  Int.le_antisymm (int_le hu (le_of_same h)) (int_le hu (le_of_same h.symm))

theorem log_bounds (mag : Nat) (hm : mag ≠ 0) (place : Int) : p2 (place + (mag.log2 : Nat)) ≤ (mag : Nat) * p2 place ∧ ((mag : Nat) : Rat) * p2 place < p2 (place + (mag.log2 : Nat) + 1) := by
  have h1 : 2 ^ mag.log2 ≤ mag := Nat.log2_self_le hm
  have h2 : mag < 2 ^ (mag.log2 + 1) := Nat.lt_log2_self
  have hp := p2_pos place
  constructor
  · rw [p2_add, p2_nat, Rat.mul_comm]
    exact Rat.mul_le_mul_of_nonneg_right (Rat.natCast_le_natCast.2 h1) (Rat.le_of_lt hp)
  · rw [show place + (mag.log2 : Nat) + 1 = place + ((mag.log2 + 1 : Nat) : Int) by omega, p2_add, p2_nat, Rat.mul_comm (p2 place)]
    exact Rat.mul_lt_mul_of_pos_right (Rat.natCast_lt_natCast.2 h2) hp

theorem nearest_near (neg : Bool) (mag : Nat) (place : Int) (hm : mag ≠ 0) : ∃ r, Ieee.double.nearest neg mag place = Ieee.double.word neg r ∧ Near ((mag : Nat) * p2 place) r := by
  unfold Ieee.Format.nearest
  rw [if_neg hm]
  simp only [d_lp, d_bin, d_inf, show Ieee.double.fractionBits = 52 from rfl]
  obtain ⟨last, hlast⟩ : ∃ l : Int, l = max (place + (mag.log2 : Nat) - ((52 : Nat) : Int)) (-1074) := ⟨_, rfl⟩
  rw [← hlast]
  obtain ⟨k, hk, c1, c2, c3, c4⟩ := cut_even neg (mag <<< (place - last).toNat) (last - place).toNat
  rw [hk]
  refine ⟨_, rfl, Or.inr ⟨?_, (last + 1074).toNat, k, ?_, ?_, by rw [show last - -1074 = last + 1074 by omega]⟩⟩
  · exact Rat.mul_pos (Rat.natCast_pos.2 (by omega)) (p2_pos _)
  · have hb := log_bounds mag hm place
    have eT : (((last + 1074).toNat : Nat) : Int) - 1075 = last - 1 := by omega
    rw [Last, eT]
    have x1 : ((9007199254740992 : Int) : Rat) * p2 (last - 1) = p2 (last + 52) := by
      rw [show last + 52 = (last - 1) + ((53 : Nat) : Int) by omega, p2_add, p2_nat, Rat.mul_comm]; rfl
    have x2 : ((18014398509481984 : Int) : Rat) * p2 (last - 1) = p2 (last + 53) := by
      rw [show last + 53 = (last - 1) + ((54 : Nat) : Int) by omega, p2_add, p2_nat, Rat.mul_comm]; rfl
    rw [x1, x2]
    constructor
    · by_cases h : last = -1074
      · left; omega
      · right
        have := p2_mono (a := last + 52) (b := place + (mag.log2 : Nat)) (by omega)
        exact Rat.le_trans this hb.1
    · exact lt_of_lt_le hb.2 (p2_mono (by omega))
  · have eT : (((last + 1074).toNat : Nat) : Int) - 1075 = last - 1 := by omega
    rw [eT]
    generalize hd : (last - place).toNat = d at *
    generalize hn : mag <<< (place - last).toNat = n at *
    rw [Nat.shiftLeft_eq] at hn
    have hv := p2_pos (last - (d : Nat) - 1)
    have e1 : ((mag : Nat) : Rat) * p2 place = ((2 * (n : Int) : Int) : Rat) * p2 (last - (d : Nat) - 1) := by
      have a1 : ((2 * (n : Int) : Int) : Rat) = 2 * ((n : Nat) : Rat) := by rw [Rat.intCast_mul]; rfl
      have a2 : p2 (last - (d : Nat)) = 2 * p2 (last - (d : Nat) - 1) := by
        have := p2_add 1 (last - (d : Nat) - 1)
        rwa [p2_one, show 1 + (last - (d : Nat) - 1) = last - (d : Nat) by omega] at this
      have a3 : ((mag : Nat) : Rat) * p2 place = ((n : Nat) : Rat) * p2 (last - (d : Nat)) := by
        rw [← hn, nat_mul_p2, Rat.mul_assoc, ← p2_add]
        congr 2; omega
      rw [a3, a1, a2]
      generalize p2 (last - (d : Nat) - 1) = v
      grind
    have e2 : ∀ z : Int, (z : Rat) * p2 (last - 1) = ((z * ((2 ^ d : Nat) : Int) : Int) : Rat) * p2 (last - (d : Nat) - 1) := fun z => by
      rw [show last - 1 = (d : Nat) + (last - (d : Nat) - 1) by omega, p2_add, p2_nat, Rat.intCast_mul, Rat.mul_assoc]; rfl
    rw [e1]
    unfold Half
    rw [e2, e2]
    have y1 : (2 * (k : Int) - 1) * ((2 ^ d : Nat) : Int) = 2 * ((k * 2 ^ d : Nat) : Int) - ((2 ^ d : Nat) : Int) := by rw [Int.natCast_mul]; grind
    have y2 : (2 * (k : Int) + 1) * ((2 ^ d : Nat) : Int) = 2 * ((k * 2 ^ d : Nat) : Int) + ((2 ^ d : Nat) : Int) := by rw [Int.natCast_mul]; grind
    rw [y1, y2]
    generalize k * 2 ^ d = P at *
    generalize 2 ^ d = D at *
    refine ⟨le_int hv (by omega), le_int hv (by omega), ?_, ?_⟩
    · intro h
      have := int_eq hv h
      exact c3 (by omega)
    · intro h
      have := int_eq hv h
      exact c4 (by omega)

end Go.Proofs.Ytghchejehlljkaa

/- Which floats are tame, which are safe: the program's. -/
namespace Go.Proofs.Ytghchejehlljkaa
open Go.RowKit

theorem leq_word {r c : Nat} (hr : r < 9223372036854775808) (hc : c < 9218868437227405312) : (FloatKind.f64.format.order r c == some .lt || FloatKind.f64.format.order r c == some .eq) = decide (r ≤ c) := by
  show (Ieee.double.order r c == some .lt || Ieee.double.order r c == some .eq) = _
  rcases Nat.lt_or_ge 9218868437227405312 r with h | h
  · rw [order_nan_left (by unfold frung; omega)]
    simp; omega
  · rw [order_rung h hc]
    rcases Nat.lt_trichotomy r c with e | e | e
    · rw [if_pos e]; simp; omega
    · subst e; simp
    · rw [if_neg (by omega), if_neg (by omega)]; simp; omega

theorem geq_word {r c : Nat} (hr : r ≤ 9218868437227405312) (hc : c < 9218868437227405312) : (FloatKind.f64.format.order r c == some .gt || FloatKind.f64.format.order r c == some .eq) = decide (c ≤ r) := by
  show (Ieee.double.order r c == some .gt || Ieee.double.order r c == some .eq) = _
  rw [order_rung hr hc]
  rcases Nat.lt_trichotomy r c with e | e | e
  · rw [if_pos e]; simp; omega
  · subst e; simp
  · rw [if_neg (by omega), if_neg (by omega)]; simp; omega

theorem order_nan_right {b c : Nat} (hb : 9218868437227405312 < frung b) : Ieee.double.order c b = none := by
  obtain ⟨s, t, e⟩ := read_nan hb
  unfold Ieee.Format.order
  rw [e]
  cases Ieee.double.read c <;> rfl

theorem inf_right {c : Nat} (hc : Fin64 c) : Ieee.double.order c 9218868437227405312 = some .lt := by
  have h1 := read_fin hc
  have h2 := read_inf (b := 9218868437227405312) (by decide)
  have h3 : fneg 9218868437227405312 = false := by decide
  unfold Ieee.Format.order
  rw [h1, h2, h3]
  rfl

/-- A float c, not above r. -/
theorem const_leq {r c : Nat} (hr : r < 9223372036854775808) (hc : c < 9218868437227405312) : (FloatKind.f64.format.order c r == some .lt || FloatKind.f64.format.order c r == some .eq) = decide (c ≤ r ∧ r ≤ 9218868437227405312) := by
  show (Ieee.double.order c r == some .lt || Ieee.double.order c r == some .eq) = _
  rcases Nat.lt_trichotomy 9218868437227405312 r with h | h | h
  · rw [order_nan_right (by unfold frung; omega)]
    simp; omega
  · subst h
    rw [inf_right (by unfold Fin64 frung; omega)]
    simp; omega
  · rw [order_rung (Nat.le_of_lt hc) h]
    rcases Nat.lt_trichotomy c r with e | e | e
    · rw [if_pos e]; simp; omega
    · subst e; simp; omega
    · rw [if_neg (by omega), if_neg (by omega)]; simp; omega

theorem eql_zero {r : Nat} (hr : r < 9223372036854775808) : (FloatKind.f64.format.order r 0 == some .eq) = decide (r = 0) := by
  show (Ieee.double.order r 0 == some .eq) = _
  rcases Nat.lt_or_ge 9218868437227405312 r with h | h
  · rw [order_nan_left (by unfold frung; omega)]
    simp; omega
  · rw [order_rung h (by omega)]
    by_cases e : r = 0
    · subst e; simp
    · rw [if_neg (by omega), if_neg e]; simp [e]

theorem tame_any (b : Nat) (w : World) (hb : b < 18446744073709551616) :
    Calls Try.prog 82 #[.float .f64 b] w fun e w' => e = .returned (.bool (decide (frung b ≤ 9110782046170513408))) ∧ w' = w := by
  have h1 := leq_word (r := frung b) (c := 9110782046170513408) (by unfold frung; omega) (by omega)
  have HA : Hid (Calls Try.prog 29 #[.float .f64 b] w fun e w' => e = .returned (.float .f64 (frung b)) ∧ w' = w) := abs_any b w hb
  generalize decide (frung b ≤ 9110782046170513408) = res at *
  generalize frung b = r at *
  go_enter Try.func82, Try.ntmps82
  go_wp2_with fail
  refine HA.out.mono ?_
  rintro e w' ⟨rfl, rfl⟩
  go_wp2
  go_ret
  exact ⟨rfl, rfl⟩

/-- Which words are safe floats. -/
def SafeW (r : Nat) : Prop := r = 0 ∨ (2580562586483294208 ≤ r ∧ r ≤ 6633802251116740608)
instance (r : Nat) : Decidable (SafeW r) := by unfold SafeW; exact inferInstance

set_option maxHeartbeats 1000000 in
theorem safe_any (b : Nat) (w : World) (hb : b < 18446744073709551616) :
    Calls Try.prog 101 #[.float .f64 b] w fun e w' => e = .returned (.bool (decide (SafeW (frung b)))) ∧ w' = w := by
  have hr : frung b < 9223372036854775808 := by unfold frung; omega
  have h1 := eql_zero hr
  have h2 := const_leq (r := frung b) (c := 2580562586483294208) hr (by omega)
  have h3 := leq_word (r := frung b) (c := 6633802251116740608) hr (by omega)
  have key : Hid (decide (SafeW (frung b)) = (decide (frung b = 0) || decide (2580562586483294208 ≤ frung b ∧ frung b ≤ 9218868437227405312) && decide (frung b ≤ 6633802251116740608))) := by
    unfold Hid SafeW
    by_cases e1 : frung b = 0 <;> by_cases e2 : 2580562586483294208 ≤ frung b <;> by_cases e3 : frung b ≤ 6633802251116740608 <;> simp [e1, e2, e3] <;> omega
  have HA : Hid (Calls Try.prog 29 #[.float .f64 b] w fun e w' => e = .returned (.float .f64 (frung b)) ∧ w' = w) := abs_any b w hb
  clear hr hb
  generalize decide (SafeW (frung b)) = res at *
  generalize frung b = r at *
  generalize decide (r = 0) = t1 at *
  generalize decide (2580562586483294208 ≤ r ∧ r ≤ 9218868437227405312) = t2 at *
  generalize decide (r ≤ 6633802251116740608) = t3 at *
  have ek := key.out
  clear key
  cases t1 <;> cases t2 <;> cases t3 <;> (simp at ek; subst ek; go_enter Try.func101, Try.ntmps101; go_wp2_with fail; refine HA.out.mono ?_; rintro e w' ⟨rfl, rfl⟩; go_wp2; go_ret; exact ⟨rfl, rfl⟩)

end Go.Proofs.Ytghchejehlljkaa

/- Which floats are tame, which are safe: the document's. -/
namespace Go.Proofs.Ytghchejehlljkaa
open Go.RowKit

theorem pw_up : ∀ k, k < 1000 → floatBits .mul .f64 ((1023 + k) * 4503599627370496) 4611686018427387904 = some ((1024 + k) * 4503599627370496) := by decide +kernel
theorem pw_down : ∀ k, k < 450 → floatBits .quo .f64 ((1023 - k) * 4503599627370496) 4611686018427387904 = some ((1022 - k) * 4503599627370496) := by decide +kernel



end Go.Proofs.Ytghchejehlljkaa

/- Tame and safe, as the document has them. -/
namespace Go.Proofs.Ytghchejehlljkaa
open Go.RowKit

/-- A float turned about. -/
def fflip (b : Nat) : Nat := if b < 9223372036854775808 then b + 9223372036854775808 else b - 9223372036854775808

theorem negF_eq (b : Nat) (hb : b < 18446744073709551616) : Op.negFloat .f64 b = fflip b := by
  show b ^^^ 2 ^ 63 = fflip b
  unfold fflip
  split
  · rename_i h
    have := Nat.two_pow_add_eq_or_of_lt (i := 63) (b := b) (by simpa using h) 1
    rw [show b + 9223372036854775808 = 2 ^ 63 * 1 + b by omega, this]
    apply Nat.eq_of_testBit_eq
    intro i
    simp only [Nat.testBit_xor, Nat.testBit_or, Nat.testBit_two_pow, Nat.mul_one]
    by_cases e : 63 = i
    · subst e
      have : b.testBit 63 = false := Nat.testBit_lt_two_pow (by simpa using h)
      simp [this]
    · simp [e]
  · rename_i h
    obtain ⟨r, rfl⟩ : ∃ r, b = 9223372036854775808 + r := ⟨b - 9223372036854775808, by omega⟩
    have hr : r < 2 ^ 63 := by omega
    have := Nat.two_pow_add_eq_or_of_lt (i := 63) (b := r) hr 1
    rw [show 9223372036854775808 + r - 9223372036854775808 = r by omega, show 9223372036854775808 + r = 2 ^ 63 * 1 + r by omega, this]
    apply Nat.eq_of_testBit_eq
    intro i
    simp only [Nat.testBit_xor, Nat.testBit_or, Nat.testBit_two_pow, Nat.mul_one]
    by_cases e : 63 = i
    · subst e
      have : r.testBit 63 = false := Nat.testBit_lt_two_pow hr
      simp [this]
    · simp [e]

theorem run_negF (b : Nat) (hb : b < 18446744073709551616) (w : World) : (Op.unary .neg (.float .f64 b)).run Try.prog w = .ok (.float .f64 (fflip b)) w := by
  show Result.ok (Value.float .f64 (Op.negFloat .f64 b)) w = _
  rw [negF_eq b hb]

theorem eql_self (b : Nat) : (FloatKind.f64.format.order b b == some .eq) = decide (frung b ≤ 9218868437227405312) := by
  show (Ieee.double.order b b == some .eq) = _
  rcases Nat.lt_trichotomy (frung b) 9218868437227405312 with h | h | h
  · rw [order_fin h h, if_neg Rat.lt_irrefl, if_pos rfl]; simp; omega
  · rw [order_inf_self h]; simp; omega
  · rw [order_nan_left h]; simp; omega

theorem fin_zero : Fin64 0 := by unfold Fin64 frung; decide
theorem fval_zero : fval 0 = 0 := fval_zero_iff.2 rfl

theorem eql_zero2 (b : Nat) : (FloatKind.f64.format.order b 0 == some .eq) = decide (frung b = 0) := by
  show (Ieee.double.order b 0 == some .eq) = _
  rcases Nat.lt_trichotomy (frung b) 9218868437227405312 with h | h | h
  · rw [order_fin h fin_zero, fval_zero]
    by_cases e : fval b = 0
    · rw [e, if_neg Rat.lt_irrefl, if_pos rfl]; simp [fval_zero_iff.1 e]
    · have : frung b ≠ 0 := fun e' => e (fval_zero_iff.2 e')
      by_cases e2 : fval b < 0
      · rw [if_pos e2]; simp [this]
      · rw [if_neg e2, if_neg e]; simp [this]
  · rw [order_inf_fin h fin_zero]
    cases fneg b <;> simp <;> omega
  · rw [order_nan_left h]; simp; omega

theorem lt_zero (b : Nat) (hb : b < 18446744073709551616) : (FloatKind.f64.format.order b 0 == some .lt) = decide (9223372036854775808 < b ∧ frung b ≤ 9218868437227405312) := by
  show (Ieee.double.order b 0 == some .lt) = _
  rcases Nat.lt_trichotomy (frung b) 9218868437227405312 with h | h | h
  · rw [order_fin h fin_zero, fval_zero]
    rcases Nat.lt_or_ge b 9223372036854775808 with hs | hs
    · have e : frung b = b := by unfold frung; omega
      have := fval_nonneg (r := b) (by omega)
      rw [if_neg (by grind)]
      by_cases e2 : fval b = 0
      · rw [if_pos e2]; simp; omega
      · rw [if_neg e2]; simp; omega
    · obtain ⟨r, rfl⟩ : ∃ r, b = 9223372036854775808 + r := ⟨b - 9223372036854775808, by omega⟩
      have e : frung (9223372036854775808 + r) = r := by unfold frung; omega
      rw [e] at h
      rw [fval_word h]
      rcases Nat.eq_zero_or_pos r with e2 | e2
      · subst e2
        rw [fval_zero, if_neg (by grind), if_pos (by grind)]; simp
      · have := fval_lt e2 h
        rw [fval_zero] at this
        rw [if_pos (by grind)]; simp [e]; omega
  · rw [order_inf_fin h fin_zero]
    have : fneg b = decide (9223372036854775808 < b) := by
      unfold frung at h
      unfold fneg
      rcases Nat.lt_or_ge b 9223372036854775808 with hs | hs
      · rw [show b / 9223372036854775808 % 2 = 0 by omega]; simp; omega
      · rw [show b / 9223372036854775808 % 2 = 1 by omega]; simp; omega
    rw [this]
    by_cases e : 9223372036854775808 < b <;> simp [e] <;> omega
  · rw [order_nan_left h]; simp; omega

/-- A float's size. -/
def szw (b : Nat) : Nat := if 9223372036854775808 < b ∧ frung b ≤ 9218868437227405312 then b - 9223372036854775808 else b

theorem szw_leq {b c : Nat} (hb : b < 18446744073709551616) (h : frung b ≤ 9218868437227405312) (h0 : 0 < c) (hc : c < 9218868437227405312) :
    (FloatKind.f64.format.order (szw b) c == some .lt || FloatKind.f64.format.order (szw b) c == some .eq) = decide (frung b ≤ c) := by
  rcases Nat.lt_trichotomy b 9223372036854775808 with hs | hs | hs
  · have e : szw b = b := by unfold szw; rw [if_neg (by omega)]
    have e2 : frung b = b := by unfold frung; omega
    rw [e, leq_word hs hc, e2]
  · subst hs
    have e : szw 9223372036854775808 = 9223372036854775808 := by decide
    have e2 : frung 9223372036854775808 = 0 := by decide
    rw [e, e2]
    show (Ieee.double.order 9223372036854775808 c == some .lt || Ieee.double.order 9223372036854775808 c == some .eq) = _
    have hf : fval 9223372036854775808 = 0 := fval_zero_iff.2 e2
    have := fval_lt h0 hc
    rw [fval_zero] at this
    rw [order_fin (by unfold Fin64; rw [e2]; omega) (by unfold Fin64 frung; omega), hf, if_pos this]
    simp
  · have e : szw b = frung b := by unfold szw; rw [if_pos ⟨hs, h⟩]; unfold frung; omega
    rw [e, leq_word (by unfold frung; omega) hc]

theorem szw_geq {b c : Nat} (hb : b < 18446744073709551616) (h : frung b ≤ 9218868437227405312) (h0 : frung b ≠ 0) (hc : c < 9218868437227405312) :
    (FloatKind.f64.format.order (szw b) c == some .gt || FloatKind.f64.format.order (szw b) c == some .eq) = decide (c ≤ frung b) := by
  have e : szw b = frung b := by
    unfold szw
    split
    · unfold frung; omega
    · unfold frung at *; omega
  rw [e, geq_word h hc]


end Go.Proofs.Ytghchejehlljkaa

/- What the language has of a sum, a difference, a product of two floats: the number, rounded. -/
namespace Go.Proofs.Ytghchejehlljkaa

/-- x is q, rounded: the one float. -/
def RV (q x : Rat) : Prop := ∃ r, r < 9218868437227405312 ∧ ((0 ≤ q ∧ Near q r ∧ x = fval r) ∨ (q ≤ 0 ∧ Near (-q) r ∧ x = -fval r))

theorem RV.fn {q x y : Rat} (h1 : RV q x) (h2 : RV q y) : x = y := by
  obtain ⟨r, _, h1⟩ := h1
  obtain ⟨s, _, h2⟩ := h2
  have z : ∀ {p : Rat}, 0 ≤ p → p ≤ 0 → p = 0 := fun a b => Rat.le_antisymm b a
  rcases h1 with ⟨a, n1, e1⟩ | ⟨a, n1, e1⟩ <;> rcases h2 with ⟨b, n2, e2⟩ | ⟨b, n2, e2⟩
  · rw [e1, e2, near_fun n1 n2]
  · have := z a b
    subst this
    rw [show -(0 : Rat) = 0 by grind] at n2
    rw [e1, e2, near_zero n1, near_zero n2, fval_zero]; grind
  · have := z b a
    subst this
    rw [show -(0 : Rat) = 0 by grind] at n1
    rw [e1, e2, near_zero n1, near_zero n2, fval_zero]; grind
  · rw [e1, e2, near_fun n1 n2]

theorem RV.neg {q x : Rat} (h : RV q x) : RV (-q) (-x) := by
  obtain ⟨r, hr, h⟩ := h
  refine ⟨r, hr, ?_⟩
  rcases h with ⟨a, n, e⟩ | ⟨a, n, e⟩
  · exact Or.inr ⟨by grind, by rwa [show - -q = q by grind], by rw [e]⟩
  · exact Or.inl ⟨by grind, n, by rw [e]; grind⟩

theorem fval_rung (T k : Nat) (hk : k ≤ 9007199254740992) (hT : T = 0 ∨ 4503599627370496 ≤ k) (hr : T * 4503599627370496 + k < 9218868437227405312) : fval (T * 4503599627370496 + k) = ((k : Nat) : Rat) * U T := by
  rw [(fval_pos_lt hr).1]
  unfold U
  rcases Nat.lt_or_ge k 4503599627370496 with h | h
  · have e : T = 0 := by omega
    subst e
    rw [show fmag (0 * 4503599627370496 + k) = k by unfold fmag; rw [if_pos (by omega)]; omega, show fpl (0 * 4503599627370496 + k) = ((0 : Nat) : Int) - 1074 by unfold fpl; rw [if_pos (by omega)]; rfl]
  · rcases Nat.lt_or_ge k 9007199254740992 with h2 | h2
    · rw [show fmag (T * 4503599627370496 + k) = k by unfold fmag; rw [if_neg (by omega)]; omega, show fpl (T * 4503599627370496 + k) = (T : Int) - 1074 by unfold fpl; rw [if_neg (by omega)]; omega]
    · have e : k = 9007199254740992 := by omega
      subst e
      rw [show fmag (T * 4503599627370496 + 9007199254740992) = 4503599627370496 by unfold fmag; rw [if_neg (by omega)]; omega, show fpl (T * 4503599627370496 + 9007199254740992) = 1 + ((T : Int) - 1074) by unfold fpl; rw [if_neg (by omega)]; omega, p2_add, p2_one]
      rw [show ((9007199254740992 : Nat) : Rat) = 9007199254740992 from rfl, show ((4503599627370496 : Nat) : Rat) = 4503599627370496 from rfl]
      grind

theorem half_unit (T : Nat) : U T = 2 * p2 ((T : Int) - 1075) := by
  unfold U
  rw [show (T : Int) - 1074 = 1 + ((T : Int) - 1075) by omega, p2_add, p2_one]

theorem near_rnd {q : Rat} {r : Nat} (h : Near q r) (hr : r < 9218868437227405312) : ∃ T k, Rnd q (fval r) T k := by
  rcases h with ⟨rfl, rfl⟩ | ⟨hq, T, k, hl, hh, e⟩
  · have hu := U_pos 0
    exact ⟨0, 0, by rw [fval_zero]; rw [show ((0 : Int) : Rat) = 0 from rfl]; grind, by rw [fval_zero]; grind, by rw [fval_zero]; grind, Or.inl rfl, by grind, by grind, by omega, by omega⟩
  · have hb := kept_bounds hl hh
    have e' : r = T * 4503599627370496 + k := by omega
    have hv := fval_rung T k hb.1 hb.2 (by omega)
    rw [← e'] at hv
    have hU := half_unit T
    have hu := p2_pos ((T : Int) - 1075)
    obtain ⟨l1, l2⟩ := hl
    obtain ⟨s1, s2, _, _⟩ := hh
    rw [show ((18014398509481984 : Int) : Rat) = 18014398509481984 from rfl] at l2
    rw [show ((9007199254740992 : Int) : Rat) = 9007199254740992 from rfl] at l1
    have e1 : ((2 * (k : Int) - 1 : Int) : Rat) = 2 * ((k : Nat) : Rat) - 1 := by rw [Rat.intCast_sub, Rat.intCast_mul]; rfl
    have e2 : ((2 * (k : Int) + 1 : Int) : Rat) = 2 * ((k : Nat) : Rat) + 1 := by rw [Rat.intCast_add, Rat.intCast_mul]; rfl
    rw [e1] at s1
    rw [e2] at s2
    have kv : ((k : Nat) : Rat) * U T = 2 * (((k : Nat) : Rat) * p2 ((T : Int) - 1075)) := by rw [hU]; grind
    have z1 : (2 * ((k : Nat) : Rat) - 1) * p2 ((T : Int) - 1075) = 2 * (((k : Nat) : Rat) * p2 ((T : Int) - 1075)) - p2 ((T : Int) - 1075) := by grind
    have z2 : (2 * ((k : Nat) : Rat) + 1) * p2 ((T : Int) - 1075) = 2 * (((k : Nat) : Rat) * p2 ((T : Int) - 1075)) + p2 ((T : Int) - 1075) := by grind
    rw [z1] at s1
    rw [z2] at s2
    have hx : fval r = ((k : Int) : Rat) * U T := by rw [hv]; rfl
    rw [kv] at hv
    clear z1 z2 kv e1 e2 e e'
    generalize ((k : Nat) : Rat) * p2 ((T : Int) - 1075) = Z at *
    generalize p2 ((T : Int) - 1075) = h at *
    refine ⟨T, (k : Int), hx, by rw [hv, hU]; grind, by rw [hv, hU]; grind, ?_, by rw [hU]; grind, by rw [hU]; grind, by omega, by omega⟩
    rcases l1 with l1 | l1
    · exact Or.inl l1
    · exact Or.inr (Or.inl (by rw [hU]; grind))

theorem RV.rn {q x : Rat} (h : RV q x) : RN q x := by
  obtain ⟨r, hr, h⟩ := h
  rcases h with ⟨_, n, rfl⟩ | ⟨_, n, rfl⟩
  · exact near_rnd n hr
  · obtain ⟨T, k, R⟩ := near_rnd n hr
    have := R.neg
    rw [show - -q = q by grind] at this
    exact ⟨T, _, this⟩

theorem near_lt {q : Rat} {r : Nat} (h : Near q r) (hq : q < p2 1023) : r < 9218868437227405312 := by
  rcases h with ⟨rfl, rfl⟩ | ⟨_, T, k, hl, hh, e⟩
  · omega
  · have hb := kept_bounds hl hh
    have hT : T < 2045 := by
      rcases hl.1 with h | h
      · omega
      · have e1 : ((9007199254740992 : Int) : Rat) * p2 ((T : Int) - 1075) = p2 ((T : Int) - 1022) := by
          rw [show (T : Int) - 1022 = ((T : Int) - 1075) + ((53 : Nat) : Int) by omega, p2_add, p2_nat, Rat.mul_comm]; rfl
        rw [e1] at h
        have := p2_lt_iff.1 (lt_of_le_lt h hq)
        omega
    omega

/-- A word's own form. -/
theorem fc_word {b : Nat} (h : Fin64 b) : ∃ S m, FC (fval b) S m := by
  have key : ∀ r, r < 9218868437227405312 → ∃ S m, FC ((fmag r : Nat) * p2 (fpl r)) S m := by
    intro r _
    have hm := fmag_lt r
    by_cases h : r < 4503599627370496
    · refine ⟨0, (fmag r : Int), ?_, by omega, by omega, Or.inl rfl⟩
      unfold U fpl
      rw [if_pos h]; rfl
    · refine ⟨r / 4503599627370496 - 1, (fmag r : Int), ?_, by omega, by omega, Or.inr (Or.inl ?_)⟩
      · unfold U fpl
        rw [if_neg h, show ((r / 4503599627370496 - 1 : Nat) : Int) - 1074 = -1074 + ((r / 4503599627370496 - 1 : Nat) : Int) by omega]; rfl
      · unfold fmag; rw [if_neg h]; omega
  obtain ⟨S, m, c⟩ := key (frung b) h
  unfold fval sgn1
  cases fneg b
  · refine ⟨S, m, ?_⟩
    rw [if_neg (by decide), Rat.one_mul]; exact c
  · refine ⟨S, -m, ?_⟩
    rw [if_pos rfl]
    have := c.neg
    rwa [show -((fmag (frung b) : Nat) * p2 (fpl (frung b)) : Rat) = -1 * ((fmag (frung b) : Nat) * p2 (fpl (frung b))) by grind] at this

/-- A number written. -/
theorem write_rv (s : Bool) (m : Nat) (place : Int) (hq : ((m : Nat) : Rat) * p2 place < p2 1023) : ∃ r, Ieee.double.write (.number s m place) = r ∧ Fin64 r ∧ r < 18446744073709551616 ∧ RV (sgn1 s * ((m : Nat) * p2 place)) (fval r) := by
  have fin : ∀ r0, r0 < 9218868437227405312 → Near ((m : Nat) * p2 place) r0 → ∃ r, Ieee.double.word s r0 = r ∧ Fin64 r ∧ r < 18446744073709551616 ∧ RV (sgn1 s * ((m : Nat) * p2 place)) (fval r) := by
    intro r0 h0 hn
    have hnn := (near_nonneg hn).1
    unfold sgn1
    cases s
    · refine ⟨r0, rfl, by unfold Fin64 frung; omega, by omega, r0, h0, Or.inl ?_⟩
      rw [if_neg (by decide), Rat.one_mul]
      exact ⟨hnn, hn, rfl⟩
    · refine ⟨9223372036854775808 + r0, by rw [Ieee.Format.word, d_sw]; rfl, by unfold Fin64 frung; omega, by omega, r0, h0, Or.inr ?_⟩
      rw [if_pos rfl, fval_word h0]
      generalize ((m : Nat) : Rat) * p2 place = z at *
      exact ⟨by grind, by rwa [show -(-1 * z) = z by grind], rfl⟩
  show ∃ r, Ieee.double.nearest s m place = r ∧ _
  by_cases hm : m = 0
  · subst hm
    have : Ieee.double.nearest s 0 place = Ieee.double.word s 0 := by unfold Ieee.Format.nearest; rw [if_pos rfl]
    rw [this]
    exact fin 0 (by omega) (Or.inl ⟨by rw [show ((0 : Nat) : Rat) = 0 from rfl]; grind, rfl⟩)
  · obtain ⟨r0, e, hn⟩ := nearest_near s m place hm
    rw [e]
    exact fin r0 (near_lt hn hq) hn

end Go.Proofs.Ytghchejehlljkaa

/- Sums, differences and products of words. -/
namespace Go.Proofs.Ytghchejehlljkaa

def Lim (q : Rat) : Prop := q < p2 1023 ∧ -q < p2 1023

theorem abs_total (n : Int) (u : Rat) : ((n.natAbs : Nat) : Rat) * u = (if n < 0 then -((n : Rat) * u) else (n : Rat) * u) := by
  by_cases h : n < 0
  · rw [if_pos h]
    have e : ((n.natAbs : Nat) : Rat) = ((-n : Int) : Rat) := by
      rw [show ((n.natAbs : Nat) : Rat) = ((n.natAbs : Int) : Rat) from rfl, show (n.natAbs : Int) = -n by omega]
    rw [e, Rat.intCast_neg]; grind
  · rw [if_neg h]
    rw [show ((n.natAbs : Nat) : Rat) = ((n.natAbs : Int) : Rat) from rfl, show (n.natAbs : Int) = n by omega]

theorem sum_datum (s t : Bool) (m n : Nat) (i j : Int) (hq : Lim (sgn1 s * (((m : Nat) : Rat) * p2 i) + sgn1 t * (((n : Nat) : Rat) * p2 j))) :
    ∃ r, ((Ieee.Datum.number s m i).sum (Ieee.Datum.number t n j)).map Ieee.double.write = some r ∧ Fin64 r ∧ r < 18446744073709551616 ∧ RV (sgn1 s * (((m : Nat) : Rat) * p2 i) + sgn1 t * (((n : Nat) : Rat) * p2 j)) (fval r) := by
  unfold Ieee.Datum.sum
  simp only [Option.map_some]
  obtain ⟨base, hbase⟩ : ∃ b : Int, b = min i j := ⟨_, rfl⟩
  rw [← hbase]
  have e1 := signed_p2 s m (i - base).toNat base
  have e2 := signed_p2 t n (j - base).toNat base
  rw [show base + (((i - base).toNat : Nat) : Int) = i by omega] at e1
  rw [show base + (((j - base).toNat : Nat) : Int) = j by omega] at e2
  obtain ⟨total, ht⟩ : ∃ z : Int, z = Ieee.signed s m (i - base).toNat + Ieee.signed t n (j - base).toNat := ⟨_, rfl⟩
  rw [← ht]
  have eq : sgn1 s * ((m : Nat) * p2 i) + sgn1 t * ((n : Nat) * p2 j) = (total : Rat) * p2 base := by
    rw [← e1, ← e2, ht, Rat.intCast_add]; grind
  rw [eq] at hq ⊢
  have ha := abs_total total (p2 base)
  have hp := p2_pos base
  obtain ⟨sg, hsg⟩ : ∃ b : Bool, b = (if total = 0 then s && t else decide (total < 0)) := ⟨_, rfl⟩
  rw [← hsg]
  obtain ⟨r, hr, hf, hl, hv⟩ := write_rv sg total.natAbs base (by rw [ha]; split; exact hq.2; exact hq.1)
  refine ⟨r, by rw [hr], hf, hl, ?_⟩
  have : sgn1 sg * (((total.natAbs : Nat) : Rat) * p2 base) = (total : Rat) * p2 base := by
    by_cases h0 : total = 0
    · subst h0
      rw [show ((Int.natAbs 0 : Nat) : Rat) = 0 from rfl, show ((0 : Int) : Rat) = 0 from rfl]; grind
    · rw [if_neg h0] at hsg
      rw [ha, hsg]
      unfold sgn1
      by_cases h : total < 0
      · rw [if_pos h, if_pos (by simpa using h)]; grind
      · rw [if_neg h, if_neg (by simpa using h)]; grind
  rwa [this] at hv

theorem fval_eq (b : Nat) : fval b = sgn1 (fneg b) * ((fmag (frung b) : Nat) * p2 (fpl (frung b))) := rfl

theorem add_bits {a b : Nat} (ha : Fin64 a) (hb : Fin64 b) (hq : Lim (fval a + fval b)) : ∃ r, floatBits .add .f64 a b = some r ∧ Fin64 r ∧ r < 18446744073709551616 ∧ RV (fval a + fval b) (fval r) := by
  show ∃ r, ((Ieee.double.read a).sum (Ieee.double.read b)).map Ieee.double.write = some r ∧ _
  rw [read_fin ha, read_fin hb]
  exact sum_datum _ _ _ _ _ _ hq

theorem sub_bits {a b : Nat} (ha : Fin64 a) (hb : Fin64 b) (hq : Lim (fval a - fval b)) : ∃ r, floatBits .sub .f64 a b = some r ∧ Fin64 r ∧ r < 18446744073709551616 ∧ RV (fval a - fval b) (fval r) := by
  show ∃ r, ((Ieee.double.read a).sum (Ieee.double.read b).opposite).map Ieee.double.write = some r ∧ _
  rw [read_fin ha, read_fin hb]
  have e : fval a - fval b = sgn1 (fneg a) * ((fmag (frung a) : Nat) * p2 (fpl (frung a))) + sgn1 (!fneg b) * ((fmag (frung b) : Nat) * p2 (fpl (frung b))) := by
    rw [fval_eq a, fval_eq b]
    generalize ((fmag (frung b) : Nat) : Rat) * p2 (fpl (frung b)) = z
    cases fneg b <;> simp [sgn1] <;> grind
  rw [e] at hq ⊢
  exact sum_datum _ _ _ _ _ _ hq

theorem mul_bits {a b : Nat} (ha : Fin64 a) (hb : Fin64 b) (hq : Lim (fval a * fval b)) : ∃ r, floatBits .mul .f64 a b = some r ∧ Fin64 r ∧ r < 18446744073709551616 ∧ RV (fval a * fval b) (fval r) := by
  show ∃ r, ((Ieee.double.read a).product (Ieee.double.read b)).map Ieee.double.write = some r ∧ _
  rw [read_fin ha, read_fin hb]
  unfold Ieee.Datum.product
  simp only [Option.map_some]
  have e : fval a * fval b = sgn1 (fneg a ^^ fneg b) * (((fmag (frung a) * fmag (frung b) : Nat) : Rat) * p2 (fpl (frung a) + fpl (frung b))) := by
    rw [fval_eq a, fval_eq b, p2_add, Rat.natCast_mul]
    generalize ((fmag (frung a) : Nat) : Rat) = m
    generalize ((fmag (frung b) : Nat) : Rat) = n
    generalize p2 (fpl (frung a)) = u
    generalize p2 (fpl (frung b)) = v
    cases fneg a <;> cases fneg b <;> simp [sgn1] <;> grind
  rw [e] at hq ⊢
  have hnn : (0 : Rat) ≤ ((fmag (frung a) * fmag (frung b) : Nat) : Rat) * p2 (fpl (frung a) + fpl (frung b)) := Rat.mul_nonneg Rat.natCast_nonneg (Rat.le_of_lt (p2_pos _))
  obtain ⟨r, hr, h⟩ := write_rv (fneg a ^^ fneg b) (fmag (frung a) * fmag (frung b)) (fpl (frung a) + fpl (frung b)) (by
    generalize ((fmag (frung a) * fmag (frung b) : Nat) : Rat) * p2 (fpl (frung a) + fpl (frung b)) = z at *
    cases hs : (fneg a ^^ fneg b)
    · rw [hs] at hq; have := hq.1; simp [sgn1] at this; grind
    · rw [hs] at hq; have := hq.2; simp [sgn1] at this; grind)
  exact ⟨r, by rw [hr], h⟩

end Go.Proofs.Ytghchejehlljkaa

/- The reference's Of: what a float denotes. -/
namespace Go.Proofs.Ytghchejehlljkaa
open Go.RowKit

/-- What a float denotes (0 of what denotes nothing). -/
def den (b : Nat) : Rat := if frung b < 9218868437227405312 then fval b else 0

theorem frexp_mul (u : Nat) (hu : u < 4503599627370496) : floatBits .mul .f64 (1022 * 4503599627370496 + u) 4845873199050653696 = some (1075 * 4503599627370496 + u) := by
  show Ieee.double.mul (1022 * 4503599627370496 + u) 4845873199050653696 = _
  have r2 : Ieee.double.read 4845873199050653696 = .number false 4503599627370496 1 := by
    have := read_norm 1076 0 (by omega) (by omega) (by omega)
    simpa using this
  unfold Ieee.Format.mul
  rw [read_norm 1022 u (by omega) (by omega) hu, r2]
  unfold Ieee.Datum.product
  simp only [Option.map_some, Ieee.Format.write, Bool.xor_false]
  congr 1
  have h := nearest_norm (4503599627370496 + u) 52 (-1075 + ((1022 : Nat) : Int) + 1) (by omega) (by omega) (by omega) (by omega)
  rw [show (4503599627370496 + u) * 4503599627370496 = (4503599627370496 + u) * 2 ^ 52 from rfl, h]
  omega

set_option maxHeartbeats 1000000 in
theorem refOf_nan (b : Nat) (w : World) (h : FloatKind.f64.format.order b b = none) : Calls Try.prog 72 #[.float .f64 b] w fun e w' => e = .returned (.agg #[.int .i64 0, .slice none 0 0, .int .i64 0]) ∧ Below w.heap.size w w' := by
  go_enter Try.func72, Try.ntmps72
  go_wp2
  refine bodyPost_ret (v := .agg #[.int .i64 0, .slice none 0 0, .int .i64 0]) (by simp [results, Try.results72, go_sem]) rfl ?_
  exact ⟨rfl, (Below.refl _ _).alloc (Nat.le_refl _) _⟩
/-- What no number comes of: some float that is no number. -/
def nanW (a b : Nat) (w : World) : Nat := Question.cut (.nanBits .f64 a b) (w.tape w.drawn (.nanBits .f64 a b))
theorem nanW_nan (a b : Nat) (w : World) : 9218868437227405312 < frung (nanW a b w) ∧ nanW a b w < 18446744073709551616 := by
  unfold nanW frung
  generalize w.tape w.drawn (.nanBits .f64 a b) = t
  simp only [Question.cut]
  have h1 : t % 2 < 2 := Nat.mod_lt _ (by omega)
  have h2 : (t / 2) % (2 ^ 52 - 1) < 2 ^ 52 - 1 := Nat.mod_lt _ (by omega)
  generalize t % 2 = x at *
  generalize (t / 2) % (2 ^ 52 - 1) = y at *
  omega
theorem run_sub_nan (a b : Nat) (h : floatBits .sub .f64 a b = none) (w : World) : (binOp .sub 22 (.float .f64 a) (.float .f64 b)).run Try.prog w = .ok (.float .f64 (nanW a b w)) w.drew := by
  have h' : FloatKind.f64.format.sub a b = none := h
  simp [binOp, Op.floatArith, h', nanW, Question.forced]
theorem nan_order {n : Nat} (h : 9218868437227405312 < frung n) (c : Nat) : FloatKind.f64.format.order n c = none := order_nan_left h

set_option maxHeartbeats 1000000 in
theorem refOf_inf (b : Nat) (w : World) (h : FloatKind.f64.format.order b b = some .eq) (h2 : floatBits .sub .f64 b b = none) : Calls Try.prog 72 #[.float .f64 b] w fun e w' => e = .returned (.agg #[.int .i64 0, .slice none 0 0, .int .i64 0]) ∧ Below w.heap.size w w' := by
  have rs := run_sub_nan b b h2
  have h3 : ∀ w, FloatKind.f64.format.order (nanW b b w) 0 = none := fun w => nan_order (nanW_nan b b w).1 0
  clear h2
  go_enter Try.func72, Try.ntmps72
  go_wp2
  refine bodyPost_ret (v := .agg #[.int .i64 0, .slice none 0 0, .int .i64 0]) (by simp [results, Try.results72, go_sem]) rfl ?_
  exact ⟨rfl, ((Below.refl _ _).alloc (Nat.le_refl _) _).drew⟩
set_option maxHeartbeats 1000000 in
theorem refOf_zero (b n : Nat) (w : World) (h : FloatKind.f64.format.order b b = some .eq) (h2 : floatBits .sub .f64 b b = some n) (h3 : FloatKind.f64.format.order n 0 = some .eq) (h4 : FloatKind.f64.format.order b 0 = some .eq) : Calls Try.prog 72 #[.float .f64 b] w fun e w' => e = .returned (.agg #[.int .i64 0, .slice none 0 0, .int .i64 0]) ∧ Below w.heap.size w w' := by
  have rs : ∀ w, (binOp .sub 22 (.float .f64 b) (.float .f64 b)).run Try.prog w = .ok (.float .f64 n) w := fun w => run_float_arith w .sub _ .f64 _ _ _ h2
  clear h2
  go_enter Try.func72, Try.ntmps72
  go_wp2
  refine bodyPost_ret (v := .agg #[.int .i64 0, .slice none 0 0, .int .i64 0]) (by simp [results, Try.results72, go_sem]) rfl ?_
  exact ⟨rfl, (Below.refl _ _).alloc (Nat.le_refl _) _⟩

theorem set3_cells {W : World} {b : Nat} {S E : Int} {sv : Value} (h : BoxN W b S sv E) (x y z : Value) (o : Obj) : let W' := (((W.setCell ⟨b, 0, none⟩ x).setCell ⟨b, 1, none⟩ y).setCell ⟨b, 2, none⟩ z).alloc o
    W'.cell? ⟨b, 0, none⟩ = some x ∧ W'.cell? ⟨b, 1, none⟩ = some y ∧ W'.cell? ⟨b, 2, none⟩ = some z := by
  have hl := h.cells.2.2.2.2
  have hb : ((((W.setCell ⟨b, 0, none⟩ x).setCell ⟨b, 1, none⟩ y).setCell ⟨b, 2, none⟩ z).alloc o).heap[b]? = some (.cells #[x, y, z] 56 (0, 0)) := by
    rw [Below.heap_alloc _ _ _ (by simpa [World.setCell] using hl)]
    unfold BoxN at h
    simp [World.setCell, Array.getElem?_modify, h]
  refine ⟨?_, ?_, ?_⟩ <;> simp [World.cell?, hb]
theorem Rf.flip {w : World} {S E : Int} {v : Value} {q : Rat} {a : Option Addr} {n c : Nat} (h : Rf w v q) (hv : v = .agg #[.int .i64 S, .slice a n c, .int .i64 E]) : Rf w (.agg #[.int .i64 (-S), .slice a n c, .int .i64 E]) (-q) := by
  obtain ⟨S', ds, E', ⟨⟨a', c', hv', hc, hf⟩, h2, h3, h4, h5⟩, k, rfl⟩ := h
  rw [hv] at hv'
  simp only [Value.agg.injEq, Array.mk.injEq, List.cons.injEq, Value.int.injEq, Value.slice.injEq, true_and, and_true] at hv'
  obtain ⟨rfl, ⟨rfl, rfl, rfl⟩, rfl⟩ := hv'
  exact ⟨-S, ds, E, ⟨⟨a, c, rfl, hc, hf⟩, h2, h3, h4, h5⟩, k.neg, by rw [Rat.intCast_neg]; grind⟩

set_option maxRecDepth 100000 in
set_option maxHeartbeats 2000000 in
theorem refOf_pos (b n u : Nat) (ex : Int) (w : World) (h : FloatKind.f64.format.order b b = some .eq) (h2 : floatBits .sub .f64 b b = some n) (h3 : FloatKind.f64.format.order n 0 = some .eq) (h4 : FloatKind.f64.format.order b 0 = some .gt)
    (hfr : ∀ w, Calls Try.prog 95 #[.float .f64 b] w fun e w' => e = .returned (.tuple #[.float .f64 (1022 * 4503599627370496 + u), .int .i64 (ex + 53)]) ∧ w' = w) (hu : u < 4503599627370496) (he1 : -2000 ≤ ex) (he2 : ex ≤ 2000) :
    Calls Try.prog 72 #[.float .f64 b] w fun e w' => RfR w w' (((4503599627370496 + u : Nat) : Rat) * p2 ex) e := by
  obtain ⟨f, hf⟩ : ∃ f, Hid (1022 * 4503599627370496 + u = f) := ⟨_, rfl⟩
  obtain ⟨M, hM⟩ : ∃ M, Hid (4503599627370496 + u = M) := ⟨_, rfl⟩
  obtain ⟨f2, hf2⟩ : ∃ f, Hid (1075 * 4503599627370496 + u = f) := ⟨_, rfl⟩
  have hmul : floatBits .mul .f64 f 4845873199050653696 = some f2 := by rw [← hf.out, ← hf2.out]; exact frexp_mul u hu
  have rm : ∀ w, (binOp .mul 22 (.float .f64 f) (.float .f64 4845873199050653696)).run Try.prog w = .ok (.float .f64 f2) w := fun w => run_float_arith w .mul _ .f64 _ _ _ hmul
  have rs : ∀ w, (binOp .sub 22 (.float .f64 b) (.float .f64 b)).run Try.prog w = .ok (.float .f64 n) w := fun w => run_float_arith w .sub _ .f64 _ _ _ h2
  have hcv : floatToIntVal .f64 f2 .u64 = some (M : Int) := by rw [← hf2.out, ← hM.out]; exact conv_norm u hu
  have hconv : ∀ w, (convert 22 44 (.float .f64 f2)).run Try.prog w = .ok (.int .u64 (M : Nat)) w := fun w => run_convert_float_int w _ _ _ _ _ _ (by rw [Try.underlying22]; rfl) Try.underlying44 hcv
  rw [hf.out] at hfr
  rw [hM.out]
  have H4 : Hid _ := hfr
  have hexw : IntKind.i64.wrap (ex + 53 - 53) = ex := by rw [show ex + 53 - 53 = ex by omega]; exact wrapE _ (by omega) (by omega)
  have hML : Hid (M < 18446744073709551616) := by rw [← hM.out]; show _ < _; omega
  have hMp : Hid (0 < ((M : Nat) : Rat) * p2 ex) := by
    show _ < _
    refine Rat.mul_pos ?_ (p2_pos _)
    have : 0 < M := by rw [← hM.out]; omega
    exact_mod_cast this
  have HB0 : Hid (Below w.heap.size w (w.alloc (.cells #[.int .i64 0, .slice none 0 0, .int .i64 0] 56))) := (Below.refl _ _).alloc (Nat.le_refl _) _
  have HX0 : Hid (BoxN (w.alloc (.cells #[.int .i64 0, .slice none 0 0, .int .i64 0] 56)) w.heap.size 0 (.slice none 0 0) 0) := heap_alloc_new w _
  clear hfr hcv h2 hmul
  go_enter Try.func72, Try.ntmps72
  go_wp2_with (first
    | (go_at_call 95; refine (H4.out _).mono ?_; rintro e w' ⟨rfl, rfl⟩))
  refine (power_walk M ex _ hML.out (by omega) (by omega)).mono ?_
  rintro e w5 ⟨v5, rfl, hr5, hb5⟩
  have hB : BoxN w5 w.heap.size 0 (.slice none 0 0) 0 := HX0.out.block (hb5.block _ (by simp))
  have HBb : Hid (BoxN w5 w.heap.size 0 (.slice none 0 0) 0) := hB
  have HB : Hid (Below w.heap.size w w5) := HB0.out.trans (hb5.mono HB0.out.size)
  have HV : Hid (Rf w5 v5 (((M : Nat) : Rat) * p2 ex)) := hr5
  obtain ⟨S5, a5, n5, c5, E5, hv5, hs5⟩ := HV.out.sgn
  obtain rfl : S5 = 1 := by
    have := hMp.out
    rcases hs5 with ⟨_, h⟩ | ⟨h, _⟩ | ⟨_, h⟩
    · grind
    · exact h
    · grind
  subst hv5
  obtain ⟨t0, t1, t2, tf, tl⟩ := hB.cells
  clear hr5 hb5 hB hs5
  go_wp2
  obtain ⟨k0, k1, k2⟩ := set3_cells HBb.out (.int .i64 1) (.slice a5 n5 c5) (.int .i64 E5) (.cells #[.int .i64 1, .slice a5 n5 c5, .int .i64 E5] 56)
  refine bodyPost_ret (v := .agg #[.int .i64 1, .slice a5 n5 c5, .int .i64 E5]) (by simp [results, Try.results72, go_sem, k0, k1, k2]) rfl ?_
  have hB9 : Below w.heap.size w (((w5.setCell ⟨w.heap.size, 0, none⟩ (.int .i64 1)).setCell ⟨w.heap.size, 1, none⟩ (.slice a5 n5 c5)).setCell ⟨w.heap.size, 2, none⟩ (.int .i64 E5)) := ((HB.out.setCell (Nat.le_refl _) _).setCell (Nat.le_refl _) _).setCell (Nat.le_refl _) _
  refine ⟨_, rfl, Rf.later (Rf.boxed HV.out (other_box HBb.out) _ _ _) ((Below.refl _ _).alloc (Nat.le_refl _) _), ?_⟩
  exact hB9.alloc (by simpa [World.setCell] using HB.out.size) _

set_option maxRecDepth 100000 in
set_option maxHeartbeats 2000000 in
theorem refOf_neg (b n u : Nat) (ex : Int) (w : World) (hb : b < 18446744073709551616) (h : FloatKind.f64.format.order b b = some .eq) (h2 : floatBits .sub .f64 b b = some n) (h3 : FloatKind.f64.format.order n 0 = some .eq) (h4 : FloatKind.f64.format.order b 0 = some .lt)
    (hfr : ∀ w, Calls Try.prog 95 #[.float .f64 (fflip b)] w fun e w' => e = .returned (.tuple #[.float .f64 (1022 * 4503599627370496 + u), .int .i64 (ex + 53)]) ∧ w' = w) (hu : u < 4503599627370496) (he1 : -2000 ≤ ex) (he2 : ex ≤ 2000) :
    Calls Try.prog 72 #[.float .f64 b] w fun e w' => RfR w w' (-(((4503599627370496 + u : Nat) : Rat) * p2 ex)) e := by
  obtain ⟨f, hf⟩ : ∃ f, Hid (1022 * 4503599627370496 + u = f) := ⟨_, rfl⟩
  obtain ⟨M, hM⟩ : ∃ M, Hid (4503599627370496 + u = M) := ⟨_, rfl⟩
  obtain ⟨f2, hf2⟩ : ∃ f, Hid (1075 * 4503599627370496 + u = f) := ⟨_, rfl⟩
  have hmul : floatBits .mul .f64 f 4845873199050653696 = some f2 := by rw [← hf.out, ← hf2.out]; exact frexp_mul u hu
  have rm : ∀ w, (binOp .mul 22 (.float .f64 f) (.float .f64 4845873199050653696)).run Try.prog w = .ok (.float .f64 f2) w := fun w => run_float_arith w .mul _ .f64 _ _ _ hmul
  have rs : ∀ w, (binOp .sub 22 (.float .f64 b) (.float .f64 b)).run Try.prog w = .ok (.float .f64 n) w := fun w => run_float_arith w .sub _ .f64 _ _ _ h2
  have rn := run_negF b hb
  have hcv : floatToIntVal .f64 f2 .u64 = some (M : Int) := by rw [← hf2.out, ← hM.out]; exact conv_norm u hu
  have hconv : ∀ w, (convert 22 44 (.float .f64 f2)).run Try.prog w = .ok (.int .u64 (M : Nat)) w := fun w => run_convert_float_int w _ _ _ _ _ _ (by rw [Try.underlying22]; rfl) Try.underlying44 hcv
  rw [hf.out] at hfr
  rw [hM.out]
  have H4 : Hid _ := hfr
  have hexw : IntKind.i64.wrap (ex + 53 - 53) = ex := by rw [show ex + 53 - 53 = ex by omega]; exact wrapE _ (by omega) (by omega)
  have hML : Hid (M < 18446744073709551616) := by rw [← hM.out]; show _ < _; omega
  have hMp : Hid (0 < ((M : Nat) : Rat) * p2 ex) := by
    show _ < _
    refine Rat.mul_pos ?_ (p2_pos _)
    have : 0 < M := by rw [← hM.out]; omega
    exact_mod_cast this
  have HB0 : Hid (Below w.heap.size w (w.alloc (.cells #[.int .i64 0, .slice none 0 0, .int .i64 0] 56))) := (Below.refl _ _).alloc (Nat.le_refl _) _
  have HX0 : Hid (BoxN (w.alloc (.cells #[.int .i64 0, .slice none 0 0, .int .i64 0] 56)) w.heap.size 0 (.slice none 0 0) 0) := heap_alloc_new w _
  clear hfr hcv h2 hmul hb
  go_enter Try.func72, Try.ntmps72
  go_wp2_with (first
    | (go_at_call 95; refine (H4.out _).mono ?_; rintro e w' ⟨rfl, rfl⟩))
  refine (power_walk M ex _ hML.out (by omega) (by omega)).mono ?_
  rintro e w5 ⟨v5, rfl, hr5, hb5⟩
  have hB : BoxN w5 w.heap.size 0 (.slice none 0 0) 0 := HX0.out.block (hb5.block _ (by simp))
  have HBb : Hid (BoxN w5 w.heap.size 0 (.slice none 0 0) 0) := hB
  have HB : Hid (Below w.heap.size w w5) := HB0.out.trans (hb5.mono HB0.out.size)
  have HV : Hid (Rf w5 v5 (((M : Nat) : Rat) * p2 ex)) := hr5
  obtain ⟨S5, a5, n5, c5, E5, hv5, hs5⟩ := HV.out.sgn
  obtain rfl : S5 = 1 := by
    have := hMp.out
    rcases hs5 with ⟨_, h⟩ | ⟨h, _⟩ | ⟨_, h⟩
    · grind
    · exact h
    · grind
  subst hv5
  obtain ⟨t0, t1, t2, tf, tl⟩ := hB.cells
  clear hr5 hb5 hB hs5
  go_wp2
  obtain ⟨k0, k1, k2⟩ := set3_cells HBb.out (.int .i64 (-1)) (.slice a5 n5 c5) (.int .i64 E5) (.cells #[.int .i64 (-1), .slice a5 n5 c5, .int .i64 E5] 56)
  refine bodyPost_ret (v := .agg #[.int .i64 (-1), .slice a5 n5 c5, .int .i64 E5]) (by simp [results, Try.results72, go_sem, k0, k1, k2]) rfl ?_
  have hB9 : Below w.heap.size w (((w5.setCell ⟨w.heap.size, 0, none⟩ (.int .i64 (-1))).setCell ⟨w.heap.size, 1, none⟩ (.slice a5 n5 c5)).setCell ⟨w.heap.size, 2, none⟩ (.int .i64 E5)) := ((HB.out.setCell (Nat.le_refl _) _).setCell (Nat.le_refl _) _).setCell (Nat.le_refl _) _
  refine ⟨_, rfl, Rf.later (Rf.boxed (HV.out.flip rfl) (other_box HBb.out) _ _ _) ((Below.refl _ _).alloc (Nat.le_refl _) _), ?_⟩
  exact hB9.alloc (by simpa [World.setCell] using HB.out.size) _

end Go.Proofs.Ytghchejehlljkaa

/- The reference's Of, of any float. -/
namespace Go.Proofs.Ytghchejehlljkaa
open Go.RowKit

theorem order_val {a b : Nat} (ha : Fin64 a) (hb : Fin64 b) : FloatKind.f64.format.order a b = some (if fval a < fval b then .lt else if fval a = fval b then .eq else .gt) := order_fin ha hb
theorem fin0 : Fin64 0 := by unfold Fin64 frung; decide
theorem fval0 : fval 0 = 0 := fval_zero_iff.2 rfl
theorem rv_zero {x : Rat} (h : RV 0 x) : x = 0 := by
  obtain ⟨r, _, h⟩ := h
  rcases h with ⟨_, n, rfl⟩ | ⟨_, n, rfl⟩
  · rw [near_zero n]; exact fval0
  · rw [show (-0 : Rat) = 0 by grind] at n
    rw [near_zero n, fval0]; grind
theorem self_sub {b : Nat} (h : Fin64 b) : ∃ n, floatBits .sub .f64 b b = some n ∧ FloatKind.f64.format.order n 0 = some .eq := by
  obtain ⟨r, h1, h2, _, h3⟩ := sub_bits h h (by
    have := p2_pos 1023
    exact ⟨by grind, by grind⟩)
  rw [show fval b - fval b = 0 by grind] at h3
  have h4 := rv_zero h3
  refine ⟨r, h1, ?_⟩
  rw [order_val h2 fin0, h4, fval0, if_neg (by grind), if_pos rfl]

theorem refOf_any (b : Nat) (w : World) (hb : b < 18446744073709551616) : Calls Try.prog 72 #[.float .f64 b] w fun e w' => RfR w w' (den b) e := by
  have none : ∀ e w', (e = Ending.returned (.agg #[.int .i64 0, .slice none 0 0, .int .i64 0]) ∧ Below w.heap.size w w') → den b = 0 → RfR w w' (den b) e := by
    rintro e w' ⟨rfl, h⟩ h0
    rw [h0]
    exact ⟨_, rfl, rf_zero _, h⟩
  rcases Nat.lt_trichotomy (frung b) 9218868437227405312 with h | h | h
  · have hf : Fin64 b := h
    obtain ⟨n, s1, s2⟩ := self_sub hf
    have o1 : FloatKind.f64.format.order b b = some .eq := by rw [order_val hf hf, if_neg (by grind), if_pos rfl]
    have hd : den b = fval b := by unfold den; rw [if_pos h]
    by_cases h0 : frung b = 0
    · have hz := fval_zero_iff.2 h0
      refine (refOf_zero b n w o1 s1 s2 (by rw [order_val hf fin0, hz, fval0, if_neg (by grind), if_pos rfl])).mono (fun e w' he => none e w' he (by rw [hd, hz]))
    · have hbb := bits53_bounds (frung b) h0
      have hbv := bits53_val (frung b) h0
      have hpos := (fval_pos_lt h).1
      have hnn := fval_nonneg h
      have hne : fval (frung b) ≠ 0 := by
        intro e
        have := fval_zero_iff.1 e
        unfold frung at this h0
        omega
      have hpl : -2000 ≤ place53 (frung b) ∧ place53 (frung b) ≤ 2000 := by
        unfold place53
        split
        · rename_i hs
          have := (Nat.log2_lt h0).2 (show frung b < 2 ^ 52 from hs)
          omega
        · omega
      have hfr : ∀ w, Calls Try.prog 95 #[.float .f64 (frung b)] w fun e w' => e = .returned (.tuple #[.float .f64 (1022 * 4503599627370496 + (bits53 (frung b) - 4503599627370496)), .int .i64 (place53 (frung b) + 53)]) ∧ w' = w := fun w => Frexp_of _ _ _ w (fun w => frexp_any (frung b) w h0 h)
      have hM : 4503599627370496 + (bits53 (frung b) - 4503599627370496) = bits53 (frung b) := by omega
      have hv : ((4503599627370496 + (bits53 (frung b) - 4503599627370496) : Nat) : Rat) * p2 (place53 (frung b)) = fval (frung b) := by rw [hM, hbv, hpos]
      by_cases hs : b < 9223372036854775808
      · have hr : frung b = b := Nat.mod_eq_of_lt hs
        rw [hr] at hfr hv hnn hne hpl hbb
        have o2 : FloatKind.f64.format.order b 0 = some .gt := by rw [order_val hf fin0, fval0, if_neg (by grind), if_neg (by grind)]
        have := refOf_pos b n (bits53 b - 4503599627370496) (place53 b) w o1 s1 s2 o2 hfr (by omega) hpl.1 hpl.2
        rw [hv] at this
        rw [hd]; exact this
      · have hr : fflip b = frung b := by unfold fflip frung; rw [if_neg hs]; omega
        have hbw : b = 9223372036854775808 + frung b := by unfold frung; omega
        have hvb : fval b = -fval (frung b) := by
          have := fval_word h
          rwa [← hbw] at this
        have o2 : FloatKind.f64.format.order b 0 = some .lt := by rw [order_val hf fin0, fval0, hvb, if_pos (by grind)]
        rw [← hr] at hfr
        have := refOf_neg b n (bits53 (fflip b) - 4503599627370496) (place53 (fflip b)) w hb o1 s1 s2 o2 hfr (by rw [hr]; omega) (by rw [hr]; exact hpl.1) (by rw [hr]; exact hpl.2)
        rw [hr, hv] at this
        rw [hd, hvb]; exact this
  · have hd : den b = 0 := by unfold den; rw [if_neg (by omega)]
    have hb2 : b = 9218868437227405312 ∨ b = 18442240474082181120 := by unfold frung at h; omega
    rcases hb2 with rfl | rfl
    · exact (refOf_inf _ w (by decide +kernel) (by decide +kernel)).mono (fun e w' he => none e w' he hd)
    · exact (refOf_inf _ w (by decide +kernel) (by decide +kernel)).mono (fun e w' he => none e w' he hd)
  · have hd : den b = 0 := by unfold den; rw [if_neg (by omega)]
    exact (refOf_nan b w (order_nan_left h)).mono (fun e w' he => none e w' he hd)

theorem den_fit (b : Nat) : Bd 1024 (-1074) (den b) := by
  unfold den
  split
  · rename_i h; exact fval_bd h
  · exact bd_zero _ _

end Go.Proofs.Ytghchejehlljkaa

/- Tame and safe, as the document has them: the two questions. -/
namespace Go.Proofs.Ytghchejehlljkaa
open Go.RowKit



end Go.Proofs.Ytghchejehlljkaa
