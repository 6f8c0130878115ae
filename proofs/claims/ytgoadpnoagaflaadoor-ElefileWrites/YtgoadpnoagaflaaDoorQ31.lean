/- Own texts, put together: Jc Je. -/
import Derived.Test.YtgoadpnoagaflaaDoorQ8
import Derived.Test.YtgoadpnoagaflaaDoorQ30
namespace Go.Proofs.YtgoadpnoagaflaaDoor
/- Frexp and Ldexp of floats of either sign, by their numbers. -/
section
open Go.RowKit
theorem fval_norm {s E u : Nat} (hs : s = 0 ∨ s = 9223372036854775808) (h1 : 1 ≤ E) (h2 : E ≤ 2046) (hu : u < 4503599627370496) :
   Fin64 (s + (E * 4503599627370496 + u)) ∧ s + (E * 4503599627370496 + u) < 18446744073709551616 ∧ frung (s + (E * 4503599627370496 + u)) = E * 4503599627370496 + u ∧ fval (s + (E * 4503599627370496 + u)) = (if s = 0 then 1 else -1) * (((4503599627370496 + u : Nat) : Rat) * p2 ((E : Int) - 1075)) := by
 have hr : E * 4503599627370496 + u < 9218868437227405312 := by omega
 have hf : frung (s + (E * 4503599627370496 + u)) = E * 4503599627370496 + u := by unfold frung; omega
 have hv : fval (E * 4503599627370496 + u) = ((4503599627370496 + u : Nat) : Rat) * p2 ((E : Int) - 1075) := by
   rw [(fval_pos_lt hr).1]
   have e1 : fmag (E * 4503599627370496 + u) = 4503599627370496 + u := by unfold fmag; rw [if_neg (by omega)]; omega
   have e2 : fpl (E * 4503599627370496 + u) = (E : Int) - 1075 := by unfold fpl; rw [if_neg (by omega)]; omega
   rw [e1, e2]
 refine ⟨by unfold Fin64; omega, by omega, hf, ?_⟩
 rcases hs with rfl | rfl
 · rw [Nat.zero_add, hv, if_pos rfl, Rat.one_mul]
 · rw [fval_word hr, hv, if_neg (by omega)]; grind
theorem norm_parts {y : Nat} (hy : Fin64 y) (ly : y < 18446744073709551616) (h : 4503599627370496 ≤ frung y) : ∃ s E u, y = s + (E * 4503599627370496 + u) ∧ (s = 0 ∨ s = 9223372036854775808) ∧ 1 ≤ E ∧ E ≤ 2046 ∧ u < 4503599627370496 := by
 unfold Fin64 at hy
 unfold frung at hy h
 refine ⟨y - y % 9223372036854775808, y % 9223372036854775808 / 4503599627370496, y % 9223372036854775808 % 4503599627370496, ?_, ?_, ?_, ?_, ?_⟩ <;> omega
theorem p52_val : fval 4841369599423283200 = p2 52 := by
 rw [(fval_pos_lt (r := 4841369599423283200) (by omega)).1, show fmag 4841369599423283200 = 4503599627370496 by decide, show fpl 4841369599423283200 = 0 by decide, p2_zero, Rat.mul_one, show (52 : Int) = ((52 : Nat) : Int) from rfl, p2_nat]
theorem one_val : fval 4607182418800017408 = 1 := by
 rw [(fval_pos_lt (r := 4607182418800017408) (by omega)).1, show fmag 4607182418800017408 = 2 ^ 52 by decide, show fpl 4607182418800017408 = -((52 : Nat) : Int) by decide, ← p2_nat, Rat.mul_comm, p2_neg]
theorem m53_val : fval 4368491638549381120 = p2 (-53) := by
 rw [(fval_pos_lt (r := 4368491638549381120) (by omega)).1, show fmag 4368491638549381120 = 2 ^ 52 by decide, show fpl 4368491638549381120 = -105 by decide, ← p2_nat, ← p2_add]; rfl
theorem order_small {r : Nat} (h2 : r < 9218868437227405312) : (FloatKind.f64.format.order r 4503599627370496 == some .lt) = decide (r < 4503599627370496) := by
 show (Ieee.double.order r 4503599627370496 == some .lt) = _
 rw [order_fin (by unfold Fin64 frung; omega) (by unfold Fin64 frung; decide)]
 by_cases h : r < 4503599627370496
 · rw [if_pos (by rw [small_iff h2]; omega), decide_eq_true h]; rfl
 · rw [if_neg (by rw [small_iff h2]; omega), decide_eq_false h]; split <;> rfl
set_option maxHeartbeats 1000000 in
theorem normS_walk (x y : Nat) (w : World) (lx : x < 18446744073709551616) (hs : (FloatKind.f64.format.order (x % 9223372036854775808) 4503599627370496 == some .lt) = true) (hm : Ieee.double.mul x 4841369599423283200 = some y) :
   Calls Tryd.prog 119 #[.float .f64 x] w fun e w' => e = .returned (.tuple #[.float .f64 y, .int .i64 (-52)]) ∧ w' = w := by
 have e3 : ∀ w, (binOp .mul 35 (.float .f64 x) (.float .f64 4841369599423283200)).run Tryd.prog w = .ok (.float .f64 y) w := fun w => run_float_arith w .mul _ .f64 x 4841369599423283200 _ hm
 have H2 : Hid (x < 18446744073709551616) := lx
 clear hm lx
 go_enter Tryd.func119, Tryd.ntmps119
 go_wp2_with fail
 refine (abs_any x _ H2.out).mono ?_
 rintro e w' ⟨rfl, rfl⟩
 generalize x % 9223372036854775808 = c at *
 go_wp2
 go_ret2
 exact ⟨rfl, rfl⟩
set_option maxHeartbeats 1000000 in
theorem normB_walk (x : Nat) (w : World) (lx : x < 18446744073709551616) (hs : (FloatKind.f64.format.order (x % 9223372036854775808) 4503599627370496 == some .lt) = false) :
   Calls Tryd.prog 119 #[.float .f64 x] w fun e w' => e = .returned (.tuple #[.float .f64 x, .int .i64 0]) ∧ w' = w := by
 have H2 : Hid (x < 18446744073709551616) := lx
 clear lx
 go_enter Tryd.func119, Tryd.ntmps119
 go_wp2_with fail
 refine (abs_any x _ H2.out).mono ?_
 rintro e w' ⟨rfl, rfl⟩
 generalize x % 9223372036854775808 = c at *
 go_wp2
 go_ret2
 exact ⟨rfl, rfl⟩
theorem normS (x : Nat) (hx : Fin64 x) (lx : x < 18446744073709551616) (h0 : fval x ≠ 0) :
   ∃ y e0, Fin64 y ∧ y < 18446744073709551616 ∧ 4503599627370496 ≤ frung y ∧ (e0 = 0 ∨ e0 = -52) ∧ fval x = fval y * p2 e0 ∧ ∀ w, Calls Tryd.prog 119 #[.float .f64 x] w fun e w' => e = .returned (.tuple #[.float .f64 y, .int .i64 e0]) ∧ w' = w := by
 have hs := order_small (r := x % 9223372036854775808) hx
 by_cases h : frung x < 4503599627370496
 · have h' : x % 9223372036854775808 < 4503599627370496 := h
   rw [decide_eq_true h'] at hs
   have hr0 : frung x ≠ 0 := fun e => h0 (fval_zero_iff.2 e)
   obtain ⟨r, hr⟩ : ∃ r, frung x = r := ⟨_, rfl⟩
   rw [hr] at h hr0
   have a1 := Nat.log2_self_le hr0
   have a2 : r < 2 ^ (Nat.log2 r + 1) := Nat.lt_log2_self
   have a3 : Nat.log2 r < 52 := (Nat.log2_lt hr0).2 h
   have b1 := Nat.mul_le_mul_right (2 ^ (52 - Nat.log2 r)) a1
   have b2 := Nat.mul_lt_mul_of_pos_right a2 (Nat.two_pow_pos (52 - Nat.log2 r))
   rw [← Nat.pow_add, show Nat.log2 r + (52 - Nat.log2 r) = 52 by omega] at b1
   rw [← Nat.pow_add, show Nat.log2 r + 1 + (52 - Nat.log2 r) = 53 by omega] at b2
   obtain ⟨k, hk⟩ : ∃ k, r * 2 ^ (52 - Nat.log2 r) = k := ⟨_, rfl⟩
   rw [hk] at b1 b2
   have hv := fval_rung (Nat.log2 r) k (by omega) (Or.inr (by omega)) (by omega)
   have hvr : fval r = ((r : Nat) : Rat) * p2 (-1074) := by
     rw [(fval_pos_lt (by omega)).1]
     unfold fmag fpl
     rw [if_pos h, if_pos h]
   have e5 : fval (Nat.log2 r * 4503599627370496 + k) = fval r * p2 52 := by
     rw [hv, hvr, ← hk, nat_mul_p2]
     unfold U
     rw [Rat.mul_assoc, ← p2_add, Rat.mul_assoc, ← p2_add]
     congr 2
     omega
   obtain ⟨v, hvv⟩ : ∃ v, Nat.log2 r * 4503599627370496 + k = v := ⟨_, rfl⟩
   rw [hvv] at e5
   have hvb : 4503599627370496 ≤ v ∧ v < 9218868437227405312 := by omega
   have hxs : x = (x - r) + r ∧ (x - r = 0 ∨ x - r = 9223372036854775808) := by unfold frung at hr; omega
   obtain ⟨s, hss⟩ : ∃ s, x - r = s := ⟨_, rfl⟩
   rw [hss] at hxs
   obtain ⟨hx1, hs1⟩ := hxs
   have hy : Fin64 (s + v) ∧ s + v < 18446744073709551616 ∧ frung (s + v) = v ∧ fval (s + v) = fval x * p2 52 := by
     rcases hs1 with rfl | rfl
     · rw [Nat.zero_add] at *
       refine ⟨by unfold Fin64 frung; omega, by omega, by unfold frung; omega, ?_⟩
       rw [hx1]; exact e5
     · refine ⟨by unfold Fin64 frung; omega, by omega, by unfold frung; omega, ?_⟩
       rw [hx1, fval_word hvb.2, fval_word (by omega), e5]; grind
   have hp : p2 52 * p2 (-52) = 1 := by rw [← p2_add, ← p2_zero]; rfl
   have hne : fval (s + v) ≠ 0 := by
     intro e
     have := fval_zero_iff.1 e
     omega
   refine ⟨s + v, -52, hy.1, hy.2.1, by omega, Or.inr rfl, by rw [hy.2.2.2, Rat.mul_assoc, hp, Rat.mul_one], fun w => normS_walk x (s + v) w lx hs (mul_exact hx (by unfold Fin64 frung; decide) hy.1 hy.2.1 (by rw [hy.2.2.2, p52_val]) hne)⟩
 · have h' : ¬ x % 9223372036854775808 < 4503599627370496 := h
   rw [decide_eq_false h'] at hs
   exact ⟨x, 0, hx, lx, by omega, Or.inl rfl, by rw [p2_zero, Rat.mul_one], fun w => normB_walk x w lx hs⟩
theorem flagsS {x : Nat} (hx : Fin64 x) : isinf x = false ∧ isnan x = false := by
 unfold Fin64 at hx
 unfold isinf isnan
 exact ⟨by rw [beq_eq_false_iff_ne]; omega, by simp; omega⟩
theorem zeroS {x : Nat} (h0 : fval x ≠ 0) : (FloatKind.f64.format.order x 0 == some .eq) = false := by
 rw [eql_zero2, decide_eq_false_iff_not]
 exact fun e => h0 (fval_zero_iff.2 e)
theorem and_expS (n : Nat) (_h : n < 4096) : bits .and .u64 (n : Int) 2047 = ((n % 2048 : Nat) : Int) := by
 rw [show (2047 : Int) = ((2047 : Nat) : Int) from rfl, u64_and_nat n _ (by omega) (by omega), show (2047 : Nat) = 2 ^ 11 - 1 by decide, Nat.and_two_pow_sub_one_eq_mod]
theorem and_expSi (n : Nat) (_h : n < 4096) : bits .and .i64 (n : Int) 2047 = ((n % 2048 : Nat) : Int) := by
 have h127 : (BitVec.ofInt 64 2047).toNat = 2 ^ 11 - 1 := by decide
 have key : (BitVec.ofInt 64 (n : Int) &&& BitVec.ofInt 64 2047).toNat = n % 2048 := by
   rw [BitVec.toNat_and, BitVec.toNat_ofInt, h127, Nat.and_two_pow_sub_one_eq_mod]
   omega
 show IntKind.i64.wrap ((BitVec.ofInt 64 (n : Int) &&& BitVec.ofInt 64 2047).toNat : Nat) = _
 rw [key, IntKind.wrap_i64]
 omega
theorem nat_or63 {r : Nat} (h : r < 9223372036854775808) : 9223372036854775808 + r = 2 ^ 63 ||| r := by
 have := Nat.two_pow_add_eq_or_of_lt (i := 63) (b := r) h 1
 rw [Nat.mul_one] at this
 exact this
theorem andNot_expS {s r : Nat} (hs : s = 0 ∨ s = 9223372036854775808) (h : r < 9223372036854775808) : bits .andNot .u64 ((s + r : Nat) : Int) 9218868437227405312 = ((s + r % 4503599627370496 : Nat) : Int) := by
 rcases hs with rfl | rfl
 · rw [Nat.zero_add, Nat.zero_add]; exact andNot_exp r h
 · rw [show (9218868437227405312 : Int) = ((9218868437227405312 : Nat) : Int) from rfl, u64_andNot_nat _ _ (by omega) (by omega)]
   congr 1
   have e : (18446744073709551615 - 9218868437227405312 : Nat) = 2 ^ 63 ||| (2 ^ 52 - 1) := by decide
   rw [e, nat_or63 h, nat_or63 (r := r % 4503599627370496) (by omega), ← Nat.or_and_distrib_left, Nat.and_two_pow_sub_one_eq_mod]
theorem or_expS {s T u : Nat} (hs : s = 0 ∨ s = 9223372036854775808) (hT : T < 2048) (hu : u < 4503599627370496) : bits .or .u64 ((s + u : Nat) : Int) ((T * 4503599627370496 : Nat) : Int) = ((s + (T * 4503599627370496 + u) : Nat) : Int) := by
 rcases hs with rfl | rfl
 · rw [Nat.zero_add, Nat.zero_add]; exact or_exp T u hT hu
 · rw [u64_or_nat _ _ (by omega) (by omega)]
   congr 1
   have e : u ||| T * 4503599627370496 = T * 4503599627370496 + u := by
     rw [show T * 4503599627370496 = 2 ^ 52 * T by rw [Nat.mul_comm], Nat.or_comm, ← Nat.two_pow_add_eq_or_of_lt hu]
   rw [nat_or63 (r := u) (by omega), Nat.or_assoc, e, nat_or63 (by omega)]
set_option maxHeartbeats 2000000 in
theorem frexpS_walk (x y E EE su y' : Nat) (e0 : Int) (w : World) (z : (FloatKind.f64.format.order x 0 == some .eq) = false) (hx : Fin64 x) (lx : x < 18446744073709551616)
   (c0 : ((y : Nat) : Int) / 4503599627370496 = (EE : Int)) (c1 : bits .and .u64 (EE : Int) 2047 = (E : Int)) (c2 : bits .andNot .u64 ((y : Nat) : Int) 9218868437227405312 = (su : Int)) (c3 : bits .or .u64 (su : Int) 4602678819172646912 = (y' : Int)) (hEi : (E : Int) < 2048) (he1 : -100 ≤ e0) (he2 : e0 ≤ 100)
   (hn : ∀ w, Calls Tryd.prog 119 #[.float .f64 x] w fun e w' => e = .returned (.tuple #[.float .f64 y, .int .i64 e0]) ∧ w' = w) :
   Calls Tryd.prog 100 #[.float .f64 x] w fun e w' => e = .returned (.tuple #[.float .f64 y', .int .i64 (e0 + (E : Int) - 1022)]) ∧ w' = w := by
 obtain ⟨f1, f2⟩ := flagsS hx
 have b1 := run_bits y
 have b2 := run_frombits y'
 have HI : Hid (∀ w, Calls Tryd.prog 75 #[.float .f64 x, .int .i64 0] w fun e w' => e = .returned (.bool false) ∧ w' = w) := fun w => by have := isInf0_any x w lx; rwa [f1] at this
 have HN : Hid (∀ w, Calls Tryd.prog 74 #[.float .f64 x] w fun e w' => e = .returned (.bool false) ∧ w' = w) := fun w => by have := isNaN_any x w; rwa [f2] at this
 have HM : Hid (∀ w, Calls Tryd.prog 119 #[.float .f64 x] w fun e w' => e = .returned (.tuple #[.float .f64 y, .int .i64 e0]) ∧ w' = w) := hn
 clear hn f1 f2 hx lx
 go_enter Tryd.func100, Tryd.ntmps100
 go_wp2_with (first
   | (go_at_call 75; refine (HI.out _).mono ?_; rintro e w' ⟨rfl, rfl⟩)
   | (go_at_call 74; refine (HN.out _).mono ?_; rintro e w' ⟨rfl, rfl⟩)
   | (go_at_call 119; refine (HM.out _).mono ?_; rintro e w' ⟨rfl, rfl⟩))
 go_ret2
 exact ⟨ret_fi (by omega), rfl⟩
theorem frexp_val (x : Nat) (hx : Fin64 x) (lx : x < 18446744073709551616) (h0 : fval x ≠ 0) :
   ∃ (f : Nat) (ex m : Int), Fin64 f ∧ f < 18446744073709551616 ∧ fval f = (m : Rat) * p2 (-53) ∧ (4503599627370496 ≤ m ∧ m < 9007199254740992 ∨ -9007199254740992 < m ∧ m ≤ -4503599627370496) ∧ fval x = (m : Rat) * p2 (ex - 53) ∧ -1100 ≤ ex ∧ ex ≤ 1100 ∧
     ∀ w, Calls Tryd.prog 80 #[.float .f64 x] w fun e w' => e = .returned (.tuple #[.float .f64 f, .int .i64 ex]) ∧ w' = w := by
 obtain ⟨y, e0, fy, ly, hy, he, hv, hc⟩ := normS x hx lx h0
 obtain ⟨s, E, u, rfl, hs, h1, h2, hu⟩ := norm_parts fy ly hy
 obtain ⟨_, _, hfr, hvy⟩ := fval_norm hs h1 h2 hu
 obtain ⟨ff, lf, _, hvf⟩ := fval_norm (E := 1022) hs (by omega) (by omega) hu
 have hw := fun w => frexpS_walk x _ E ((s + (E * 4503599627370496 + u)) / 4503599627370496) (s + u) (s + (1022 * 4503599627370496 + u)) e0 w (zeroS h0) hx lx (by omega)
   (by rw [and_expS _ (by omega)]; congr 1; omega) (by rw [andNot_expS hs (by omega)]; congr 1; omega) (show bits .or .u64 ((s + u : Nat) : Int) 4602678819172646912 = _ from or_expS (T := 1022) hs (by omega) hu) (by omega) (by omega) (by omega) hc
 obtain ⟨m, hm, hmb⟩ : ∃ m : Int, (m : Rat) = (if s = 0 then 1 else -1) * ((4503599627370496 + u : Nat) : Rat) ∧ (4503599627370496 ≤ m ∧ m < 9007199254740992 ∨ -9007199254740992 < m ∧ m ≤ -4503599627370496) := by
   by_cases h : s = 0
   · exact ⟨((4503599627370496 + u : Nat) : Int), by rw [if_pos h, Rat.one_mul]; rfl, by omega⟩
   · exact ⟨-((4503599627370496 + u : Nat) : Int), by rw [if_neg h, Rat.intCast_neg]; show -((4503599627370496 + u : Nat) : Rat) = _; grind, by omega⟩
 refine ⟨s + (1022 * 4503599627370496 + u), e0 + (E : Int) - 1022, m, ff, lf, ?_, hmb, ?_, by omega, by omega, fun w => Frexp_of _ _ _ w hw⟩
 · rw [hvf, hm, Rat.mul_assoc]; rfl
 · rw [hv, hvy, hm, Rat.mul_assoc, Rat.mul_assoc, Rat.mul_assoc, ← p2_add]
   congr 3
   omega
set_option maxHeartbeats 2000000 in
set_option maxRecDepth 100000 in
theorem ldexpS_norm (x y E EE su y' z z9 T : Nat) (e0 k : Int) (w : World) (z0 : (FloatKind.f64.format.order x 0 == some .eq) = false) (hx : Fin64 x) (lx : x < 18446744073709551616)
   (c1 : ((y : Nat) : Int) / 4503599627370496 = (EE : Int)) (c2 : bits .and .i64 (EE : Int) 2047 = (E : Int)) (c3 : bits .andNot .u64 ((y : Nat) : Int) 9218868437227405312 = (su : Int)) (c4 : bits .or .u64 (su : Int) (z9 : Int) = (y' : Int)) (c5 : IntKind.u64.wrap ((T : Int) * 4503599627370496) = (z9 : Int))
   (hE : E ≤ 2046) (hEE : EE < 4096) (_hk1 : -5000 ≤ k) (_hk2 : k ≤ 5000) (_he1 : -100 ≤ e0) (_he2 : e0 ≤ 100) (hT : k + e0 + (E : Int) = (T : Int)) (hT1 : 1 ≤ T) (hT2 : T ≤ 2046) (hmul : Ieee.double.mul 4607182418800017408 y' = some z)
   (hn : ∀ w, Calls Tryd.prog 119 #[.float .f64 x] w fun e w' => e = .returned (.tuple #[.float .f64 y, .int .i64 e0]) ∧ w' = w) :
   Calls Tryd.prog 103 #[.float .f64 x, .int .i64 k] w fun e w' => e = .returned (.float .f64 z) ∧ w' = w := by
 obtain ⟨f1, f2⟩ := flagsS hx
 have b1 := run_bits y
 have b2 := run_frombits y'
 have HI : Hid (∀ w, Calls Tryd.prog 75 #[.float .f64 x, .int .i64 0] w fun e w' => e = .returned (.bool false) ∧ w' = w) := fun w => by have := isInf0_any x w lx; rwa [f1] at this
 have HN : Hid (∀ w, Calls Tryd.prog 74 #[.float .f64 x] w fun e w' => e = .returned (.bool false) ∧ w' = w) := fun w => by have := isNaN_any x w; rwa [f2] at this
 have HM : Hid (∀ w, Calls Tryd.prog 119 #[.float .f64 x] w fun e w' => e = .returned (.tuple #[.float .f64 y, .int .i64 e0]) ∧ w' = w) := hn
 have c6 : ∀ w, (binOp .mul 35 (.float .f64 4607182418800017408) (.float .f64 y')).run Tryd.prog w = .ok (.float .f64 z) w := fun w => run_float_arith w .mul _ .f64 _ _ _ hmul
 have g1 : ¬ (k + e0 + ((E : Int) - 1023) < -1075) := by omega
 have g2 : ¬ (1023 < k + e0 + ((E : Int) - 1023)) := by omega
 have g3 : ¬ (k + e0 + ((E : Int) - 1023) < -1022) := by omega
 have g4 : k + e0 + ((E : Int) - 1023) + 1023 = (T : Int) := by omega
 have g7 : (E : Int) ≤ 2046 := by omega
 have g8 : (T : Int) ≤ 2046 := by omega
 have g9 : (EE : Int) < 4096 := by omega
 have HT : Hid (k + e0 + (E : Int) = (T : Int)) := hT
 clear hT hn f1 f2 hx lx hmul
 go_enter Tryd.func103, Tryd.ntmps103
 go_wp2_with (first
   | (go_at_call 75; refine (HI.out _).mono ?_; rintro e w' ⟨rfl, rfl⟩)
   | (go_at_call 74; refine (HN.out _).mono ?_; rintro e w' ⟨rfl, rfl⟩)
   | (go_at_call 119; refine (HM.out _).mono ?_; rintro e w' ⟨rfl, rfl⟩))
 go_ret
 exact ⟨rfl, rfl⟩
set_option maxHeartbeats 2000000 in
set_option maxRecDepth 100000 in
theorem ldexpS_den (x y E EE su y' z z9 T : Nat) (e0 k : Int) (w : World) (z0 : (FloatKind.f64.format.order x 0 == some .eq) = false) (hx : Fin64 x) (lx : x < 18446744073709551616)
   (c1 : ((y : Nat) : Int) / 4503599627370496 = (EE : Int)) (c2 : bits .and .i64 (EE : Int) 2047 = (E : Int)) (c3 : bits .andNot .u64 ((y : Nat) : Int) 9218868437227405312 = (su : Int)) (c4 : bits .or .u64 (su : Int) (z9 : Int) = (y' : Int)) (c5 : IntKind.u64.wrap ((T : Int) * 4503599627370496) = (z9 : Int))
   (hE : E ≤ 2046) (hEE : EE < 4096) (_hk1 : -5000 ≤ k) (_hk2 : k ≤ 5000) (_he1 : -100 ≤ e0) (_he2 : e0 ≤ 100) (hT : k + e0 + (E : Int) + 53 = (T : Int)) (hT1 : 1 ≤ T) (hT2 : T ≤ 53) (hmul : Ieee.double.mul 4368491638549381120 y' = some z)
   (hn : ∀ w, Calls Tryd.prog 119 #[.float .f64 x] w fun e w' => e = .returned (.tuple #[.float .f64 y, .int .i64 e0]) ∧ w' = w) :
   Calls Tryd.prog 103 #[.float .f64 x, .int .i64 k] w fun e w' => e = .returned (.float .f64 z) ∧ w' = w := by
 obtain ⟨f1, f2⟩ := flagsS hx
 have b1 := run_bits y
 have b2 := run_frombits y'
 have HI : Hid (∀ w, Calls Tryd.prog 75 #[.float .f64 x, .int .i64 0] w fun e w' => e = .returned (.bool false) ∧ w' = w) := fun w => by have := isInf0_any x w lx; rwa [f1] at this
 have HN : Hid (∀ w, Calls Tryd.prog 74 #[.float .f64 x] w fun e w' => e = .returned (.bool false) ∧ w' = w) := fun w => by have := isNaN_any x w; rwa [f2] at this
 have HM : Hid (∀ w, Calls Tryd.prog 119 #[.float .f64 x] w fun e w' => e = .returned (.tuple #[.float .f64 y, .int .i64 e0]) ∧ w' = w) := hn
 have c6 : ∀ w, (binOp .mul 35 (.float .f64 4368491638549381120) (.float .f64 y')).run Tryd.prog w = .ok (.float .f64 z) w := fun w => run_float_arith w .mul _ .f64 _ _ _ hmul
 have g1 : ¬ (k + e0 + ((E : Int) - 1023) < -1075) := by omega
 have g2 : ¬ (1023 < k + e0 + ((E : Int) - 1023)) := by omega
 have g3 : k + e0 + ((E : Int) - 1023) < -1022 := by omega
 have g4 : k + e0 + ((E : Int) - 1023) + 53 + 1023 = (T : Int) := by omega
 have g7 : (E : Int) ≤ 2046 := by omega
 have g8 : (T : Int) ≤ 2046 := by omega
 have g9 : (EE : Int) < 4096 := by omega
 have HT : Hid (k + e0 + (E : Int) + 53 = (T : Int)) := hT
 clear hT hn f1 f2 hx lx hmul
 go_enter Tryd.func103, Tryd.ntmps103
 go_wp2_with (first
   | (go_at_call 75; refine (HI.out _).mono ?_; rintro e w' ⟨rfl, rfl⟩)
   | (go_at_call 74; refine (HN.out _).mono ?_; rintro e w' ⟨rfl, rfl⟩)
   | (go_at_call 119; refine (HM.out _).mono ?_; rintro e w' ⟨rfl, rfl⟩))
 go_ret
 exact ⟨rfl, rfl⟩
theorem fin_bounds {z : Nat} (hz : Fin64 z) (lz : z < 18446744073709551616) (h0 : fval z ≠ 0) {X : Rat} (h : fval z = X ∨ fval z = -X) (hX : 0 ≤ X) : X < p2 1024 ∧ p2 (-1074) ≤ X := by
 have e : X = fval (frung z) := by
   have := fval_nonneg (r := frung z) hz
   rcases fval_sgn hz lz with ⟨_, ev⟩ | ⟨_, ev⟩ <;> rcases h with h | h <;> grind
 rw [e]
 have hr0 : frung z ≠ 0 := fun e => h0 (fval_zero_iff.2 e)
 constructor
 · have hmax := fval_le_max (r := frung z) hz
   rw [max_val] at hmax
   have h1 : p2 1024 = 18014398509481984 * p2 970 := by
     rw [show (1024 : Int) = ((54 : Nat) : Int) + 970 by omega, p2_add, p2_nat]; rfl
   have := p2_pos 970
   rw [h1]; grind
 · have e1 : fval 1 = p2 (-1074) := by
     rw [(fval_pos_lt (r := 1) (by omega)).1, show fmag 1 = 1 by decide, show fpl 1 = -1074 by decide]
     show (1 : Rat) * _ = _
     rw [Rat.one_mul]
   rw [← e1]
   rcases Nat.lt_or_ge 1 (frung z) with h | h
   · exact Rat.le_of_lt (fval_lt h hz)
   · rw [show frung z = 1 by omega]; exact Rat.le_refl
theorem Ldexp_val (x z : Nat) (k : Int) (w : World) (hx : Fin64 x) (lx : x < 18446744073709551616) (hz : Fin64 z) (lz : z < 18446744073709551616) (h : fval z = fval x * p2 k) (h0 : fval z ≠ 0) (hk1 : -5000 ≤ k) (hk2 : k ≤ 5000) :
   Calls Tryd.prog 82 #[.float .f64 x, .int .i64 k] w fun e w' => e = .returned (.float .f64 z) ∧ w' = w := by
 have hx0 : fval x ≠ 0 := by intro e; apply h0; rw [h, e]; grind
 obtain ⟨y, e0, fy, ly, hy, he, hv, hc⟩ := normS x hx lx hx0
 obtain ⟨s, E, u, rfl, hs, h1, h2, hu⟩ := norm_parts fy ly hy
 obtain ⟨_, _, hfr, hvy⟩ := fval_norm hs h1 h2 hu
 have hzv : fval z = (if s = 0 then 1 else -1) * (((4503599627370496 + u : Nat) : Rat) * p2 ((E : Int) - 1075 + e0 + k)) := by
   rw [h, hv, hvy, p2_add, p2_add]; grind
 have hX0 : 0 ≤ ((4503599627370496 + u : Nat) : Rat) * p2 ((E : Int) - 1075 + e0 + k) := Rat.mul_nonneg Rat.natCast_nonneg (Rat.le_of_lt (p2_pos _))
 obtain ⟨hb1, hb2⟩ := fin_bounds hz lz h0 (X := ((4503599627370496 + u : Nat) : Rat) * p2 ((E : Int) - 1075 + e0 + k)) (by
   rw [hzv]
   by_cases hs0 : s = 0
   · left; rw [if_pos hs0, Rat.one_mul]
   · right; rw [if_neg hs0]; grind) hX0
 have hl1 : p2 ((E : Int) - 1023 + e0 + k) ≤ ((4503599627370496 + u : Nat) : Rat) * p2 ((E : Int) - 1075 + e0 + k) := by
   rw [show (E : Int) - 1023 + e0 + k = ((52 : Nat) : Int) + ((E : Int) - 1075 + e0 + k) by omega, p2_add, p2_nat]
   exact Rat.mul_le_mul_of_nonneg_right (Rat.natCast_le_natCast.2 (by omega)) (Rat.le_of_lt (p2_pos _))
 have hl2 : ((4503599627370496 + u : Nat) : Rat) * p2 ((E : Int) - 1075 + e0 + k) < p2 ((E : Int) - 1022 + e0 + k) := by
   rw [show (E : Int) - 1022 + e0 + k = ((53 : Nat) : Int) + ((E : Int) - 1075 + e0 + k) by omega, p2_add ((53 : Nat) : Int), p2_nat]
   exact Rat.mul_lt_mul_of_pos_right (Rat.natCast_lt_natCast.2 (by omega)) (p2_pos _)
 have q1 := p2_lt_iff.1 (lt_of_le_lt hl1 hb1)
 have q2 := p2_lt_iff.1 (lt_of_le_lt hb2 hl2)
 refine Ldexp_of _ _ _ w (fun w => ?_)
 by_cases hd : k + e0 + (E : Int) < 1
 · obtain ⟨T, hT⟩ : ∃ T : Nat, k + e0 + (E : Int) + 53 = (T : Int) := ⟨(k + e0 + (E : Int) + 53).toNat, by omega⟩
   obtain ⟨fy', ly', _, hvy'⟩ := fval_norm (E := T) hs (by omega) (by omega) hu
   exact ldexpS_den x _ E ((s + (E * 4503599627370496 + u)) / 4503599627370496) (s + u) (s + (T * 4503599627370496 + u)) z (T * 4503599627370496) T e0 k w (zeroS hx0) hx lx (by omega)
     (by rw [and_expSi _ (by omega)]; congr 1; omega) (by rw [andNot_expS hs (by omega)]; congr 1; omega) (or_expS hs (by omega) hu) (by rw [IntKind.wrap_u64]; omega) (by omega) (by omega) hk1 hk2 (by omega) (by omega) hT (by omega) (by omega)
     (mul_exact (by unfold Fin64 frung; decide) fy' hz lz (by
       rw [hzv, m53_val, hvy', show (E : Int) - 1075 + e0 + k = -53 + ((T : Int) - 1075) by omega, p2_add]
       grind) h0) hc
 · obtain ⟨T, hT⟩ : ∃ T : Nat, k + e0 + (E : Int) = (T : Int) := ⟨(k + e0 + (E : Int)).toNat, by omega⟩
   obtain ⟨fy', ly', _, hvy'⟩ := fval_norm (E := T) hs (by omega) (by omega) hu
   exact ldexpS_norm x _ E ((s + (E * 4503599627370496 + u)) / 4503599627370496) (s + u) (s + (T * 4503599627370496 + u)) z (T * 4503599627370496) T e0 k w (zeroS hx0) hx lx (by omega)
     (by rw [and_expSi _ (by omega)]; congr 1; omega) (by rw [andNot_expS hs (by omega)]; congr 1; omega) (or_expS hs (by omega) hu) (by rw [IntKind.wrap_u64]; omega) (by omega) (by omega) hk1 hk2 (by omega) (by omega) hT (by omega) (by omega)
     (mul_exact (by unfold Fin64 frung; decide) fy' hz lz (by
       rw [hzv, one_val, hvy', show (E : Int) - 1075 + e0 + k = (T : Int) - 1075 by omega, Rat.one_mul]) h0) hc
end

/- Package digits: odd, times. -/
section
open Go.RowKit Go.Shelf Go.Lib
def OddOf (n n' : Int) (k : Nat) : Prop := n = n' * ((2 ^ k : Nat) : Int) ∧ n' % 2 = 1 ∧ k < 64
theorem odd_math (n : Int) (h0 : n ≠ 0) (hn : InR n) : ∃ n' : Int, OddOf n n' (ctz 64 (n % 18446744073709551616).toNat) ∧ n / ((2 ^ ctz 64 (n % 18446744073709551616).toNat : Nat) : Int) = n' ∧ (n % 18446744073709551616).toNat ≠ 0 ∧ (n % 18446744073709551616).toNat < 18446744073709551616 := by
 obtain ⟨x, hx⟩ : ∃ x : Nat, (n % 18446744073709551616).toNat = x := ⟨_, rfl⟩
 obtain ⟨h1, h2⟩ := hn
 have hx0 : x ≠ 0 := by omega
 have hxl : x < 18446744073709551616 := by omega
 rw [hx]
 obtain ⟨m, e, hc⟩ := ctz_spec x hxl hx0
 obtain ⟨c, hcc⟩ : ∃ c, ctz 64 x = c := ⟨_, rfl⟩
 rw [hcc] at e hc ⊢
 have hp : (0 : Int) < ((2 ^ c : Nat) : Int) := by have := Nat.two_pow_pos c; omega
 have h64 : (2 ^ c * 2 ^ (64 - c) : Nat) = 18446744073709551616 := by rw [← Nat.pow_add, show c + (64 - c) = 64 by omega]
 obtain ⟨d, hd⟩ : ∃ d, 64 - c = d + 1 := ⟨63 - c, by omega⟩
 rw [hd, Nat.pow_succ] at h64
 obtain ⟨P, hP⟩ : ∃ P, 2 ^ c = P := ⟨_, rfl⟩
 rw [hP] at e hp h64
 generalize 2 ^ d = D at *
 have key : ∃ n', n = n' * (P : Int) ∧ n' % 2 = 1 := by
   by_cases h : n < 0
   · refine ⟨2 * (m : Int) + 1 - 2 * (D : Int), ?_, by omega⟩
     have e1 : n = (x : Int) - 18446744073709551616 := by omega
     have e2 : (x : Int) = (P : Int) * (2 * (m : Int) + 1) := by rw [e, Int.natCast_mul, show ((2 * m + 1 : Nat) : Int) = 2 * (m : Int) + 1 by omega]
     have e3 : (P : Int) * ((D : Int) * 2) = 18446744073709551616 := by rw [show (D : Int) * 2 = ((D * 2 : Nat) : Int) by omega, ← Int.natCast_mul, h64]; rfl
     rw [e1, e2, ← e3]
     rw [Int.sub_mul, Int.mul_comm (P : Int) (2 * (m : Int) + 1), Int.mul_comm (P : Int) ((D : Int) * 2), Int.mul_comm (D : Int) 2]
   · refine ⟨2 * (m : Int) + 1, ?_, by omega⟩
     have e1 : n = (x : Int) := by omega
     have e2 : (x : Int) = (P : Int) * (2 * (m : Int) + 1) := by rw [e, Int.natCast_mul, show ((2 * m + 1 : Nat) : Int) = 2 * (m : Int) + 1 by omega]
     rw [e1, e2, Int.mul_comm]
 obtain ⟨n', k1, k2⟩ := key
 exact ⟨n', ⟨by rw [hP]; exact k1, k2, hc⟩, by rw [hP, k1]; exact Int.mul_ediv_cancel _ (by omega), hx0, hxl⟩
set_option maxHeartbeats 1000000 in
theorem odd_any (n e : Int) (h0 : n ≠ 0) (hn : InR n) (he1 : -9223372036854775808 ≤ e) (he2 : e ≤ 4611686018427387904) :
   ∃ n' k, OddOf n n' k ∧ ∀ w, Tab w → Calls Tryd.prog 81 #[.int .i64 n, .int .i64 e] w fun r w' => r = .returned (.tuple #[.int .i64 n', .int .i64 (e + (k : Nat))]) ∧ w' = w := by
 obtain ⟨n', ho, hdiv, hx0, hxl⟩ := odd_math n h0 hn
 obtain ⟨x, hx⟩ : ∃ x : Nat, (n % 18446744073709551616).toNat = x := ⟨_, rfl⟩
 rw [hx] at ho hdiv hx0 hxl
 obtain ⟨c, hcc⟩ : ∃ c, ctz 64 x = c := ⟨_, rfl⟩
 have HZ : Hid (∀ w, Tab w → Calls Tryd.prog 101 #[.int .u64 x] w fun e w' => e = .returned (.int .i64 (c : Nat)) ∧ w' = w) := fun w hT => by have := tz64_any x hxl hx0 w hT; rwa [hcc] at this
 rw [hcc] at ho hdiv
 refine ⟨n', c, ho, fun w hT => ?_⟩
 have HT : Hid (Tab w) := hT
 have hc := ho.2.2
 have hxe : IntKind.u64.wrap n = (x : Int) := by rw [IntKind.wrap_u64]; omega
 have HO := Lib.hid ho
 have HD := Lib.hid hdiv
 clear ho hdiv hx hcc hx0 hxl h0 hn hT
 go_enter Tryd.func81, Tryd.ntmps81
 go_wp2_with (first
   | (go_at_call 101; refine (HZ.out _ HT.out).mono ?_; rintro e w' ⟨rfl, rfl⟩))
 go_ret2
 exact ⟨ret_ii1 (by rw [← HD.out, Int.natCast_pow]; rfl), rfl⟩
theorem nat_of_rat {a b : Nat} {u : Rat} (hu : 0 < u) (h : ((a : Nat) : Rat) * u = ((b : Nat) : Rat) * u) : a = b := by
 have := int_eq hu (show ((a : Int) : Rat) * u = ((b : Int) : Rat) * u from h)
 omega
theorem fin_mag {y : Nat} (_hy : Fin64 y) : ∃ (m : Nat) (p : Int), m < 9007199254740992 ∧ -1074 ≤ p ∧ (fval y = (m : Rat) * p2 p ∨ fval y = -((m : Rat) * p2 p)) := by
 refine ⟨fmag (frung y), fpl (frung y), fmag_lt _, by unfold fpl; split <;> omega, ?_⟩
 rw [fval_eq]
 unfold sgn1
 cases fneg y
 · left; rw [if_neg (by decide), Rat.one_mul]
 · right; rw [if_pos rfl]; grind
theorem mag_of {n : Int} {e : Int} {m : Nat} {p : Int} {v : Rat} (h1 : v = (m : Rat) * p2 p ∨ v = -((m : Rat) * p2 p)) (h2 : v = (n : Rat) * p2 e) : ((m : Nat) : Rat) * p2 p = ((n.natAbs : Nat) : Rat) * p2 e := by
 have ha := abs_total n (p2 e)
 have hm : (0 : Rat) ≤ ((m : Nat) : Rat) * p2 p := Rat.mul_nonneg Rat.natCast_nonneg (Rat.le_of_lt (p2_pos _))
 have hn : (0 : Rat) ≤ ((n.natAbs : Nat) : Rat) * p2 e := Rat.mul_nonneg Rat.natCast_nonneg (Rat.le_of_lt (p2_pos _))
 generalize ((m : Nat) : Rat) * p2 p = X at *
 generalize ((n.natAbs : Nat) : Rat) * p2 e = Y at *
 generalize (n : Rat) * p2 e = Z at *
 split at ha <;> rcases h1 with h1 | h1 <;> grind
theorem no_big {n e : Int} (ho : n % 2 = 1) (h : 9007199254740992 ≤ n.natAbs) : ∀ y, Fin64 y → fval y ≠ (n : Rat) * p2 e := by
 intro y hy hv
 obtain ⟨m, p, hm, hp, hd⟩ := fin_mag hy
 have hq := mag_of hd hv
 rcases Int.le_total e p with h1 | h1
 · obtain ⟨k, hk⟩ : ∃ k : Nat, p = (k : Int) + e := ⟨(p - e).toNat, by omega⟩
   rw [hk, p2_add, ← Rat.mul_assoc, ← nat_mul_p2] at hq
   have := nat_of_rat (p2_pos e) hq
   cases k with
   | zero => rw [Nat.pow_zero] at this; omega
   | succ k => rw [Nat.pow_succ, ← Nat.mul_assoc] at this; omega
 · obtain ⟨k, hk⟩ : ∃ k : Nat, e = (k : Int) + p := ⟨(e - p).toNat, by omega⟩
   rw [hk, p2_add, ← Rat.mul_assoc, ← nat_mul_p2] at hq
   have := nat_of_rat (p2_pos p) hq
   have h2 : n.natAbs * 1 ≤ n.natAbs * 2 ^ k := Nat.mul_le_mul_left _ (Nat.two_pow_pos k)
   omega
theorem no_low {n e : Int} (ho : n % 2 = 1) (h : e < -1074) : ∀ y, Fin64 y → fval y ≠ (n : Rat) * p2 e := by
 intro y hy hv
 obtain ⟨m, p, hm, hp, hd⟩ := fin_mag hy
 have hq := mag_of hd hv
 obtain ⟨k, hk⟩ : ∃ k : Nat, p = ((k + 1 : Nat) : Int) + e := ⟨(p - e - 1).toNat, by omega⟩
 rw [hk, p2_add, ← Rat.mul_assoc, ← nat_mul_p2] at hq
 have := nat_of_rat (p2_pos e) hq
 rw [Nat.pow_succ, ← Nat.mul_assoc] at this
 omega
theorem p2_log (m : Nat) (hm : m ≠ 0) : p2 ((Nat.log2 m : Nat) : Int) ≤ ((m : Nat) : Rat) := by
 rw [p2_nat]; exact Rat.natCast_le_natCast.2 (Nat.log2_self_le hm)
theorem no_high {n e : Int} (h0 : n ≠ 0) (h : 1024 ≤ e + ((Nat.log2 n.natAbs : Nat) : Int)) : ∀ y, Fin64 y → y < 18446744073709551616 → fval y ≠ (n : Rat) * p2 e := by
 intro y hy ly hv
 have ha := abs_total n (p2 e)
 have hX0 : (0 : Rat) ≤ ((n.natAbs : Nat) : Rat) * p2 e := Rat.mul_nonneg Rat.natCast_nonneg (Rat.le_of_lt (p2_pos _))
 have hl : p2 (e + ((Nat.log2 n.natAbs : Nat) : Int)) ≤ ((n.natAbs : Nat) : Rat) * p2 e := by
   rw [p2_add, Rat.mul_comm]
   exact Rat.mul_le_mul_of_nonneg_right (p2_log _ (by omega)) (Rat.le_of_lt (p2_pos _))
 have hm := p2_mono h
 have hy0 : fval y ≠ 0 := by
   rw [hv]
   intro e0
   have hp := p2_pos (e + ((Nat.log2 n.natAbs : Nat) : Int))
   rw [e0] at ha
   split at ha <;> grind
 obtain ⟨b1, _⟩ := fin_bounds hy ly hy0 (X := ((n.natAbs : Nat) : Rat) * p2 e) (by
   rw [hv]
   split at ha
   · right; rw [ha]; grind
   · left; rw [ha]) hX0
 grind
set_option maxRecDepth 100000 in
theorem word_exists (m : Nat) (e : Int) (hm : m ≠ 0) (h53 : m < 9007199254740992) (he : -1074 ≤ e) (hh : e + ((Nat.log2 m : Nat) : Int) ≤ 1023) : ∃ r, r < 9218868437227405312 ∧ fval r = ((m : Nat) : Rat) * p2 e := by
 obtain ⟨p, hp⟩ : ∃ p, Nat.log2 m = p := ⟨_, rfl⟩
 have a1 := Nat.log2_self_le hm
 have a2 : m < 2 ^ (Nat.log2 m + 1) := Nat.lt_log2_self
 have a3 : Nat.log2 m < 53 := (Nat.log2_lt hm).2 h53
 rw [hp] at a1 a2 a3 hh
 by_cases h : e + (p : Int) < -1022
 · obtain ⟨j, hj⟩ : ∃ j : Nat, e = (j : Int) + -1074 := ⟨(e + 1074).toNat, by omega⟩
   have hk : m * 2 ^ j < 4503599627370496 := by
     have b := Nat.mul_lt_mul_of_pos_right a2 (Nat.two_pow_pos j)
     rw [← Nat.pow_add] at b
     have c : 2 ^ (p + 1 + j) ≤ 2 ^ 52 := Nat.pow_le_pow_right (by omega) (by omega)
     omega
   obtain ⟨q, hq⟩ : ∃ q, m * 2 ^ j = q := ⟨_, rfl⟩
   rw [hq] at hk
   clear a1 a2
   have q1 : q < 9218868437227405312 := Nat.lt_trans hk (by decide)
   have q2 : q ≤ 9007199254740992 := Nat.le_of_lt (Nat.lt_trans hk (by decide))
   have := fval_rung 0 q q2 (Or.inl rfl) (by rw [Nat.zero_mul, Nat.zero_add]; exact q1)
   refine ⟨0 * 4503599627370496 + q, by rw [Nat.zero_mul, Nat.zero_add]; exact q1, this.trans ?_⟩
   rw [← hq, nat_mul_p2, hj, p2_add, Rat.mul_assoc]
   rfl
 · obtain ⟨j, hj⟩ : ∃ j : Nat, j + p = 52 := ⟨52 - p, by omega⟩
   obtain ⟨T, hT⟩ : ∃ T : Nat, (T : Int) = e + (p : Int) + 1022 := ⟨(e + (p : Int) + 1022).toNat, by omega⟩
   have b1 := Nat.mul_le_mul_right (2 ^ j) a1
   have b2 := Nat.mul_lt_mul_of_pos_right a2 (Nat.two_pow_pos j)
   rw [← Nat.pow_add, show p + j = 52 by omega] at b1
   rw [← Nat.pow_add, show p + 1 + j = 53 by omega] at b2
   obtain ⟨q, hq⟩ : ∃ q, m * 2 ^ j = q := ⟨_, rfl⟩
   rw [hq] at b1 b2
   clear a1 a2
   have hT2 : T ≤ 2045 := by omega
   have q1 : T * 4503599627370496 + q < 9218868437227405312 := by
     have := Nat.mul_le_mul_right 4503599627370496 hT2
     clear hj hT h hh he hp a3 h53 hm hq
     omega
   have := fval_rung T q (Nat.le_of_lt b2) (Or.inr b1) q1
   refine ⟨T * 4503599627370496 + q, q1, this.trans ?_⟩
   rw [← hq, nat_mul_p2]
   unfold U
   rw [Rat.mul_assoc, ← p2_add]
   congr 2
   omega
theorem word_signed (n e : Int) (h0 : n ≠ 0) (h53 : n.natAbs < 9007199254740992) (he : -1074 ≤ e) (hh : e + ((Nat.log2 n.natAbs : Nat) : Int) ≤ 1023) : ∃ z, Fin64 z ∧ z < 18446744073709551616 ∧ fval z = (n : Rat) * p2 e ∧ fval z ≠ 0 := by
 obtain ⟨r, hr, hv⟩ := word_exists n.natAbs e (by omega) h53 he hh
 have ha := abs_total n (p2 e)
 have hp : 0 < ((n.natAbs : Nat) : Rat) * p2 e := Rat.mul_pos (Rat.natCast_pos.2 (by omega)) (p2_pos _)
 split at ha
 · refine ⟨9223372036854775808 + r, by unfold Fin64 frung; omega, by omega, ?_, ?_⟩
   · rw [fval_word hr, hv, ha]; grind
   · rw [fval_word hr, hv]; grind
 · exact ⟨r, by unfold Fin64 frung; omega, by omega, by rw [hv, ha], by rw [hv]; grind⟩
def TimesR (n e : Int) (x : Nat) (ok : Bool) : Prop :=
 (ok = true ∧ Fin64 x ∧ x < 18446744073709551616 ∧ fval x = (n : Rat) * p2 e ∧ (n = 0 → x = 0)) ∨ (ok = false ∧ x = 0 ∧ ∀ y, Fin64 y → y < 18446744073709551616 → fval y ≠ (n : Rat) * p2 e)
theorem odd_val {n n' e : Int} {k : Nat} (h : OddOf n n' k) : (n : Rat) * p2 e = (n' : Rat) * p2 (e + (k : Nat)) := by
 rw [h.1, Rat.intCast_mul, Int.add_comm, p2_add, p2_nat, Rat.mul_assoc]
 rfl
set_option maxHeartbeats 2000000 in
theorem times_any (n e : Int) (hn : InR n) (he : InR e) :
   ∃ x ok, TimesR n e x ok ∧ ∀ w, Tab w → Calls Tryd.prog 113 #[.int .i64 n, .int .i64 e] w fun r w' => r = .returned (.tuple #[.float .f64 x, .bool ok]) ∧ w' = w := by
 by_cases h0 : n = 0
 · subst h0
   refine ⟨0, true, Or.inl ⟨rfl, fin_zero, by omega, by rw [fval_zero]; show (0 : Rat) = 0 * _; grind, fun _ => rfl⟩, fun w hT => ?_⟩
   clear hT
   go_enter Tryd.func113, Tryd.ntmps113
   go_wp2
   go_ret2
   exact ⟨rfl, rfl⟩
 by_cases h1 : 1023 < e
 · refine ⟨0, false, Or.inr ⟨rfl, rfl, no_high h0 (by omega)⟩, fun w hT => ?_⟩
   clear hT
   go_enter Tryd.func113, Tryd.ntmps113
   go_wp2
   go_ret2
   exact ⟨rfl, rfl⟩
 obtain ⟨n', k, ho, hc⟩ := odd_any n e h0 hn he.1 (by omega)
 obtain ⟨he1, he2⟩ := he
 have hval := odd_val (e := e) ho
 have hodd := ho.2.1
 have hk := ho.2.2
 have hn' : n'.natAbs ≤ 9223372036854775808 ∧ n' ≠ 0 := by
   refine ⟨?_, by omega⟩
   have e1 := congrArg Int.natAbs ho.1
   rw [Int.natAbs_mul, Int.natAbs_natCast] at e1
   have e2 : n'.natAbs * 1 ≤ n'.natAbs * 2 ^ k := Nat.mul_le_mul_left _ (Nat.two_pow_pos k)
   have := hn.1
   have := hn.2
   omega
 have hn1 : -9223372036854775807 ≤ n' := by omega
 have hn2 : n' ≤ 9223372036854775807 := by omega
 obtain ⟨L, hL⟩ : ∃ L : Nat, Nat.log2 n'.natAbs + 1 = L := ⟨_, rfl⟩
 have hLb : L ≤ 64 := by
   have := (Nat.log2_lt (n := n'.natAbs) (k := 64) (by omega)).2 (by omega)
   omega
 have HL : Hid (∀ w, Calls Tryd.prog 123 #[.int .u64 (max n' (-n'))] w fun e w' => e = .returned (.int .i64 (L : Nat)) ∧ w' = w) := fun w => by
   have := len64_any (n'.natAbs : Nat) w (by omega) (by omega)
   rw [Int.toNat_natCast, hL] at this
   rw [show max n' (-n') = (n'.natAbs : Nat) by rw [Int.max_def]; split <;> omega]
   exact this
 obtain ⟨ek, hek⟩ : ∃ ek : Int, e + (k : Nat) = ek := ⟨_, rfl⟩
 rw [hek] at hc hval
 have hek1 : -9223372036854775808 ≤ ek := by omega
 have hek2 : ek ≤ 1086 := by omega
 have HC : Hid (∀ w, Tab w → Calls Tryd.prog 81 #[.int .i64 n, .int .i64 e] w fun r w' => r = .returned (.tuple #[.int .i64 n', .int .i64 ek]) ∧ w' = w) := hc
 have hno : ∀ (P : Prop), (P → ∀ y, Fin64 y → y < 18446744073709551616 → fval y ≠ (n' : Rat) * p2 ek) → P → TimesR n e 0 false := fun P h hP => Or.inr ⟨rfl, rfl, by rw [hval]; exact h hP⟩
 have HW : Hid (L = Nat.log2 n'.natAbs + 1) := hL.symm
 have H53 : Hid (53 < L ↔ 9007199254740992 ≤ n'.natAbs) := by
   show 53 < L ↔ 9007199254740992 ≤ n'.natAbs
   have := Nat.log2_lt (n := n'.natAbs) (k := 53) (by omega)
   omega
 have HV := Lib.hid hval
 clear hval hc hL hek ho
 have HLi : (L : Int) ≤ 64 := by omega
 by_cases hA : 53 < L
 · refine ⟨0, false, hno _ (fun _ y hy _ => no_big hodd (H53.out.1 hA) y hy) hA, fun w hT => ?_⟩
   have HT : Hid (Tab w) := hT
   clear hno hT
   go_enter Tryd.func113, Tryd.ntmps113
   go_wp2_with (first
     | (go_at_call 81; refine (HC.out _ HT.out).mono ?_; rintro e w' ⟨rfl, rfl⟩)
     | (go_at_call 123; refine (HL.out _).mono ?_; rintro e w' ⟨rfl, rfl⟩))
   go_ret2
   exact ⟨rfl, rfl⟩
 by_cases hB : ek < -1074
 · refine ⟨0, false, hno _ (fun _ y hy _ => no_low hodd hB y hy) hB, fun w hT => ?_⟩
   have HT : Hid (Tab w) := hT
   clear hno hT
   go_enter Tryd.func113, Tryd.ntmps113
   go_wp2_with (first
     | (go_at_call 81; refine (HC.out _ HT.out).mono ?_; rintro e w' ⟨rfl, rfl⟩)
     | (go_at_call 123; refine (HL.out _).mono ?_; rintro e w' ⟨rfl, rfl⟩))
   go_ret2
   exact ⟨rfl, rfl⟩
 by_cases hD : 1023 < ek + (L : Int) - 1
 · refine ⟨0, false, hno _ (fun _ => no_high hn'.2 (by have := HW.out; omega)) hD, fun w hT => ?_⟩
   have HT : Hid (Tab w) := hT
   clear hno hT
   go_enter Tryd.func113, Tryd.ntmps113
   go_wp2_with (first
     | (go_at_call 81; refine (HC.out _ HT.out).mono ?_; rintro e w' ⟨rfl, rfl⟩)
     | (go_at_call 123; refine (HL.out _).mono ?_; rintro e w' ⟨rfl, rfl⟩))
   go_ret2
   exact ⟨rfl, rfl⟩
 obtain ⟨z, fz, lz, vz, z0⟩ := word_signed n' ek hn'.2 (by have := H53.out; omega) (by omega) (by have := HW.out; omega)
 refine ⟨z, true, Or.inl ⟨rfl, fz, lz, by rw [vz, HV.out], fun h => absurd h h0⟩, fun w hT => ?_⟩
 obtain ⟨ff, lf, vf⟩ := fwJ_val (n := n') (by have := H53.out; omega) (by have := H53.out; omega)
 have HX : Hid (∀ w, Calls Tryd.prog 82 #[.float .f64 (floatOfInt .f64 n'), .int .i64 ek] w fun e w' => e = .returned (.float .f64 z) ∧ w' = w) := fun w => Ldexp_val (fwJ n') z ek w ff lf fz lz (by rw [vz, vf]) z0 (by omega) (by omega)
 have HT : Hid (Tab w) := hT
 clear hT hno ff lf vf fz lz vz z0
 go_enter Tryd.func113, Tryd.ntmps113
 go_wp2_with (first
     | (go_at_call 81; refine (HC.out _ HT.out).mono ?_; rintro e w' ⟨rfl, rfl⟩)
     | (go_at_call 123; refine (HL.out _).mono ?_; rintro e w' ⟨rfl, rfl⟩)
     | (go_at_call 82; refine (HX.out _).mono ?_; rintro e w' ⟨rfl, rfl⟩))
 go_ret2
 exact ⟨rfl, rfl⟩
end
end Go.Proofs.YtgoadpnoagaflaaDoor
