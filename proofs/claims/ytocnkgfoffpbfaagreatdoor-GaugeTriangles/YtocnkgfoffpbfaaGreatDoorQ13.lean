/- Own texts, put together: Fd. -/
import Derived.Test.YtocnkgfoffpbfaaGreatDoorQ8
/- Floats: Ldexp, on floats that are not below the normal ones. -/
namespace Go.Proofs.YtocnkgfoffpbfaaGreatDoor
open Go.RowKit

set_option maxHeartbeats 1000000 in
theorem inf_pos (w : World) : Calls Tryz.prog 89 #[.int .i64 1] w fun e w' => e = .returned (.float .f64 9218868437227405312) ∧ w' = w := by
 have b2 := run_frombits 9218868437227405312
 have b2' : ∀ w, (callFunc 75 #[.int .u64 9218868437227405312]).run Tryz.prog w = .ok (.value (.float .f64 9218868437227405312)) w := b2
 go_enter Tryz.func89, Tryz.ntmps89
 go_wp2
 go_ret
 exact ⟨rfl, rfl⟩

set_option maxHeartbeats 2000000 in
theorem ldexp_norm (E u T x y z9 : Nat) (k : Int) (w : World) (hx : E * 4503599627370496 + u = x) (hy : T * 4503599627370496 + u = y) (hz : T * 4503599627370496 = z9) (hE1 : 1 ≤ E) (hE2 : E ≤ 2046) (hu : u < 4503599627370496) (hT : k + (E : Int) = (T : Int)) (hT1 : 1 ≤ T) (hT2 : T ≤ 2046) :
   Calls Tryz.prog 114 #[.float .f64 x, .int .i64 k] w fun e w' => e = .returned (.float .f64 y) ∧ w' = w := by
 have z := zero_order x (by omega) (by omega)
 obtain ⟨f1, f2⟩ := fin_flags x (by omega)
 have b1 := run_bits x
 have HI : Hid (∀ w, Calls Tryz.prog 79 #[.float .f64 x, .int .i64 0] w fun e w' => e = .returned (.bool false) ∧ w' = w) := fun w => by have := isInf0_any x w (by omega); rwa [f1] at this
 have HN : Hid (∀ w, Calls Tryz.prog 78 #[.float .f64 x] w fun e w' => e = .returned (.bool false) ∧ w' = w) := fun w => by have := isNaN_any x w; rwa [f2] at this
 have HM : Hid (∀ w, Calls Tryz.prog 138 #[.float .f64 x] w fun e w' => e = .returned (.tuple #[.float .f64 x, .int .i64 0]) ∧ w' = w) := fun w => normalize_big _ w (by omega) (by omega)
 have c1 : ((x : Nat) : Int) / 4503599627370496 = (E : Int) := by omega
 have c2 := and_exp_i E (by omega)
 have c3 := andNot_exp x (by omega)
 rw [show x % 4503599627370496 = u by omega] at c3
 have c4 : bits .or .u64 (u : Int) (z9 : Int) = (y : Int) := by have := or_exp T u (by omega) hu; rw [hy, hz] at this; exact this
 have b2 := run_frombits y
 have c5 : IntKind.u64.wrap ((T : Int) * 4503599627370496) = (z9 : Int) := by rw [IntKind.wrap_u64]; omega
 have c6 : ∀ w, (binOp .mul 22 (.float .f64 4607182418800017408) (.float .f64 y)).run Tryz.prog w = .ok (.float .f64 y) w := fun w => run_float_arith w .mul _ .f64 _ _ _ (by have := mul_one T u hT1 hT2 hu; rw [hy] at this; exact this)
 have g1 : ¬ (k + ((E : Int) - 1023) < -1075) := by omega
 have g2 : ¬ (1023 < k + ((E : Int) - 1023)) := by omega
 have g3 : ¬ (k + ((E : Int) - 1023) < -1022) := by omega
 have g4 : k + ((E : Int) - 1023) + 1023 = (T : Int) := by omega
 have g5 : -5000 ≤ k := by omega
 have g6 : k ≤ 5000 := by omega
 have g7 : (E : Int) ≤ 2046 := by omega
 have g8 : (T : Int) ≤ 2046 := by omega
 have HX : Hid (E * 4503599627370496 + u = x) := hx
 clear hx f1 f2
 have HY : Hid (T * 4503599627370496 + u = y) := hy
 have HZ : Hid (T * 4503599627370496 = z9) := hz
 have HT : Hid (k + (E : Int) = (T : Int)) := hT
 clear hy hz hT
 go_enter Tryz.func114, Tryz.ntmps114
 go_wp2_with (first
   | (go_at_call 79; refine (HI.out _).mono ?_; rintro e w' ⟨rfl, rfl⟩)
   | (go_at_call 78; refine (HN.out _).mono ?_; rintro e w' ⟨rfl, rfl⟩)
   | (go_at_call 138; refine (HM.out _).mono ?_; rintro e w' ⟨rfl, rfl⟩))
 go_ret
 exact ⟨rfl, rfl⟩

set_option maxHeartbeats 2000000 in
theorem ldexp_den (E u T x y z9 r : Nat) (k : Int) (w : World) (hx : E * 4503599627370496 + u = x) (hy : T * 4503599627370496 + u = y) (hz : T * 4503599627370496 = z9) (hE1 : 1 ≤ E) (hE2 : E ≤ 2046) (hu : u < 4503599627370496) (hT : k + (E : Int) + 53 = (T : Int)) (hT1 : 1 ≤ T) (hT2 : T ≤ 53) (hmul : Ieee.double.mul 4368491638549381120 y = some r) :
   Calls Tryz.prog 114 #[.float .f64 x, .int .i64 k] w fun e w' => e = .returned (.float .f64 r) ∧ w' = w := by
 have z := zero_order x (by omega) (by omega)
 obtain ⟨f1, f2⟩ := fin_flags x (by omega)
 have b1 := run_bits x
 have HI : Hid (∀ w, Calls Tryz.prog 79 #[.float .f64 x, .int .i64 0] w fun e w' => e = .returned (.bool false) ∧ w' = w) := fun w => by have := isInf0_any x w (by omega); rwa [f1] at this
 have HN : Hid (∀ w, Calls Tryz.prog 78 #[.float .f64 x] w fun e w' => e = .returned (.bool false) ∧ w' = w) := fun w => by have := isNaN_any x w; rwa [f2] at this
 have HM : Hid (∀ w, Calls Tryz.prog 138 #[.float .f64 x] w fun e w' => e = .returned (.tuple #[.float .f64 x, .int .i64 0]) ∧ w' = w) := fun w => normalize_big _ w (by omega) (by omega)
 have c1 : ((x : Nat) : Int) / 4503599627370496 = (E : Int) := by omega
 have c2 := and_exp_i E (by omega)
 have c3 := andNot_exp x (by omega)
 rw [show x % 4503599627370496 = u by omega] at c3
 have c4 : bits .or .u64 (u : Int) (z9 : Int) = (y : Int) := by have := or_exp T u (by omega) hu; rw [hy, hz] at this; exact this
 have b2 := run_frombits y
 have c5 : IntKind.u64.wrap ((T : Int) * 4503599627370496) = (z9 : Int) := by rw [IntKind.wrap_u64]; omega
 have c6 : ∀ w, (binOp .mul 22 (.float .f64 4368491638549381120) (.float .f64 y)).run Tryz.prog w = .ok (.float .f64 r) w := fun w => run_float_arith w .mul _ .f64 _ _ _ hmul
 have g1 : ¬ (k + ((E : Int) - 1023) < -1075) := by omega
 have g2 : ¬ (1023 < k + ((E : Int) - 1023)) := by omega
 have g3 : k + ((E : Int) - 1023) < -1022 := by omega
 have g4 : k + ((E : Int) - 1023) + 53 + 1023 = (T : Int) := by omega
 have g5 : -5000 ≤ k := by omega
 have g6 : k ≤ 5000 := by omega
 have g7 : (E : Int) ≤ 2046 := by omega
 have g8 : (T : Int) ≤ 2046 := by omega
 have HX : Hid (E * 4503599627370496 + u = x) := hx
 clear hx f1 f2
 have HY : Hid (T * 4503599627370496 + u = y) := hy
 have HZ : Hid (T * 4503599627370496 = z9) := hz
 have HT : Hid (k + (E : Int) + 53 = (T : Int)) := hT
 clear hy hz hT hmul
 go_enter Tryz.func114, Tryz.ntmps114
 go_wp2_with (first
   | (go_at_call 79; refine (HI.out _).mono ?_; rintro e w' ⟨rfl, rfl⟩)
   | (go_at_call 78; refine (HN.out _).mono ?_; rintro e w' ⟨rfl, rfl⟩)
   | (go_at_call 138; refine (HM.out _).mono ?_; rintro e w' ⟨rfl, rfl⟩))
 go_ret
 exact ⟨rfl, rfl⟩

set_option maxHeartbeats 2000000 in
theorem ldexp_inf (E u x : Nat) (k : Int) (w : World) (hx : E * 4503599627370496 + u = x) (hE1 : 1 ≤ E) (hE2 : E ≤ 2046) (hu : u < 4503599627370496) (hT : 2046 < k + (E : Int)) (hk : k ≤ 1000000) :
   Calls Tryz.prog 114 #[.float .f64 x, .int .i64 k] w fun e w' => e = .returned (.float .f64 9218868437227405312) ∧ w' = w := by
 have z := zero_order x (by omega) (by omega)
 obtain ⟨f1, f2⟩ := fin_flags x (by omega)
 have b1 := run_bits x
 have HI : Hid (∀ w, Calls Tryz.prog 79 #[.float .f64 x, .int .i64 0] w fun e w' => e = .returned (.bool false) ∧ w' = w) := fun w => by have := isInf0_any x w (by omega); rwa [f1] at this
 have HN : Hid (∀ w, Calls Tryz.prog 78 #[.float .f64 x] w fun e w' => e = .returned (.bool false) ∧ w' = w) := fun w => by have := isNaN_any x w; rwa [f2] at this
 have HM : Hid (∀ w, Calls Tryz.prog 138 #[.float .f64 x] w fun e w' => e = .returned (.tuple #[.float .f64 x, .int .i64 0]) ∧ w' = w) := fun w => normalize_big _ w (by omega) (by omega)
 have c1 : ((x : Nat) : Int) / 4503599627370496 = (E : Int) := by omega
 have c2 := and_exp_i E (by omega)
 have c3 := andNot_exp x (by omega)
 rw [show x % 4503599627370496 = u by omega] at c3
 have g0 : (FloatKind.f64.format.order x 0 == some .lt) = false := by
   show (Ieee.double.order x 0 == some .lt) = false
   rw [order_fin (by unfold Fin64 frung; omega) (by unfold Fin64 frung; decide), fval_zero_iff.2 (by rfl : frung 0 = 0), if_neg (by have := fval_nonneg (r := x) (by omega); grind)]
   split <;> rfl
 have g1 : ¬ (k + ((E : Int) - 1023) < -1075) := by omega
 have g2 : 1023 < k + ((E : Int) - 1023) := by omega
 have g5 : -5000 ≤ k := by omega
 have g7 : (E : Int) ≤ 2046 := by omega
 have HX : Hid (E * 4503599627370496 + u = x) := hx
 clear hx f1 f2
 have HT : Hid (2046 < k + (E : Int)) := hT
 clear hT
 go_enter Tryz.func114, Tryz.ntmps114
 go_wp2_with (first
   | (go_at_call 79; refine (HI.out _).mono ?_; rintro e w' ⟨rfl, rfl⟩)
   | (go_at_call 78; refine (HN.out _).mono ?_; rintro e w' ⟨rfl, rfl⟩)
   | (go_at_call 138; refine (HM.out _).mono ?_; rintro e w' ⟨rfl, rfl⟩)
   | (go_at_call 89; refine (inf_pos _).mono ?_; rintro e w' ⟨rfl, rfl⟩))
 go_ret
 exact ⟨rfl, rfl⟩

set_option maxHeartbeats 1000000 in
theorem ldexp_zero (k : Int) (w : World) : Calls Tryz.prog 114 #[.float .f64 0, .int .i64 k] w fun e w' => e = .returned (.float .f64 0) ∧ w' = w := by
 have z : (FloatKind.f64.format.order 0 0 == some .eq) = true := by decide
 go_enter Tryz.func114, Tryz.ntmps114
 go_wp2
 go_ret
 exact ⟨rfl, rfl⟩

set_option maxHeartbeats 1000000 in
theorem Ldexp_of (a b : Nat) (k : Int) (w : World) (hf : ∀ w, Calls Tryz.prog 114 #[.float .f64 a, .int .i64 k] w fun e w' => e = .returned (.float .f64 b) ∧ w' = w) :
   Calls Tryz.prog 81 #[.float .f64 a, .int .i64 k] w fun e w' => e = .returned (.float .f64 b) ∧ w' = w := by
 have HF : Hid _ := hf
 clear hf
 go_enter Tryz.func81, Tryz.ntmps81
 go_wp2_with (first | (go_at_call 114; refine (HF.out _).mono ?_; rintro e w' ⟨rfl, rfl⟩))
 go_ret
 exact ⟨rfl, rfl⟩

end Go.Proofs.YtocnkgfoffpbfaaGreatDoor
