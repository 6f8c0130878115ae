/- Own texts, put together: Ha Hc Xe. -/
import Derived.Test.YtejhinjanjlplaaDoorQ13
import Derived.Test.YtejhinjanjlplaaDoorQ24
import Derived.Test.YtejhinjanjlplaaDoorQ27
import Derived.Test.YtejhinjanjlplaaDoorQ32
namespace Go.Proofs.YtejhinjanjlplaaDoor
/- How many bits a float has; that two numbers are the same. -/
section
open Go.RowKit
attribute [local go_sem ↓] Go.wp_at_zero Go.wp_at_succ
theorem run_store_float (P : Program) (w : World) (a : Addr) (m : Mode) (k : FloatKind) (b : Nat) : (store a (.float k b) m).run P w = stored P w a (.float k b) m := run_store P w a _ m rfl
theorem den_fin {b : Nat} (h : Fin64 b) : den b = fval b := by unfold den; exact if_pos h
theorem den_Fit (b : Nat) : Fit (den b) := (den_fit b).mono (by omega) (by omega)
theorem Rf.agg {w : World} {v : Value} {q : Rat} (h : Rf w v q) : ∃ S a n c E, v = .agg #[.int .i64 S, .slice a n c, .int .i64 E] := by
 obtain ⟨S, a, n, c, E, h, _⟩ := h.sgn
 exact ⟨S, a, n, c, E, h⟩
end

/- A number and the floats about the one nearest to it: plain facts. Nextafter. -/
section
open Go.RowKit
theorem near_between {q : Rat} {r : Nat} (h : Near q r) (hq : 0 < q) (hr : r + 1 < 9218868437227405312) :
   2 * q ≤ fval r + fval (r + 1) ∧ (2 * q = fval r + fval (r + 1) → r % 2 = 0) ∧ (r ≠ 0 → fval r + fval (r - 1) ≤ 2 * q ∧ (2 * q = fval r + fval (r - 1) → r % 2 = 0)) := by
 rcases h with ⟨rfl, _⟩ | ⟨_, T, k, hl, hh, e⟩
 · exact absurd hq (by grind)
 · have hb := kept_bounds hl hh
   have e' : r = T * 4503599627370496 + k := by omega
   have hv := fval_rung T k hb.1 hb.2 (by omega)
   have hU := half_unit T
   have hu := p2_pos ((T : Int) - 1075)
   obtain ⟨l1, l2⟩ := hl
   obtain ⟨s1, s2, s3, s4⟩ := hh
   rw [show ((9007199254740992 : Int) : Rat) = 9007199254740992 from rfl] at l1
   have e1 : ((2 * (k : Int) - 1 : Int) : Rat) = 2 * ((k : Nat) : Rat) - 1 := by rw [Rat.intCast_sub, Rat.intCast_mul]; rfl
   have e2 : ((2 * (k : Int) + 1 : Int) : Rat) = 2 * ((k : Nat) : Rat) + 1 := by rw [Rat.intCast_add, Rat.intCast_mul]; rfl
   rw [e1] at s1 s3
   rw [e2] at s2 s4
   rw [e']
   have hpar : (T * 4503599627370496 + k) % 2 = k % 2 := by omega
   rw [hpar, hv]
   refine ⟨?_, ?_, ?_⟩
   · by_cases hk : k < 9007199254740992
     · have hv1 := fval_rung T (k + 1) (by omega) (by omega) (by omega)
       rw [show T * 4503599627370496 + k + 1 = T * 4503599627370496 + (k + 1) by omega, hv1, hU, Rat.natCast_add]
       rw [show ((1 : Nat) : Rat) = 1 from rfl]
       grind
     · have hv1 := fval_rung (T + 1) 4503599627370497 (by omega) (by omega) (by omega)
       rw [show T * 4503599627370496 + k + 1 = (T + 1) * 4503599627370496 + 4503599627370497 by omega, hv1, U_succ, hU]
       obtain rfl : k = 9007199254740992 := by omega
       rw [show ((9007199254740992 : Nat) : Rat) = 9007199254740992 from rfl] at *
       rw [show ((4503599627370497 : Nat) : Rat) = 4503599627370497 from rfl]
       grind
   · intro he
     by_cases hk : k < 9007199254740992
     · have hv1 := fval_rung T (k + 1) (by omega) (by omega) (by omega)
       rw [show T * 4503599627370496 + k + 1 = T * 4503599627370496 + (k + 1) by omega, hv1, hU, Rat.natCast_add] at he
       rw [show ((1 : Nat) : Rat) = 1 from rfl] at he
       exact s4 (by grind)
     · exfalso
       have hv1 := fval_rung (T + 1) 4503599627370497 (by omega) (by omega) (by omega)
       rw [show T * 4503599627370496 + k + 1 = (T + 1) * 4503599627370496 + 4503599627370497 by omega, hv1, U_succ, hU] at he
       obtain rfl : k = 9007199254740992 := by omega
       rw [show ((9007199254740992 : Nat) : Rat) = 9007199254740992 from rfl] at *
       rw [show ((4503599627370497 : Nat) : Rat) = 4503599627370497 from rfl] at he
       grind
   · intro h0
     by_cases hk : T = 0 ∨ 4503599627370497 ≤ k
     · have hk1 : 1 ≤ k := by rcases hk with rfl | hk <;> omega
       obtain ⟨j, rfl⟩ : ∃ j, k = j + 1 := ⟨k - 1, by omega⟩
       have hv1 := fval_rung T j (by omega) (by omega) (by omega)
       rw [show T * 4503599627370496 + (j + 1) - 1 = T * 4503599627370496 + j by omega, hv1, hU]
       rw [Rat.natCast_add, show ((1 : Nat) : Rat) = 1 from rfl] at *
       exact ⟨by grind, fun he => s3 (by grind)⟩
     · obtain ⟨S, rfl⟩ : ∃ S, T = S + 1 := ⟨T - 1, by omega⟩
       obtain rfl : k = 4503599627370496 := by omega
       have hv1 := fval_rung S 9007199254740991 (by omega) (by omega) (by omega)
       rw [show (S + 1) * 4503599627370496 + 4503599627370496 - 1 = S * 4503599627370496 + 9007199254740991 by omega, hv1]
       have hUS : U S = p2 (((S + 1 : Nat) : Int) - 1075) := by unfold U; congr 1; omega
       rw [hU, hUS]
       rw [show ((9007199254740991 : Nat) : Rat) = 9007199254740991 from rfl, show ((4503599627370496 : Nat) : Rat) = 4503599627370496 from rfl]
       rcases l1 with l1 | l1
       · omega
       · exact ⟨by grind, fun he => by grind⟩
theorem isNaN_fin {b : Nat} (h : Fin64 b) (w : World) : Calls Tryd.prog 15 #[.float .f64 b] w fun e w' => e = .returned (.bool false) ∧ w' = w := by
 have := isNaN_any b w
 rwa [show isnan b = false by unfold isnan; exact decide_eq_false (by unfold Fin64 at h; omega)] at this
theorem finMax : Fin64 9218868437227405311 := by unfold Fin64 frung; decide
theorem next_lt {r : Nat} (h : r < 9218868437227405311) : fval r < fval 9218868437227405311 := fval_lt h (by omega)
theorem pos_fval {r : Nat} (h : r < 9218868437227405312) (h0 : r ≠ 0) : 0 < fval r := by
 have := fval_lt (r := 0) (s := r) (by omega) h
 rwa [fval0] at this
theorem fin_small {r : Nat} (h : r < 9218868437227405312) : Fin64 r := by unfold Fin64 frung; omega
set_option maxHeartbeats 1000000 in
theorem next_up (r : Nat) (w : World) (h : r < 9218868437227405311) (h0 : r ≠ 0) : Calls Tryd.prog 31 #[.float .f64 r, .float .f64 9218868437227405311] w fun e w' => e = .returned (.float .f64 (r + 1)) ∧ w' = w := by
 have f1 := fin_small (r := r) (by omega)
 have p1 := pos_fval (r := r) (by omega) h0
 have l1 := next_lt h
 have o1 : FloatKind.f64.format.order r 9218868437227405311 = some .lt := by rw [order_val f1 finMax, if_pos l1]
 have o2 : FloatKind.f64.format.order r 0 = some .gt := by rw [order_val f1 fin0, fval0, if_neg (by grind), if_neg (by grind)]
 have o3 : FloatKind.f64.format.order 9218868437227405311 r = some .gt := by rw [order_val finMax f1, if_neg (by grind), if_neg (by grind)]
 have HN : Hid (∀ w, Calls Tryd.prog 15 #[.float .f64 r] w fun e w' => e = .returned (.bool false) ∧ w' = w) := isNaN_fin f1
 have HM : Hid (∀ w, Calls Tryd.prog 15 #[.float .f64 9218868437227405311] w fun e w' => e = .returned (.bool false) ∧ w' = w) := isNaN_fin finMax
 have rb := run_bits r
 have rf : ∀ w, (callFunc 38 #[.int .u64 ((r : Int) + 1)]).run Tryd.prog w = .ok (.value (.float .f64 (r + 1))) w := fun w => by have := run_frombits (r + 1) w; simpa using this
 have hri : (r : Int) < 9218868437227405311 := by omega
 clear f1 p1 l1 h h0
 go_enter Tryd.func31, Tryd.ntmps31
 go_wp2_with fail
 refine (HN.out _).mono ?_
 rintro e w1 ⟨rfl, rfl⟩
 go_wp2_with fail
 refine (HM.out _).mono ?_
 rintro e w1 ⟨rfl, rfl⟩
 go_wp2
 go_ret
 exact ⟨by rfl, rfl⟩
set_option maxHeartbeats 1000000 in
theorem next_down (r : Nat) (w : World) (h : r < 9218868437227405311) (h0 : r ≠ 0) : Calls Tryd.prog 31 #[.float .f64 r, .float .f64 0] w fun e w' => e = .returned (.float .f64 (r - 1)) ∧ w' = w := by
 have f1 := fin_small (r := r) (by omega)
 have p1 := pos_fval (r := r) (by omega) h0
 have o2 : FloatKind.f64.format.order r 0 = some .gt := by rw [order_val f1 fin0, fval0, if_neg (by grind), if_neg (by grind)]
 have o3 : FloatKind.f64.format.order 0 r = some .lt := by rw [order_val fin0 f1, fval0, if_pos p1]
 have HN : Hid (∀ w, Calls Tryd.prog 15 #[.float .f64 r] w fun e w' => e = .returned (.bool false) ∧ w' = w) := isNaN_fin f1
 have HM : Hid (∀ w, Calls Tryd.prog 15 #[.float .f64 0] w fun e w' => e = .returned (.bool false) ∧ w' = w) := isNaN_fin fin0
 have rb := run_bits r
 have rf : ∀ w, (callFunc 38 #[.int .u64 ((r : Int) - 1)]).run Tryd.prog w = .ok (.value (.float .f64 (r - 1))) w := fun w => by
   have := run_frombits (r - 1) w
   rwa [show (((r - 1 : Nat)) : Int) = (r : Int) - 1 by omega] at this
 have hri : (r : Int) < 9218868437227405311 := by omega
 have hr0 : (1 : Int) ≤ (r : Int) := by omega
 clear f1 p1 h h0
 go_enter Tryd.func31, Tryd.ntmps31
 go_wp2_with fail
 refine (HN.out _).mono ?_
 rintro e w1 ⟨rfl, rfl⟩
 go_wp2_with fail
 refine (HM.out _).mono ?_
 rintro e w1 ⟨rfl, rfl⟩
 go_wp2
 go_ret
 exact ⟨by rfl, rfl⟩
set_option maxHeartbeats 1000000 in
theorem copysign_pos (a b : Nat) (w : World) (h1 : bits .andNot .u64 (a : Int) 9223372036854775808 = (a : Int)) (h2 : bits .and .u64 (b : Int) 9223372036854775808 = 0) (h3 : bits .or .u64 (a : Int) 0 = (a : Int)) : Calls Tryd.prog 54 #[.float .f64 a, .float .f64 b] w fun e w' => e = .returned (.float .f64 a) ∧ w' = w := by
 have r1 := run_bits a
 have r2 := run_bits b
 have r3 := run_frombits a
 go_enter Tryd.func54, Tryd.ntmps54
 go_wp2
 go_ret
 exact ⟨rfl, rfl⟩
set_option maxHeartbeats 1000000 in
theorem next_zero (x : Nat) (w : World) (h : x = 0 ∨ x = 9223372036854775808) : Calls Tryd.prog 31 #[.float .f64 x, .float .f64 9218868437227405311] w fun e w' => e = .returned (.float .f64 1) ∧ w' = w := by
 have f1 : Fin64 x := by unfold Fin64 frung; omega
 have z1 : fval x = 0 := fval_zero_iff.2 (by unfold frung; omega)
 have l1 := next_lt (r := 0) (by omega)
 rw [fval0] at l1
 have o1 : FloatKind.f64.format.order x 9218868437227405311 = some .lt := by rw [order_val f1 finMax, z1, if_pos l1]
 have o2 : FloatKind.f64.format.order x 0 = some .eq := by rw [order_val f1 fin0, fval0, z1, if_neg (by grind), if_pos rfl]
 have HN : Hid (∀ w, Calls Tryd.prog 15 #[.float .f64 x] w fun e w' => e = .returned (.bool false) ∧ w' = w) := isNaN_fin f1
 have HM : Hid (∀ w, Calls Tryd.prog 15 #[.float .f64 9218868437227405311] w fun e w' => e = .returned (.bool false) ∧ w' = w) := isNaN_fin finMax
 have rf : ∀ w, (callFunc 38 #[.int .u64 1]).run Tryd.prog w = .ok (.value (.float .f64 1)) w := run_frombits 1
 have HC : Hid (∀ w, Calls Tryd.prog 54 #[.float .f64 1, .float .f64 9218868437227405311] w fun e w' => e = .returned (.float .f64 1) ∧ w' = w) := fun w => copysign_pos 1 9218868437227405311 w (by decide +kernel) (by decide +kernel) (by decide +kernel)
 clear f1 z1 l1 h
 go_enter Tryd.func31, Tryd.ntmps31
 go_wp2_with fail
 refine (HN.out _).mono ?_
 rintro e w1 ⟨rfl, rfl⟩
 go_wp2_with fail
 refine (HM.out _).mono ?_
 rintro e w1 ⟨rfl, rfl⟩
 go_wp2_with fail
 refine (HC.out _).mono ?_
 rintro e w1 ⟨rfl, rfl⟩
 go_wp2
 go_ret
 exact ⟨by rfl, rfl⟩
end

/- The lowest bit of a float, as package expand tells it. -/
section
open Go.RowKit
end
end Go.Proofs.YtejhinjanjlplaaDoor
