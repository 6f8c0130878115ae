/- Own texts, put together: Fg Fh Fi. -/
import Derived.Test.YtejhinjanjlplaaDoorQ12
import Derived.Test.YtejhinjanjlplaaDoorQ31
namespace Go.Proofs.YtejhinjanjlplaaDoor
/- The float nearest to a number: plain facts. -/
section
theorem win_near (ns : List Nat) (low at' : Int) (ho : val ns % 2 = 1) (hlog : low + (Nat.log2 (val ns) : Nat) - at' ≤ 53) :
   win ns low at' < 18014398509481984 ∧ ((win ns low at' : Int) : Rat) * p2 at' ≤ magR ns low ∧ magR ns low < (((win ns low at' : Int) + 1 : Int) : Rat) * p2 at' ∧ (at' ≤ low → magR ns low = ((win ns low at' : Int) : Rat) * p2 at') ∧ (low < at' → magR ns low ≠ ((win ns low at' : Int) : Rat) * p2 at') := by
 have hV0 : val ns ≠ 0 := by omega
 have hl1 : val ns < 2 ^ (Nat.log2 (val ns) + 1) := Nat.lt_log2_self
 have hu := p2_pos at'
 by_cases hc : at' ≤ low
 · have hw : win ns low at' = val ns * 2 ^ (low - at').toNat ∧ val ns * 2 ^ (low - at').toNat < 18014398509481984 := by
     have hb : val ns * 2 ^ (low - at').toNat < 18014398509481984 := by
       have h1 : val ns * 2 ^ (low - at').toNat < 2 ^ (Nat.log2 (val ns) + 1) * 2 ^ (low - at').toNat := Nat.mul_lt_mul_of_pos_right hl1 (Nat.two_pow_pos _)
       rw [← Nat.pow_add] at h1
       exact Nat.lt_of_lt_of_le h1 (Nat.pow_le_pow_right (by omega) (by omega : Nat.log2 (val ns) + 1 + (low - at').toNat ≤ 54))
     refine ⟨?_, hb⟩
     unfold win
     by_cases h : at' < low
     · rw [if_pos h, Nat.mod_eq_of_lt (by omega)]
     · rw [if_neg h]
       have : at' = low := by omega
       subst this
       simp only [Int.sub_self, Int.toNat_zero, Nat.pow_zero, Nat.mul_one, Nat.div_one] at hb ⊢
       exact Nat.mod_eq_of_lt (by omega)
   have hm : magR ns low = ((win ns low at' : Int) : Rat) * p2 at' := by
     rw [hw.1]; exact magR_at ns low at' _ (by omega)
   refine ⟨by rw [hw.1]; exact hw.2, by rw [hm]; exact Rat.le_refl, by rw [hm]; exact lt_int hu (by omega), fun _ => hm, fun h => by omega⟩
 · have hj : 1 ≤ (at' - low).toNat := by omega
   have hpow : 0 < 2 ^ (at' - low).toNat := Nat.two_pow_pos _
   have hb : val ns / 2 ^ (at' - low).toNat < 18014398509481984 := by
     rw [Nat.div_lt_iff_lt_mul hpow]
     refine Nat.lt_of_lt_of_le hl1 ?_
     rw [show (18014398509481984 : Nat) = 2 ^ 54 from rfl, ← Nat.pow_add]
     exact Nat.pow_le_pow_right (by omega) (by omega)
   have hw : win ns low at' = val ns / 2 ^ (at' - low).toNat := by
     unfold win
     rw [if_neg (by omega), Nat.mod_eq_of_lt (by omega)]
   have e : p2 at' = ((2 ^ (at' - low).toNat : Nat) : Int) * p2 low := by
     have := p2_nat (at' - low).toNat
     rw [show (((2 ^ (at' - low).toNat : Nat) : Int) : Rat) = ((2 ^ (at' - low).toNat : Nat) : Rat) from rfl, ← this, ← p2_add]
     congr 1; omega
   have hm : magR ns low = ((val ns : Int) : Rat) * p2 low := rfl
   have hodd : 2 ^ (at' - low).toNat % 2 = 0 := by
     obtain ⟨j, hj2⟩ : ∃ j, (at' - low).toNat = j + 1 := ⟨(at' - low).toNat - 1, by omega⟩
     rw [hj2, Nat.pow_succ]; omega
   have hd := Nat.div_add_mod (val ns) (2 ^ (at' - low).toNat)
   have hml := Nat.mod_lt (val ns) hpow
   have hu0 := p2_pos low
   rw [hw, hm, e]
   generalize 2 ^ (at' - low).toNat = P at *
   generalize val ns / P = W at *
   generalize val ns % P = R at *
   generalize val ns = V at *
   have t1 : ∀ x : Int, ((x : Int) : Rat) * (((P : Nat) : Int) * p2 low) = ((x * (P : Int) : Int) : Rat) * p2 low := fun x => by rw [Rat.intCast_mul, Rat.mul_assoc]
   rw [t1, t1]
   have z : (W : Int) * (P : Int) + (R : Int) = (V : Int) := by rw [← hd, Int.natCast_add, Int.natCast_mul, Int.mul_comm]
   have z2 : ((W : Int) + 1) * (P : Int) = (W : Int) * (P : Int) + (P : Int) := by rw [Int.add_mul, Int.one_mul]
   refine ⟨hb, le_int hu0 (by omega), lt_int hu0 (by omega), fun h => by omega, fun _ h => ?_⟩
   have h1 := int_le hu0 (le_of_same h)
   have h2 := int_le hu0 (le_of_same h.symm)
   have h3 : V = P * W := by
     have : (V : Int) = (W : Int) * (P : Int) := by omega
     rw [Int.mul_comm] at this
     exact_mod_cast this
   have : V % 2 = 0 := by rw [h3, Nat.mul_mod, hodd]; simp
   omega
theorem half_of {q u : Rat} {W : Nat} {exact : Prop} (hu : 0 < u) (h1 : ((W : Int) : Rat) * u ≤ q) (h2 : q < (((W : Int) + 1 : Int) : Rat) * u) (h3 : exact → q = ((W : Int) : Rat) * u) (h4 : ¬ exact → q ≠ ((W : Int) : Rat) * u) :
   (W % 2 = 0 → Half q u (W / 2)) ∧ (W % 2 = 1 → ¬ exact → Half q u (W / 2 + 1)) ∧ (W % 2 = 1 → exact → W / 2 % 2 = 1 → Half q u (W / 2 + 1)) ∧ (W % 2 = 1 → exact → W / 2 % 2 = 0 → Half q u (W / 2)) := by
 have ne1 : ∀ {x : Int}, (W : Int) < x → q = (x : Rat) * u → x = (W : Int) + 1 → False := fun {x} _ e hx => by
   rw [e, hx] at h2; exact Rat.lt_irrefl h2
 refine ⟨fun h => ?_, fun h hn => ?_, fun h he hk => ?_, fun h he hk => ?_⟩
 · refine ⟨Rat.le_trans (le_int hu (by omega)) h1, Rat.le_trans (Rat.le_of_lt h2) (le_int hu (by omega)), fun e => ?_, fun e => ?_⟩
   · have := int_le hu (e ▸ h1); omega
   · exact (ne1 (by omega) e (by omega)).elim
 · refine ⟨Rat.le_trans (le_int hu (by omega)) h1, Rat.le_trans (Rat.le_of_lt h2) (le_int hu (by omega)), fun e => ?_, fun e => ?_⟩
   · refine absurd ?_ (h4 hn); rw [e]; congr 2; omega
   · have := int_lt hu (e ▸ h2); omega
 · refine ⟨Rat.le_trans (le_int hu (by omega)) h1, Rat.le_trans (Rat.le_of_lt h2) (le_int hu (by omega)), fun e => ?_, fun e => ?_⟩
   · omega
   · have := int_lt hu (e ▸ h2); omega
 · refine ⟨Rat.le_trans (le_int hu (by omega)) h1, ?_, fun e => ?_, fun e => ?_⟩
   · rw [h3 he]; exact le_int hu (by omega)
   · exact hk
   · exact hk
end

/- The float nearest to a magnitude: what the code makes of the unit that it keeps. -/
section
open Go.RowKit
attribute [local go_sem ↓] Go.wp_at_zero Go.wp_at_succ
theorem float_of_nat (k : Nat) : floatOfInt .f64 (k : Int) = Ieee.double.nearest false k 0 := by
 unfold floatOfInt FloatKind.nearest
 have e : decide ((k : Int) < 0) = false := decide_eq_false (by omega)
 rw [e, Int.natAbs_natCast]
 rfl
theorem nearest_small (k L : Nat) (h0 : k ≠ 0) (h : k < 4503599627370496) (hL : Nat.log2 k = L) : Ieee.double.nearest false k 0 = (L + 1022) * 4503599627370496 + k * 2 ^ (52 - L) := by
 have h1 : L < 52 := by rw [← hL]; exact (Nat.log2_lt h0).2 h
 have h2 : k * 2 ^ (52 - L) < 9007199254740992 := by
   have a : k < 2 ^ (L + 1) := by rw [← hL]; exact Nat.lt_log2_self
   have b := Nat.mul_lt_mul_of_pos_right a (Nat.two_pow_pos (52 - L))
   rw [← Nat.pow_add, show L + 1 + (52 - L) = 53 by omega] at b
   exact b
 unfold Ieee.Format.nearest
 rw [if_neg h0]
 simp only [d_lp, d_bin, d_inf, hL]
 have e0 : (Ieee.double.fractionBits : Int) = 52 := rfl
 rw [e0, show max (0 + (L : Int) - 52) (-1074) = (L : Int) - 52 by omega, show (0 - ((L : Int) - 52)).toNat = 52 - L by omega, show ((L : Int) - 52 - 0).toNat = 0 by omega, show ((L : Int) - 52 - -1074).toNat = L + 1022 by omega, Nat.shiftLeft_eq]
 have e1 := cut_exact false (k * 2 ^ (52 - L)) 0
 rw [Nat.pow_zero, Nat.mul_one] at e1
 rw [e1, Nat.min_eq_left (by omega)]
 rfl
theorem shift_sum (L u z : Nat) (h : 4503599627370496 + u = z) : (L + 1023) * 4503599627370496 + u = (L + 1022) * 4503599627370496 + z := by
 rw [← h, show L + 1023 = (L + 1022) + 1 from rfl, Nat.add_mul (L + 1022), Nat.one_mul, Nat.add_assoc]
theorem ldexp_kept (T k : Nat) (w : World) (hk : k ≤ 9007199254740992) (hT : T = 0 ∨ 4503599627370496 ≤ k) (hT2 : T ≤ 100000) :
   Calls Tryd.prog 19 #[.float .f64 (floatOfInt .f64 (k : Int)), .int .i64 ((T : Int) - 1074)] w fun e w' => e = .returned (.float .f64 (min (T * 4503599627370496 + k) 9218868437227405312)) ∧ w' = w := by
 rw [float_of_nat]
 refine Ldexp_of _ _ _ w fun w => ?_
 by_cases h0 : k = 0
 · subst h0
   have : T = 0 := by omega
   subst this
   have e : Ieee.double.nearest false 0 0 = 0 := rfl
   rw [e]
   exact ldexp_zero _ w
 by_cases h1 : k < 4503599627370496
 · have : T = 0 := by omega
   subst this
   have hL := (Nat.log2_lt h0 (k := 52)).2 h1
   have a1 := Nat.log2_self_le h0
   have a2 : k < 2 ^ (Nat.log2 k + 1) := Nat.lt_log2_self
   rw [nearest_small k _ h0 h1 rfl, Nat.zero_mul, Nat.zero_add, Nat.min_eq_left (by omega)]
   generalize hLe : Nat.log2 k = L at *
   have b1 : 4503599627370496 ≤ k * 2 ^ (52 - L) := by
     have := Nat.mul_le_mul_right (2 ^ (52 - L)) a1
     rwa [← Nat.pow_add, show L + (52 - L) = 52 by omega] at this
   have b2 : k * 2 ^ (52 - L) < 9007199254740992 := by
     have := Nat.mul_lt_mul_of_pos_right a2 (Nat.two_pow_pos (52 - L))
     rwa [← Nat.pow_add, show L + 1 + (52 - L) = 53 by omega] at this
   obtain ⟨u, hu⟩ : ∃ u, 4503599627370496 + u = k * 2 ^ (52 - L) := ⟨k * 2 ^ (52 - L) - 4503599627370496, by omega⟩
   have hm := mul_norm (L + 2) u k L hL rfl hu h1 (by omega)
   have hx : (L + 1023) * 4503599627370496 + u = (L + 1022) * 4503599627370496 + k * 2 ^ (52 - L) := shift_sum L u _ hu
   exact ldexp_den (L + 1023) u (L + 2) _ _ _ k _ w hx rfl rfl (by omega) (by omega) (by omega) (by omega) (by omega) (by omega) hm
 by_cases h2 : k = 9007199254740992
 · subst h2
   have e : Ieee.double.nearest false 9007199254740992 0 = 1076 * 4503599627370496 + 0 := by
     have := nearest_norm 4503599627370496 1 0 (by omega) (by omega) (by omega) (by decide)
     exact this
   rw [e]
   by_cases h3 : T + 2 ≤ 2046
   · rw [Nat.min_eq_left (by omega)]
     exact ldexp_norm 1076 0 (T + 2) _ _ _ _ w rfl (by omega) rfl (by omega) (by omega) (by omega) (by omega) (by omega) h3
   · rw [Nat.min_eq_right (by omega)]
     exact ldexp_inf 1076 0 _ _ w rfl (by omega) (by omega) (by omega) (by omega) (by omega)
 · obtain ⟨u, rfl⟩ : ∃ u, k = 4503599627370496 + u := ⟨k - 4503599627370496, by omega⟩
   have e : Ieee.double.nearest false (4503599627370496 + u) 0 = 1075 * 4503599627370496 + u := by
     have := nearest_norm (4503599627370496 + u) 0 0 (by omega) (by omega) (by omega) (by omega)
     rw [Nat.pow_zero, Nat.mul_one] at this
     rw [this]; omega
   rw [e]
   by_cases h3 : T + 1 ≤ 2046
   · rw [Nat.min_eq_left (by omega)]
     exact ldexp_norm 1075 u (T + 1) _ _ _ _ w rfl (by omega) rfl (by omega) (by omega) (by omega) (by omega) (by omega) h3
   · rw [Nat.min_eq_right (by omega)]
     exact ldexp_inf 1075 u _ _ w rfl (by omega) (by omega) (by omega) (by omega) (by omega)
end

/- The float nearest to a magnitude. -/
section
open Go.RowKit
attribute [local go_sem ↓] Go.wp_at_zero Go.wp_at_succ
set_option maxHeartbeats 2000000 in
theorem nearest_walk (s : Value) (ns : List Nat) (low hi last : Int) (W kept : Nat) (A B : Int) (half lt odd : Bool) (r : Nat) (w : World) (hws : Ws w s ns) (ht : Topped ns) (l1 : -65536 ≤ low) (l2 : low ≤ 65536) (hhi : hiB ns low = hi) (h1 : -65536 ≤ hi) (h2 : hi ≤ 65536)
   (hlast : max (hi - 52) (-1074) = last) (hW : win ns low (last - 1) = W) (hWb : W < 18014398509481984) (hA : bits .and .u64 (W : Int) 1 = A) (hA2 : (A == 1) = half) (hB : bits .and .u64 ((W : Int) / 2) 1 = B) (hB2 : (B == 1) = odd) (hlt : decide (low < last - 1) = lt) (hk : (W : Int) / 2 + (if half && (lt || odd) then 1 else 0) = (kept : Int))
   (hl : ∀ w, Calls Tryd.prog 19 #[.float .f64 (floatOfInt .f64 (kept : Int)), .int .i64 last] w fun e w' => e = .returned (.float .f64 r) ∧ w' = w) :
   Calls Tryd.prog 24 #[.agg #[s, .int .i64 low]] w fun e w' => e = .returned (.float .f64 r) ∧ Below w.heap.size w w' := by
 have HL : Hid _ := hl
 have HW0 : Hid (Ws w s ns) := hws
 have HB0 : Hid (Below w.heap.size w (w.alloc (.cells #[s, .int .i64 low] 25))) := (Below.refl _ _).alloc (Nat.le_refl _) _
 clear hl hws
 go_enter Tryd.func24, Tryd.ntmps24
 go_wp2_with fail
 refine (highest_any _ ns _ _ (HW0.out.later HB0.out (Nat.le_refl _)) ht (by omega) (by omega)).mono ?_
 rintro e w1 ⟨rfl, hb1⟩
 rw [hhi]
 have c0 : w1.cell? ⟨w.heap.size, 0, none⟩ = some s := cell_later hb1 (by go_simp)
 have c1 : w1.cell? ⟨w.heap.size, 1, none⟩ = some (.int .i64 low) := cell_later hb1 (by go_simp)
 have HB1 : Hid (Below w.heap.size w w1) := thru HB0.out hb1
 clear hb1
 go_wp2_with fail
 refine (window_any _ ns _ _ _ (HW0.out.later HB1.out (Nat.le_refl _)) (by omega) (by omega) (by omega) (by omega)).mono ?_
 rintro e w2 ⟨rfl, hb2⟩
 rw [hW]
 have d0 : w2.cell? ⟨w.heap.size, 0, none⟩ = some s := cell_later hb2 c0
 have d1 : w2.cell? ⟨w.heap.size, 1, none⟩ = some (.int .i64 low) := cell_later hb2 c1
 have HB2 : Hid (Below w.heap.size w w2) := thru HB1.out hb2
 clear hb2 c0 c1
 go_wp2_with fail
 refine (window_any _ ns _ _ _ (HW0.out.later HB2.out (Nat.le_refl _)) (by omega) (by omega) (by omega) (by omega)).mono ?_
 rintro e w3 ⟨rfl, hb3⟩
 rw [hW]
 have f0 : w3.cell? ⟨w.heap.size, 0, none⟩ = some s := cell_later hb3 d0
 have f1 : w3.cell? ⟨w.heap.size, 1, none⟩ = some (.int .i64 low) := cell_later hb3 d1
 have HB3 : Hid (Below w.heap.size w w3) := thru HB2.out hb3
 clear hb3 d0 d1
 have hdiv : (0 : Int) ≤ (W : Int) / 2 ∧ (W : Int) / 2 < 9007199254740992 := by omega
 have hwr : IntKind.u64.wrap ((W : Int) / 2 + 1) = (W : Int) / 2 + 1 := by rw [IntKind.wrap_u64]; omega
 cases half
 · rw [Bool.false_and, if_neg (by decide), Int.add_zero] at hk
   have HK : Hid _ := hk
   clear hk
   go_wp2_with (first
     | (go_at_call 19; rw [HK.out]; refine (HL.out _).mono ?_; rintro e w' ⟨rfl, rfl⟩))
   go_ret
   exact ⟨rfl, HB3.out⟩
 · cases lt
   · cases odd
     · rw [Bool.true_and, Bool.or_self, if_neg (by decide), Int.add_zero] at hk
       have HK : Hid _ := hk
       clear hk
       go_wp2_with (first
         | (go_at_call 19; rw [HK.out]; refine (HL.out _).mono ?_; rintro e w' ⟨rfl, rfl⟩))
       go_ret
       exact ⟨rfl, HB3.out⟩
     · rw [Bool.true_and, Bool.or_true, if_pos rfl] at hk
       have HK : Hid _ := hk
       clear hk
       go_wp2_with (first
         | (go_at_call 19; rw [HK.out]; refine (HL.out _).mono ?_; rintro e w' ⟨rfl, rfl⟩))
       go_ret
       exact ⟨rfl, HB3.out⟩
   · rw [Bool.true_and, Bool.true_or, if_pos rfl] at hk
     have HK : Hid _ := hk
     clear hk
     go_wp2_with (first
       | (go_at_call 19; rw [HK.out]; refine (HL.out _).mono ?_; rintro e w' ⟨rfl, rfl⟩))
     go_ret
     exact ⟨rfl, HB3.out⟩
end
end Go.Proofs.YtejhinjanjlplaaDoor
