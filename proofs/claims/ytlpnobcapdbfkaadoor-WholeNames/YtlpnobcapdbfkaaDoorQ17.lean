/- Own texts, put together: Fg Fh Fi Fj La Lb Lc Ld. -/
import Derived.Test.YtlpnobcapdbfkaaDoorQ4
import Derived.Test.YtlpnobcapdbfkaaDoorQ16
namespace Go.Proofs.YtlpnobcapdbfkaaDoor
/- The float nearest to a number: plain facts. -/
section
theorem win_near (ns : List Nat) (low at' : Int) (ho : val ns % 2 = 1) (hlog : low + (Nat.log2 (val ns) : Nat) - at' ≤ 53) :
   win ns low at' < 18014398509481984 ∧ ((win ns low at' : Int) : Rat) * p2 at' ≤ magR ns low ∧ magR ns low < (((win ns low at' : Int) + 1 : Int) : Rat) * p2 at' ∧ (at' ≤ low → magR ns low = ((win ns low at' : Int) : Rat) * p2 at') ∧ (low < at' → magR ns low ≠ ((win ns low at' : Int) : Rat) * p2 at') := by
 have hV0 : val ns ≠ 0 := by omega
 have hl1 : val ns < 2 ^ (Nat.log2 (val ns) + 1) := Nat.lt_log2_self
 have hu := p2_pos at'
 by_cases hc : at' ≤ low
 · have hw : win ns low at' = val ns * 2 ^ (low - at').toNat ∧ val ns * 2 ^ (low - at').toNat < 18014398509481984 := by
     have hb : val ns * 2 ^ (low - at').toNat < 18014398509481984 := by
       have h1 : val ns * 2 ^ (low - at').toNat < 2 ^ (Nat.log2 (val ns) + 1) * 2 ^ (low - at').toNat := Nat.mul_lt_mul_of_pos_right hl1 (Nat.two_pow_pos _)
       rw [← Nat.pow_add] at h1
       exact Nat.lt_of_lt_of_le h1 (Nat.pow_le_pow_right (by omega) (by omega : Nat.log2 (val ns) + 1 + (low - at').toNat ≤ 54))
     refine ⟨?_, hb⟩
     unfold win
     by_cases h : at' < low
     · rw [if_pos h, Nat.mod_eq_of_lt (by omega)]
     · rw [if_neg h]
       have : at' = low := by omega
       subst this
       simp only [Int.sub_self, Int.toNat_zero, Nat.pow_zero, Nat.mul_one, Nat.div_one] at hb ⊢
       exact Nat.mod_eq_of_lt (by omega)
   have hm : magR ns low = ((win ns low at' : Int) : Rat) * p2 at' := by
     rw [hw.1]; exact magR_at ns low at' _ (by omega)
   refine ⟨by rw [hw.1]; exact hw.2, by rw [hm]; exact Rat.le_refl, by rw [hm]; exact lt_int hu (by omega), fun _ => hm, fun h => by omega⟩
 · have hj : 1 ≤ (at' - low).toNat := by omega
   have hpow : 0 < 2 ^ (at' - low).toNat := Nat.two_pow_pos _
   have hb : val ns / 2 ^ (at' - low).toNat < 18014398509481984 := by
     rw [Nat.div_lt_iff_lt_mul hpow]
     refine Nat.lt_of_lt_of_le hl1 ?_
     rw [show (18014398509481984 : Nat) = 2 ^ 54 from rfl, ← Nat.pow_add]
     exact Nat.pow_le_pow_right (by omega) (by omega)
   have hw : win ns low at' = val ns / 2 ^ (at' - low).toNat := by
     unfold win
     rw [if_neg (by omega), Nat.mod_eq_of_lt (by omega)]
   have e : p2 at' = ((2 ^ (at' - low).toNat : Nat) : Int) * p2 low := by
     have := p2_nat (at' - low).toNat
     rw [show (((2 ^ (at' - low).toNat : Nat) : Int) : Rat) = ((2 ^ (at' - low).toNat : Nat) : Rat) from rfl, ← this, ← p2_add]
     congr 1; omega
   have hm : magR ns low = ((val ns : Int) : Rat) * p2 low := rfl
   have hodd : 2 ^ (at' - low).toNat % 2 = 0 := by
     obtain ⟨j, hj2⟩ : ∃ j, (at' - low).toNat = j + 1 := ⟨(at' - low).toNat - 1, by omega⟩
     rw [hj2, Nat.pow_succ]; omega
   have hd := Nat.div_add_mod (val ns) (2 ^ (at' - low).toNat)
   have hml := Nat.mod_lt (val ns) hpow
   have hu0 := p2_pos low
   rw [hw, hm, e]
   generalize 2 ^ (at' - low).toNat = P at *
   generalize val ns / P = W at *
   generalize val ns % P = R at *
   generalize val ns = V at *
   have t1 : ∀ x : Int, ((x : Int) : Rat) * (((P : Nat) : Int) * p2 low) = ((x * (P : Int) : Int) : Rat) * p2 low := fun x => by rw [Rat.intCast_mul, Rat.mul_assoc]
   rw [t1, t1]
   have z : (W : Int) * (P : Int) + (R : Int) = (V : Int) := by rw [← hd, Int.natCast_add, Int.natCast_mul, Int.mul_comm]
   have z2 : ((W : Int) + 1) * (P : Int) = (W : Int) * (P : Int) + (P : Int) := by rw [Int.add_mul, Int.one_mul]
   refine ⟨hb, le_int hu0 (by omega), lt_int hu0 (by omega), fun h => by omega, fun _ h => ?_⟩
   have h1 := int_le hu0 (le_of_same h)
   have h2 := int_le hu0 (le_of_same h.symm)
   have h3 : V = P * W := by
     have : (V : Int) = (W : Int) * (P : Int) := by omega
     rw [Int.mul_comm] at this
     exact_mod_cast this
   have : V % 2 = 0 := by rw [h3, Nat.mul_mod, hodd]; simp
   omega
theorem half_of {q u : Rat} {W : Nat} {exact : Prop} (hu : 0 < u) (h1 : ((W : Int) : Rat) * u ≤ q) (h2 : q < (((W : Int) + 1 : Int) : Rat) * u) (h3 : exact → q = ((W : Int) : Rat) * u) (h4 : ¬ exact → q ≠ ((W : Int) : Rat) * u) :
   (W % 2 = 0 → Half q u (W / 2)) ∧ (W % 2 = 1 → ¬ exact → Half q u (W / 2 + 1)) ∧ (W % 2 = 1 → exact → W / 2 % 2 = 1 → Half q u (W / 2 + 1)) ∧ (W % 2 = 1 → exact → W / 2 % 2 = 0 → Half q u (W / 2)) := by
 have ne1 : ∀ {x : Int}, (W : Int) < x → q = (x : Rat) * u → x = (W : Int) + 1 → False := fun {x} _ e hx => by
   rw [e, hx] at h2; exact Rat.lt_irrefl h2
 refine ⟨fun h => ?_, fun h hn => ?_, fun h he hk => ?_, fun h he hk => ?_⟩
 · refine ⟨Rat.le_trans (le_int hu (by omega)) h1, Rat.le_trans (Rat.le_of_lt h2) (le_int hu (by omega)), fun e => ?_, fun e => ?_⟩
   · have := int_le hu (e ▸ h1); omega
   · exact (ne1 (by omega) e (by omega)).elim
 · refine ⟨Rat.le_trans (le_int hu (by omega)) h1, Rat.le_trans (Rat.le_of_lt h2) (le_int hu (by omega)), fun e => ?_, fun e => ?_⟩
   · refine absurd ?_ (h4 hn); rw [e]; congr 2; omega
   · have := int_lt hu (e ▸ h2); omega
 · refine ⟨Rat.le_trans (le_int hu (by omega)) h1, Rat.le_trans (Rat.le_of_lt h2) (le_int hu (by omega)), fun e => ?_, fun e => ?_⟩
   · omega
   · have := int_lt hu (e ▸ h2); omega
 · refine ⟨Rat.le_trans (le_int hu (by omega)) h1, ?_, fun e => ?_, fun e => ?_⟩
   · rw [h3 he]; exact le_int hu (by omega)
   · exact hk
   · exact hk
end

/- The float nearest to a magnitude: what the code makes of the unit that it keeps. -/
section
open Go.RowKit
attribute [local go_sem ↓] Go.wp_at_zero Go.wp_at_succ
theorem float_of_nat (k : Nat) : floatOfInt .f64 (k : Int) = Ieee.double.nearest false k 0 := by
 unfold floatOfInt FloatKind.nearest
 have e : decide ((k : Int) < 0) = false := decide_eq_false (by omega)
 rw [e, Int.natAbs_natCast]
 rfl
theorem nearest_small (k L : Nat) (h0 : k ≠ 0) (h : k < 4503599627370496) (hL : Nat.log2 k = L) : Ieee.double.nearest false k 0 = (L + 1022) * 4503599627370496 + k * 2 ^ (52 - L) := by
 have h1 : L < 52 := by rw [← hL]; exact (Nat.log2_lt h0).2 h
 have h2 : k * 2 ^ (52 - L) < 9007199254740992 := by
   have a : k < 2 ^ (L + 1) := by rw [← hL]; exact Nat.lt_log2_self
   have b := Nat.mul_lt_mul_of_pos_right a (Nat.two_pow_pos (52 - L))
   rw [← Nat.pow_add, show L + 1 + (52 - L) = 53 by omega] at b
   exact b
 unfold Ieee.Format.nearest
 rw [if_neg h0]
 simp only [d_lp, d_bin, d_inf, hL]
 have e0 : (Ieee.double.fractionBits : Int) = 52 := rfl
 rw [e0, show max (0 + (L : Int) - 52) (-1074) = (L : Int) - 52 by omega, show (0 - ((L : Int) - 52)).toNat = 52 - L by omega, show ((L : Int) - 52 - 0).toNat = 0 by omega, show ((L : Int) - 52 - -1074).toNat = L + 1022 by omega, Nat.shiftLeft_eq]
 have e1 := cut_exact false (k * 2 ^ (52 - L)) 0
 rw [Nat.pow_zero, Nat.mul_one] at e1
 rw [e1, Nat.min_eq_left (by omega)]
 rfl
theorem shift_sum (L u z : Nat) (h : 4503599627370496 + u = z) : (L + 1023) * 4503599627370496 + u = (L + 1022) * 4503599627370496 + z := by
 rw [← h, show L + 1023 = (L + 1022) + 1 from rfl, Nat.add_mul (L + 1022), Nat.one_mul, Nat.add_assoc]
theorem ldexp_kept (T k : Nat) (w : World) (hk : k ≤ 9007199254740992) (hT : T = 0 ∨ 4503599627370496 ≤ k) (hT2 : T ≤ 100000) :
   Calls Tryd.prog 33 #[.float .f64 (floatOfInt .f64 (k : Int)), .int .i64 ((T : Int) - 1074)] w fun e w' => e = .returned (.float .f64 (min (T * 4503599627370496 + k) 9218868437227405312)) ∧ w' = w := by
 rw [float_of_nat]
 refine Ldexp_of _ _ _ w fun w => ?_
 by_cases h0 : k = 0
 · subst h0
   have : T = 0 := by omega
   subst this
   have e : Ieee.double.nearest false 0 0 = 0 := rfl
   rw [e]
   exact ldexp_zero _ w
 by_cases h1 : k < 4503599627370496
 · have : T = 0 := by omega
   subst this
   have hL := (Nat.log2_lt h0 (k := 52)).2 h1
   have a1 := Nat.log2_self_le h0
   have a2 : k < 2 ^ (Nat.log2 k + 1) := Nat.lt_log2_self
   rw [nearest_small k _ h0 h1 rfl, Nat.zero_mul, Nat.zero_add, Nat.min_eq_left (by omega)]
   generalize hLe : Nat.log2 k = L at *
   have b1 : 4503599627370496 ≤ k * 2 ^ (52 - L) := by
     have := Nat.mul_le_mul_right (2 ^ (52 - L)) a1
     rwa [← Nat.pow_add, show L + (52 - L) = 52 by omega] at this
   have b2 : k * 2 ^ (52 - L) < 9007199254740992 := by
     have := Nat.mul_lt_mul_of_pos_right a2 (Nat.two_pow_pos (52 - L))
     rwa [← Nat.pow_add, show L + 1 + (52 - L) = 53 by omega] at this
   obtain ⟨u, hu⟩ : ∃ u, 4503599627370496 + u = k * 2 ^ (52 - L) := ⟨k * 2 ^ (52 - L) - 4503599627370496, by omega⟩
   have hm := mul_norm (L + 2) u k L hL rfl hu h1 (by omega)
   have hx : (L + 1023) * 4503599627370496 + u = (L + 1022) * 4503599627370496 + k * 2 ^ (52 - L) := shift_sum L u _ hu
   exact ldexp_den (L + 1023) u (L + 2) _ _ _ k _ w hx rfl rfl (by omega) (by omega) (by omega) (by omega) (by omega) (by omega) hm
 by_cases h2 : k = 9007199254740992
 · subst h2
   have e : Ieee.double.nearest false 9007199254740992 0 = 1076 * 4503599627370496 + 0 := by
     have := nearest_norm 4503599627370496 1 0 (by omega) (by omega) (by omega) (by decide)
     exact this
   rw [e]
   by_cases h3 : T + 2 ≤ 2046
   · rw [Nat.min_eq_left (by omega)]
     exact ldexp_norm 1076 0 (T + 2) _ _ _ _ w rfl (by omega) rfl (by omega) (by omega) (by omega) (by omega) (by omega) h3
   · rw [Nat.min_eq_right (by omega)]
     exact ldexp_inf 1076 0 _ _ w rfl (by omega) (by omega) (by omega) (by omega) (by omega)
 · obtain ⟨u, rfl⟩ : ∃ u, k = 4503599627370496 + u := ⟨k - 4503599627370496, by omega⟩
   have e : Ieee.double.nearest false (4503599627370496 + u) 0 = 1075 * 4503599627370496 + u := by
     have := nearest_norm (4503599627370496 + u) 0 0 (by omega) (by omega) (by omega) (by omega)
     rw [Nat.pow_zero, Nat.mul_one] at this
     rw [this]; omega
   rw [e]
   by_cases h3 : T + 1 ≤ 2046
   · rw [Nat.min_eq_left (by omega)]
     exact ldexp_norm 1075 u (T + 1) _ _ _ _ w rfl (by omega) rfl (by omega) (by omega) (by omega) (by omega) (by omega) h3
   · rw [Nat.min_eq_right (by omega)]
     exact ldexp_inf 1075 u _ _ w rfl (by omega) (by omega) (by omega) (by omega) (by omega)
end

/- The float nearest to a magnitude. -/
section
open Go.RowKit
attribute [local go_sem ↓] Go.wp_at_zero Go.wp_at_succ
set_option maxHeartbeats 2000000 in
theorem nearest_walk (s : Value) (ns : List Nat) (low hi last : Int) (W kept : Nat) (A B : Int) (half lt odd : Bool) (r : Nat) (w : World) (hws : Ws w s ns) (ht : Topped ns) (l1 : -65536 ≤ low) (l2 : low ≤ 65536) (hhi : hiB ns low = hi) (h1 : -65536 ≤ hi) (h2 : hi ≤ 65536)
   (hlast : max (hi - 52) (-1074) = last) (hW : win ns low (last - 1) = W) (hWb : W < 18014398509481984) (hA : bits .and .u64 (W : Int) 1 = A) (hA2 : (A == 1) = half) (hB : bits .and .u64 ((W : Int) / 2) 1 = B) (hB2 : (B == 1) = odd) (hlt : decide (low < last - 1) = lt) (hk : (W : Int) / 2 + (if half && (lt || odd) then 1 else 0) = (kept : Int))
   (hl : ∀ w, Calls Tryd.prog 33 #[.float .f64 (floatOfInt .f64 (kept : Int)), .int .i64 last] w fun e w' => e = .returned (.float .f64 r) ∧ w' = w) :
   Calls Tryd.prog 25 #[.agg #[s, .int .i64 low]] w fun e w' => e = .returned (.float .f64 r) ∧ Below w.heap.size w w' := by
 have HL : Hid _ := hl
 have HW0 : Hid (Ws w s ns) := hws
 have HB0 : Hid (Below w.heap.size w (w.alloc (.cells #[s, .int .i64 low] 25))) := (Below.refl _ _).alloc (Nat.le_refl _) _
 clear hl hws
 go_enter Tryd.func25, Tryd.ntmps25
 go_wp2_with fail
 refine (highest_any _ ns _ _ (HW0.out.later HB0.out (Nat.le_refl _)) ht (by omega) (by omega)).mono ?_
 rintro e w1 ⟨rfl, hb1⟩
 rw [hhi]
 have c0 : w1.cell? ⟨w.heap.size, 0, none⟩ = some s := cell_later hb1 (by go_simp)
 have c1 : w1.cell? ⟨w.heap.size, 1, none⟩ = some (.int .i64 low) := cell_later hb1 (by go_simp)
 have HB1 : Hid (Below w.heap.size w w1) := thru HB0.out hb1
 clear hb1
 go_wp2_with fail
 refine (window_any _ ns _ _ _ (HW0.out.later HB1.out (Nat.le_refl _)) (by omega) (by omega) (by omega) (by omega)).mono ?_
 rintro e w2 ⟨rfl, hb2⟩
 rw [hW]
 have d0 : w2.cell? ⟨w.heap.size, 0, none⟩ = some s := cell_later hb2 c0
 have d1 : w2.cell? ⟨w.heap.size, 1, none⟩ = some (.int .i64 low) := cell_later hb2 c1
 have HB2 : Hid (Below w.heap.size w w2) := thru HB1.out hb2
 clear hb2 c0 c1
 go_wp2_with fail
 refine (window_any _ ns _ _ _ (HW0.out.later HB2.out (Nat.le_refl _)) (by omega) (by omega) (by omega) (by omega)).mono ?_
 rintro e w3 ⟨rfl, hb3⟩
 rw [hW]
 have f0 : w3.cell? ⟨w.heap.size, 0, none⟩ = some s := cell_later hb3 d0
 have f1 : w3.cell? ⟨w.heap.size, 1, none⟩ = some (.int .i64 low) := cell_later hb3 d1
 have HB3 : Hid (Below w.heap.size w w3) := thru HB2.out hb3
 clear hb3 d0 d1
 have hdiv : (0 : Int) ≤ (W : Int) / 2 ∧ (W : Int) / 2 < 9007199254740992 := by omega
 have hwr : IntKind.u64.wrap ((W : Int) / 2 + 1) = (W : Int) / 2 + 1 := by rw [IntKind.wrap_u64]; omega
 cases half
 · rw [Bool.false_and, if_neg (by decide), Int.add_zero] at hk
   have HK : Hid _ := hk
   clear hk
   go_wp2_with (first
     | (go_at_call 33; rw [HK.out]; refine (HL.out _).mono ?_; rintro e w' ⟨rfl, rfl⟩))
   go_ret
   exact ⟨rfl, HB3.out⟩
 · cases lt
   · cases odd
     · rw [Bool.true_and, Bool.or_self, if_neg (by decide), Int.add_zero] at hk
       have HK : Hid _ := hk
       clear hk
       go_wp2_with (first
         | (go_at_call 33; rw [HK.out]; refine (HL.out _).mono ?_; rintro e w' ⟨rfl, rfl⟩))
       go_ret
       exact ⟨rfl, HB3.out⟩
     · rw [Bool.true_and, Bool.or_true, if_pos rfl] at hk
       have HK : Hid _ := hk
       clear hk
       go_wp2_with (first
         | (go_at_call 33; rw [HK.out]; refine (HL.out _).mono ?_; rintro e w' ⟨rfl, rfl⟩))
       go_ret
       exact ⟨rfl, HB3.out⟩
   · rw [Bool.true_and, Bool.true_or, if_pos rfl] at hk
     have HK : Hid _ := hk
     clear hk
     go_wp2_with (first
       | (go_at_call 33; rw [HK.out]; refine (HL.out _).mono ?_; rintro e w' ⟨rfl, rfl⟩))
     go_ret
     exact ⟨rfl, HB3.out⟩
end

/- Float: the float nearest to a number. -/
section
open Go.RowKit
attribute [local go_sem ↓] Go.wp_at_zero Go.wp_at_succ
theorem and_one (n : Nat) (h : n < 18446744073709551616) : bits .and .u64 (n : Int) 1 = ((n % 2 : Nat) : Int) := by
 rw [show (1 : Int) = ((1 : Nat) : Int) from rfl, u64_and_nat n _ (by omega) (by omega), Nat.and_one_is_mod]
theorem eq_one (n : Nat) : ((((n % 2 : Nat) : Int)) == 1) = (n % 2 == 1) := by
 rcases Nat.mod_two_eq_zero_or_one n with h | h <;> rw [h] <;> rfl
theorem p2_units (n : Nat) (e : Int) : (((2 ^ n : Nat) : Int) : Rat) * p2 e = p2 ((n : Int) + e) := by
 rw [p2_add, p2_nat]; rfl
theorem nearest_any (s : Value) (ns : List Nat) (low : Int) (w : World) (hm : IsMag w s ns low) :
   Calls Tryd.prog 25 #[.agg #[s, .int .i64 low]] w fun e w' => (∃ r, e = .returned (.float .f64 r) ∧ Near (magR ns low) r) ∧ Below w.heap.size w w' := by
 have l1 := hm.lo
 have l2 := hm.low_le
 by_cases hne : ns = []
 · have h0 : low = 0 := by
     rcases hm.own with ⟨_, h⟩ | ⟨h, _⟩
     · exact h
     · exact absurd hne h
   subst hne
   subst h0
   have e0 : hiB [] 0 = 0 := by simp [hiB]
   refine (nearest_walk s [] 0 0 (-52) 0 0 0 0 false false false 0 w hm.ws (fun h => absurd rfl h) (by omega) (by omega) e0 (by omega) (by omega) (by decide) (by decide) (by omega) (by decide) (by decide) (by decide) (by decide) (by decide) (by decide) ?_).mono ?_
   · intro w
     rw [float_of_nat]
     have e : Ieee.double.nearest false 0 0 = 0 := rfl
     rw [e]
     exact Ldexp_of _ _ _ w fun w => ldexp_zero _ w
   · rintro e w' ⟨rfl, hb⟩
     exact ⟨⟨0, rfl, Or.inl ⟨magR_nil 0, rfl⟩⟩, hb⟩
 · have ho : val ns % 2 = 1 ∧ Topped ns := by
     rcases hm.own with ⟨h, _⟩ | ⟨_, h⟩
     · exact absurd h hne
     · exact h
   have hhi : hiB ns low = low + (Nat.log2 (val ns) : Nat) := by unfold hiB; rw [if_neg hne]
   have hhb := hm.hi
   obtain ⟨b1, b2⟩ := own_lo hm.own hne
   generalize hh : hiB ns low = hi at *
   obtain ⟨T, hT⟩ : ∃ T : Nat, max (hi - 52) (-1074) = (T : Int) - 1074 := ⟨(max (hi - 52) (-1074) + 1074).toNat, by omega⟩
   have hw := win_near ns low ((T : Int) - 1074 - 1) ho.1 (by omega)
   obtain ⟨w1, w2, w3, w4, w5⟩ := hw
   have eu : (T : Int) - 1074 - 1 = (T : Int) - 1075 := by omega
   generalize hW : win ns low ((T : Int) - 1074 - 1) = W at *
   rw [eu] at w2 w3 w4 w5
   have hu := p2_pos ((T : Int) - 1075)
   have hq : Last (magR ns low) T := by
     refine ⟨?_, ?_⟩
     · by_cases h0 : T = 0
       · exact Or.inl h0
       · right
         rw [show (9007199254740992 : Int) = ((2 ^ 53 : Nat) : Int) from rfl, p2_units]
         refine Rat.le_trans (p2_mono ?_) b1
         omega
     · rw [show (18014398509481984 : Int) = ((2 ^ 54 : Nat) : Int) from rfl, p2_units]
       exact lt_of_lt_le b2 (p2_mono (by omega))
   obtain ⟨k1, k2, k3, k4⟩ := half_of (exact := (T : Int) - 1075 ≤ low) hu w2 w3 w4 (fun h => w5 (by omega))
   have hpos : 0 < magR ns low := magR_pos hm.own hne
   have key : ∃ kept, Half (magR ns low) (p2 ((T : Int) - 1075)) kept ∧ (W : Int) / 2 + (if (W % 2 == 1) && (decide (low < (T : Int) - 1074 - 1) || (W / 2 % 2 == 1)) then 1 else 0) = (kept : Int) := by
     rcases Nat.mod_two_eq_zero_or_one W with h | h
     · refine ⟨W / 2, k1 h, ?_⟩
       rw [h]; simp
     · by_cases h2 : (T : Int) - 1075 ≤ low
       · have e2 : decide (low < (T : Int) - 1074 - 1) = false := decide_eq_false (by omega)
         rcases Nat.mod_two_eq_zero_or_one (W / 2) with h3 | h3
         · refine ⟨W / 2, k4 h h2 h3, ?_⟩
           rw [h, h3, e2]; simp
         · refine ⟨W / 2 + 1, k3 h h2 h3, ?_⟩
           rw [h, h3, e2]; simp
       · have e2 : decide (low < (T : Int) - 1074 - 1) = true := decide_eq_true (by omega)
         refine ⟨W / 2 + 1, k2 h h2, ?_⟩
         rw [h, e2]; simp
   obtain ⟨kept, hk1, hk2⟩ := key
   have kb := kept_bounds hq hk1
   refine (nearest_walk s ns low hi ((T : Int) - 1074) W kept _ _ _ _ _ _ w hm.ws ho.2 l1 l2 hh (by omega) hhb hT hW w1 (and_one W (by omega)) (eq_one W) (and_one (W / 2) (by omega)) (eq_one (W / 2)) rfl hk2 (fun w => ldexp_kept T kept w kb.1 kb.2 (by omega))).mono ?_
   rintro e w' ⟨rfl, hb⟩
   exact ⟨⟨_, rfl, Or.inr ⟨hpos, T, kept, hq, hk1, rfl⟩⟩, hb⟩
def FloatOf (q : Rat) (f : Nat) : Prop := (0 ≤ q ∧ Near q f) ∨ (q < 0 ∧ ∃ r, Near (-q) r ∧ f = if r = 0 then 0 else 9223372036854775808 + r)
theorem gt_zero (r : Nat) (h : r ≤ 9218868437227405312) : (FloatKind.f64.format.order r 0 == some .gt) = (r != 0) := by
 show (Ieee.double.order r 0 == some .gt) = (r != 0)
 have z0 : Fin64 0 := by unfold Fin64 frung; decide
 have e0 : fval 0 = 0 := fval_zero_iff.2 rfl
 by_cases h1 : r = 9218868437227405312
 · subst h1
   rw [order_inf_fin (by unfold frung; rfl) z0]
   rfl
 · have hr : r < 9218868437227405312 := by omega
   have hf : Fin64 r := by unfold Fin64 frung; omega
   have hn := fval_nonneg hr
   rw [order_fin hf z0, e0]
   by_cases h0 : r = 0
   · subst h0; rw [e0]; rfl
   · have e1 : fval r ≠ 0 := by rw [Ne, fval_zero_iff]; unfold frung; omega
     rw [if_neg (by grind), if_neg e1]
     simp [h0]
theorem xor_top (r : Nat) (h : r < 9223372036854775808) : r ^^^ 2 ^ 63 = 9223372036854775808 + r := by
 have h' : r < 2 ^ 63 := h
 show r ^^^ 2 ^ 63 = 2 ^ 63 + r
 refine Nat.eq_of_testBit_eq fun i => ?_
 rw [Nat.testBit_xor, Nat.testBit_two_pow]
 rcases Nat.lt_trichotomy i 63 with hi | hi | hi
 · have hd : decide (63 = i) = false := decide_eq_false (by omega)
   rw [Nat.testBit_two_pow_add_gt hi, hd, Bool.xor_false]
 · subst hi; rw [Nat.testBit_two_pow_add_eq, Nat.testBit_lt_two_pow h']; rfl
 · have e1 : 2 ^ 64 ≤ 2 ^ i := Nat.pow_le_pow_right (by omega) hi
   have e2 : 2 ^ 63 + r < 2 ^ i := by omega
   have hd : decide (63 = i) = false := decide_eq_false (by omega)
   rw [Nat.testBit_lt_two_pow e2, Nat.testBit_lt_two_pow (by omega : r < 2 ^ i), hd]; rfl
theorem run_fneg (r : Nat) (h : r ≤ 9218868437227405312) (w : World) : (Op.unary .neg (.float .f64 r)).run Tryd.prog w = .ok (.float .f64 (9223372036854775808 + r)) w := by
 have e : Op.negFloat .f64 r = 9223372036854775808 + r := by
   exact xor_top r (by omega)
 show Result.ok (Value.float .f64 (Op.negFloat .f64 r)) w = _
 rw [e]
set_option maxHeartbeats 1000000 in
theorem float_walk (a1 : Option Addr) (c1 : Nat) (ns1 : List Nat) (low1 : Int) (neg1 nn1 : Bool) (w : World) (m1 : IsMag w (.slice a1 ns1.length c1) ns1 low1) :
   Calls Tryd.prog 9 #[.agg #[.slice a1 ns1.length c1, .int .i64 low1, .bool neg1, .bool nn1]] w fun e w' => (∃ r, e = .returned (.float .f64 (if neg1 && r != 0 then 9223372036854775808 + r else r)) ∧ Near (magR ns1 low1) r) ∧ Below w.heap.size w w' := by
 have M1 : Hid (IsMag w (.slice a1 ns1.length c1) ns1 low1) := m1
 have HB0 : Hid (Below w.heap.size w (w.alloc (.cells #[.slice a1 ns1.length c1, .int .i64 low1, .bool neg1, .bool nn1] 27))) := (Below.refl _ _).alloc (Nat.le_refl _) _
 clear m1
 go_enter Tryd.func9, Tryd.ntmps9
 go_wp2_with fail
 refine (nearest_any _ ns1 _ _ (M1.out.later HB0.out)).mono ?_
 rintro e w1 ⟨⟨r, rfl, hr⟩, hb1⟩
 have hz := gt_zero r (near_nonneg hr).2
 have hrb := (near_nonneg hr).2
 have c2 : w1.cell? ⟨w.heap.size, 2, none⟩ = some (.bool neg1) := cell_later hb1 (by go_simp)
 have HB1 : Hid (Below w.heap.size w w1) := thru HB0.out hb1
 have HR : Hid (Near (magR ns1 low1) r) := hr
 clear hb1 hr
 cases neg1
 · go_wp2
   go_ret
   exact ⟨⟨r, rfl, HR.out⟩, HB1.out⟩
 · by_cases h0 : r = 0
   · subst h0
     go_wp2
     go_ret
     exact ⟨⟨0, rfl, HR.out⟩, HB1.out⟩
   · have e : (r != 0) = true := by simp [h0]
     rw [e] at hz
     have hng := run_fneg r hrb
     go_wp2
     go_ret
     exact ⟨⟨r, by rw [e]; rfl, HR.out⟩, HB1.out⟩
theorem float_any (va : Value) (a : Option Rat) (w : World) (ha : IsNum w va a) :
   Calls Tryd.prog 9 #[va] w fun e w' => (∃ f, e = .returned (.float .f64 f) ∧ FloatOf (a.getD 0) f) ∧ Below w.heap.size w w' := by
 obtain ⟨a1, ns1, c1, low1, neg1, nn1, rfl, q2, q3, q4, q5, q6, q7, q8⟩ := ha
 refine (float_walk a1 c1 ns1 low1 neg1 nn1 w ⟨q2, q3, q4, q5⟩).mono ?_
 rintro e w' ⟨⟨r, rfl, hr⟩, hb⟩
 refine ⟨⟨_, rfl, ?_⟩, hb⟩
 by_cases hne : ns1 = []
 · have e0 : a.getD 0 = 0 := by
     cases nn1 with
     | true => rw [(q7 rfl).2]; rfl
     | false => rw [q8 rfl, hne, magR_nil]; simp
   rw [hne, magR_nil] at hr
   have := near_zero hr
   subst this
   rw [e0, q6 hne]
   exact Or.inl ⟨Rat.le_refl, hr⟩
 · have hn : nn1 = false := by
     cases nn1 with
     | true => exact absurd (q7 rfl).1 hne
     | false => rfl
   have h3 := magR_pos q3 hne
   rw [q8 hn]
   cases neg1
   · left
     simp only [sg, Bool.false_eq_true, if_false, Option.getD_some, Bool.false_and, Rat.one_mul]
     exact ⟨Rat.le_of_lt h3, hr⟩
   · right
     simp only [sg, if_true, Option.getD_some, Bool.true_and]
     have e1 : -(-1 * magR ns1 low1) = magR ns1 low1 := by grind
     refine ⟨by grind, r, by rw [e1]; exact hr, ?_⟩
     by_cases h0 : r = 0 <;> simp [h0]
end

/- The laws' helper of: a number of three floats. -/
section
open Go.RowKit
attribute [local go_sem ↓] Go.wp_at_zero Go.wp_at_succ
theorem isNum_form {w : World} {v : Value} {x : Option Rat} (h : IsNum w v x) : ∃ a n c low neg nn, v = .agg #[.slice a n c, .int .i64 low, .bool neg, .bool nn] ∧ IsNum w (.agg #[.slice a n c, .int .i64 low, .bool neg, .bool nn]) x := by
 obtain ⟨a, ns, c, low, neg, nn, rfl, hr⟩ := h
 exact ⟨a, _, c, low, neg, nn, rfl, a, ns, c, low, neg, nn, rfl, hr⟩
theorem keep12 {w W W' : World} {p0 p1 p2 p3 p4 p5 p6 p7 p8 p9 p10 p11 : Addr} {x0 x1 x2 x3 x4 x5 x6 x7 x8 x9 x10 x11 : Value} (h : W.cell? p0 = some x0 ∧ W.cell? p1 = some x1 ∧ W.cell? p2 = some x2 ∧ W.cell? p3 = some x3 ∧ W.cell? p4 = some x4 ∧ W.cell? p5 = some x5 ∧ W.cell? p6 = some x6 ∧ W.cell? p7 = some x7 ∧ W.cell? p8 = some x8 ∧ W.cell? p9 = some x9 ∧ W.cell? p10 = some x10 ∧ W.cell? p11 = some x11 ∧ Below w.heap.size w W) (hb : Below W.heap.size W W') :
   W'.cell? p0 = some x0 ∧ W'.cell? p1 = some x1 ∧ W'.cell? p2 = some x2 ∧ W'.cell? p3 = some x3 ∧ W'.cell? p4 = some x4 ∧ W'.cell? p5 = some x5 ∧ W'.cell? p6 = some x6 ∧ W'.cell? p7 = some x7 ∧ W'.cell? p8 = some x8 ∧ W'.cell? p9 = some x9 ∧ W'.cell? p10 = some x10 ∧ W'.cell? p11 = some x11 ∧ Below w.heap.size w W' :=
 ⟨cell_later hb h.1, cell_later hb h.2.1, cell_later hb h.2.2.1, cell_later hb h.2.2.2.1, cell_later hb h.2.2.2.2.1, cell_later hb h.2.2.2.2.2.1, cell_later hb h.2.2.2.2.2.2.1, cell_later hb h.2.2.2.2.2.2.2.1, cell_later hb h.2.2.2.2.2.2.2.2.1, cell_later hb h.2.2.2.2.2.2.2.2.2.1, cell_later hb h.2.2.2.2.2.2.2.2.2.2.1, cell_later hb h.2.2.2.2.2.2.2.2.2.2.2.1, h.2.2.2.2.2.2.2.2.2.2.2.2.trans (hb.mono h.2.2.2.2.2.2.2.2.2.2.2.2.size)⟩
theorem keep12_bel {w W : World} {p0 p1 p2 p3 p4 p5 p6 p7 p8 p9 p10 p11 : Addr} {x0 x1 x2 x3 x4 x5 x6 x7 x8 x9 x10 x11 : Value} (h : W.cell? p0 = some x0 ∧ W.cell? p1 = some x1 ∧ W.cell? p2 = some x2 ∧ W.cell? p3 = some x3 ∧ W.cell? p4 = some x4 ∧ W.cell? p5 = some x5 ∧ W.cell? p6 = some x6 ∧ W.cell? p7 = some x7 ∧ W.cell? p8 = some x8 ∧ W.cell? p9 = some x9 ∧ W.cell? p10 = some x10 ∧ W.cell? p11 = some x11 ∧ Below w.heap.size w W) : Below w.heap.size w W := h.2.2.2.2.2.2.2.2.2.2.2.2
theorem norm_may {q : Rat} {x : Option Rat} (h : Norm q x) (hm : May q) : x = some q := by
 rcases h with ⟨_, h⟩ | ⟨h, _⟩
 · exact h
 · exact absurd hm h
theorem op2_may {f : Rat → Rat → Rat} {p q : Rat} {x : Option Rat} (h : Op2 f (some p) (some q) x) (hm : May (f p q)) : x = some (f p q) := by
 rcases h with ⟨_, _, h1, h2, h⟩ | ⟨h, _⟩
 · cases h1; cases h2; exact norm_may h hm
 · rcases h with h | h <;> cases h
end

/- Closed floats: what stands for what. -/
section
theorem p2_of (n : Nat) (e : Int) (h : e = (n : Int)) : p2 e = ((2 ^ n : Nat) : Rat) := by rw [h, p2_nat]
theorem p2_inv (e : Int) : p2 e = 1 / p2 (-e) := by
 have h := p2_neg e
 have h1 := p2_ne (-e)
 grind
theorem near_exact {q : Rat} {T k : Nat} (hq : 0 < q) (hl : Last q T) (he : q = ((2 * (k : Int) : Int) : Rat) * p2 ((T : Int) - 1075)) (hb : T * 4503599627370496 + k ≤ 9218868437227405312) : Near q (T * 4503599627370496 + k) := by
 refine Or.inr ⟨hq, T, k, hl, ?_, (Nat.min_eq_left hb).symm⟩
 have hu := p2_pos ((T : Int) - 1075)
 refine ⟨by rw [he]; exact le_int hu (by omega), by rw [he]; exact le_int hu (by omega), fun h => ?_, fun h => ?_⟩
 · rw [he] at h
   have := int_le hu (le_of_same h)
   omega
 · rw [he] at h
   have := int_le hu (le_of_same h.symm)
   omega
theorem near_norm (T k : Nat) (q : Rat) (h1 : 4503599627370496 ≤ k) (h2 : k < 9007199254740992) (hb : T * 4503599627370496 + k ≤ 9218868437227405312) (he : q = ((k : Int) : Rat) * p2 ((T : Int) - 1074)) : Near q (T * 4503599627370496 + k) := by
 have hu := p2_pos ((T : Int) - 1075)
 have e1 : q = ((2 * (k : Int) : Int) : Rat) * p2 ((T : Int) - 1075) := by
   rw [he, show (T : Int) - 1074 = 1 + ((T : Int) - 1075) by omega, p2_add, p2_one, Rat.intCast_mul]
   have : ((2 : Int) : Rat) = 2 := rfl
   rw [this]; grind
 refine near_exact ?_ ⟨Or.inr ?_, ?_⟩ e1 hb
 · rw [e1]
   have := lt_int hu (show (0 : Int) < 2 * (k : Int) by omega)
   rwa [show ((0 : Int) : Rat) = 0 from rfl, Rat.zero_mul] at this
 · rw [e1]; exact le_int hu (by omega)
 · rw [e1]; exact lt_int hu (by omega)
end

/- The numbers of the first question: what is reckoned. -/
section
theorem floatOf_fun {q : Rat} {f g : Nat} (h1 : FloatOf q f) (h2 : FloatOf q g) : f = g := by
 rcases h1 with ⟨a, h1⟩ | ⟨a, r, h1, rfl⟩ <;> rcases h2 with ⟨b, h2⟩ | ⟨b, s, h2, rfl⟩
 · exact near_fun h1 h2
 · grind
 · grind
 · rw [near_fun h1 h2]
theorem highOf_fun {q : Rat} {h g : Int} (h1 : HighOf q h) (h2 : HighOf q g) : h = g := by
 have key : ∀ {x : Rat} {a b : Int}, p2 a ≤ x → x < p2 (b + 1) → a ≤ b := fun {x a b} h1 h2 => by
   have := p2_lt_iff.1 (lt_of_le_lt h1 h2); omega
 rcases h1 with ⟨a, h1⟩ | ⟨a, h1⟩ <;> rcases h2 with ⟨b, h2⟩ | ⟨b, h2⟩
 · rw [h1, h2]
 · exact absurd a b
 · exact absurd b a
 · have n1 := p2_pos h
   have n2 := p2_pos g
   rcases h1 with ⟨c, d⟩ | ⟨c, d⟩ <;> rcases h2 with ⟨c', d'⟩ | ⟨c', d'⟩
   · have := key c d'; have := key c' d; omega
   · grind
   · grind
   · have := key c d'; have := key c' d; omega
theorem low_le {m n : Int} {l g : Int} (h : ((2 * m + 1 : Int) : Rat) * p2 l = ((2 * n + 1 : Int) : Rat) * p2 g) : l ≤ g := by
 rcases Int.lt_or_le g l with h1 | h1
 · obtain ⟨j, hj⟩ : ∃ j : Nat, l = g + ((j + 1 : Nat) : Int) := ⟨(l - g - 1).toNat, by omega⟩
   rw [hj, p2_add, p2_nat] at h
   have hg := p2_ne g
   have e : ((2 * m + 1 : Int) : Rat) * ((2 ^ (j + 1) : Nat) : Rat) = ((2 * n + 1 : Int) : Rat) := by grind
   have e2 : (((2 * m + 1) * ((2 ^ (j + 1) : Nat) : Int) : Int) : Rat) = ((2 * n + 1 : Int) : Rat) := by rw [Rat.intCast_mul]; exact e
   have e3 := Rat.intCast_inj.1 e2
   rw [Nat.pow_succ, Int.natCast_mul] at e3
   generalize ((2 ^ j : Nat) : Int) = P at e3
   have e4 : (2 * m + 1) * (P * ((2 : Nat) : Int)) = 2 * ((2 * m + 1) * P) := by grind
   omega
 · exact h1
theorem lowOf_fun {q : Rat} {l g : Int} (h1 : LowOf q l) (h2 : LowOf q g) : l = g := by
 have nz : ∀ {m : Int} {l : Int}, ((2 * m + 1 : Int) : Rat) * p2 l ≠ 0 := fun {m l} h => by
   have hp := p2_ne l
   have e : ((2 * m + 1 : Int) : Rat) = ((0 : Int) : Rat) := by
     rw [show ((0 : Int) : Rat) = 0 from rfl]; grind
   have := Rat.intCast_inj.1 e
   omega
 rcases h1 with ⟨a, h1⟩ | ⟨m, h1⟩ <;> rcases h2 with ⟨b, h2⟩ | ⟨n, h2⟩
 · rw [h1, h2]
 · exact absurd (h2.symm.trans a) nz
 · exact absurd (h1.symm.trans b) nz
 · exact Int.le_antisymm (low_le (h1.symm.trans h2)) (low_le (h2.symm.trans h1))
def n05 : Rat := fval 4602678819172646912
def n025 : Rat := fval 4598175219545276416
def n075 : Rat := n05 + n025
def n100 : Rat := ((1 : Int) : Rat) * p2 100
def n101 : Rat := n100 + ((1 : Int) : Rat)
def n15 : Rat := ((3 : Int) : Rat) * ((-5 : Int) : Rat)
theorem p2m (e : Int) (n : Nat) (h : -e = (n : Int)) : p2 e = 1 / ((2 ^ n : Nat) : Rat) := by rw [p2_inv, h, p2_nat]
theorem n05_eq : n05 = 1 / 2 := by
 have h : n05 = ((fmag 4602678819172646912 : Nat) : Rat) * p2 (fpl 4602678819172646912) := (fval_pos_lt (by omega)).1
 rw [h, show fmag 4602678819172646912 = 4503599627370496 by decide, show fpl 4602678819172646912 = -53 by decide +kernel, p2m (-53) 53 rfl]
 decide +kernel
theorem n025_eq : n025 = 1 / 4 := by
 have h : n025 = ((fmag 4598175219545276416 : Nat) : Rat) * p2 (fpl 4598175219545276416) := (fval_pos_lt (by omega)).1
 rw [h, show fmag 4598175219545276416 = 4503599627370496 by decide, show fpl 4598175219545276416 = -54 by decide +kernel, p2m (-54) 54 rfl]
 decide +kernel
theorem n075_eq : n075 = 3 / 4 := by unfold n075; rw [n05_eq, n025_eq]; decide +kernel
theorem n100_eq : n100 = ((2 ^ 100 : Nat) : Rat) := by
 have h : p2 100 = ((2 ^ 100 : Nat) : Rat) := p2_nat 100
 unfold n100; rw [h]; decide +kernel
theorem n101_eq : n101 = ((2 ^ 100 + 1 : Nat) : Rat) := by unfold n101; rw [n100_eq]; decide +kernel
theorem n15_eq : n15 = -15 := by unfold n15; decide +kernel
theorem float075 {f : Nat} (h : FloatOf n075 f) : f = 4604930618986332160 := by
 refine floatOf_fun h (Or.inl ⟨by rw [n075_eq]; decide +kernel, ?_⟩)
 exact near_norm 1021 6755399441055744 _ (by omega) (by omega) (by omega) (by rw [n075_eq, p2m (((1021 : Nat) : Int) - 1074) 53 rfl]; decide +kernel)
theorem float15 {f : Nat} (h : FloatOf n15 f) : f = 13848005904210853888 := by
 refine floatOf_fun h (Or.inr ⟨by rw [n15_eq]; decide +kernel, 4624633867356078080, ?_, by decide +kernel⟩)
 exact near_norm 1025 8444249301319680 _ (by omega) (by omega) (by omega) (by rw [n15_eq, p2m (((1025 : Nat) : Int) - 1074) 49 rfl]; decide +kernel)
theorem float101 {f : Nat} (h : FloatOf n101 f) : f = 5057542381537067008 := by
 have e : p2 (((1122 : Nat) : Int) - 1075) = ((2 ^ 47 : Nat) : Rat) := p2_nat 47
 refine floatOf_fun h (Or.inl ⟨by rw [n101_eq]; decide +kernel, Or.inr ⟨by rw [n101_eq]; decide +kernel, 1122, 4503599627370496, ⟨Or.inr ?_, ?_⟩, ⟨?_, ?_, fun h => ?_, fun h => ?_⟩, by decide +kernel⟩⟩)
 all_goals (try rw [n101_eq, e] at h)
 all_goals (try rw [n101_eq, e])
 all_goals decide +kernel
theorem high075 {h : Int} (hh : HighOf n075 h) : h = -1 := by
 refine highOf_fun hh (Or.inr ⟨by rw [n075_eq]; decide +kernel, Or.inl ?_⟩)
 rw [n075_eq, p2m (-1) 1 rfl, show (-1 + 1 : Int) = 0 from rfl, p2_zero]
 decide +kernel
theorem low075 {h : Int} (hh : LowOf n075 h) : h = -2 := by
 refine lowOf_fun hh (Or.inr ⟨1, ?_⟩)
 rw [n075_eq, p2m (-2) 2 rfl]
 decide +kernel
theorem low101 {h : Int} (hh : LowOf n101 h) : h = 0 := by
 refine lowOf_fun hh (Or.inr ⟨2 ^ 99, ?_⟩)
 rw [n101_eq, p2_zero]
 decide +kernel
theorem sgn15 : sgnR n15 = -1 := by rw [n15_eq]; decide +kernel
theorem cmp101 : CmpX (some n101) (some n100) = 1 := by
 show cmpR n101 n100 = 1
 rw [n101_eq, n100_eq]; decide +kernel
end

/- The first question of each law: is something reckoned? -/
section
open Go.RowKit
attribute [local go_sem ↓] Go.wp_at_zero Go.wp_at_succ
theorem shiftX_may {k : Int} {p : Rat} {x : Option Rat} (h : ShiftX k (some p) x) (hm : May (p * p2 k)) : x = some (p * p2 k) := by
 rcases h with ⟨_, h1, h⟩ | ⟨h, _⟩
 · cases h1; exact norm_may h hm
 · cases h
theorem fin05 : Fin64 4602678819172646912 := by unfold Fin64 frung; decide
theorem fin025 : Fin64 4598175219545276416 := by unfold Fin64 frung; decide
theorem one_bd : Bd 64 0 ((1 : Int) : Rat) := int_bd 1 (by omega) (by omega)
theorem may100 : May n100 := (one_bd.shift 100).may (by omega) (by omega)
theorem may075 : May n075 := ((fval_bd fin05).add (fval_bd fin025)).may (by omega) (by omega)
theorem may15 : May n15 := ((int_bd 3 (by omega) (by omega)).mul (int_bd (-5) (by omega) (by omega))).may (by omega) (by omega)
theorem may101 : May n101 := (((one_bd.shift 100).mono (h' := 164) (l' := 0) (by omega) (by omega)).add (one_bd.mono (by omega) (by omega))).may (by omega) (by omega)
theorem same075 : (FloatKind.f64.format.order 4604930618986332160 4604930618986332160 == some .eq) = true := by decide
theorem same15 : (FloatKind.f64.format.order 13848005904210853888 13848005904210853888 == some .eq) = true := by decide
theorem same101 : (FloatKind.f64.format.order 5057542381537067008 5057542381537067008 == some .eq) = true := by decide
set_option maxHeartbeats 4000000 in
theorem works_any (w : World) (hT : Tab w) :
   Calls Tryd.prog 4 #[] w fun e w' => e = .returned (.bool true) ∧ Below w.heap.size w w' := by
 have HT : Hid (Tab w) := hT
 clear hT
 have s1 := same075
 have s2 := same15
 have s3 := same101
 go_enter Tryd.func4, Tryd.ntmps4
 go_wp2_with fail
 refine (of_fin 4602678819172646912 _ HT.out (by decide) fin05).mono ?_
 rintro e w1 ⟨v1, y1, rfl, hn1, hy1, hb1⟩
 obtain ⟨a1, n1, c1, low1, neg1, nn1, rfl, hn1⟩ := isNum_form hn1
 subst hy1
 go_wp2_with fail
 refine (of_fin 4598175219545276416 _ (HT.out.later hb1) (by decide) fin025).mono ?_
 rintro e w2 ⟨v2, y2, rfl, hn2, hy2, hb2⟩
 obtain ⟨a2, n2, c2, low2, neg2, nn2, rfl, hn2⟩ := isNum_form hn2
 subst hy2
 go_wp2_with fail
 refine (add_any _ _ _ _ _ (hn1.later hb2) hn2 (HT.out.later (thru hb1 hb2))).mono ?_
 rintro e w3 ⟨v3, y3, rfl, hn3, hy3, hb3⟩
 obtain ⟨a3, n3, c3, low3, neg3, nn3, rfl, hn3⟩ := isNum_form hn3
 have e3 : y3 = some n075 := op2_may hy3 may075
 subst e3
 have HB3 : Hid (Below w.heap.size w w3) := thru (thru hb1 hb2) hb3
 have HN3 : Hid (IsNum w3 (.agg #[.slice a3 n3 c3, .int .i64 low3, .bool neg3, .bool nn3]) (some n075)) := hn3
 clear hn1 hn2 hy3 hn3 hb1 hb2 hb3
 have HA : Hid (Below w3.heap.size w3 (w3.alloc (.cells #[.slice a3 n3 c3, .int .i64 low3, .bool neg3, .bool nn3] 27))) := (Below.refl _ _).alloc (Nat.le_refl _) _
 go_wp2_with fail
 refine (int_any 3 _ (HT.out.later (thru HB3.out HA.out)) (by omega) (by omega)).mono ?_
 rintro e w4 ⟨v4, y4, rfl, hn4, hy4, hb4⟩
 obtain ⟨a4, n4, c4, low4, neg4, nn4, rfl, hn4⟩ := isNum_form hn4
 subst hy4
 go_wp2_with fail
 refine (int_any (-5) _ (HT.out.later (thru (thru HB3.out HA.out) hb4)) (by omega) (by omega)).mono ?_
 rintro e w5 ⟨v5, y5, rfl, hn5, hy5, hb5⟩
 obtain ⟨a5, n5, c5, low5, neg5, nn5, rfl, hn5⟩ := isNum_form hn5
 subst hy5
 go_wp2_with fail
 refine (mul_any _ _ _ _ _ (hn4.later hb5) hn5 (HT.out.later (thru (thru (thru HB3.out HA.out) hb4) hb5))).mono ?_
 rintro e w6 ⟨v6, y6, rfl, hn6, hy6, hb6⟩
 obtain ⟨a6, n6, c6, low6, neg6, nn6, rfl, hn6⟩ := isNum_form hn6
 have e6 : y6 = some n15 := op2_may hy6 may15
 subst e6
 have hD := thru (thru hb4 hb5) hb6
 have q30 : w6.cell? ⟨w3.heap.size, 0, none⟩ = some (.slice a3 n3 c3) := cell_later hD (by go_simp)
 have q31 : w6.cell? ⟨w3.heap.size, 1, none⟩ = some (.int .i64 low3) := cell_later hD (by go_simp)
 have q32 : w6.cell? ⟨w3.heap.size, 2, none⟩ = some (.bool neg3) := cell_later hD (by go_simp)
 have q33 : w6.cell? ⟨w3.heap.size, 3, none⟩ = some (.bool nn3) := cell_later hD (by go_simp)
 have hs36 : w3.heap.size < w6.heap.size := by have := hD.size; simp at this; omega
 have HB6 : Hid (Below w.heap.size w w6) := thru (thru HB3.out HA.out) hD
 have HN3 : Hid (IsNum w6 (.agg #[.slice a3 n3 c3, .int .i64 low3, .bool neg3, .bool nn3]) (some n075)) := HN3.out.later (thru HA.out hD)
 have HN6 : Hid (IsNum w6 (.agg #[.slice a6 n6 c6, .int .i64 low6, .bool neg6, .bool nn6]) (some n15)) := hn6
 clear hn4 hn5 hy6 hn6 hb4 hb5 hb6 hD HA HB3
 have HA : Hid (Below w6.heap.size w6 (w6.alloc (.cells #[.slice a6 n6 c6, .int .i64 low6, .bool neg6, .bool nn6] 27))) := (Below.refl _ _).alloc (Nat.le_refl _) _
 go_wp2_with fail
 refine (int_any 1 _ (HT.out.later (thru HB6.out HA.out)) (by omega) (by omega)).mono ?_
 rintro e w7 ⟨v7, y7, rfl, hn7, hy7, hb7⟩
 obtain ⟨a7, n7, c7, low7, neg7, nn7, rfl, hn7⟩ := isNum_form hn7
 subst hy7
 go_wp2_with fail
 refine (shift_any _ _ 100 _ hn7).mono ?_
 rintro e w8 ⟨v8, y8, rfl, hn8, hy8, hb8⟩
 obtain ⟨a8, n8, c8, low8, neg8, nn8, rfl, hn8⟩ := isNum_form hn8
 have e8 : y8 = some n100 := shiftX_may hy8 may100
 subst e8
 go_wp2_with fail
 refine (int_any 1 _ (HT.out.later (thru (thru (thru HB6.out HA.out) hb7) hb8)) (by omega) (by omega)).mono ?_
 rintro e w9 ⟨v9, y9, rfl, hn9, hy9, hb9⟩
 obtain ⟨a9, n9, c9, low9, neg9, nn9, rfl, hn9⟩ := isNum_form hn9
 subst hy9
 go_wp2_with fail
 refine (add_any _ _ _ _ _ (hn8.later hb9) hn9 (HT.out.later (thru (thru (thru (thru HB6.out HA.out) hb7) hb8) hb9))).mono ?_
 rintro e w10 ⟨v10, y10, rfl, hn10, hy10, hb10⟩
 obtain ⟨a10, n10, c10, low10, neg10, nn10, rfl, hn10⟩ := isNum_form hn10
 have e10 : y10 = some n101 := op2_may hy10 may101
 subst e10
 have hD := thru (thru (thru hb7 hb8) hb9) hb10
 have hE := thru HA.out hD
 have p30 : w10.cell? ⟨w3.heap.size, 0, none⟩ = some (.slice a3 n3 c3) := cell_later hE q30
 have p31 : w10.cell? ⟨w3.heap.size, 1, none⟩ = some (.int .i64 low3) := cell_later hE q31
 have p32 : w10.cell? ⟨w3.heap.size, 2, none⟩ = some (.bool neg3) := cell_later hE q32
 have p33 : w10.cell? ⟨w3.heap.size, 3, none⟩ = some (.bool nn3) := cell_later hE q33
 have p60 : w10.cell? ⟨w6.heap.size, 0, none⟩ = some (.slice a6 n6 c6) := cell_later hD (by go_simp)
 have p61 : w10.cell? ⟨w6.heap.size, 1, none⟩ = some (.int .i64 low6) := cell_later hD (by go_simp)
 have p62 : w10.cell? ⟨w6.heap.size, 2, none⟩ = some (.bool neg6) := cell_later hD (by go_simp)
 have p63 : w10.cell? ⟨w6.heap.size, 3, none⟩ = some (.bool nn6) := cell_later hD (by go_simp)
 have hs6 : w6.heap.size < w10.heap.size := by have := hD.size; simp at this; omega
 have hs3 : w3.heap.size < w10.heap.size := by omega
 have HB10 : Hid (Below w.heap.size w w10) := thru HB6.out hE
 have HN3 : Hid (IsNum w10 (.agg #[.slice a3 n3 c3, .int .i64 low3, .bool neg3, .bool nn3]) (some n075)) := HN3.out.later hE
 have HN6 : Hid (IsNum w10 (.agg #[.slice a6 n6 c6, .int .i64 low6, .bool neg6, .bool nn6]) (some n15)) := HN6.out.later hE
 have HN10 : Hid (IsNum w10 (.agg #[.slice a10 n10 c10, .int .i64 low10, .bool neg10, .bool nn10]) (some n101)) := hn10
 clear hn7 hn8 hn9 hy8 hy10 hn10 hb7 hb8 hb9 hb10 hD hE HA HB6 q30 q31 q32 q33
 go_wp2_with fail
 have hC : Below w10.heap.size w10 (w10.alloc (.cells #[.slice a10 n10 c10, .int .i64 low10, .bool neg10, .bool nn10] 27)) := (Below.refl _ _).alloc (Nat.le_refl _) _
 have z100 : (w10.alloc (.cells #[.slice a10 n10 c10, .int .i64 low10, .bool neg10, .bool nn10] 27)).cell? ⟨w10.heap.size, 0, none⟩ = some (.slice a10 n10 c10) := by go_simp
 have z101 : (w10.alloc (.cells #[.slice a10 n10 c10, .int .i64 low10, .bool neg10, .bool nn10] 27)).cell? ⟨w10.heap.size, 1, none⟩ = some (.int .i64 low10) := by go_simp
 have z102 : (w10.alloc (.cells #[.slice a10 n10 c10, .int .i64 low10, .bool neg10, .bool nn10] 27)).cell? ⟨w10.heap.size, 2, none⟩ = some (.bool neg10) := by go_simp
 have z103 : (w10.alloc (.cells #[.slice a10 n10 c10, .int .i64 low10, .bool neg10, .bool nn10] 27)).cell? ⟨w10.heap.size, 3, none⟩ = some (.bool nn10) := by go_simp
 generalize (w10.alloc (.cells #[.slice a10 n10 c10, .int .i64 low10, .bool neg10, .bool nn10] 27)) = wc at *
 have z30 : wc.cell? ⟨w3.heap.size, 0, none⟩ = some (.slice a3 n3 c3) := cell_later hC p30
 have z31 : wc.cell? ⟨w3.heap.size, 1, none⟩ = some (.int .i64 low3) := cell_later hC p31
 have z32 : wc.cell? ⟨w3.heap.size, 2, none⟩ = some (.bool neg3) := cell_later hC p32
 have z33 : wc.cell? ⟨w3.heap.size, 3, none⟩ = some (.bool nn3) := cell_later hC p33
 have z60 : wc.cell? ⟨w6.heap.size, 0, none⟩ = some (.slice a6 n6 c6) := cell_later hC p60
 have z61 : wc.cell? ⟨w6.heap.size, 1, none⟩ = some (.int .i64 low6) := cell_later hC p61
 have z62 : wc.cell? ⟨w6.heap.size, 2, none⟩ = some (.bool neg6) := cell_later hC p62
 have z63 : wc.cell? ⟨w6.heap.size, 3, none⟩ = some (.bool nn6) := cell_later hC p63
 have HBC : Hid (Below w.heap.size w wc) := thru HB10.out hC
 have HN3 : Hid (IsNum wc (.agg #[.slice a3 n3 c3, .int .i64 low3, .bool neg3, .bool nn3]) (some n075)) := HN3.out.later hC
 have HN6 : Hid (IsNum wc (.agg #[.slice a6 n6 c6, .int .i64 low6, .bool neg6, .bool nn6]) (some n15)) := HN6.out.later hC
 have HN10 : Hid (IsNum wc (.agg #[.slice a10 n10 c10, .int .i64 low10, .bool neg10, .bool nn10]) (some n101)) := HN10.out.later hC
 clear hC p30 p31 p32 p33 p60 p61 p62 p63 HB10
 go_region_held3 (fun W => W.cell? ⟨w3.heap.size, 0, none⟩ = some (.slice a3 n3 c3) ∧ W.cell? ⟨w3.heap.size, 1, none⟩ = some (.int .i64 low3) ∧ W.cell? ⟨w3.heap.size, 2, none⟩ = some (.bool neg3) ∧ W.cell? ⟨w3.heap.size, 3, none⟩ = some (.bool nn3) ∧ W.cell? ⟨w6.heap.size, 0, none⟩ = some (.slice a6 n6 c6) ∧ W.cell? ⟨w6.heap.size, 1, none⟩ = some (.int .i64 low6) ∧ W.cell? ⟨w6.heap.size, 2, none⟩ = some (.bool neg6) ∧ W.cell? ⟨w6.heap.size, 3, none⟩ = some (.bool nn6) ∧ W.cell? ⟨w10.heap.size, 0, none⟩ = some (.slice a10 n10 c10) ∧ W.cell? ⟨w10.heap.size, 1, none⟩ = some (.int .i64 low10) ∧ W.cell? ⟨w10.heap.size, 2, none⟩ = some (.bool neg10) ∧ W.cell? ⟨w10.heap.size, 3, none⟩ = some (.bool nn10) ∧ Below wc.heap.size wc W)
   (first
     | assumption
     | exact ⟨z30, z31, z32, z33, z60, z61, z62, z63, z100, z101, z102, z103, (Below.refl _ _).drew⟩
     | exact keep12 (by assumption) (by assumption))
   (first
     | (go_at_call_of 9 low3; refine (float_any _ _ _ (HN3.out.later (keep12_bel (by assumption)))).mono ?_; rintro e wx ⟨⟨f, rfl, hf⟩, hbx⟩; have hf := float075 hf; subst hf)
     | (go_at_call_of 19 low3; refine (high_any _ _ _ (HN3.out.later (keep12_bel (by assumption)))).mono ?_; rintro e wx ⟨⟨f, rfl, hf⟩, hbx⟩; have hf := high075 hf; subst hf)
     | (go_at_call_of 20 low3; refine (low_any _ _ _ (HN3.out.later (keep12_bel (by assumption)))).mono ?_; rintro e wx ⟨⟨f, rfl, hf⟩, hbx⟩; have hf := low075 hf; subst hf)
     | (go_at_call_of 9 low6; refine (float_any _ _ _ (HN6.out.later (keep12_bel (by assumption)))).mono ?_; rintro e wx ⟨⟨f, rfl, hf⟩, hbx⟩; have hf := float15 hf; subst hf)
     | (go_at_call 8; refine (sign_any _ _ _ (HN6.out.later (keep12_bel (by assumption)))).mono ?_; rw [show sgnR ((some n15).getD 0) = -1 from sgn15]; rintro e wx ⟨rfl, hbx⟩)
     | (go_at_call_of 9 low10; refine (float_any _ _ _ (HN10.out.later (keep12_bel (by assumption)))).mono ?_; rintro e wx ⟨⟨f, rfl, hf⟩, hbx⟩; have hf := float101 hf; subst hf)
     | (go_at_call 5; refine (int_any 1 _ (HT.out.later (thru HBC.out (keep12_bel (by assumption)))) (by omega) (by omega)).mono ?_; rintro e w21 ⟨v21, y21, rfl, hn21, hy21, hb21⟩; obtain ⟨a21, n21, c21, low21, neg21, nn21, rfl, hn21⟩ := isNum_form hn21; subst hy21)
     | (go_at_call 6; refine (shift_any _ _ 100 _ hn21).mono ?_; rintro e w22 ⟨v22, y22, rfl, hn22, hy22, hb22⟩; obtain ⟨a22, n22, c22, low22, neg22, nn22, rfl, hn22⟩ := isNum_form hn22; have e22 : y22 = some n100 := shiftX_may hy22 may100; subst e22)
     | (go_at_call 12; refine (cmp_any _ _ _ _ _ (HN10.out.later (keep12_bel (by assumption))) hn22).mono ?_; rw [cmp101]; rintro e w23 ⟨rfl, hb23⟩)
     | (go_at_call_of 20 low10; refine (low_any _ _ _ (HN10.out.later (keep12_bel (by assumption)))).mono ?_; rintro e wx ⟨⟨f, rfl, hf⟩, hbx⟩; have hf := low101 hf; subst hf))
 go_wp2
 go_ret
 exact ⟨rfl, thru HBC.out (keep12_bel (by assumption))⟩
end
end Go.Proofs.YtlpnobcapdbfkaaDoor
