/- Own texts, put together: Zs. -/
import Derived.Test.YtgoadpnoagaflaaDoorQ27
/- The reference's Of, of any float. -/
namespace Go.Proofs.YtgoadpnoagaflaaDoor
open Go.RowKit
theorem order_val {a b : Nat} (ha : Fin64 a) (hb : Fin64 b) : FloatKind.f64.format.order a b = some (if fval a < fval b then .lt else if fval a = fval b then .eq else .gt) := order_fin ha hb
theorem fin0 : Fin64 0 := by unfold Fin64 frung; decide
theorem fval0 : fval 0 = 0 := fval_zero_iff.2 rfl
theorem rv_zero {x : Rat} (h : RV 0 x) : x = 0 := by
 obtain ⟨r, _, h⟩ := h
 rcases h with ⟨_, n, rfl⟩ | ⟨_, n, rfl⟩
 · rw [near_zero n]; exact fval0
 · rw [show (-0 : Rat) = 0 by grind] at n
   rw [near_zero n, fval0]; grind
theorem self_sub {b : Nat} (h : Fin64 b) : ∃ n, floatBits .sub .f64 b b = some n ∧ FloatKind.f64.format.order n 0 = some .eq := by
 obtain ⟨r, h1, h2, _, h3⟩ := sub_bits h h (by
   have := p2_pos 1023
   exact ⟨by grind, by grind⟩)
 rw [show fval b - fval b = 0 by grind] at h3
 have h4 := rv_zero h3
 refine ⟨r, h1, ?_⟩
 rw [order_val h2 fin0, h4, fval0, if_neg (by grind), if_pos rfl]
theorem refOf_any (b : Nat) (w : World) (hb : b < 18446744073709551616) : Calls Tryd.prog 63 #[.float .f64 b] w fun e w' => RfR w w' (den b) e := by
 have none : ∀ e w', (e = Ending.returned (.agg #[.int .i64 0, .slice none 0 0, .int .i64 0]) ∧ Below w.heap.size w w') → den b = 0 → RfR w w' (den b) e := by
   rintro e w' ⟨rfl, h⟩ h0
   rw [h0]
   exact ⟨_, rfl, rf_zero _, h⟩
 rcases Nat.lt_trichotomy (frung b) 9218868437227405312 with h | h | h
 · have hf : Fin64 b := h
   obtain ⟨n, s1, s2⟩ := self_sub hf
   have o1 : FloatKind.f64.format.order b b = some .eq := by rw [order_val hf hf, if_neg (by grind), if_pos rfl]
   have hd : den b = fval b := by unfold den; rw [if_pos h]
   by_cases h0 : frung b = 0
   · have hz := fval_zero_iff.2 h0
     refine (refOf_zero b n w o1 s1 s2 (by rw [order_val hf fin0, hz, fval0, if_neg (by grind), if_pos rfl])).mono (fun e w' he => none e w' he (by rw [hd, hz]))
   · have hbb := bits53_bounds (frung b) h0
     have hbv := bits53_val (frung b) h0
     have hpos := (fval_pos_lt h).1
     have hnn := fval_nonneg h
     have hne : fval (frung b) ≠ 0 := by
       intro e
       have := fval_zero_iff.1 e
       unfold frung at this h0
       omega
     have hpl : -2000 ≤ place53 (frung b) ∧ place53 (frung b) ≤ 2000 := by
       unfold place53
       split
       · rename_i hs
         have := (Nat.log2_lt h0).2 (show frung b < 2 ^ 52 from hs)
         omega
       · omega
     have hfr : ∀ w, Calls Tryd.prog 80 #[.float .f64 (frung b)] w fun e w' => e = .returned (.tuple #[.float .f64 (1022 * 4503599627370496 + (bits53 (frung b) - 4503599627370496)), .int .i64 (place53 (frung b) + 53)]) ∧ w' = w := fun w => Frexp_of _ _ _ w (fun w => frexp_any (frung b) w h0 h)
     have hM : 4503599627370496 + (bits53 (frung b) - 4503599627370496) = bits53 (frung b) := by omega
     have hv : ((4503599627370496 + (bits53 (frung b) - 4503599627370496) : Nat) : Rat) * p2 (place53 (frung b)) = fval (frung b) := by rw [hM, hbv, hpos]
     by_cases hs : b < 9223372036854775808
     · have hr : frung b = b := Nat.mod_eq_of_lt hs
       rw [hr] at hfr hv hnn hne hpl hbb
       have o2 : FloatKind.f64.format.order b 0 = some .gt := by rw [order_val hf fin0, fval0, if_neg (by grind), if_neg (by grind)]
       have := refOf_pos b n (bits53 b - 4503599627370496) (place53 b) w o1 s1 s2 o2 hfr (by omega) hpl.1 hpl.2
       rw [hv] at this
       rw [hd]; exact this
     · have hr : fflip b = frung b := by unfold fflip frung; rw [if_neg hs]; omega
       have hbw : b = 9223372036854775808 + frung b := by unfold frung; omega
       have hvb : fval b = -fval (frung b) := by
         have := fval_word h
         rwa [← hbw] at this
       have o2 : FloatKind.f64.format.order b 0 = some .lt := by rw [order_val hf fin0, fval0, hvb, if_pos (by grind)]
       rw [← hr] at hfr
       have := refOf_neg b n (bits53 (fflip b) - 4503599627370496) (place53 (fflip b)) w hb o1 s1 s2 o2 hfr (by rw [hr]; omega) (by rw [hr]; exact hpl.1) (by rw [hr]; exact hpl.2)
       rw [hr, hv] at this
       rw [hd, hvb]; exact this
 · have hd : den b = 0 := by unfold den; rw [if_neg (by omega)]
   have hb2 : b = 9218868437227405312 ∨ b = 18442240474082181120 := by unfold frung at h; omega
   rcases hb2 with rfl | rfl
   · exact (refOf_inf _ w (by decide +kernel) (by decide +kernel)).mono (fun e w' he => none e w' he hd)
   · exact (refOf_inf _ w (by decide +kernel) (by decide +kernel)).mono (fun e w' he => none e w' he hd)
 · have hd : den b = 0 := by unfold den; rw [if_neg (by omega)]
   exact (refOf_nan b w (order_nan_left h)).mono (fun e w' he => none e w' he hd)
end Go.Proofs.YtgoadpnoagaflaaDoor
