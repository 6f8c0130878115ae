/- Of: the number that a float denotes. -/
import Derived.Test.YtfnjlkhgjlihoaaDoorFe
namespace Go.Proofs.YtfnjlkhgjlihoaaDoor
open Go.RowKit

set_option maxHeartbeats 2000000 in
theorem of_core (b r part fl M : Nat) (ex low : Int) (ng : Bool) (w : World) (hT : Tab w)
    (hnan : ∀ w, Calls Tryd.prog 46 #[.float .f64 b] w fun e w' => e = .returned (.bool false) ∧ w' = w)
    (hinf : ∀ w, Calls Tryd.prog 21 #[.float .f64 b, .int .i64 0] w fun e w' => e = .returned (.bool false) ∧ w' = w)
    (habs : ∀ w, Calls Tryd.prog 48 #[.float .f64 b] w fun e w' => e = .returned (.float .f64 r) ∧ w' = w)
    (hfr : ∀ w, Calls Tryd.prog 47 #[.float .f64 r] w fun e w' => e = .returned (.tuple #[.float .f64 part, .int .i64 ex]) ∧ w' = w)
    (hld : ∀ w, Calls Tryd.prog 49 #[.float .f64 part, .int .i64 53] w fun e w' => e = .returned (.float .f64 fl) ∧ w' = w)
    (hcv : floatToIntVal .f64 fl .u64 = some (M : Int)) (hM : M < 18446744073709551616) (hlow : ex - 52 - 1 = low) (he1 : -2000 ≤ ex) (he2 : ex ≤ 2000) (hng : (FloatKind.f64.format.order b 0 == some .lt) = ng) :
    Calls Tryd.prog 18 #[.float .f64 b] w fun e w' => NumR w w' (sg ng * ((M : Nat) * p2 low)) e := by
  have HT : Hid (Tab w) := hT
  have HM : Hid (M < 18446744073709551616) := hM
  have H1 : Hid _ := hnan
  have H2 : Hid _ := hinf
  have H3 : Hid _ := habs
  have H4 : Hid _ := hfr
  have H5 : Hid _ := hld
  have hconv : ∀ w, (convert 31 52 (.float .f64 fl)).run Tryd.prog w = .ok (.int .u64 (M : Nat)) w := fun w => run_convert_float_int w _ _ _ _ _ _ (by rw [Tryd.underlying31]; rfl) Tryd.underlying52 hcv
  have HB0 : Hid (Below w.heap.size w (((w.alloc (.cells #[.slice none 0 0, .int .i64 0, .bool false, .bool false] 27)).alloc (.cells #[.int .u64 (M : Nat)] 52)).alloc (.cells #[.slice (some ⟨w.heap.size + 1, 0, none⟩) 1 1, .int .i64 low] 25))) := (((Below.refl _ _).alloc (Nat.le_refl _) _).alloc (by simp) _).alloc (by simp; omega) _
  have HW : Hid (Ws (((w.alloc (.cells #[.slice none 0 0, .int .i64 0, .bool false, .bool false] 27)).alloc (.cells #[.int .u64 (M : Nat)] 52)).alloc (.cells #[.slice (some ⟨w.heap.size + 1, 0, none⟩) 1 1, .int .i64 low] 25)) (.slice (some ⟨w.heap.size + 1, 0, none⟩) 1 1) [M]) := row_one (by go_simp) (by simp) HM.out
  have hl1 : -3000 ≤ low := by omega
  have hl2 : low ≤ 3000 := by omega
  clear hT hM hnan hinf habs hfr hld hcv
  go_enter Tryd.func18, Tryd.ntmps18
  go_wp2_with (first
    | (go_at_call 46; refine (H1.out _).mono ?_; rintro e w' ⟨rfl, rfl⟩)
    | (go_at_call 21; refine (H2.out _).mono ?_; rintro e w' ⟨rfl, rfl⟩)
    | (go_at_call 48; refine (H3.out _).mono ?_; rintro e w' ⟨rfl, rfl⟩)
    | (go_at_call 47; refine (H4.out _).mono ?_; rintro e w' ⟨rfl, rfl⟩)
    | (go_at_call 49; refine (H5.out _).mono ?_; rintro e w' ⟨rfl, rfl⟩))
  refine (own_any _ [M] _ _ HW.out (HT.out.later HB0.out) (by omega) (by omega)).mono ?_
  rintro e w5 ⟨s5, ns5, low5, rfl, hws5, ho5, ht5, hlo5, hb5⟩
  have hq5 := tells_magR ht5
  rw [val_one] at hq5
  go_wp2_with fail
  refine (number_any _ ns5 _ _ _ hws5 ho5 hlo5.1 hlo5.2).mono ?_
  rintro e w6 ⟨v9, x9, rfl, ⟨a9, ns9, c9, low9, neg9, nn9, rfl, hws9, hrest⟩, hN9, hb6⟩
  have hB6 := thru hb5 hb6
  have t0 : w6.cell? ⟨w.heap.size, 0, none⟩ = some (.slice none 0 0) := cell_later hB6 (by go_simp)
  have t1 : w6.cell? ⟨w.heap.size, 1, none⟩ = some (.int .i64 0) := cell_later hB6 (by go_simp)
  have t2 : w6.cell? ⟨w.heap.size, 2, none⟩ = some (.bool false) := cell_later hB6 (by go_simp)
  have t3 : w6.cell? ⟨w.heap.size, 3, none⟩ = some (.bool false) := cell_later hB6 (by go_simp)
  have u0 : ∀ i, w6.frozen? ⟨w.heap.size, i, none⟩ = false := fun i => frozen_later hB6 (by go_simp) (by simp; omega)
  have HB6 : Hid (Below w.heap.size w w6) := thru HB0.out hB6
  rw [hq5] at hN9
  have HN9 : Hid _ := hN9
  clear hb5 hb6 hB6 hq5 hlo5 hws5 ho5 hN9 HB0 ht5
  have HRST : Hid _ := hrest
  clear hrest
  go_wp2
  refine bodyPost_ret (v := .agg #[.slice a9 ns9.length c9, .int .i64 low9, .bool neg9, .bool nn9]) (by simp [results, Tryd.results18, go_sem, t0, t1, t2, t3]) rfl ?_
  have hw9 := ws4 hws9 t0 t1 t2 t3 (.slice a9 ns9.length c9) (.int .i64 low9) (.bool neg9) (.bool nn9)
  refine ⟨_, x9, rfl, ⟨a9, ns9, c9, low9, neg9, nn9, rfl, hw9, HRST.out⟩, HN9.out, ?_⟩
  repeat (first | exact HB6.out | refine Below.drew ?_ | refine Below.setCell ?_ (by simp) _)

set_option maxHeartbeats 1000000 in
theorem of_nan (b : Nat) (w : World) (h : isnan b = true) :
    Calls Tryd.prog 18 #[.float .f64 b] w fun e w' => e = .returned (.agg #[.slice none 0 0, .int .i64 0, .bool false, .bool true]) ∧ Below w.heap.size w w' := by
  have H1 : Hid (∀ w, Calls Tryd.prog 46 #[.float .f64 b] w fun e w' => e = .returned (.bool true) ∧ w' = w) := fun w => by have := isNaN_any b w; rwa [h] at this
  clear h
  go_enter Tryd.func18, Tryd.ntmps18
  go_wp2_with (first
    | (go_at_call 46; refine (H1.out _).mono ?_; rintro e w' ⟨rfl, rfl⟩))
  refine bodyPost_ret (v := .agg #[.slice none 0 0, .int .i64 0, .bool false, .bool true]) (by simp [results, Tryd.results18, go_sem]) rfl ⟨rfl, ?_⟩
  exact (Below.refl _ _).alloc (Nat.le_refl _) _

set_option maxHeartbeats 1000000 in
theorem of_inf (b : Nat) (w : World) (hb : b < 18446744073709551616) (h0 : isnan b = false) (h : isinf b = true) :
    Calls Tryd.prog 18 #[.float .f64 b] w fun e w' => e = .returned (.agg #[.slice none 0 0, .int .i64 0, .bool false, .bool true]) ∧ Below w.heap.size w w' := by
  have H1 : Hid (∀ w, Calls Tryd.prog 46 #[.float .f64 b] w fun e w' => e = .returned (.bool false) ∧ w' = w) := fun w => by have := isNaN_any b w; rwa [h0] at this
  have H2 : Hid (∀ w, Calls Tryd.prog 21 #[.float .f64 b, .int .i64 0] w fun e w' => e = .returned (.bool true) ∧ w' = w) := fun w => by have := isInf0_any b w hb; rwa [h] at this
  clear h h0 hb
  go_enter Tryd.func18, Tryd.ntmps18
  go_wp2_with (first
    | (go_at_call 46; refine (H1.out _).mono ?_; rintro e w' ⟨rfl, rfl⟩)
    | (go_at_call 21; refine (H2.out _).mono ?_; rintro e w' ⟨rfl, rfl⟩))
  refine bodyPost_ret (v := .agg #[.slice none 0 0, .int .i64 0, .bool false, .bool true]) (by simp [results, Tryd.results18, go_sem]) rfl ⟨rfl, ?_⟩
  exact (Below.refl _ _).alloc (Nat.le_refl _) _

theorem conv_norm (u : Nat) (hu : u < 4503599627370496) : floatToIntVal .f64 (1075 * 4503599627370496 + u) .u64 = some ((4503599627370496 + u : Nat) : Int) := by
  unfold floatToIntVal
  have h : FloatKind.f64.decode (1075 * 4503599627370496 + u) = .number false (4503599627370496 + u) 0 := read_norm 1075 u (by omega) (by omega) hu
  rw [h]
  have hn : 4503599627370496 + u ≤ 9007199254740992 := by omega
  generalize 4503599627370496 + u = n at *
  have h2 : Ieee.Datum.toInt .zero (.number false n 0) = some (n : Int) := by
    simp [Ieee.Datum.toInt, Ieee.Datum.integral, Ieee.Toward.cut, Ieee.signed]
  rw [h2]
  have h3 : IntKind.u64.min = 0 := by decide
  have h4 : IntKind.u64.max = 18446744073709551615 := by decide
  simp only [h3, h4]
  rw [if_pos ⟨by omega, by omega⟩]

theorem neg_flag {b : Nat} (h : Fin64 b) : (FloatKind.f64.format.order b 0 == some .lt) = (fneg b && !(frung b == 0)) := by
  show (Ieee.double.order b 0 == some .lt) = _
  rw [order_fin h (by unfold Fin64 frung; decide), fval_zero_iff.2 (by rfl : frung 0 = 0)]
  by_cases hr : frung b = 0
  · have := fval_zero_iff.2 hr
    rw [this, if_neg (by exact Rat.lt_irrefl), if_pos rfl]; simp [hr]
  · have h2 : fval b ≠ 0 := fun h => hr (fval_zero_iff.1 h)
    have h3 : (0 : Rat) ≤ (fmag (frung b) : Nat) * p2 (fpl (frung b)) := Rat.mul_nonneg Rat.natCast_nonneg (Rat.le_of_lt (p2_pos _))
    have h4 : (frung b == 0) = false := by rw [beq_eq_false_iff_ne]; exact hr
    rw [h4]
    cases hn : fneg b
    · have : ¬ fval b < 0 := by unfold fval sgn1; rw [hn]; simp only [Bool.false_eq_true, if_false]; grind
      rw [if_neg this]; simp only [Bool.false_and]; split <;> rfl
    · have : fval b < 0 := by
        have hm0 : ((fmag (frung b) : Nat) : Rat) * p2 (fpl (frung b)) ≠ 0 := fun h => h2 (by unfold fval; rw [h, Rat.mul_zero])
        unfold fval sgn1
        rw [hn]
        simp only [if_true]
        generalize ((fmag (frung b) : Nat) : Rat) * p2 (fpl (frung b)) = m at *
        clear h2
        grind
      rw [if_pos this]; rfl

/-- Of. -/
theorem of_fin (b : Nat) (w : World) (hT : Tab w) (hb : b < 18446744073709551616) (h : Fin64 b) :
    Calls Tryd.prog 18 #[.float .f64 b] w fun e w' => OpR w w' (fun x => x = some (fval b)) e := by
  have hr : frung b < 9218868437227405312 := h
  have hnan : ∀ w, Calls Tryd.prog 46 #[.float .f64 b] w fun e w' => e = .returned (.bool false) ∧ w' = w := fun w => by
    have := isNaN_any b w
    rwa [show isnan b = false by unfold isnan; simp; omega] at this
  have hinf : ∀ w, Calls Tryd.prog 21 #[.float .f64 b, .int .i64 0] w fun e w' => e = .returned (.bool false) ∧ w' = w := fun w => by
    have := isInf0_any b w hb
    rwa [show isinf b = false by unfold isinf; rw [beq_eq_false_iff_ne]; omega] at this
  have habs : ∀ w, Calls Tryd.prog 48 #[.float .f64 b] w fun e w' => e = .returned (.float .f64 (frung b)) ∧ w' = w := fun w => abs_any b w hb
  have hm : May (fval b) := (fval_bd h).may (by omega) (by omega)
  have fin : ∀ e w', NumR w w' (fval b) e → OpR w w' (fun x => x = some (fval b)) e := by
    rintro e w' ⟨v, x, he, hn, hN, hb⟩
    refine ⟨v, x, he, hn, ?_, hb⟩
    rcases hN with ⟨_, h⟩ | ⟨h, _⟩
    · exact h
    · exact absurd hm h
  by_cases h0 : frung b = 0
  · rw [h0] at habs
    have hc := of_core b 0 0 0 0 0 (-53) _ w hT hnan hinf habs (fun w => Frexp_of 0 0 0 w (fun w => frexp_zero w)) (fun w => Ldexp_of 0 0 53 w (fun w => ldexp_zero 53 w)) (by decide) (by omega) (by omega) (by omega) (by omega) rfl
    have e : ∀ g : Bool, sg g * (((0 : Nat) : Rat) * p2 (-53)) = fval b := by intro g; rw [fval_zero_iff.2 h0]; simp
    rw [e] at hc
    exact hc.mono fin
  · have hbd := bits53_bounds (frung b) h0
    have hpl : -1200 ≤ place53 (frung b) ∧ place53 (frung b) ≤ 1000 := by
      unfold place53; split
      · rename_i hs; have : Nat.log2 (frung b) < 52 := (Nat.log2_lt h0).2 hs; omega
      · omega
    have hld : ∀ w, Calls Tryd.prog 49 #[.float .f64 (1022 * 4503599627370496 + (bits53 (frung b) - 4503599627370496)), .int .i64 53] w fun e w' => e = .returned (.float .f64 (1075 * 4503599627370496 + (bits53 (frung b) - 4503599627370496))) ∧ w' = w := fun w =>
      Ldexp_of _ _ 53 w (fun w => ldexp_norm 1022 _ 1075 _ _ _ 53 w rfl rfl rfl (by omega) (by omega) (by omega) (by omega) (by omega) (by omega))
    have hcv := conv_norm (bits53 (frung b) - 4503599627370496) (by omega)
    rw [show 4503599627370496 + (bits53 (frung b) - 4503599627370496) = bits53 (frung b) by omega] at hcv
    have hc := of_core b (frung b) _ _ (bits53 (frung b)) (place53 (frung b) + 53) (place53 (frung b)) _ w hT hnan hinf habs (fun w => Frexp_of _ _ _ w (fun w => frexp_any (frung b) w h0 hr)) hld hcv (by omega) (by omega) (by omega) (by omega) (neg_flag h)
    have e : sg (fneg b && !(frung b == 0)) * ((bits53 (frung b) : Nat) * p2 (place53 (frung b)) : Rat) = fval b := by
      have h4 : (frung b == 0) = false := by rw [beq_eq_false_iff_ne]; exact h0
      rw [bits53_val _ h0, h4]
      unfold fval sgn1 sg
      simp
    rw [e] at hc
    exact hc.mono fin

theorem of_not (b : Nat) (w : World) (hb : b < 18446744073709551616) (h : ¬ Fin64 b) :
    Calls Tryd.prog 18 #[.float .f64 b] w fun e w' => OpR w w' (fun x => x = none) e := by
  have fin : ∀ e w', e = .returned (.agg #[.slice none 0 0, .int .i64 0, .bool false, .bool true]) ∧ Below w.heap.size w w' → OpR w w' (fun x => x = none) e := by
    rintro e w' ⟨rfl, hb⟩
    exact ⟨_, none, rfl, isNum_none w', rfl, hb⟩
  by_cases h1 : 9218868437227405312 < frung b
  · exact (of_nan b w (by unfold isnan; simp [h1])).mono fin
  · have h2 : frung b = 9218868437227405312 := by unfold Fin64 at h; omega
    exact (of_inf b w hb (by unfold isnan; simp [h2]) (by unfold isinf; simp [h2])).mono fin

end Go.Proofs.YtfnjlkhgjlihoaaDoor
