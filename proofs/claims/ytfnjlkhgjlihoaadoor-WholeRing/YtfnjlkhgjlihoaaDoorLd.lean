/- The first question of each law: is something reckoned? -/
import Derived.Test.YtfnjlkhgjlihoaaDoorLc
namespace Go.Proofs.YtfnjlkhgjlihoaaDoor
open Go.RowKit
attribute [local go_sem ↓] Go.wp_at_zero Go.wp_at_succ

theorem shiftX_may {k : Int} {p : Rat} {x : Option Rat} (h : ShiftX k (some p) x) (hm : May (p * p2 k)) : x = some (p * p2 k) := by
  rcases h with ⟨_, h1, h⟩ | ⟨h, _⟩
  · cases h1; exact norm_may h hm
  · cases h

theorem fin05 : Fin64 4602678819172646912 := by unfold Fin64 frung; decide
theorem fin025 : Fin64 4598175219545276416 := by unfold Fin64 frung; decide
theorem one_bd : Bd 64 0 ((1 : Int) : Rat) := int_bd 1 (by omega) (by omega)
theorem may100 : May n100 := (one_bd.shift 100).may (by omega) (by omega)
theorem may075 : May n075 := ((fval_bd fin05).add (fval_bd fin025)).may (by omega) (by omega)
theorem may15 : May n15 := ((int_bd 3 (by omega) (by omega)).mul (int_bd (-5) (by omega) (by omega))).may (by omega) (by omega)
theorem may101 : May n101 := (((one_bd.shift 100).mono (h' := 164) (l' := 0) (by omega) (by omega)).add (one_bd.mono (by omega) (by omega))).may (by omega) (by omega)

theorem same075 : (FloatKind.f64.format.order 4604930618986332160 4604930618986332160 == some .eq) = true := by decide
theorem same15 : (FloatKind.f64.format.order 13848005904210853888 13848005904210853888 == some .eq) = true := by decide
theorem same101 : (FloatKind.f64.format.order 5057542381537067008 5057542381537067008 == some .eq) = true := by decide

set_option maxHeartbeats 4000000 in
theorem works_any (w : World) (hT : Tab w) :
    Calls Tryd.prog 8 #[] w fun e w' => e = .returned (.bool true) ∧ Below w.heap.size w w' := by
  have HT : Hid (Tab w) := hT
  clear hT
  have s1 := same075
  have s2 := same15
  have s3 := same101
  go_enter Tryd.func8, Tryd.ntmps8
  go_wp2_with fail
  refine (of_fin 4602678819172646912 _ HT.out (by decide) fin05).mono ?_
  rintro e w1 ⟨v1, y1, rfl, hn1, hy1, hb1⟩
  obtain ⟨a1, n1, c1, low1, neg1, nn1, rfl, hn1⟩ := isNum_form hn1
  subst hy1
  go_wp2_with fail
  refine (of_fin 4598175219545276416 _ (HT.out.later hb1) (by decide) fin025).mono ?_
  rintro e w2 ⟨v2, y2, rfl, hn2, hy2, hb2⟩
  obtain ⟨a2, n2, c2, low2, neg2, nn2, rfl, hn2⟩ := isNum_form hn2
  subst hy2
  go_wp2_with fail
  refine (add_any _ _ _ _ _ (hn1.later hb2) hn2 (HT.out.later (thru hb1 hb2))).mono ?_
  rintro e w3 ⟨v3, y3, rfl, hn3, hy3, hb3⟩
  obtain ⟨a3, n3, c3, low3, neg3, nn3, rfl, hn3⟩ := isNum_form hn3
  have e3 : y3 = some n075 := op2_may hy3 may075
  subst e3
  have HB3 : Hid (Below w.heap.size w w3) := thru (thru hb1 hb2) hb3
  have HN3 : Hid (IsNum w3 (.agg #[.slice a3 n3 c3, .int .i64 low3, .bool neg3, .bool nn3]) (some n075)) := hn3
  clear hn1 hn2 hy3 hn3 hb1 hb2 hb3
  have HA : Hid (Below w3.heap.size w3 (w3.alloc (.cells #[.slice a3 n3 c3, .int .i64 low3, .bool neg3, .bool nn3] 27))) := (Below.refl _ _).alloc (Nat.le_refl _) _
  go_wp2_with fail
  refine (int_any 3 _ (HT.out.later (thru HB3.out HA.out)) (by omega) (by omega)).mono ?_
  rintro e w4 ⟨v4, y4, rfl, hn4, hy4, hb4⟩
  obtain ⟨a4, n4, c4, low4, neg4, nn4, rfl, hn4⟩ := isNum_form hn4
  subst hy4
  go_wp2_with fail
  refine (int_any (-5) _ (HT.out.later (thru (thru HB3.out HA.out) hb4)) (by omega) (by omega)).mono ?_
  rintro e w5 ⟨v5, y5, rfl, hn5, hy5, hb5⟩
  obtain ⟨a5, n5, c5, low5, neg5, nn5, rfl, hn5⟩ := isNum_form hn5
  subst hy5
  go_wp2_with fail
  refine (mul_any _ _ _ _ _ (hn4.later hb5) hn5 (HT.out.later (thru (thru (thru HB3.out HA.out) hb4) hb5))).mono ?_
  rintro e w6 ⟨v6, y6, rfl, hn6, hy6, hb6⟩
  obtain ⟨a6, n6, c6, low6, neg6, nn6, rfl, hn6⟩ := isNum_form hn6
  have e6 : y6 = some n15 := op2_may hy6 may15
  subst e6
  have hD := thru (thru hb4 hb5) hb6
  have q30 : w6.cell? ⟨w3.heap.size, 0, none⟩ = some (.slice a3 n3 c3) := cell_later hD (by go_simp)
  have q31 : w6.cell? ⟨w3.heap.size, 1, none⟩ = some (.int .i64 low3) := cell_later hD (by go_simp)
  have q32 : w6.cell? ⟨w3.heap.size, 2, none⟩ = some (.bool neg3) := cell_later hD (by go_simp)
  have q33 : w6.cell? ⟨w3.heap.size, 3, none⟩ = some (.bool nn3) := cell_later hD (by go_simp)
  have hs36 : w3.heap.size < w6.heap.size := by have := hD.size; simp at this; omega
  have HB6 : Hid (Below w.heap.size w w6) := thru (thru HB3.out HA.out) hD
  have HN3 : Hid (IsNum w6 (.agg #[.slice a3 n3 c3, .int .i64 low3, .bool neg3, .bool nn3]) (some n075)) := HN3.out.later (thru HA.out hD)
  have HN6 : Hid (IsNum w6 (.agg #[.slice a6 n6 c6, .int .i64 low6, .bool neg6, .bool nn6]) (some n15)) := hn6
  clear hn4 hn5 hy6 hn6 hb4 hb5 hb6 hD HA HB3
  have HA : Hid (Below w6.heap.size w6 (w6.alloc (.cells #[.slice a6 n6 c6, .int .i64 low6, .bool neg6, .bool nn6] 27))) := (Below.refl _ _).alloc (Nat.le_refl _) _
  go_wp2_with fail
  refine (int_any 1 _ (HT.out.later (thru HB6.out HA.out)) (by omega) (by omega)).mono ?_
  rintro e w7 ⟨v7, y7, rfl, hn7, hy7, hb7⟩
  obtain ⟨a7, n7, c7, low7, neg7, nn7, rfl, hn7⟩ := isNum_form hn7
  subst hy7
  go_wp2_with fail
  refine (shift_any _ _ 100 _ hn7).mono ?_
  rintro e w8 ⟨v8, y8, rfl, hn8, hy8, hb8⟩
  obtain ⟨a8, n8, c8, low8, neg8, nn8, rfl, hn8⟩ := isNum_form hn8
  have e8 : y8 = some n100 := shiftX_may hy8 may100
  subst e8
  go_wp2_with fail
  refine (int_any 1 _ (HT.out.later (thru (thru (thru HB6.out HA.out) hb7) hb8)) (by omega) (by omega)).mono ?_
  rintro e w9 ⟨v9, y9, rfl, hn9, hy9, hb9⟩
  obtain ⟨a9, n9, c9, low9, neg9, nn9, rfl, hn9⟩ := isNum_form hn9
  subst hy9
  go_wp2_with fail
  refine (add_any _ _ _ _ _ (hn8.later hb9) hn9 (HT.out.later (thru (thru (thru (thru HB6.out HA.out) hb7) hb8) hb9))).mono ?_
  rintro e w10 ⟨v10, y10, rfl, hn10, hy10, hb10⟩
  obtain ⟨a10, n10, c10, low10, neg10, nn10, rfl, hn10⟩ := isNum_form hn10
  have e10 : y10 = some n101 := op2_may hy10 may101
  subst e10
  have hD := thru (thru (thru hb7 hb8) hb9) hb10
  have hE := thru HA.out hD
  have p30 : w10.cell? ⟨w3.heap.size, 0, none⟩ = some (.slice a3 n3 c3) := cell_later hE q30
  have p31 : w10.cell? ⟨w3.heap.size, 1, none⟩ = some (.int .i64 low3) := cell_later hE q31
  have p32 : w10.cell? ⟨w3.heap.size, 2, none⟩ = some (.bool neg3) := cell_later hE q32
  have p33 : w10.cell? ⟨w3.heap.size, 3, none⟩ = some (.bool nn3) := cell_later hE q33
  have p60 : w10.cell? ⟨w6.heap.size, 0, none⟩ = some (.slice a6 n6 c6) := cell_later hD (by go_simp)
  have p61 : w10.cell? ⟨w6.heap.size, 1, none⟩ = some (.int .i64 low6) := cell_later hD (by go_simp)
  have p62 : w10.cell? ⟨w6.heap.size, 2, none⟩ = some (.bool neg6) := cell_later hD (by go_simp)
  have p63 : w10.cell? ⟨w6.heap.size, 3, none⟩ = some (.bool nn6) := cell_later hD (by go_simp)
  have hs6 : w6.heap.size < w10.heap.size := by have := hD.size; simp at this; omega
  have hs3 : w3.heap.size < w10.heap.size := by omega
  have HB10 : Hid (Below w.heap.size w w10) := thru HB6.out hE
  have HN3 : Hid (IsNum w10 (.agg #[.slice a3 n3 c3, .int .i64 low3, .bool neg3, .bool nn3]) (some n075)) := HN3.out.later hE
  have HN6 : Hid (IsNum w10 (.agg #[.slice a6 n6 c6, .int .i64 low6, .bool neg6, .bool nn6]) (some n15)) := HN6.out.later hE
  have HN10 : Hid (IsNum w10 (.agg #[.slice a10 n10 c10, .int .i64 low10, .bool neg10, .bool nn10]) (some n101)) := hn10
  clear hn7 hn8 hn9 hy8 hy10 hn10 hb7 hb8 hb9 hb10 hD hE HA HB6 q30 q31 q32 q33
  go_wp2_with fail
  have hC : Below w10.heap.size w10 (w10.alloc (.cells #[.slice a10 n10 c10, .int .i64 low10, .bool neg10, .bool nn10] 27)) := (Below.refl _ _).alloc (Nat.le_refl _) _
  have z100 : (w10.alloc (.cells #[.slice a10 n10 c10, .int .i64 low10, .bool neg10, .bool nn10] 27)).cell? ⟨w10.heap.size, 0, none⟩ = some (.slice a10 n10 c10) := by go_simp
  have z101 : (w10.alloc (.cells #[.slice a10 n10 c10, .int .i64 low10, .bool neg10, .bool nn10] 27)).cell? ⟨w10.heap.size, 1, none⟩ = some (.int .i64 low10) := by go_simp
  have z102 : (w10.alloc (.cells #[.slice a10 n10 c10, .int .i64 low10, .bool neg10, .bool nn10] 27)).cell? ⟨w10.heap.size, 2, none⟩ = some (.bool neg10) := by go_simp
  have z103 : (w10.alloc (.cells #[.slice a10 n10 c10, .int .i64 low10, .bool neg10, .bool nn10] 27)).cell? ⟨w10.heap.size, 3, none⟩ = some (.bool nn10) := by go_simp
  generalize (w10.alloc (.cells #[.slice a10 n10 c10, .int .i64 low10, .bool neg10, .bool nn10] 27)) = wc at *
  have z30 : wc.cell? ⟨w3.heap.size, 0, none⟩ = some (.slice a3 n3 c3) := cell_later hC p30
  have z31 : wc.cell? ⟨w3.heap.size, 1, none⟩ = some (.int .i64 low3) := cell_later hC p31
  have z32 : wc.cell? ⟨w3.heap.size, 2, none⟩ = some (.bool neg3) := cell_later hC p32
  have z33 : wc.cell? ⟨w3.heap.size, 3, none⟩ = some (.bool nn3) := cell_later hC p33
  have z60 : wc.cell? ⟨w6.heap.size, 0, none⟩ = some (.slice a6 n6 c6) := cell_later hC p60
  have z61 : wc.cell? ⟨w6.heap.size, 1, none⟩ = some (.int .i64 low6) := cell_later hC p61
  have z62 : wc.cell? ⟨w6.heap.size, 2, none⟩ = some (.bool neg6) := cell_later hC p62
  have z63 : wc.cell? ⟨w6.heap.size, 3, none⟩ = some (.bool nn6) := cell_later hC p63
  have HBC : Hid (Below w.heap.size w wc) := thru HB10.out hC
  have HN3 : Hid (IsNum wc (.agg #[.slice a3 n3 c3, .int .i64 low3, .bool neg3, .bool nn3]) (some n075)) := HN3.out.later hC
  have HN6 : Hid (IsNum wc (.agg #[.slice a6 n6 c6, .int .i64 low6, .bool neg6, .bool nn6]) (some n15)) := HN6.out.later hC
  have HN10 : Hid (IsNum wc (.agg #[.slice a10 n10 c10, .int .i64 low10, .bool neg10, .bool nn10]) (some n101)) := HN10.out.later hC
  clear hC p30 p31 p32 p33 p60 p61 p62 p63 HB10
  go_region_held3 (fun W => W.cell? ⟨w3.heap.size, 0, none⟩ = some (.slice a3 n3 c3) ∧ W.cell? ⟨w3.heap.size, 1, none⟩ = some (.int .i64 low3) ∧ W.cell? ⟨w3.heap.size, 2, none⟩ = some (.bool neg3) ∧ W.cell? ⟨w3.heap.size, 3, none⟩ = some (.bool nn3) ∧ W.cell? ⟨w6.heap.size, 0, none⟩ = some (.slice a6 n6 c6) ∧ W.cell? ⟨w6.heap.size, 1, none⟩ = some (.int .i64 low6) ∧ W.cell? ⟨w6.heap.size, 2, none⟩ = some (.bool neg6) ∧ W.cell? ⟨w6.heap.size, 3, none⟩ = some (.bool nn6) ∧ W.cell? ⟨w10.heap.size, 0, none⟩ = some (.slice a10 n10 c10) ∧ W.cell? ⟨w10.heap.size, 1, none⟩ = some (.int .i64 low10) ∧ W.cell? ⟨w10.heap.size, 2, none⟩ = some (.bool neg10) ∧ W.cell? ⟨w10.heap.size, 3, none⟩ = some (.bool nn10) ∧ Below wc.heap.size wc W)
    (first
      | assumption
      | exact ⟨z30, z31, z32, z33, z60, z61, z62, z63, z100, z101, z102, z103, (Below.refl _ _).drew⟩
      | exact keep12 (by assumption) (by assumption))
    (first
      | (go_at_call_of 13 low3; refine (float_any _ _ _ (HN3.out.later (keep12_bel (by assumption)))).mono ?_; rintro e wx ⟨⟨f, rfl, hf⟩, hbx⟩; have hf := float075 hf; subst hf)
      | (go_at_call_of 23 low3; refine (high_any _ _ _ (HN3.out.later (keep12_bel (by assumption)))).mono ?_; rintro e wx ⟨⟨f, rfl, hf⟩, hbx⟩; have hf := high075 hf; subst hf)
      | (go_at_call_of 24 low3; refine (low_any _ _ _ (HN3.out.later (keep12_bel (by assumption)))).mono ?_; rintro e wx ⟨⟨f, rfl, hf⟩, hbx⟩; have hf := low075 hf; subst hf)
      | (go_at_call_of 13 low6; refine (float_any _ _ _ (HN6.out.later (keep12_bel (by assumption)))).mono ?_; rintro e wx ⟨⟨f, rfl, hf⟩, hbx⟩; have hf := float15 hf; subst hf)
      | (go_at_call 12; refine (sign_any _ _ _ (HN6.out.later (keep12_bel (by assumption)))).mono ?_; rw [show sgnR ((some n15).getD 0) = -1 from sgn15]; rintro e wx ⟨rfl, hbx⟩)
      | (go_at_call_of 13 low10; refine (float_any _ _ _ (HN10.out.later (keep12_bel (by assumption)))).mono ?_; rintro e wx ⟨⟨f, rfl, hf⟩, hbx⟩; have hf := float101 hf; subst hf)
      | (go_at_call 9; refine (int_any 1 _ (HT.out.later (thru HBC.out (keep12_bel (by assumption)))) (by omega) (by omega)).mono ?_; rintro e w21 ⟨v21, y21, rfl, hn21, hy21, hb21⟩; obtain ⟨a21, n21, c21, low21, neg21, nn21, rfl, hn21⟩ := isNum_form hn21; subst hy21)
      | (go_at_call 10; refine (shift_any _ _ 100 _ hn21).mono ?_; rintro e w22 ⟨v22, y22, rfl, hn22, hy22, hb22⟩; obtain ⟨a22, n22, c22, low22, neg22, nn22, rfl, hn22⟩ := isNum_form hn22; have e22 : y22 = some n100 := shiftX_may hy22 may100; subst e22)
      | (go_at_call 16; refine (cmp_any _ _ _ _ _ (HN10.out.later (keep12_bel (by assumption))) hn22).mono ?_; rw [cmp101]; rintro e w23 ⟨rfl, hb23⟩)
      | (go_at_call_of 24 low10; refine (low_any _ _ _ (HN10.out.later (keep12_bel (by assumption)))).mono ?_; rintro e wx ⟨⟨f, rfl, hf⟩, hbx⟩; have hf := low101 hf; subst hf))
  go_wp2
  go_ret
  exact ⟨rfl, thru HBC.out (keep12_bel (by assumption))⟩

end Go.Proofs.YtfnjlkhgjlihoaaDoor
