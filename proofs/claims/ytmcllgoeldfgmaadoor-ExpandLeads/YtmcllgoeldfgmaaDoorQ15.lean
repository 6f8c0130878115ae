/- Own texts, put together: Lc Ld Lp Pl Lf. -/
import Derived.Test.YtmcllgoeldfgmaaDoorQ14
/- The numbers of the first question: what is reckoned. -/
namespace Go.Proofs.YtmcllgoeldfgmaaDoor

theorem floatOf_fun {q : Rat} {f g : Nat} (h1 : FloatOf q f) (h2 : FloatOf q g) : f = g := by
  rcases h1 with ⟨a, h1⟩ | ⟨a, r, h1, rfl⟩ <;> rcases h2 with ⟨b, h2⟩ | ⟨b, s, h2, rfl⟩
  · exact near_fun h1 h2
  · grind
  · grind
  · rw [near_fun h1 h2]

theorem highOf_fun {q : Rat} {h g : Int} (h1 : HighOf q h) (h2 : HighOf q g) : h = g := by
  have key : ∀ {x : Rat} {a b : Int}, p2 a ≤ x → x < p2 (b + 1) → a ≤ b := fun {x a b} h1 h2 => by
    have := p2_lt_iff.1 (lt_of_le_lt h1 h2); omega
  rcases h1 with ⟨a, h1⟩ | ⟨a, h1⟩ <;> rcases h2 with ⟨b, h2⟩ | ⟨b, h2⟩
  · rw [h1, h2]
  · exact absurd a b
  · exact absurd b a
  · have n1 := p2_pos h
    have n2 := p2_pos g
    rcases h1 with ⟨c, d⟩ | ⟨c, d⟩ <;> rcases h2 with ⟨c', d'⟩ | ⟨c', d'⟩
    · have := key c d'; have := key c' d; omega
    · grind
    · grind
    · have := key c d'; have := key c' d; omega

theorem low_le {m n : Int} {l g : Int} (h : ((2 * m + 1 : Int) : Rat) * p2 l = ((2 * n + 1 : Int) : Rat) * p2 g) : l ≤ g := by
  rcases Int.lt_or_le g l with h1 | h1
  · obtain ⟨j, hj⟩ : ∃ j : Nat, l = g + ((j + 1 : Nat) : Int) := ⟨(l - g - 1).toNat, by omega⟩
    rw [hj, p2_add, p2_nat] at h
    have hg := p2_ne g
    have e : ((2 * m + 1 : Int) : Rat) * ((2 ^ (j + 1) : Nat) : Rat) = ((2 * n + 1 : Int) : Rat) := by grind
    have e2 : (((2 * m + 1) * ((2 ^ (j + 1) : Nat) : Int) : Int) : Rat) = ((2 * n + 1 : Int) : Rat) := by rw [Rat.intCast_mul]; exact e
    have e3 := Rat.intCast_inj.1 e2
    rw [Nat.pow_succ, Int.natCast_mul] at e3
    generalize ((2 ^ j : Nat) : Int) = P at e3
    have e4 : (2 * m + 1) * (P * ((2 : Nat) : Int)) = 2 * ((2 * m + 1) * P) := by grind
    omega
  · exact h1

theorem lowOf_fun {q : Rat} {l g : Int} (h1 : LowOf q l) (h2 : LowOf q g) : l = g := by
  have nz : ∀ {m : Int} {l : Int}, ((2 * m + 1 : Int) : Rat) * p2 l ≠ 0 := fun {m l} h => by
    have hp := p2_ne l
    have e : ((2 * m + 1 : Int) : Rat) = ((0 : Int) : Rat) := by
      rw [show ((0 : Int) : Rat) = 0 from rfl]; grind
    have := Rat.intCast_inj.1 e
    omega
  rcases h1 with ⟨a, h1⟩ | ⟨m, h1⟩ <;> rcases h2 with ⟨b, h2⟩ | ⟨n, h2⟩
  · rw [h1, h2]
  · exact absurd (h2.symm.trans a) nz
  · exact absurd (h1.symm.trans b) nz
  · exact Int.le_antisymm (low_le (h1.symm.trans h2)) (low_le (h2.symm.trans h1))

def n05 : Rat := fval 4602678819172646912
def n025 : Rat := fval 4598175219545276416
def n075 : Rat := n05 + n025
def n100 : Rat := ((1 : Int) : Rat) * p2 100
def n101 : Rat := n100 + ((1 : Int) : Rat)
def n15 : Rat := ((3 : Int) : Rat) * ((-5 : Int) : Rat)

theorem p2m (e : Int) (n : Nat) (h : -e = (n : Int)) : p2 e = 1 / ((2 ^ n : Nat) : Rat) := by rw [p2_inv, h, p2_nat]

theorem n05_eq : n05 = 1 / 2 := by
  have h : n05 = ((fmag 4602678819172646912 : Nat) : Rat) * p2 (fpl 4602678819172646912) := (fval_pos_lt (by omega)).1
  rw [h, show fmag 4602678819172646912 = 4503599627370496 by decide, show fpl 4602678819172646912 = -53 by decide +kernel, p2m (-53) 53 rfl]
  decide +kernel

theorem n025_eq : n025 = 1 / 4 := by
  have h : n025 = ((fmag 4598175219545276416 : Nat) : Rat) * p2 (fpl 4598175219545276416) := (fval_pos_lt (by omega)).1
  rw [h, show fmag 4598175219545276416 = 4503599627370496 by decide, show fpl 4598175219545276416 = -54 by decide +kernel, p2m (-54) 54 rfl]
  decide +kernel

theorem n075_eq : n075 = 3 / 4 := by unfold n075; rw [n05_eq, n025_eq]; decide +kernel
theorem n100_eq : n100 = ((2 ^ 100 : Nat) : Rat) := by
  have h : p2 100 = ((2 ^ 100 : Nat) : Rat) := p2_nat 100
  unfold n100; rw [h]; decide +kernel
theorem n101_eq : n101 = ((2 ^ 100 + 1 : Nat) : Rat) := by unfold n101; rw [n100_eq]; decide +kernel
theorem n15_eq : n15 = -15 := by unfold n15; decide +kernel

theorem float075 {f : Nat} (h : FloatOf n075 f) : f = 4604930618986332160 := by
  refine floatOf_fun h (Or.inl ⟨by rw [n075_eq]; decide +kernel, ?_⟩)
  exact near_norm 1021 6755399441055744 _ (by omega) (by omega) (by omega) (by rw [n075_eq, p2m (((1021 : Nat) : Int) - 1074) 53 rfl]; decide +kernel)

theorem float15 {f : Nat} (h : FloatOf n15 f) : f = 13848005904210853888 := by
  refine floatOf_fun h (Or.inr ⟨by rw [n15_eq]; decide +kernel, 4624633867356078080, ?_, by decide +kernel⟩)
  exact near_norm 1025 8444249301319680 _ (by omega) (by omega) (by omega) (by rw [n15_eq, p2m (((1025 : Nat) : Int) - 1074) 49 rfl]; decide +kernel)

theorem float101 {f : Nat} (h : FloatOf n101 f) : f = 5057542381537067008 := by
  have e : p2 (((1122 : Nat) : Int) - 1075) = ((2 ^ 47 : Nat) : Rat) := p2_nat 47
  refine floatOf_fun h (Or.inl ⟨by rw [n101_eq]; decide +kernel, Or.inr ⟨by rw [n101_eq]; decide +kernel, 1122, 4503599627370496, ⟨Or.inr ?_, ?_⟩, ⟨?_, ?_, fun h => ?_, fun h => ?_⟩, by decide +kernel⟩⟩)
  all_goals (try rw [n101_eq, e] at h)
  all_goals (try rw [n101_eq, e])
  all_goals decide +kernel

theorem high075 {h : Int} (hh : HighOf n075 h) : h = -1 := by
  refine highOf_fun hh (Or.inr ⟨by rw [n075_eq]; decide +kernel, Or.inl ?_⟩)
  rw [n075_eq, p2m (-1) 1 rfl, show (-1 + 1 : Int) = 0 from rfl, p2_zero]
  decide +kernel

theorem low075 {h : Int} (hh : LowOf n075 h) : h = -2 := by
  refine lowOf_fun hh (Or.inr ⟨1, ?_⟩)
  rw [n075_eq, p2m (-2) 2 rfl]
  decide +kernel

theorem low101 {h : Int} (hh : LowOf n101 h) : h = 0 := by
  refine lowOf_fun hh (Or.inr ⟨2 ^ 99, ?_⟩)
  rw [n101_eq, p2_zero]
  decide +kernel

theorem sgn15 : sgnR n15 = -1 := by rw [n15_eq]; decide +kernel
theorem cmp101 : CmpX (some n101) (some n100) = 1 := by
  show cmpR n101 n100 = 1
  rw [n101_eq, n100_eq]; decide +kernel

end Go.Proofs.YtmcllgoeldfgmaaDoor

/- The first question of each law: is something reckoned? -/
namespace Go.Proofs.YtmcllgoeldfgmaaDoor
open Go.RowKit
attribute [local go_sem ↓] Go.wp_at_zero Go.wp_at_succ

theorem shiftX_may {k : Int} {p : Rat} {x : Option Rat} (h : ShiftX k (some p) x) (hm : May (p * p2 k)) : x = some (p * p2 k) := by
  rcases h with ⟨_, h1, h⟩ | ⟨h, _⟩
  · cases h1; exact norm_may h hm
  · cases h

theorem fin05 : Fin64 4602678819172646912 := by unfold Fin64 frung; decide
theorem fin025 : Fin64 4598175219545276416 := by unfold Fin64 frung; decide
theorem one_bd : Bd 64 0 ((1 : Int) : Rat) := int_bd 1 (by omega) (by omega)
theorem may100 : May n100 := (one_bd.shift 100).may (by omega) (by omega)
theorem may075 : May n075 := ((fval_bd fin05).add (fval_bd fin025)).may (by omega) (by omega)
theorem may15 : May n15 := ((int_bd 3 (by omega) (by omega)).mul (int_bd (-5) (by omega) (by omega))).may (by omega) (by omega)
theorem may101 : May n101 := (((one_bd.shift 100).mono (h' := 164) (l' := 0) (by omega) (by omega)).add (one_bd.mono (by omega) (by omega))).may (by omega) (by omega)

theorem same075 : (FloatKind.f64.format.order 4604930618986332160 4604930618986332160 == some .eq) = true := by decide
theorem same15 : (FloatKind.f64.format.order 13848005904210853888 13848005904210853888 == some .eq) = true := by decide
theorem same101 : (FloatKind.f64.format.order 5057542381537067008 5057542381537067008 == some .eq) = true := by decide

set_option maxHeartbeats 4000000 in
theorem works_any (w : World) (hT : Tab w) :
    Calls Tryd.prog 8 #[] w fun e w' => e = .returned (.bool true) ∧ Below w.heap.size w w' := by
  have HT : Hid (Tab w) := hT
  clear hT
  have s1 := same075
  have s2 := same15
  have s3 := same101
  go_enter Tryd.func8, Tryd.ntmps8
  go_wp2_with fail
  refine (of_fin 4602678819172646912 _ HT.out (by decide) fin05).mono ?_
  rintro e w1 ⟨v1, y1, rfl, hn1, hy1, hb1⟩
  obtain ⟨a1, n1, c1, low1, neg1, nn1, rfl, hn1⟩ := isNum_form hn1
  subst hy1
  go_wp2_with fail
  refine (of_fin 4598175219545276416 _ (HT.out.later hb1) (by decide) fin025).mono ?_
  rintro e w2 ⟨v2, y2, rfl, hn2, hy2, hb2⟩
  obtain ⟨a2, n2, c2, low2, neg2, nn2, rfl, hn2⟩ := isNum_form hn2
  subst hy2
  go_wp2_with fail
  refine (add_any _ _ _ _ _ (hn1.later hb2) hn2 (HT.out.later (thru hb1 hb2))).mono ?_
  rintro e w3 ⟨v3, y3, rfl, hn3, hy3, hb3⟩
  obtain ⟨a3, n3, c3, low3, neg3, nn3, rfl, hn3⟩ := isNum_form hn3
  have e3 : y3 = some n075 := op2_may hy3 may075
  subst e3
  have HB3 : Hid (Below w.heap.size w w3) := thru (thru hb1 hb2) hb3
  have HN3 : Hid (IsNum w3 (.agg #[.slice a3 n3 c3, .int .i64 low3, .bool neg3, .bool nn3]) (some n075)) := hn3
  clear hn1 hn2 hy3 hn3 hb1 hb2 hb3
  have HA : Hid (Below w3.heap.size w3 (w3.alloc (.cells #[.slice a3 n3 c3, .int .i64 low3, .bool neg3, .bool nn3] 27))) := (Below.refl _ _).alloc (Nat.le_refl _) _
  go_wp2_with fail
  refine (int_any 3 _ (HT.out.later (thru HB3.out HA.out)) (by omega) (by omega)).mono ?_
  rintro e w4 ⟨v4, y4, rfl, hn4, hy4, hb4⟩
  obtain ⟨a4, n4, c4, low4, neg4, nn4, rfl, hn4⟩ := isNum_form hn4
  subst hy4
  go_wp2_with fail
  refine (int_any (-5) _ (HT.out.later (thru (thru HB3.out HA.out) hb4)) (by omega) (by omega)).mono ?_
  rintro e w5 ⟨v5, y5, rfl, hn5, hy5, hb5⟩
  obtain ⟨a5, n5, c5, low5, neg5, nn5, rfl, hn5⟩ := isNum_form hn5
  subst hy5
  go_wp2_with fail
  refine (mul_any _ _ _ _ _ (hn4.later hb5) hn5 (HT.out.later (thru (thru (thru HB3.out HA.out) hb4) hb5))).mono ?_
  rintro e w6 ⟨v6, y6, rfl, hn6, hy6, hb6⟩
  obtain ⟨a6, n6, c6, low6, neg6, nn6, rfl, hn6⟩ := isNum_form hn6
  have e6 : y6 = some n15 := op2_may hy6 may15
  subst e6
  have hD := thru (thru hb4 hb5) hb6
  have q30 : w6.cell? ⟨w3.heap.size, 0, none⟩ = some (.slice a3 n3 c3) := cell_later hD (by go_simp)
  have q31 : w6.cell? ⟨w3.heap.size, 1, none⟩ = some (.int .i64 low3) := cell_later hD (by go_simp)
  have q32 : w6.cell? ⟨w3.heap.size, 2, none⟩ = some (.bool neg3) := cell_later hD (by go_simp)
  have q33 : w6.cell? ⟨w3.heap.size, 3, none⟩ = some (.bool nn3) := cell_later hD (by go_simp)
  have hs36 : w3.heap.size < w6.heap.size := by have := hD.size; simp at this; omega
  have HB6 : Hid (Below w.heap.size w w6) := thru (thru HB3.out HA.out) hD
  have HN3 : Hid (IsNum w6 (.agg #[.slice a3 n3 c3, .int .i64 low3, .bool neg3, .bool nn3]) (some n075)) := HN3.out.later (thru HA.out hD)
  have HN6 : Hid (IsNum w6 (.agg #[.slice a6 n6 c6, .int .i64 low6, .bool neg6, .bool nn6]) (some n15)) := hn6
  clear hn4 hn5 hy6 hn6 hb4 hb5 hb6 hD HA HB3
  have HA : Hid (Below w6.heap.size w6 (w6.alloc (.cells #[.slice a6 n6 c6, .int .i64 low6, .bool neg6, .bool nn6] 27))) := (Below.refl _ _).alloc (Nat.le_refl _) _
  go_wp2_with fail
  refine (int_any 1 _ (HT.out.later (thru HB6.out HA.out)) (by omega) (by omega)).mono ?_
  rintro e w7 ⟨v7, y7, rfl, hn7, hy7, hb7⟩
  obtain ⟨a7, n7, c7, low7, neg7, nn7, rfl, hn7⟩ := isNum_form hn7
  subst hy7
  go_wp2_with fail
  refine (shift_any _ _ 100 _ hn7).mono ?_
  rintro e w8 ⟨v8, y8, rfl, hn8, hy8, hb8⟩
  obtain ⟨a8, n8, c8, low8, neg8, nn8, rfl, hn8⟩ := isNum_form hn8
  have e8 : y8 = some n100 := shiftX_may hy8 may100
  subst e8
  go_wp2_with fail
  refine (int_any 1 _ (HT.out.later (thru (thru (thru HB6.out HA.out) hb7) hb8)) (by omega) (by omega)).mono ?_
  rintro e w9 ⟨v9, y9, rfl, hn9, hy9, hb9⟩
  obtain ⟨a9, n9, c9, low9, neg9, nn9, rfl, hn9⟩ := isNum_form hn9
  subst hy9
  go_wp2_with fail
  refine (add_any _ _ _ _ _ (hn8.later hb9) hn9 (HT.out.later (thru (thru (thru (thru HB6.out HA.out) hb7) hb8) hb9))).mono ?_
  rintro e w10 ⟨v10, y10, rfl, hn10, hy10, hb10⟩
  obtain ⟨a10, n10, c10, low10, neg10, nn10, rfl, hn10⟩ := isNum_form hn10
  have e10 : y10 = some n101 := op2_may hy10 may101
  subst e10
  have hD := thru (thru (thru hb7 hb8) hb9) hb10
  have hE := thru HA.out hD
  have p30 : w10.cell? ⟨w3.heap.size, 0, none⟩ = some (.slice a3 n3 c3) := cell_later hE q30
  have p31 : w10.cell? ⟨w3.heap.size, 1, none⟩ = some (.int .i64 low3) := cell_later hE q31
  have p32 : w10.cell? ⟨w3.heap.size, 2, none⟩ = some (.bool neg3) := cell_later hE q32
  have p33 : w10.cell? ⟨w3.heap.size, 3, none⟩ = some (.bool nn3) := cell_later hE q33
  have p60 : w10.cell? ⟨w6.heap.size, 0, none⟩ = some (.slice a6 n6 c6) := cell_later hD (by go_simp)
  have p61 : w10.cell? ⟨w6.heap.size, 1, none⟩ = some (.int .i64 low6) := cell_later hD (by go_simp)
  have p62 : w10.cell? ⟨w6.heap.size, 2, none⟩ = some (.bool neg6) := cell_later hD (by go_simp)
  have p63 : w10.cell? ⟨w6.heap.size, 3, none⟩ = some (.bool nn6) := cell_later hD (by go_simp)
  have hs6 : w6.heap.size < w10.heap.size := by have := hD.size; simp at this; omega
  have hs3 : w3.heap.size < w10.heap.size := by omega
  have HB10 : Hid (Below w.heap.size w w10) := thru HB6.out hE
  have HN3 : Hid (IsNum w10 (.agg #[.slice a3 n3 c3, .int .i64 low3, .bool neg3, .bool nn3]) (some n075)) := HN3.out.later hE
  have HN6 : Hid (IsNum w10 (.agg #[.slice a6 n6 c6, .int .i64 low6, .bool neg6, .bool nn6]) (some n15)) := HN6.out.later hE
  have HN10 : Hid (IsNum w10 (.agg #[.slice a10 n10 c10, .int .i64 low10, .bool neg10, .bool nn10]) (some n101)) := hn10
  clear hn7 hn8 hn9 hy8 hy10 hn10 hb7 hb8 hb9 hb10 hD hE HA HB6 q30 q31 q32 q33
  go_wp2_with fail
  have hC : Below w10.heap.size w10 (w10.alloc (.cells #[.slice a10 n10 c10, .int .i64 low10, .bool neg10, .bool nn10] 27)) := (Below.refl _ _).alloc (Nat.le_refl _) _
  have z100 : (w10.alloc (.cells #[.slice a10 n10 c10, .int .i64 low10, .bool neg10, .bool nn10] 27)).cell? ⟨w10.heap.size, 0, none⟩ = some (.slice a10 n10 c10) := by go_simp
  have z101 : (w10.alloc (.cells #[.slice a10 n10 c10, .int .i64 low10, .bool neg10, .bool nn10] 27)).cell? ⟨w10.heap.size, 1, none⟩ = some (.int .i64 low10) := by go_simp
  have z102 : (w10.alloc (.cells #[.slice a10 n10 c10, .int .i64 low10, .bool neg10, .bool nn10] 27)).cell? ⟨w10.heap.size, 2, none⟩ = some (.bool neg10) := by go_simp
  have z103 : (w10.alloc (.cells #[.slice a10 n10 c10, .int .i64 low10, .bool neg10, .bool nn10] 27)).cell? ⟨w10.heap.size, 3, none⟩ = some (.bool nn10) := by go_simp
  generalize (w10.alloc (.cells #[.slice a10 n10 c10, .int .i64 low10, .bool neg10, .bool nn10] 27)) = wc at *
  have z30 : wc.cell? ⟨w3.heap.size, 0, none⟩ = some (.slice a3 n3 c3) := cell_later hC p30
  have z31 : wc.cell? ⟨w3.heap.size, 1, none⟩ = some (.int .i64 low3) := cell_later hC p31
  have z32 : wc.cell? ⟨w3.heap.size, 2, none⟩ = some (.bool neg3) := cell_later hC p32
  have z33 : wc.cell? ⟨w3.heap.size, 3, none⟩ = some (.bool nn3) := cell_later hC p33
  have z60 : wc.cell? ⟨w6.heap.size, 0, none⟩ = some (.slice a6 n6 c6) := cell_later hC p60
  have z61 : wc.cell? ⟨w6.heap.size, 1, none⟩ = some (.int .i64 low6) := cell_later hC p61
  have z62 : wc.cell? ⟨w6.heap.size, 2, none⟩ = some (.bool neg6) := cell_later hC p62
  have z63 : wc.cell? ⟨w6.heap.size, 3, none⟩ = some (.bool nn6) := cell_later hC p63
  have HBC : Hid (Below w.heap.size w wc) := thru HB10.out hC
  have HN3 : Hid (IsNum wc (.agg #[.slice a3 n3 c3, .int .i64 low3, .bool neg3, .bool nn3]) (some n075)) := HN3.out.later hC
  have HN6 : Hid (IsNum wc (.agg #[.slice a6 n6 c6, .int .i64 low6, .bool neg6, .bool nn6]) (some n15)) := HN6.out.later hC
  have HN10 : Hid (IsNum wc (.agg #[.slice a10 n10 c10, .int .i64 low10, .bool neg10, .bool nn10]) (some n101)) := HN10.out.later hC
  clear hC p30 p31 p32 p33 p60 p61 p62 p63 HB10
  go_region_held3 (fun W => W.cell? ⟨w3.heap.size, 0, none⟩ = some (.slice a3 n3 c3) ∧ W.cell? ⟨w3.heap.size, 1, none⟩ = some (.int .i64 low3) ∧ W.cell? ⟨w3.heap.size, 2, none⟩ = some (.bool neg3) ∧ W.cell? ⟨w3.heap.size, 3, none⟩ = some (.bool nn3) ∧ W.cell? ⟨w6.heap.size, 0, none⟩ = some (.slice a6 n6 c6) ∧ W.cell? ⟨w6.heap.size, 1, none⟩ = some (.int .i64 low6) ∧ W.cell? ⟨w6.heap.size, 2, none⟩ = some (.bool neg6) ∧ W.cell? ⟨w6.heap.size, 3, none⟩ = some (.bool nn6) ∧ W.cell? ⟨w10.heap.size, 0, none⟩ = some (.slice a10 n10 c10) ∧ W.cell? ⟨w10.heap.size, 1, none⟩ = some (.int .i64 low10) ∧ W.cell? ⟨w10.heap.size, 2, none⟩ = some (.bool neg10) ∧ W.cell? ⟨w10.heap.size, 3, none⟩ = some (.bool nn10) ∧ Below wc.heap.size wc W)
    (first
      | assumption
      | exact ⟨z30, z31, z32, z33, z60, z61, z62, z63, z100, z101, z102, z103, (Below.refl _ _).drew⟩
      | exact keep12 (by assumption) (by assumption))
    (first
      | (go_at_call_of 13 low3; refine (float_any _ _ _ (HN3.out.later (keep12_bel (by assumption)))).mono ?_; rintro e wx ⟨⟨f, rfl, hf⟩, hbx⟩; have hf := float075 hf; subst hf)
      | (go_at_call_of 23 low3; refine (high_any _ _ _ (HN3.out.later (keep12_bel (by assumption)))).mono ?_; rintro e wx ⟨⟨f, rfl, hf⟩, hbx⟩; have hf := high075 hf; subst hf)
      | (go_at_call_of 24 low3; refine (low_any _ _ _ (HN3.out.later (keep12_bel (by assumption)))).mono ?_; rintro e wx ⟨⟨f, rfl, hf⟩, hbx⟩; have hf := low075 hf; subst hf)
      | (go_at_call_of 13 low6; refine (float_any _ _ _ (HN6.out.later (keep12_bel (by assumption)))).mono ?_; rintro e wx ⟨⟨f, rfl, hf⟩, hbx⟩; have hf := float15 hf; subst hf)
      | (go_at_call 12; refine (sign_any _ _ _ (HN6.out.later (keep12_bel (by assumption)))).mono ?_; rw [show sgnR ((some n15).getD 0) = -1 from sgn15]; rintro e wx ⟨rfl, hbx⟩)
      | (go_at_call_of 13 low10; refine (float_any _ _ _ (HN10.out.later (keep12_bel (by assumption)))).mono ?_; rintro e wx ⟨⟨f, rfl, hf⟩, hbx⟩; have hf := float101 hf; subst hf)
      | (go_at_call 9; refine (int_any 1 _ (HT.out.later (thru HBC.out (keep12_bel (by assumption)))) (by omega) (by omega)).mono ?_; rintro e w21 ⟨v21, y21, rfl, hn21, hy21, hb21⟩; obtain ⟨a21, n21, c21, low21, neg21, nn21, rfl, hn21⟩ := isNum_form hn21; subst hy21)
      | (go_at_call 10; refine (shift_any _ _ 100 _ hn21).mono ?_; rintro e w22 ⟨v22, y22, rfl, hn22, hy22, hb22⟩; obtain ⟨a22, n22, c22, low22, neg22, nn22, rfl, hn22⟩ := isNum_form hn22; have e22 : y22 = some n100 := shiftX_may hy22 may100; subst e22)
      | (go_at_call 16; refine (cmp_any _ _ _ _ _ (HN10.out.later (keep12_bel (by assumption))) hn22).mono ?_; rw [cmp101]; rintro e w23 ⟨rfl, hb23⟩)
      | (go_at_call_of 24 low10; refine (low_any _ _ _ (HN10.out.later (keep12_bel (by assumption)))).mono ?_; rintro e wx ⟨⟨f, rfl, hf⟩, hbx⟩; have hf := low101 hf; subst hf))
  go_wp2
  go_ret
  exact ⟨rfl, thru HBC.out (keep12_bel (by assumption))⟩

end Go.Proofs.YtmcllgoeldfgmaaDoor

/- A box that is written anew. -/
namespace Go.Proofs.YtmcllgoeldfgmaaDoor
open Go

/-- A number is what it was where a box that holds another is written anew. -/
theorem isNum_set4g {W : World} {v : Value} {x : Option Rat} {r n c : Nat} {a : Option Addr} {low : Int} {neg nn : Bool} (h : IsNum W v x) (t0 : W.cell? ⟨r, 0, none⟩ = some (.slice a n c)) (t1 : W.cell? ⟨r, 1, none⟩ = some (.int .i64 low)) (t2 : W.cell? ⟨r, 2, none⟩ = some (.bool neg)) (t3 : W.cell? ⟨r, 3, none⟩ = some (.bool nn)) (v0 v1 v2 v3 : Value) :
    IsNum ((((W.setCell ⟨r, 0, none⟩ v0).setCell ⟨r, 1, none⟩ v1).setCell ⟨r, 2, none⟩ v2).setCell ⟨r, 3, none⟩ v3) v x := by
  obtain ⟨a', ns, c', low', neg', nn', rfl, hw, hr⟩ := h
  refine ⟨a', ns, c', low', neg', nn', rfl, ?_, hr⟩
  have o : ∀ (W : World) (i j : Nat) (x : Value) (v : Value), i ≠ j → W.cell? ⟨r, i, none⟩ = some x → (W.setCell ⟨r, j, none⟩ v).cell? ⟨r, i, none⟩ = some x := fun W i j x v hij hx => by
    rw [World.cell?_setCell_other W _ _ v (by intro e; cases e; exact hij rfl)]; exact hx
  have a1 := hw.set t0 (by intro n; simp) v0
  have a2 := a1.set (o _ 1 0 _ v0 (by omega) t1) (by intro n; simp) v1
  have a3 := a2.set (o _ 2 1 _ v1 (by omega) (o _ 2 0 _ v0 (by omega) t2)) (by intro n; simp) v2
  exact a3.set (o _ 3 2 _ v2 (by omega) (o _ 3 1 _ v1 (by omega) (o _ 3 0 _ v0 (by omega) t3))) (by intro n; simp) v3

/-- Four cells of a box, written anew. -/
theorem set4_cells {W : World} {r : Nat} {x0 x1 x2 x3 : Value} (t0 : W.cell? ⟨r, 0, none⟩ = some x0) (t1 : W.cell? ⟨r, 1, none⟩ = some x1) (t2 : W.cell? ⟨r, 2, none⟩ = some x2) (t3 : W.cell? ⟨r, 3, none⟩ = some x3) (v0 v1 v2 v3 : Value) :
    let W' := (((W.setCell ⟨r, 0, none⟩ v0).setCell ⟨r, 1, none⟩ v1).setCell ⟨r, 2, none⟩ v2).setCell ⟨r, 3, none⟩ v3
    W'.cell? ⟨r, 0, none⟩ = some v0 ∧ W'.cell? ⟨r, 1, none⟩ = some v1 ∧ W'.cell? ⟨r, 2, none⟩ = some v2 ∧ W'.cell? ⟨r, 3, none⟩ = some v3 := by
  have s : ∀ (W : World) (p : Addr) (x v : Value), W.cell? p = some x → (W.setCell p v).cell? p = some v := fun W p x v h => World.cell?_setCell_same W p v (by rw [h])
  have o : ∀ (W : World) (i j : Nat) (x : Value) (v : Value), i ≠ j → W.cell? ⟨r, i, none⟩ = some x → (W.setCell ⟨r, j, none⟩ v).cell? ⟨r, i, none⟩ = some x := fun W i j x v hij hx => by
    rw [World.cell?_setCell_other W _ _ v (by intro e; cases e; exact hij rfl)]; exact hx
  refine ⟨?_, ?_, ?_, ?_⟩
  · exact o _ 0 3 _ _ (by omega) (o _ 0 2 _ _ (by omega) (o _ 0 1 _ _ (by omega) (s _ _ _ _ t0)))
  · exact o _ 1 3 _ _ (by omega) (o _ 1 2 _ _ (by omega) (s _ _ _ _ (o _ 1 0 _ _ (by omega) t1)))
  · exact o _ 2 3 _ _ (by omega) (s _ _ _ _ (o _ 2 1 _ _ (by omega) (o _ 2 0 _ _ (by omega) t2)))
  · exact s _ _ _ _ (o _ 3 2 _ _ (by omega) (o _ 3 1 _ _ (by omega) (o _ 3 0 _ _ (by omega) t3)))

end Go.Proofs.YtmcllgoeldfgmaaDoor

/- The law's number of a list of floats, by package whole. -/
namespace Go.Proofs.YtmcllgoeldfgmaaDoor
open Go.RowKit Go.Shelf
attribute [local go_sem ↓] Go.wp_at_zero Go.wp_at_succ

/-- A box of a whole number. -/
def BoxV (w : World) (b : Nat) (s : Value) (low : Int) (neg nn : Bool) : Prop := w.heap[b]? = some (.cells #[s, .int .i64 low, .bool neg, .bool nn] 27 (0, 0))
theorem BoxV.cells {w : World} {b : Nat} {s : Value} {low : Int} {neg nn : Bool} (h : BoxV w b s low neg nn) : w.cell? ⟨b, 0, none⟩ = some s ∧ w.cell? ⟨b, 1, none⟩ = some (.int .i64 low) ∧ w.cell? ⟨b, 2, none⟩ = some (.bool neg) ∧ w.cell? ⟨b, 3, none⟩ = some (.bool nn) ∧ (∀ i, w.frozen? ⟨b, i, none⟩ = false) ∧ b < w.heap.size := by
  unfold BoxV at h
  refine ⟨by simp [World.cell?, h], by simp [World.cell?, h], by simp [World.cell?, h], by simp [World.cell?, h], fun i => by simp [World.frozen?, h], ?_⟩
  exact (Array.getElem?_eq_some_iff.1 h).1
theorem BoxV.block {w w' : World} {b : Nat} {s : Value} {low : Int} {neg nn : Bool} (h : BoxV w b s low neg nn) (he : w'.heap[b]? = w.heap[b]?) : BoxV w' b s low neg nn := by
  unfold BoxV at *; rw [he]; exact h
theorem BoxV.alloc {w : World} {b : Nat} {s : Value} {low : Int} {neg nn : Bool} (h : BoxV w b s low neg nn) (o : Obj) : BoxV (w.alloc o) b s low neg nn := h.block (Below.heap_alloc w o b h.cells.2.2.2.2.2)
theorem BoxV.other {w : World} {b : Nat} {s : Value} {low : Int} {neg nn : Bool} (h : BoxV w b s low neg nn) {a : Addr} (hn : b ≠ a.block) (v : Value) : BoxV (w.setCell a v) b s low neg nn := h.block (Below.heap_setCell w a v b hn)
theorem BoxV.later {w w' : World} {b : Nat} {s : Value} {low : Int} {neg nn : Bool} (h : BoxV w b s low neg nn) (hb : Below w.heap.size w w') : BoxV w' b s low neg nn := h.block (hb.block _ h.cells.2.2.2.2.2)
theorem BoxV.other4 {W : World} {b b' : Nat} {s : Value} {low : Int} {neg nn : Bool} (h : BoxV W b' s low neg nn) (hne : b' ≠ b) (x y z u : Value) : BoxV ((((W.setCell ⟨b, 0, none⟩ x).setCell ⟨b, 1, none⟩ y).setCell ⟨b, 2, none⟩ z).setCell ⟨b, 3, none⟩ u) b' s low neg nn := (((h.other hne x).other hne y).other hne z).other hne u
theorem BoxV.set4 {W : World} {b : Nat} {s s' : Value} {low low' : Int} {neg nn neg' nn' : Bool} (h : BoxV W b s low neg nn) : BoxV ((((W.setCell ⟨b, 0, none⟩ s').setCell ⟨b, 1, none⟩ (.int .i64 low')).setCell ⟨b, 2, none⟩ (.bool neg')).setCell ⟨b, 3, none⟩ (.bool nn')) b s' low' neg' nn' := by
  unfold BoxV at *
  simp [World.setCell, Array.getElem?_modify, h]
theorem BoxV.new (W : World) (s : Value) (low : Int) (neg nn : Bool) : BoxV (W.alloc (.cells #[s, .int .i64 low, .bool neg, .bool nn] 27)) W.heap.size s low neg nn := heap_alloc_new W _
structure NumV (w wr : World) (a : Option Addr) (n c : Nat) (low : Int) (neg nn : Bool) (q : Rat) : Prop where
  b0 : BoxV wr w.heap.size (.slice none 0 0) 0 false false
  b1 : BoxV wr (w.heap.size + 1) (.slice a n c) low neg nn
  num : IsNum wr (.agg #[.slice a n c, .int .i64 low, .bool neg, .bool nn]) (some q)
  bel : Below w.heap.size w wr
theorem NumV.start (w : World) : NumV w ((w.alloc (.cells #[.slice none 0 0, .int .i64 0, .bool false, .bool false] 27)).alloc (.cells #[.slice none 0 0, .int .i64 0, .bool false, .bool false] 27)) none 0 0 0 false false 0 :=
  ⟨(BoxV.new w _ 0 _ _).alloc _, by have := BoxV.new (w.alloc (.cells #[.slice none 0 0, .int .i64 0, .bool false, .bool false] 27)) (.slice none 0 0) 0 false false; simpa using this, isNum_zero _, ((Below.refl _ w).alloc (Nat.le_refl _) _).alloc (by simp) _⟩
theorem NumV.later {w wr wr' : World} {a : Option Addr} {n c : Nat} {low : Int} {neg nn : Bool} {q : Rat} (h : NumV w wr a n c low neg nn q) (hb : Below wr.heap.size wr wr') : NumV w wr' a n c low neg nn q := ⟨h.b0.later hb, h.b1.later hb, h.num.later hb, below_step h.bel hb⟩
theorem NumV.drew {w wr : World} {a : Option Addr} {n c : Nat} {low : Int} {neg nn : Bool} {q : Rat} (h : NumV w wr a n c low neg nn q) : NumV w wr.drew a n c low neg nn q := ⟨h.b0, h.b1, h.num.later ⟨rfl, rfl, rfl, Nat.le_refl _, fun _ _ => rfl⟩, h.bel.drew⟩
theorem NumV.set {w wr : World} {a a' : Option Addr} {n c n' c' : Nat} {low low' : Int} {neg nn neg' nn' : Bool} {q q' : Rat} (h : NumV w wr a n c low neg nn q) (hr : IsNum wr (.agg #[.slice a' n' c', .int .i64 low', .bool neg', .bool nn']) (some q')) : NumV w ((((wr.setCell ⟨w.heap.size + 1, 0, none⟩ (.slice a' n' c')).setCell ⟨w.heap.size + 1, 1, none⟩ (.int .i64 low')).setCell ⟨w.heap.size + 1, 2, none⟩ (.bool neg')).setCell ⟨w.heap.size + 1, 3, none⟩ (.bool nn')) a' n' c' low' neg' nn' q' := by
  obtain ⟨t0, t1, t2, t3, _⟩ := h.b1.cells
  exact ⟨h.b0.other4 (by omega) _ _ _ _, h.b1.set4, isNum_set4g hr t0 t1 t2 t3 _ _ _ _, (((h.bel.setCell (by show w.heap.size ≤ w.heap.size + 1; omega) _).setCell (by show w.heap.size ≤ w.heap.size + 1; omega) _).setCell (by show w.heap.size ≤ w.heap.size + 1; omega) _).setCell (by show w.heap.size ≤ w.heap.size + 1; omega) _⟩

set_option maxRecDepth 100000 in
set_option maxHeartbeats 8000000 in
theorem numberV_walk (g off c0 n : Nat) (bs : List Nat) (w : World) (hT : Tab w) (hc : ∀ k, k < n → w.cell? ⟨g, off + k, none⟩ = some (.float .f64 (bs.getD k 0))) (hw : ∀ b ∈ bs, b < 18446744073709551616) (hn : bs.length = n) (hl : n ≤ 100) (hf : ∀ b ∈ bs, Fin64 b) :
    Calls Tryd.prog 44 #[.slice (some ⟨g, off, none⟩) n c0] w fun e w' => OpR w w' (fun x => x = some ((bs.map den).sum)) e := by
  have HC : Hid (∀ k, k < n → w.cell? ⟨g, off + k, none⟩ = some (.float .f64 (bs.getD k 0))) := hc
  have HW : Hid (∀ b ∈ bs, b < 18446744073709551616) := hw
  have HF : Hid (∀ b ∈ bs, Fin64 b) := hf
  have HN : Hid (bs.length = n) := hn
  have HT : Hid (Tab w) := hT
  have l1 : (n : Int) ≤ 100 := by omega
  clear hc hw hn hl hf hT
  go_enter Tryd.func44, Tryd.ntmps44
  go_wp2
  go_loopw [4] (fun i wr => ∃ (k : Nat) (a : Option Addr) (m d : Nat) (low : Int) (neg nn : Bool), k ≤ n ∧ i = .int .i64 (k : Nat) ∧ Hid (NumV w wr a m d low neg nn (denL bs k))) (fun i _ => n - (intOf i).toNat)
  case atStart => exact ⟨0, none, 0, 0, 0, false, false, Nat.zero_le _, rfl, NumV.start w⟩
  case round =>
    obtain ⟨k, a, m, d, low, neg, nn, hk, rfl, hz⟩ := hrel
    by_cases hlt : k < n
    · have hlt' : (k : Int) < (n : Int) := by omega
      have hk0 : (0 : Int) ≤ (k : Int) := by omega
      have hck := box_cell hz.out.bel (HC.out k hlt)
      obtain ⟨x, hx⟩ : ∃ x : Nat, Hid (bs.getD k 0 = x) := ⟨_, rfl⟩
      rw [hx.out] at hck
      have HX : Hid (x < 18446744073709551616) := by show x < _; rw [← hx.out]; exact getD_word HW.out k
      have HXM : Hid (x ∈ bs) := by
        show x ∈ bs
        rw [← hx.out]
        have hkl : k < bs.length := by rw [HN.out]; exact hlt
        have e : bs.getD k 0 = bs[k] := by simp [List.getD, hkl]
        rw [e]; exact List.getElem_mem hkl
      obtain ⟨d0, d1, d2, d3, _, _⟩ := hz.out.b1.cells
      have HM : Hid (May (denL bs k + den x)) := ((((denL_bd bs k (by rw [HN.out]; omega)).mono (by omega) (Int.le_refl _) : Bd 1200 (-1074) _).add ((den_fit x).mono (by omega) (Int.le_refl _)))).may (by omega) (by omega)
      go_wp2
      go_region_with (first
        | (go_at_call 18; refine (ofW_any x _ (HT.out.later hz.out.drew.bel) HX.out).mono ?_; rintro e w2 ⟨v2, x2, rfl, hr2, hx2, hb2⟩; have hx2 := hx2.trans (if_pos (HF.out x HXM.out)); rw [hx2, ← den_fin (HF.out x HXM.out)] at hr2; clear hx2; have HZ2 : Hid (NumV w w2 a m d low neg nn (denL bs k)) := hz.out.drew.later hb2; obtain ⟨e0, e1, e2, e3, _, _⟩ := HZ2.out.b1.cells)
        | (go_at_call 14; refine (add_any _ _ _ _ _ HZ2.out.num hr2 (HT.out.later HZ2.out.bel)).mono ?_; rintro e w3 ⟨v3, x3, rfl, hr3, hx3, hb3⟩; obtain ⟨a3, n3, c3, low3, neg3, nn3, rfl, hr3⟩ := isNum_form hr3; rw [op2_may hx3 HM.out] at hr3; clear hx3; have HZ3 : Hid (NumV w w3 a m d low neg nn (denL bs k)) := HZ2.out.later hb3; obtain ⟨f0, f1, f2, f3, ef, _⟩ := HZ3.out.b1.cells; have ef0 := ef 0; have ef1 := ef 1; have ef2 := ef 2; have ef3 := ef 3; clear ef))
      all_goals go_wp2
      all_goals exact ⟨⟨k + 1, a3, n3, c3, low3, neg3, nn3, by omega, by go_num, by rw [denL_succ (by rw [HN.out]; exact hlt), hx.out]; exact HZ3.out.set hr3⟩, by simp [intOf]; omega⟩
    · obtain rfl : k = n := by omega
      have hltb : decide ((k : Int) < (k : Int)) = false := decide_eq_false (by omega)
      obtain ⟨d0, d1, d2, d3, _, _⟩ := hz.out.b1.cells
      obtain ⟨t0, t1, t2, t3, tf, _⟩ := hz.out.b0.cells
      have tf0 := tf 0
      have tf1 := tf 1
      have tf2 := tf 2
      have tf3 := tf 3
      clear tf
      go_wp2
      refine bodyPost_ret (v := .agg #[.slice a m d, .int .i64 low, .bool neg, .bool nn]) (by simp [results, Tryd.results44, go_sem, t0, t1, t2, t3]) rfl ?_
      have e : denL bs k = (bs.map den).sum := by unfold denL; rw [← HN.out, List.take_length]
      rw [← e]
      refine ⟨_, _, rfl, isNum_set4g hz.out.num t0 t1 t2 t3 _ _ _ _, rfl, ?_⟩
      exact (((hz.out.bel.setCell (Nat.le_refl _) _).setCell (Nat.le_refl _) _).setCell (Nat.le_refl _) _).setCell (Nat.le_refl _) _

set_option maxRecDepth 100000 in
set_option maxHeartbeats 1000000 in
theorem numberV_none (a : Option Addr) (c : Nat) (w : World) : Calls Tryd.prog 44 #[.slice a 0 c] w fun e w' => OpR w w' (fun x => x = some 0) e := by
  go_enter Tryd.func44, Tryd.ntmps44
  go_wp2
  go_loopw [4] (fun i wr => i = .int .i64 0 ∧ Hid (NumV w wr none 0 0 0 false false 0)) (fun _ _ => 0)
  case atStart => exact ⟨rfl, NumV.start w⟩
  case round =>
    obtain ⟨rfl, hz⟩ := hrel
    obtain ⟨d0, d1, d2, d3, _, _⟩ := hz.out.b1.cells
    obtain ⟨t0, t1, t2, t3, tf, _⟩ := hz.out.b0.cells
    have tf0 := tf 0
    have tf1 := tf 1
    have tf2 := tf 2
    have tf3 := tf 3
    clear tf
    go_wp2
    refine bodyPost_ret (v := .agg #[.slice none 0 0, .int .i64 0, .bool false, .bool false]) (by simp [results, Tryd.results44, go_sem, t0, t1, t2, t3]) rfl ?_
    refine ⟨_, _, rfl, isNum_zero _, rfl, ?_⟩
    exact (((hz.out.bel.setCell (Nat.le_refl _) _).setCell (Nat.le_refl _) _).setCell (Nat.le_refl _) _).setCell (Nat.le_refl _) _
theorem numberV_any (s : Value) (bs : List Nat) (w : World) (hT : Tab w) (h : Fs w s bs) (hl : bs.length ≤ 100) (hf : ∀ b ∈ bs, Fin64 b) : Calls Tryd.prog 44 #[s] w fun e w' => OpR w w' (fun x => x = some (vals bs).sum) e := by
  obtain ⟨⟨a, c, rfl, hc, hm, hf'⟩, hw⟩ := h
  rcases hf' with rfl | ⟨g, off, rfl, hf'⟩
  · exact numberV_none a c w
  · rw [← den_sum hf]
    exact numberV_walk g off c bs.length bs w hT hf' hw rfl hl hf

end Go.Proofs.YtmcllgoeldfgmaaDoor

/- What the laws of order and of the ring ask, in plain numbers. -/
namespace Go.Proofs.YtmcllgoeldfgmaaDoor

theorem cmpR_self (p : Rat) : cmpR p p = 0 := by unfold cmpR; rw [if_neg Rat.lt_irrefl, if_neg Rat.lt_irrefl]
theorem cmpR_neg (p q : Rat) : cmpR q p = -cmpR p q := by
  unfold cmpR
  rcases Rat.le_total (a := p) (b := q) with h | h
  all_goals grind
theorem cmpR_sub (p q : Rat) : sgnR (p - q) = cmpR p q := by unfold sgnR cmpR; grind
theorem cmpR_add (p q r : Rat) : cmpR (p + r) (q + r) = cmpR p q := by unfold cmpR; grind
theorem sgnR_neg (p : Rat) : sgnR (-p) = -sgnR p := by
  unfold sgnR cmpR
  rcases Rat.le_total (a := p) (b := 0) with h | h
  all_goals grind
theorem sgnR_zero : sgnR 0 = 0 := by unfold sgnR; exact cmpR_self 0
theorem sgnR_mul (p q : Rat) : sgnR (p * q) = sgnR p * sgnR q := by
  have key : ∀ x : Rat, (0 < x ∧ sgnR x = 1) ∨ (x = 0 ∧ sgnR x = 0) ∨ (x < 0 ∧ sgnR x = -1) := fun x => by
    unfold sgnR cmpR
    rcases Rat.le_total (a := x) (b := 0) with h | h
    all_goals grind
  have pos : ∀ {x : Rat}, 0 < x → sgnR x = 1 := fun {x} h => by rcases key x with ⟨_, e⟩ | ⟨e, _⟩ | ⟨e, _⟩ <;> grind
  have neg : ∀ {x : Rat}, x < 0 → sgnR x = -1 := fun {x} h => by rcases key x with ⟨e, _⟩ | ⟨e, _⟩ | ⟨_, e⟩ <;> grind
  rcases key p with ⟨hp, ep⟩ | ⟨hp, ep⟩ | ⟨hp, ep⟩ <;> rcases key q with ⟨hq, eq⟩ | ⟨hq, eq⟩ | ⟨hq, eq⟩ <;> rw [ep, eq]
  · exact pos (Rat.mul_pos hp hq)
  · rw [hq, Rat.mul_zero, sgnR_zero]; rfl
  · have := Rat.mul_pos hp (by grind : 0 < -q); exact neg (by grind)
  · rw [hp, Rat.zero_mul, sgnR_zero]; rfl
  · rw [hp, Rat.zero_mul, sgnR_zero]; rfl
  · rw [hp, Rat.zero_mul, sgnR_zero]; rfl
  · have := Rat.mul_pos (by grind : 0 < -p) hq; exact neg (by grind)
  · rw [hq, Rat.mul_zero, sgnR_zero]; rfl
  · have := Rat.mul_pos (by grind : 0 < -p) (by grind : 0 < -q); exact pos (by grind)

theorem cmpR_trans {p q r : Rat} (h1 : 0 ≤ cmpR p q) (h2 : 0 ≤ cmpR q r) : 0 ≤ cmpR p r := by
  unfold cmpR at *
  grind
theorem cmpR_pos {p q : Rat} (h : 0 < cmpR p q) : q < p := by unfold cmpR at h; grind

/-- A shift and back. -/
theorem shift_back (p : Rat) (k : Int) : p * p2 k * p2 (-k) = p := by
  have h := p2_neg k
  grind

end Go.Proofs.YtmcllgoeldfgmaaDoor
