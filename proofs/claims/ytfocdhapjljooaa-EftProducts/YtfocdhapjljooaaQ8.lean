/- Own texts, put together: He Hf Hg. -/
import Derived.Test.YtfocdhapjljooaaQ7
/- The reference's Rounds: of a number above 0. -/
namespace Go.Proofs.Ytfocdhapjljooaa
open Go.RowKit
attribute [local go_sem ↓] Go.wp_at_zero Go.wp_at_succ

set_option maxRecDepth 100000 in
set_option maxHeartbeats 8000000 in
theorem rounds_pos (v : Value) (q : Rat) (x r : Nat) (w : World) (hv : Rf w v q) (hq : Fit q) (hq2 : Fit (2 * q)) (hlim : q < p2 1010) (hx : RX q x r) (h0 : r ≠ 0) : Calls Try.prog 76 #[v, .float .f64 x] w fun e w' => e = .returned (.bool true) ∧ Below w.heap.size w w' := by
  obtain ⟨S, a, n, c, E, rfl, hs⟩ := hv.sgn
  have hq0 : 0 ≤ q := by rcases hx.near with ⟨h, _⟩ | ⟨h, _⟩ <;> grind
  have hS : decide (S < 0) = false := decide_eq_false (by rcases hs with ⟨h, _⟩ | ⟨h, _⟩ | ⟨_, h⟩ <;> first | omega | (exfalso; grind))
  have hr := hx.lim
  have fx : Fin64 x := by rcases hx.word with rfl | ⟨rfl, _⟩ <;> unfold Fin64 frung <;> omega
  have hxl : x < 18446744073709551616 := by rcases hx.word with h | ⟨h, _⟩ <;> omega
  have dx : den x = fval r := by
    rw [den_fin fx]
    rcases hx.word with rfl | ⟨rfl, rfl⟩
    · rfl
    · rw [fval0]; exact fval_zero_iff.2 (by decide)
  have f1 : Fin64 (r + 1) := fin_small (by omega)
  have d1 : den (r + 1) = fval (r + 1) := den_fin f1
  have l1 : fval r < fval (r + 1) := fval_lt (by omega) (by omega)
  have vx : fval x = fval r := by rw [← den_fin fx]; exact dx
  obtain ⟨n0, s1, s2⟩ := self_sub fx
  have rs : ∀ w, (binOp .sub 22 (.float .f64 x) (.float .f64 x)).run Try.prog w = .ok (.float .f64 n0) w := fun w => run_float_arith w .sub _ .f64 _ _ _ s1
  have o1 : FloatKind.f64.format.order x x = some .eq := by rw [order_val fx fx, if_neg (by grind), if_pos rfl]
  have o2 : FloatKind.f64.format.order (r + 1) x = some .gt := by rw [order_val f1 fx, vx, if_neg (by grind), if_neg (by grind)]
  have HN : Hid (∀ w, Calls Try.prog 90 #[.float .f64 x, .float .f64 9218868437227405311] w fun e w' => e = .returned (.float .f64 (r + 1)) ∧ w' = w) := by
    intro w
    by_cases h0 : r = 0
    · subst h0
      exact next_zero x w (by rcases hx.word with h | ⟨h, _⟩; exact Or.inl h; exact Or.inr h)
    · obtain rfl : x = r := hx.word.resolve_right (fun h => h0 h.2)
      exact next_up x w (by omega) h0
  have hbw : 0 < q → 2 * q ≤ fval r + fval (r + 1) ∧ (2 * q = fval r + fval (r + 1) → r % 2 = 0) ∧ (r ≠ 0 → fval r + fval (r - 1) ≤ 2 * q ∧ (2 * q = fval r + fval (r - 1) → r % 2 = 0)) := fun h => near_between ((hx.near.resolve_left (by rintro ⟨rfl, _⟩; grind)).2) h (by omega)
  have t2 : ((2 : Nat) : Rat) * p2 0 = 2 := by rw [p2_zero, show ((2 : Nat) : Rat) = 2 from rfl]; grind
  have HAB : Hid (sgq (((2 : Nat) : Rat) * p2 0 * q - (den x + den (r + 1))) = -1 ∨ (sgq (((2 : Nat) : Rat) * p2 0 * q - (den x + den (r + 1))) = 0 ∧ r % 2 = 0)) := by
    rw [t2, dx, d1]
    show _ ∨ _
    unfold sgq
    by_cases h : 2 * q < fval r + fval (r + 1)
    · left; rw [if_pos (by grind)]
    · have hp : 0 < q := by
        rcases hx.near with ⟨rfl, rfl⟩ | ⟨h, _⟩
        · exfalso; rw [fval0] at *; grind
        · exact h
      have hb := hbw hp
      right
      rw [if_neg (by grind), if_pos (by grind)]
      exact ⟨rfl, hb.2.1 (by grind)⟩
  have HEV : Hid (r % 2 = 0 → (((x : Int) % 2) == 0) = true) := by
    intro h
    rcases hx.word with rfl | ⟨rfl, _⟩
    · simp; omega
    · decide
  have rb := run_bits x
  have HFQ : Hid (Fit q) := hq
  have HF2 : Hid (Fit (((2 : Nat) : Rat) * p2 0 * q)) := by rw [t2]; exact hq2
  have HFU : Hid (Fit (den x + den (r + 1))) := (Bd.add (den_fit x) (den_fit (r + 1))).mono (by omega) (by omega)
  have HXL : Hid (x < 18446744073709551616) := hxl
  have HG : Hid (q < ((18014398509481983 : Nat) : Rat) * p2 970) := by
    have e1 : p2 1010 ≤ ((18014398509481983 : Nat) : Rat) * p2 970 := by
      have e : p2 1010 = ((1099511627776 : Nat) : Rat) * p2 970 := by rw [show (1010 : Int) = ((40 : Nat) : Int) + 970 by omega, p2_add, p2_nat]
      rw [e]
      exact Rat.mul_le_mul_of_nonneg_right (Rat.natCast_le_natCast.2 (by omega)) (Rat.le_of_lt (p2_pos _))
    show _ < _
    grind
  have HR1 : Hid (r + 1 < 9218868437227405311) := hr
  have HX : Hid (RX q x r) := hx
  have HBWX : Hid (0 < q → 2 * q ≤ fval r + fval (r + 1) ∧ (2 * q = fval r + fval (r + 1) → r % 2 = 0) ∧ (r ≠ 0 → fval r + fval (r - 1) ≤ 2 * q ∧ (2 * q = fval r + fval (r - 1) → r % 2 = 0))) := hbw
  have HDX : Hid (den x = fval r) := dx
  have HT2 : Hid (((2 : Nat) : Rat) * p2 0 = 2) := t2
  have hal0 : Below w.heap.size w (w.alloc (.cells #[.int .i64 S, .slice a n c, .int .i64 E] 33)) := (Below.refl _ _).alloc (Nat.le_refl _) _
  have RA0 : Hid (Rf (w.alloc (.cells #[.int .i64 S, .slice a n c, .int .i64 E] 33)) (.agg #[.int .i64 S, .slice a n c, .int .i64 E]) q) := hv.later hal0
  have HA0 : Hid (BoxN (w.alloc (.cells #[.int .i64 S, .slice a n c, .int .i64 E] 33)) w.heap.size S (.slice a n c) E) := BoxN.new w S E _
  have HB0 : Hid (Below w.heap.size w (w.alloc (.cells #[.int .i64 S, .slice a n c, .int .i64 E] 33))) := hal0
  have hq0' : Hid (0 ≤ q) := hq0
  have ox0 : FloatKind.f64.format.order x 0 = some .gt := by
    have := pos_fval (r := r) (by omega) h0
    rw [order_val fx fin0, vx, fval0, if_neg (by grind), if_neg (by grind)]
  have H0 : Hid (r ≠ 0) := h0
  clear hv hq hq2 hlim hx hs hq0 hr fx hxl dx f1 d1 l1 vx s1 hbw t2 hal0 h0
  go_enter Try.func76, Try.ntmps76
  go_wp2_with fail
  refine (power_walk 18014398509481983 970 _ (by omega) (by omega) (by omega)).mono ?_
  rintro e w1 ⟨v1, rfl, hr1, hb1⟩
  obtain ⟨S1, a1, n1, c1, E1, rfl⟩ := hr1.agg
  have hal : Below w1.heap.size w1 (w1.alloc (.cells #[.int .i64 S1, .slice a1 n1 c1, .int .i64 E1] 33)) := (Below.refl _ _).alloc (Nat.le_refl _) _
  have R1 : Hid (Rf (w1.alloc (.cells #[.int .i64 S1, .slice a1 n1 c1, .int .i64 E1] 33)) (.agg #[.int .i64 S1, .slice a1 n1 c1, .int .i64 E1]) (((18014398509481983 : Nat) : Rat) * p2 970)) := hr1.later hal
  have RA1 : Hid (Rf (w1.alloc (.cells #[.int .i64 S1, .slice a1 n1 c1, .int .i64 E1] 33)) (.agg #[.int .i64 S, .slice a n c, .int .i64 E]) q) := (RA0.out.later hb1).later hal
  have HA1 : Hid (BoxN (w1.alloc (.cells #[.int .i64 S1, .slice a1 n1 c1, .int .i64 E1] 33)) w.heap.size S (.slice a n c) E) := (HA0.out.later hb1).later hal
  have HB1 : Hid (Below w.heap.size w (w1.alloc (.cells #[.int .i64 S1, .slice a1 n1 c1, .int .i64 E1] 33))) := HB0.out.trans ((hb1.trans (hal.mono hb1.size)).mono HB0.out.size)
  obtain ⟨za0, za1, za2, _, zal⟩ := (HA0.out.later hb1).cells
  clear hr1 hb1 hal
  go_wp2_with fail
  refine (cmp_less _ _ q _ _ RA1.out R1.out HFQ.out (pow_fit _ 970 (by omega) (by omega) (by omega)) HG.out).mono ?_
  rintro e w2 ⟨rfl, hb2⟩
  have RA2 : Hid (Rf w2 (.agg #[.int .i64 S, .slice a n c, .int .i64 E]) q) := RA1.out.later hb2
  have HA2 : Hid (BoxN w2 w.heap.size S (.slice a n c) E) := HA1.out.later hb2
  have HB2 : Hid (Below w.heap.size w w2) := HB1.out.trans (hb2.mono HB1.out.size)
  clear hb2 RA1 HA1 HB1 R1 za0 za1 za2 zal
  go_wp2_with fail
  refine (power_walk 1 1024 _ (by omega) (by omega) (by omega)).mono ?_
  rintro e w3 ⟨v3, rfl, hr3, hb3⟩
  obtain ⟨S3, a3, n3, c3, E3, rfl⟩ := hr3.agg
  have hal : Below w3.heap.size w3 (w3.alloc (.cells #[.int .i64 S3, .slice a3 n3 c3, .int .i64 E3] 33)) := (Below.refl _ _).alloc (Nat.le_refl _) _
  have RA3 : Hid (Rf (w3.alloc (.cells #[.int .i64 S3, .slice a3 n3 c3, .int .i64 E3] 33)) (.agg #[.int .i64 S, .slice a n c, .int .i64 E]) q) := (RA2.out.later hb3).later hal
  have HA3 : Hid (BoxN (w3.alloc (.cells #[.int .i64 S3, .slice a3 n3 c3, .int .i64 E3] 33)) w.heap.size S (.slice a n c) E) := (HA2.out.later hb3).later hal
  have HU3 : Hid (BoxN (w3.alloc (.cells #[.int .i64 S3, .slice a3 n3 c3, .int .i64 E3] 33)) w3.heap.size S3 (.slice a3 n3 c3) E3) := BoxN.new w3 S3 E3 _
  have HB3 : Hid (Below w.heap.size w (w3.alloc (.cells #[.int .i64 S3, .slice a3 n3 c3, .int .i64 E3] 33))) := HB2.out.trans ((hb3.trans (hal.mono hb3.size)).mono HB2.out.size)
  have hsz3 : Hid (w.heap.size < w3.heap.size) := (HA2.out.later hb3).cells.2.2.2.2
  clear hr3 hb3 hal RA2 HA2 HB2
  go_wp2_with fail
  refine (HN.out _).mono ?_
  rintro e w' ⟨rfl, rfl⟩
  go_wp2_with fail
  refine (HN.out _).mono ?_
  rintro e w' ⟨rfl, rfl⟩
  go_wp2_with fail
  refine (refOf_any (r + 1) _ (by have := HR1.out; omega)).mono ?_
  rintro e w4 ⟨v4, rfl, hr4, hb4⟩
  obtain ⟨S4, a4, n4, c4, E4, rfl⟩ := hr4.agg
  have HU4 := HU3.out.later hb4
  have HA4 := HA3.out.later hb4
  have RA4 : Hid (Rf (((w4.setCell ⟨w3.heap.size, 0, none⟩ (.int .i64 S4)).setCell ⟨w3.heap.size, 1, none⟩ (.slice a4 n4 c4)).setCell ⟨w3.heap.size, 2, none⟩ (.int .i64 E4)) (.agg #[.int .i64 S, .slice a n c, .int .i64 E]) q) := (RA3.out.later hb4).boxed (other_box HU4) _ _ _
  have RU4 : Hid (Rf (((w4.setCell ⟨w3.heap.size, 0, none⟩ (.int .i64 S4)).setCell ⟨w3.heap.size, 1, none⟩ (.slice a4 n4 c4)).setCell ⟨w3.heap.size, 2, none⟩ (.int .i64 E4)) (.agg #[.int .i64 S4, .slice a4 n4 c4, .int .i64 E4]) (den (r + 1))) := hr4.boxed (other_box HU4) _ _ _
  have HA5 : Hid (BoxN (((w4.setCell ⟨w3.heap.size, 0, none⟩ (.int .i64 S4)).setCell ⟨w3.heap.size, 1, none⟩ (.slice a4 n4 c4)).setCell ⟨w3.heap.size, 2, none⟩ (.int .i64 E4)) w.heap.size S (.slice a n c) E) := HA4.other3 (by have := hsz3.out; omega) _ _ _
  have HU5 : Hid (BoxN (((w4.setCell ⟨w3.heap.size, 0, none⟩ (.int .i64 S4)).setCell ⟨w3.heap.size, 1, none⟩ (.slice a4 n4 c4)).setCell ⟨w3.heap.size, 2, none⟩ (.int .i64 E4)) w3.heap.size S4 (.slice a4 n4 c4) E4) := HU4.set3
  have HB5 : Hid (Below w.heap.size w (((w4.setCell ⟨w3.heap.size, 0, none⟩ (.int .i64 S4)).setCell ⟨w3.heap.size, 1, none⟩ (.slice a4 n4 c4)).setCell ⟨w3.heap.size, 2, none⟩ (.int .i64 E4))) := below_set3 (HB3.out.trans (hb4.mono HB3.out.size)) (by have := hsz3.out; omega) _ _ _
  obtain ⟨yu0, yu1, yu2, yuf, yul⟩ := HU4.cells
  clear hr4 hb4 RA3 HA3 HU3 HB3 HA4 HU4
  go_wp2_with fail
  refine (power_walk 1 (-1074) _ (by omega) (by omega) (by omega)).mono ?_
  rintro e w5 ⟨v5, rfl, hr5, hb5⟩
  obtain ⟨S5, ds5, E5, d5, k5, q5⟩ := id hr5
  obtain ⟨a5, c5, rfl, _⟩ := d5.form
  have hfd := run_fieldD S5 E5 a5 ds5.length c5
  clear yu0 yu1 yu2 yuf yul
  go_wp2_with fail
  refine (power_walk 1 (-1074) _ (by omega) (by omega) (by omega)).mono ?_
  rintro e w6 ⟨v6, rfl, hr6, hb6⟩
  obtain ⟨S6, ds6, E6, d6, k6, q6⟩ := id hr6
  obtain ⟨a6, c6, rfl, _⟩ := d6.form
  have hfe := run_fieldE S6 E6 a6 ds6.length c6
  have hpp : (0 : Rat) < ((1 : Nat) : Rat) * p2 (-1074) := Rat.mul_pos (by decide) (p2_pos _)
  have hEE : E5 = E6 := canon_E k5 k6 d5.small d6.small (by rw [← q5, ← q6]) (by rw [← q5]; grind)
  have RD6 : Rf w6 (.agg #[.int .i64 (-1), .slice a5 ds5.length c5, .int .i64 E6]) (-(((1 : Nat) : Rat) * p2 (-1074))) := by
    have h1 := (hr5.later hb6).flip rfl
    have hS5 : S5 = 1 := by
      have := canon_sgn k5
      rw [← q5] at this
      rcases this with ⟨_, h⟩ | ⟨h, _⟩ | ⟨_, h⟩
      · exfalso; grind
      · exact h
      · exfalso; grind
    rw [hS5, hEE] at h1
    exact h1
  obtain ⟨n5, hn5⟩ : ∃ n, Hid (ds5.length = n) := ⟨_, rfl⟩
  rw [hn5.out] at RD6 hfd
  simp only [hn5.out]
  have hal : Below w6.heap.size w6 (w6.alloc (.cells #[.int .i64 (-1), .slice a5 n5 c5, .int .i64 E6] 33)) := (Below.refl _ _).alloc (Nat.le_refl _) _
  have RAW : Hid (Rf (w6.alloc (.cells #[.int .i64 (-1), .slice a5 n5 c5, .int .i64 E6] 33)) (.agg #[.int .i64 S, .slice a n c, .int .i64 E]) q) := ((RA4.out.later hb5).later hb6).later hal
  have RUW : Hid (Rf (w6.alloc (.cells #[.int .i64 (-1), .slice a5 n5 c5, .int .i64 E6] 33)) (.agg #[.int .i64 S4, .slice a4 n4 c4, .int .i64 E4]) (den (r + 1))) := ((RU4.out.later hb5).later hb6).later hal
  have RDW : Hid (Rf (w6.alloc (.cells #[.int .i64 (-1), .slice a5 n5 c5, .int .i64 E6] 33)) (.agg #[.int .i64 (-1), .slice a5 n5 c5, .int .i64 E6]) (-(((1 : Nat) : Rat) * p2 (-1074)))) := RD6.later hal
  have HAW : Hid (BoxN (w6.alloc (.cells #[.int .i64 (-1), .slice a5 n5 c5, .int .i64 E6] 33)) w.heap.size S (.slice a n c) E) := ((HA5.out.later hb5).later hb6).later hal
  have HUW : Hid (BoxN (w6.alloc (.cells #[.int .i64 (-1), .slice a5 n5 c5, .int .i64 E6] 33)) w3.heap.size S4 (.slice a4 n4 c4) E4) := ((HU5.out.later hb5).later hb6).later hal
  have HDW : Hid (BoxN (w6.alloc (.cells #[.int .i64 (-1), .slice a5 n5 c5, .int .i64 E6] 33)) w6.heap.size (-1) (.slice a5 n5 c5) E6) := BoxN.new w6 _ _ _
  have HBW : Hid (Below w.heap.size w (w6.alloc (.cells #[.int .i64 (-1), .slice a5 n5 c5, .int .i64 E6] 33))) := HB5.out.trans (((hb5.trans (hb6.mono hb5.size)).trans (hal.mono (Nat.le_trans hb5.size hb6.size))).mono HB5.out.size)
  have hszu : Hid (w3.heap.size < w6.heap.size ∧ w.heap.size < w6.heap.size) := ⟨((HU5.out.later hb5).later hb6).cells.2.2.2.2, ((HA5.out.later hb5).later hb6).cells.2.2.2.2⟩
  have HPP : Hid ((0 : Rat) < ((1 : Nat) : Rat) * p2 (-1074)) := hpp
  clear hr5 hr6 hb5 hb6 d5 d6 k5 k6 q5 q6 hEE RD6 hal RA4 RU4 HA5 HU5 HB5 hpp
  have HDN : Hid (∀ w, Calls Try.prog 90 #[.float .f64 x, .float .f64 0] w fun e w' => e = .returned (.float .f64 (r - 1)) ∧ w' = w) := by
    intro w
    obtain rfl : x = r := HX.out.word.resolve_right (fun h => H0.out h.2)
    exact next_down x w (by have := HR1.out; omega) H0.out
  go_wp2_with fail
  refine (HDN.out _).mono ?_
  rintro e w' ⟨rfl, rfl⟩
  go_wp2_with fail
  refine (refOf_any (r - 1) _ (by have := HR1.out; omega)).mono ?_
  rintro e w7 ⟨v7, rfl, hr7, hb7⟩
  obtain ⟨S7, a7, n7, c7, E7, rfl⟩ := hr7.agg
  have HD7 := HDW.out.later hb7
  have hne1 : w.heap.size ≠ w6.heap.size := by have := hszu.out; omega
  have hne2 : w3.heap.size ≠ w6.heap.size := by have := hszu.out; omega
  have HAx := (HAW.out.later hb7).other3 hne1 (.int .i64 S7) (.slice a7 n7 c7) (.int .i64 E7)
  have HUx := (HUW.out.later hb7).other3 hne2 (.int .i64 S7) (.slice a7 n7 c7) (.int .i64 E7)
  have HDx : BoxN (((w7.setCell ⟨w6.heap.size, 0, none⟩ (.int .i64 S7)).setCell ⟨w6.heap.size, 1, none⟩ (.slice a7 n7 c7)).setCell ⟨w6.heap.size, 2, none⟩ (.int .i64 E7)) w6.heap.size S7 (.slice a7 n7 c7) E7 := HD7.set3
  have RAx := (RAW.out.later hb7).boxed (other_box HD7) (.int .i64 S7) (.slice a7 n7 c7) (.int .i64 E7)
  have RUx := (RUW.out.later hb7).boxed (other_box HD7) (.int .i64 S7) (.slice a7 n7 c7) (.int .i64 E7)
  have RDx := hr7.boxed (other_box HD7) (.int .i64 S7) (.slice a7 n7 c7) (.int .i64 E7)
  have HBx := below_set3 (HBW.out.trans (hb7.mono HBW.out.size)) (show w.heap.size ≤ w6.heap.size by have := hszu.out; omega) (.int .i64 S7) (.slice a7 n7 c7) (.int .i64 E7)
  obtain ⟨yd0, yd1, yd2, ydf, ydl⟩ := HD7.cells
  clear HAW HUW HDW RAW RUW RDW HBW hr7 hb7 HD7
  have HAW : Hid (BoxN (((w7.setCell ⟨w6.heap.size, 0, none⟩ (.int .i64 S7)).setCell ⟨w6.heap.size, 1, none⟩ (.slice a7 n7 c7)).setCell ⟨w6.heap.size, 2, none⟩ (.int .i64 E7)) w.heap.size S (.slice a n c) E) := HAx
  have HUW : Hid (BoxN (((w7.setCell ⟨w6.heap.size, 0, none⟩ (.int .i64 S7)).setCell ⟨w6.heap.size, 1, none⟩ (.slice a7 n7 c7)).setCell ⟨w6.heap.size, 2, none⟩ (.int .i64 E7)) w3.heap.size S4 (.slice a4 n4 c4) E4) := HUx
  have HDW : Hid (BoxN (((w7.setCell ⟨w6.heap.size, 0, none⟩ (.int .i64 S7)).setCell ⟨w6.heap.size, 1, none⟩ (.slice a7 n7 c7)).setCell ⟨w6.heap.size, 2, none⟩ (.int .i64 E7)) w6.heap.size S7 (.slice a7 n7 c7) E7) := HDx
  have RAW : Hid (Rf (((w7.setCell ⟨w6.heap.size, 0, none⟩ (.int .i64 S7)).setCell ⟨w6.heap.size, 1, none⟩ (.slice a7 n7 c7)).setCell ⟨w6.heap.size, 2, none⟩ (.int .i64 E7)) (.agg #[.int .i64 S, .slice a n c, .int .i64 E]) q) := RAx
  have RUW : Hid (Rf (((w7.setCell ⟨w6.heap.size, 0, none⟩ (.int .i64 S7)).setCell ⟨w6.heap.size, 1, none⟩ (.slice a7 n7 c7)).setCell ⟨w6.heap.size, 2, none⟩ (.int .i64 E7)) (.agg #[.int .i64 S4, .slice a4 n4 c4, .int .i64 E4]) (den (r + 1))) := RUx
  have RDW : Hid (Rf (((w7.setCell ⟨w6.heap.size, 0, none⟩ (.int .i64 S7)).setCell ⟨w6.heap.size, 1, none⟩ (.slice a7 n7 c7)).setCell ⟨w6.heap.size, 2, none⟩ (.int .i64 E7)) (.agg #[.int .i64 S7, .slice a7 n7 c7, .int .i64 E7]) (den (r - 1))) := RDx
  have HBW : Hid (Below w.heap.size w (((w7.setCell ⟨w6.heap.size, 0, none⟩ (.int .i64 S7)).setCell ⟨w6.heap.size, 1, none⟩ (.slice a7 n7 c7)).setCell ⟨w6.heap.size, 2, none⟩ (.int .i64 E7))) := HBx
  clear HAx HUx HDx RAx RUx RDx HBx
  have HFD : Hid (Fit (den (r - 1))) := den_Fit _
  have HFXD : Hid (Fit (den x + den (r - 1))) := (Bd.add (den_fit x) (den_fit (r - 1))).mono (by omega) (by omega)
  have HBL : Hid (sgq (((2 : Nat) : Rat) * p2 0 * q - (den x + den (r - 1))) = 1 ∨ (sgq (((2 : Nat) : Rat) * p2 0 * q - (den x + den (r - 1))) = 0 ∧ r % 2 = 0)) := by
    have hp : 0 < q := by
      rcases HX.out.near with ⟨_, h⟩ | ⟨h, _⟩
      · exact absurd h H0.out
      · exact h
    have hb := (HBWX.out hp).2.2 H0.out
    rw [HT2.out, HDX.out, den_fin (fin_small (by have := HR1.out; omega))]
    show _ ∨ _
    unfold sgq
    by_cases h : fval r + fval (r - 1) < 2 * q
    · left; rw [if_neg (by grind), if_neg (by grind)]
    · right
      rw [if_neg (by grind), if_pos (by grind)]
      exact ⟨rfl, hb.2 (by grind)⟩
  clear hne1 hne2
  go_wp2_with fail
  refine (power_walk 2 0 _ (by omega) (by omega) (by omega)).mono ?_
  rintro e w8 ⟨v8, rfl, hr8, hb8⟩
  obtain ⟨S8, a8, n8, c8, E8, rfl⟩ := hr8.agg
  have hal : Below w8.heap.size w8 (w8.alloc (.cells #[.int .i64 S8, .slice a8 n8 c8, .int .i64 E8] 33)) := (Below.refl _ _).alloc (Nat.le_refl _) _
  have R8 : Hid (Rf (w8.alloc (.cells #[.int .i64 S8, .slice a8 n8 c8, .int .i64 E8] 33)) (.agg #[.int .i64 S8, .slice a8 n8 c8, .int .i64 E8]) (((2 : Nat) : Rat) * p2 0)) := hr8.later hal
  have RA8 : Hid (Rf (w8.alloc (.cells #[.int .i64 S8, .slice a8 n8 c8, .int .i64 E8] 33)) (.agg #[.int .i64 S, .slice a n c, .int .i64 E]) q) := (RAW.out.later hb8).later hal
  have RU8 : Hid (Rf (w8.alloc (.cells #[.int .i64 S8, .slice a8 n8 c8, .int .i64 E8] 33)) (.agg #[.int .i64 S4, .slice a4 n4 c4, .int .i64 E4]) (den (r + 1))) := (RUW.out.later hb8).later hal
  have RD8 : Hid (Rf (w8.alloc (.cells #[.int .i64 S8, .slice a8 n8 c8, .int .i64 E8] 33)) (.agg #[.int .i64 S7, .slice a7 n7 c7, .int .i64 E7]) (den (r - 1))) := (RDW.out.later hb8).later hal
  obtain ⟨xa0, xa1, xa2, _, la⟩ := ((HAW.out.later hb8).later hal).cells
  obtain ⟨xu0, xu1, xu2, _, lu⟩ := ((HUW.out.later hb8).later hal).cells
  obtain ⟨xd0, xd1, xd2, _, ld⟩ := ((HDW.out.later hb8).later hal).cells
  obtain ⟨xt0, xt1, xt2, _, lt⟩ := (BoxN.new w8 S8 E8 (.slice a8 n8 c8)).cells
  clear yd0 yd1 yd2 ydf ydl
  have HB8 : Hid (Below w.heap.size w (w8.alloc (.cells #[.int .i64 S8, .slice a8 n8 c8, .int .i64 E8] 33))) := HBW.out.trans (((hb8.trans (hal.mono hb8.size))).mono HBW.out.size)
  have hrefl : Hid (Below (w8.alloc (.cells #[.int .i64 S8, .slice a8 n8 c8, .int .i64 E8] 33)).heap.size (w8.alloc (.cells #[.int .i64 S8, .slice a8 n8 c8, .int .i64 E8] 33)) (w8.alloc (.cells #[.int .i64 S8, .slice a8 n8 c8, .int .i64 E8] 33))) := Below.refl _ _
  clear hr8 hb8 hal la lu ld lt
  obtain ⟨A, hA⟩ : ∃ A, Hid (sgq (((2 : Nat) : Rat) * p2 0 * q - (den x + den (r + 1))) = A) := ⟨_, rfl⟩
  obtain ⟨B, hB⟩ : ∃ B, Hid (sgq (((2 : Nat) : Rat) * p2 0 * q - (den x + (den (r - 1)))) = B) := ⟨_, rfl⟩
  go_wp2
  go_region_held3 (fun W => W.cell? ⟨w8.heap.size, 0, none⟩ = some (.int .i64 S8) ∧ W.cell? ⟨w8.heap.size, 1, none⟩ = some (.slice a8 n8 c8) ∧ W.cell? ⟨w8.heap.size, 2, none⟩ = some (.int .i64 E8) ∧ W.cell? ⟨w.heap.size, 0, none⟩ = some (.int .i64 S) ∧ W.cell? ⟨w.heap.size, 1, none⟩ = some (.slice a n c) ∧ W.cell? ⟨w.heap.size, 2, none⟩ = some (.int .i64 E) ∧ W.cell? ⟨w3.heap.size, 0, none⟩ = some (.int .i64 S4) ∧ W.cell? ⟨w3.heap.size, 1, none⟩ = some (.slice a4 n4 c4) ∧ W.cell? ⟨w3.heap.size, 2, none⟩ = some (.int .i64 E4) ∧ Below (w8.alloc (.cells #[.int .i64 S8, .slice a8 n8 c8, .int .i64 E8] 33)).heap.size (w8.alloc (.cells #[.int .i64 S8, .slice a8 n8 c8, .int .i64 E8] 33)) W)
    (first
      | assumption
      | exact ⟨by go_simp, by go_simp, by go_simp, by go_simp, by go_simp, by go_simp, by go_simp, by go_simp, by go_simp, hrefl.out.drew⟩
      | exact keepN9 (by assumption) (by assumption))
    (first
      | (go_at_call 22; refine (mul_rf _ _ (((2 : Nat) : Rat) * p2 0) q _ (R8.out.later hrefl.out.drew) (RA8.out.later hrefl.out.drew) (pow_fit 2 0 (by omega) (by omega) (by omega)) HFQ.out).mono ?_; rintro e wA ⟨vA, rfl, hrA, hbA⟩)
      | (go_at_call 20; refine (refOf_any x _ HXL.out).mono ?_; rintro e wB ⟨vB, rfl, hrB, hbB⟩)
      | (go_at_call 19; refine (refAdd_any _ _ (den x) (den (r + 1)) _ hrB (RU8.out.later (by exact (by assumption : _ ∧ _ ∧ _ ∧ _ ∧ _ ∧ _ ∧ _ ∧ _ ∧ _ ∧ Below (w8.alloc (.cells #[.int .i64 S8, .slice a8 n8 c8, .int .i64 E8] 33)).heap.size (w8.alloc (.cells #[.int .i64 S8, .slice a8 n8 c8, .int .i64 E8] 33)) _).2.2.2.2.2.2.2.2.2)) (den_Fit _) (den_Fit _)).mono ?_; rintro e wC ⟨vC, rfl, hrC, hbC⟩)
      | (go_at_call 18; refine (cmp_is _ _ (((2 : Nat) : Rat) * p2 0 * q) (den x + den (r + 1)) A _ ((hrA.later hbB).later hbC) hrC HF2.out HFU.out hA.out).mono ?_; rintro e wD ⟨rfl, hbD⟩))
  obtain ⟨xt0', xt1', xt2', xa0', xa1', xa2', _, _, _, hBf⟩ := (by assumption : _ ∧ _ ∧ _ ∧ _ ∧ _ ∧ _ ∧ _ ∧ _ ∧ _ ∧ Below (w8.alloc (.cells #[.int .i64 S8, .slice a8 n8 c8, .int .i64 E8] 33)).heap.size (w8.alloc (.cells #[.int .i64 S8, .slice a8 n8 c8, .int .i64 E8] 33)) wD)
  have yd0 := box_cell hBf xd0
  have yd1 := box_cell hBf xd1
  have yd2 := box_cell hBf xd2
  have HBD : Hid (Below (w8.alloc (.cells #[.int .i64 S8, .slice a8 n8 c8, .int .i64 E8] 33)).heap.size (w8.alloc (.cells #[.int .i64 S8, .slice a8 n8 c8, .int .i64 E8] 33)) wD) := hBf
  clear hrA hrB hrC hbA hbB hbC hbD hBf xa0 xa1 xa2 xu0 xu1 xu2 xd0 xd1 xd2 xt0 xt1 xt2
  have hrefl2 : Hid (Below wD.heap.size wD wD) := Below.refl _ _
  go_wp2
  go_region_held3 (fun W => W.cell? ⟨w8.heap.size, 0, none⟩ = some (.int .i64 S8) ∧ W.cell? ⟨w8.heap.size, 1, none⟩ = some (.slice a8 n8 c8) ∧ W.cell? ⟨w8.heap.size, 2, none⟩ = some (.int .i64 E8) ∧ W.cell? ⟨w.heap.size, 0, none⟩ = some (.int .i64 S) ∧ W.cell? ⟨w.heap.size, 1, none⟩ = some (.slice a n c) ∧ W.cell? ⟨w.heap.size, 2, none⟩ = some (.int .i64 E) ∧ W.cell? ⟨w6.heap.size, 0, none⟩ = some (.int .i64 S7) ∧ W.cell? ⟨w6.heap.size, 1, none⟩ = some (.slice a7 n7 c7) ∧ W.cell? ⟨w6.heap.size, 2, none⟩ = some (.int .i64 E7) ∧ Below wD.heap.size wD W)
    (first
      | assumption
      | exact ⟨by go_simp, by go_simp, by go_simp, by go_simp, by go_simp, by go_simp, by go_simp, by go_simp, by go_simp, hrefl2.out.drew⟩
      | exact keepN9 (by assumption) (by assumption))
    (first
      | (go_at_call 22; refine (mul_rf _ _ (((2 : Nat) : Rat) * p2 0) q _ ((R8.out.later HBD.out).later hrefl2.out.drew) ((RA8.out.later HBD.out).later hrefl2.out.drew) (pow_fit 2 0 (by omega) (by omega) (by omega)) HFQ.out).mono ?_; rintro e wA ⟨vA, rfl, hrA, hbA⟩)
      | (go_at_call 20; refine (refOf_any x _ HXL.out).mono ?_; rintro e wB ⟨vB, rfl, hrB, hbB⟩)
      | (go_at_call 19; refine (refAdd_any _ _ (den x) (den (r - 1)) _ hrB ((RD8.out.later HBD.out).later (by exact (by assumption : _ ∧ _ ∧ _ ∧ _ ∧ _ ∧ _ ∧ _ ∧ _ ∧ _ ∧ Below wD.heap.size wD _).2.2.2.2.2.2.2.2.2)) (den_Fit _) HFD.out).mono ?_; rintro e wC ⟨vC, rfl, hrC, hbC⟩)
      | (go_at_call 18; refine (cmp_is _ _ (((2 : Nat) : Rat) * p2 0 * q) (den x + (den (r - 1))) B _ ((hrA.later hbB).later hbC) hrC HF2.out HFXD.out hB.out).mono ?_; rintro e wE ⟨rfl, hbE⟩))
  have hBg := (by assumption : _ ∧ _ ∧ _ ∧ _ ∧ _ ∧ _ ∧ _ ∧ _ ∧ _ ∧ Below wD.heap.size wD wE).2.2.2.2.2.2.2.2.2
  have HBE : Hid (Below w.heap.size w wE) := HB8.out.trans ((HBD.out.trans (hBg.mono HBD.out.size)).mono HB8.out.size)
  have hAc : A = -1 ∨ (A = 0 ∧ r % 2 = 0) := by have := HAB.out; rwa [hA.out] at this
  have hBc : B = 1 ∨ (B = 0 ∧ r % 2 = 0) := by have := HBL.out; rwa [hB.out] at this
  clear hrA hrB hrC hbA hbB hbC hbE hBg xt0' xt1' xt2' xa0' xa1' xa2' yd0 yd1 yd2 hA hB
  rcases hAc with rfl | ⟨rfl, hpar⟩
  · rcases hBc with rfl | ⟨rfl, hpar⟩
    · go_wp2
      all_goals
        go_ret
        exact ⟨rfl, HBE.out⟩
    · have hev := HEV.out hpar
      clear hpar
      go_wp2
      go_ret
      exact ⟨rfl, HBE.out⟩
  · have hev := HEV.out hpar
    clear hpar
    rcases hBc with rfl | ⟨rfl, _⟩
    · go_wp2
      go_ret
      exact ⟨rfl, HBE.out⟩
    · go_wp2
      go_ret
      exact ⟨rfl, HBE.out⟩

end Go.Proofs.Ytfocdhapjljooaa

/- The reference's Rounds of any number; Exact. -/
namespace Go.Proofs.Ytfocdhapjljooaa
open Go.RowKit
attribute [local go_sem ↓] Go.wp_at_zero Go.wp_at_succ

theorem top_1012 : fval 9164825241698959360 = p2 1012 := by
  rw [(fval_pos_lt (by omega)).1, show fmag 9164825241698959360 = 4503599627370496 by decide, show fpl 9164825241698959360 = 960 by decide]
  rw [show (1012 : Int) = 960 + ((52 : Nat) : Int) by omega, p2_add, p2_nat, Rat.mul_comm]

theorem fval_inj {r s : Nat} (hr : r < 9218868437227405312) (hs : s < 9218868437227405312) (h : fval r = fval s) : r = s := by
  rcases Nat.lt_trichotomy r s with e | e | e
  · have := fval_lt e hs; grind
  · exact e
  · have := fval_lt e hr; grind

theorem rv_rx {q : Rat} {x : Nat} (h : RV q (fval x)) (h0 : 0 ≤ q) (hlim : q < p2 1010) (fx : Fin64 x) (hx : x < 18446744073709551616) : ∃ r, RX q x r := by
  have htw := h.rn.twice (c := p2 1010) (by grind) (by have := p2_pos 1010; grind)
  obtain ⟨r, hr, h⟩ := h
  have key : ∃ r, r < 9218868437227405312 ∧ Near q r ∧ fval x = fval r := by
    rcases h with ⟨_, n, e⟩ | ⟨h1, n, e⟩
    · exact ⟨r, hr, n, e⟩
    · have hq : q = 0 := by grind
      subst hq
      rw [show (-0 : Rat) = 0 by grind] at n
      refine ⟨r, hr, n, ?_⟩
      rw [e, near_zero n, fval0]; grind
  obtain ⟨r, hr, n, e⟩ := key
  refine ⟨r, ?_, ?_, ?_⟩
  · by_cases hq : q = 0
    · subst hq
      exact Or.inl ⟨rfl, near_zero n⟩
    · exact Or.inr ⟨by grind, n⟩
  · by_cases hs : x < 9223372036854775808
    · left
      unfold Fin64 frung at fx
      exact fval_inj (by omega) hr e
    · right
      obtain ⟨s, rfl⟩ : ∃ s, x = 9223372036854775808 + s := ⟨x - 9223372036854775808, by omega⟩
      have fs : s < 9218868437227405312 := by unfold Fin64 frung at fx; omega
      rw [fval_word fs] at e
      have a1 := fval_nonneg fs
      have a2 := fval_nonneg hr
      have z1 : fval r = 0 := by grind
      have z2 : fval s = 0 := by grind
      have y1 := fval_zero_iff.1 z1
      have y2 := fval_zero_iff.1 z2
      unfold frung at y1 y2
      omega
  · rcases Nat.lt_or_ge r 9164825241698959360 with hlt | hge
    · omega
    · exfalso
      have hge' : p2 1012 ≤ fval r := by
        rw [← top_1012]
        rcases Nat.lt_or_ge 9164825241698959360 r with h1 | h1
        · exact Rat.le_of_lt (fval_lt h1 hr)
        · rw [show r = 9164825241698959360 by omega]; exact Rat.le_refl
      have e12 : p2 1012 = 4 * p2 1010 := by rw [show (1012 : Int) = ((2 : Nat) : Int) + 1010 by omega, p2_add, p2_nat]; rfl
      have := p2_pos 1010
      grind

theorem Fit2 {q : Rat} (h : Bd 90000 (-90000) q) : Fit q ∧ Fit (2 * q) := by
  refine ⟨h.mono (by omega) (by omega), ?_⟩
  have := (h.add h).mono (h' := 100000) (l' := -100000) (by omega) (by omega)
  rwa [show q + q = 2 * q by grind] at this

theorem rounds_nn (v : Value) (q : Rat) (x : Nat) (w : World) (hv : Rf w v q) (hq : Bd 90000 (-90000) q) (h0 : 0 ≤ q) (hlim : q < p2 1010) (h : RV q (fval x)) (fx : Fin64 x) (hx : x < 18446744073709551616) : Calls Try.prog 76 #[v, .float .f64 x] w fun e w' => e = .returned (.bool true) ∧ Below w.heap.size w w' := by
  obtain ⟨r, hr⟩ := rv_rx h h0 hlim fx hx
  by_cases hz : r = 0
  · exact rounds_zero v q x r w hv (Fit2 hq).1 (Fit2 hq).2 hlim hr hz
  · exact rounds_pos v q x r w hv (Fit2 hq).1 (Fit2 hq).2 hlim hr hz

set_option maxHeartbeats 1000000 in
theorem rounds_any (v : Value) (q : Rat) (x : Nat) (w : World) (hv : Rf w v q) (hq : Bd 90000 (-90000) q) (l1 : q < p2 1010) (l2 : -q < p2 1010) (h : RV q (fval x)) (fx : Fin64 x) (hx : x < 18446744073709551616) : Calls Try.prog 76 #[v, .float .f64 x] w fun e w' => e = .returned (.bool true) ∧ Below w.heap.size w w' := by
  by_cases h0 : 0 ≤ q
  · exact rounds_nn v q x w hv hq h0 l1 h fx hx
  · have R0 : Hid (Rf w v q) := hv
    obtain ⟨S, a, n, c, E, rfl, hs⟩ := hv.sgn
    obtain rfl : S = -1 := by
      rcases hs with ⟨_, h⟩ | ⟨_, h⟩ | ⟨h, _⟩
      · exfalso; grind
      · exfalso; grind
      · exact h
    have o1 : FloatKind.f64.format.order x x = some .eq := by rw [order_val fx fx, if_neg (by grind), if_pos rfl]
    have rn := run_negF x hx
    have hf := frung_flip hx
    have HX : Hid (∀ v w, Rf w v (-q) → Calls Try.prog 76 #[v, .float .f64 (fflip x)] w fun e w' => e = .returned (.bool true) ∧ Below w.heap.size w w') := fun v w hv =>
      rounds_nn v (-q) (fflip x) w hv hq.neg (by grind) l2 (by rw [fval_flip hx fx]; exact h.neg) (by unfold Fin64; rw [hf]; exact fx) (flip_lt hx)
    have HB0 : Hid (Below w.heap.size w (w.alloc (.cells #[.int .i64 (-1), .slice a n c, .int .i64 E] 33))) := (Below.refl _ _).alloc (Nat.le_refl _) _
    clear hs hq l1 l2 h fx hx h0 hf hv
    obtain ⟨y, hy⟩ : ∃ y, Hid (fflip x = y) := ⟨_, rfl⟩
    rw [hy.out] at rn HX
    go_enter Try.func76, Try.ntmps76
    go_wp2_with fail
    refine (neg_rf _ q _ (R0.out.later HB0.out)).mono ?_
    rintro e w1 ⟨v1, rfl, hr1, hb1⟩
    have HB1 : Hid (Below w.heap.size w w1) := HB0.out.trans (hb1.mono HB0.out.size)
    have HR1 : Hid _ := hr1
    clear hr1 hb1
    go_wp2_with fail
    refine (HX.out _ _ HR1.out).mono ?_
    rintro e w2 ⟨rfl, hb2⟩
    have HB2 : Hid (Below w.heap.size w w2) := HB1.out.trans (hb2.mono HB1.out.size)
    clear hb2
    go_wp2
    go_ret
    exact ⟨rfl, HB2.out⟩

set_option maxRecDepth 100000 in
set_option maxHeartbeats 4000000 in
theorem exact_any (v : Value) (q : Rat) (x y : Nat) (w : World) (hv : Rf w v q) (hq : Bd 80000 (-80000) q) (l1 : q < p2 1010) (l2 : -q < p2 1010) (h : RV q (fval x)) (he : fval x + fval y = q) (fx : Fin64 x) (hx : x < 18446744073709551616) (fy : Fin64 y) (hy : y < 18446744073709551616) : Calls Try.prog 46 #[v, .float .f64 x, .float .f64 y] w fun e w' => e = .returned (.bool true) ∧ Below w.heap.size w w' := by
  have R0 : Hid (Rf w v q) := hv
  obtain ⟨S, a, n, c, E, rfl, _⟩ := hv.sgn
  have HR : Hid (∀ w, Rf w (.agg #[.int .i64 S, .slice a n c, .int .i64 E]) q → Calls Try.prog 76 #[.agg #[.int .i64 S, .slice a n c, .int .i64 E], .float .f64 x] w fun e w' => e = .returned (.bool true) ∧ Below w.heap.size w w') := fun w hv => rounds_any _ q x w hv (hq.mono (by omega) (by omega)) l1 l2 h fx hx
  have o1 : FloatKind.f64.format.order y y = some .eq := by rw [order_val fy fy, if_neg (by grind), if_pos rfl]
  obtain ⟨n0, s1, s2⟩ := self_sub fy
  have rs : ∀ w, (binOp .sub 22 (.float .f64 y) (.float .f64 y)).run Try.prog w = .ok (.float .f64 n0) w := fun w => run_float_arith w .sub _ .f64 _ _ _ s1
  have HE : Hid (q - den x = den y) := by show _ = _; rw [den_fin fx, den_fin fy]; grind
  have HF : Hid (Fit q) := hq.mono (by omega) (by omega)
  have HFS : Hid (Fit (q - den x)) := by rw [HE.out]; exact den_Fit y
  have HL : Hid (x < 18446744073709551616 ∧ y < 18446744073709551616) := ⟨hx, hy⟩
  have HB0 : Hid (Below w.heap.size w (w.alloc (.cells #[.int .i64 S, .slice a n c, .int .i64 E] 33))) := (Below.refl _ _).alloc (Nat.le_refl _) _
  clear hv hq l1 l2 h he fx hx fy hy s1
  go_enter Try.func46, Try.ntmps46
  go_wp2
  go_region_held3 (fun W => W.cell? ⟨w.heap.size, 0, none⟩ = some (.int .i64 S) ∧ W.cell? ⟨w.heap.size, 1, none⟩ = some (.slice a n c) ∧ W.cell? ⟨w.heap.size, 2, none⟩ = some (.int .i64 E) ∧ Below w.heap.size w W)
    (first
      | assumption
      | exact ⟨by go_simp, by go_simp, by go_simp, HB0.out.drew⟩
      | exact keepN3 (by assumption) (by assumption))
    (first
      | (go_at_call 76; refine (HR.out _ (R0.out.later HB0.out.drew)).mono ?_; rintro e wA ⟨rfl, hbA⟩)
      | (go_at_call_of 20 x; refine (refOf_any x _ HL.out.1).mono ?_; rintro e wB ⟨vB, rfl, hrB, hbB⟩)
      | (go_at_call 52; refine (sub_rf _ _ q (den x) _ (R0.out.later (by exact (by assumption : _ ∧ _ ∧ _ ∧ Below w.heap.size w _).2.2.2)) hrB HF.out (den_Fit _)).mono ?_; rintro e wC ⟨vC, rfl, hrC, hbC⟩)
      | (go_at_call_of 20 y; refine (refOf_any y _ HL.out.2).mono ?_; rintro e wD ⟨vD, rfl, hrD, hbD⟩)
      | (go_at_call 18; refine (cmp_same _ _ (q - den x) (den y) _ (hrC.later hbD) hrD HFS.out (den_Fit _) HE.out).mono ?_; rintro e wE ⟨rfl, hbE⟩))
  have hBf := (by assumption : _ ∧ _ ∧ _ ∧ Below w.heap.size w wE).2.2.2
  have HBF : Hid (Below w.heap.size w wE) := hBf
  clear hrB hrC hrD hbA hbB hbC hbD hbE hBf
  go_wp2
  go_ret
  exact ⟨rfl, HBF.out⟩

end Go.Proofs.Ytfocdhapjljooaa

/- The document's Sum, Prod and Split; EftSums, EftProducts. -/
namespace Go.Proofs.Ytfocdhapjljooaa
open Go.RowKit

theorem lim1_sum {a b : Nat} (h : TameW a b) : fval a + fval b < p2 1010 ∧ -(fval a + fval b) < p2 1010 := by
  have ba := tame_bound h.1
  have bb := tame_bound h.2
  have e : p2 1010 = 1024 * p2 1000 := by rw [show (1010 : Int) = ((10 : Nat) : Int) + 1000 by omega, p2_add, p2_nat]; rfl
  have := p2_pos 1000
  rw [e]
  constructor <;> grind
theorem lim1_prod {a b : Nat} (h : SafeP a b) : fval a * fval b < p2 1010 ∧ -(fval a * fval b) < p2 1010 := by
  have ba := safe_bound h.1
  have bb := safe_bound h.2
  have e : p2 900 = p2 450 * p2 450 := by rw [show (900 : Int) = 450 + 450 by omega, p2_add]
  have hl := p2_lt (show (900 : Int) < 1010 by omega)
  have hp := p2_pos 450
  have key : ∀ u v : Rat, u ≤ p2 450 → -u ≤ p2 450 → v ≤ p2 450 → -v ≤ p2 450 → u * v ≤ p2 450 * p2 450 := by
    intro u v h1 h2 h3 h4
    have a1 := Rat.mul_nonneg (show 0 ≤ p2 450 - u by grind) (show 0 ≤ p2 450 + v by grind)
    have a2 := Rat.mul_nonneg (show 0 ≤ p2 450 + u by grind) (show 0 ≤ p2 450 - v by grind)
    grind
  have k1 := key _ _ ba.1 ba.2 bb.1 bb.2
  have k2 := key (-fval a) (fval b) ba.2 (by grind) bb.1 bb.2
  rw [← e] at k1 k2
  constructor <;> grind

set_option maxHeartbeats 2000000 in
theorem refSum_any (a b x y : Nat) (w : World) (ha : a < 18446744073709551616) (hb : b < 18446744073709551616) (hp : Pair (TameW a b) (fval a + fval b) x y) : Calls Try.prog 11 #[.float .f64 a, .float .f64 b, .float .f64 x, .float .f64 y] w fun e w' => e = .returned (.bool true) ∧ Below w.heap.size w w' := by
  obtain ⟨fx, fy, lx, ly, hp⟩ := hp
  rcases hp with ⟨hd, hv, he⟩ | ⟨hd, rfl, rfl⟩
  · have HA : Hid (∀ w, Calls Try.prog 45 #[.float .f64 a] w fun e w' => e = .returned (.bool true) ∧ w' = w) := fun w => by
      have := refTame_any a w ha
      rwa [decide_eq_true hd.1] at this
    have HB : Hid (∀ w, Calls Try.prog 45 #[.float .f64 b] w fun e w' => e = .returned (.bool true) ∧ w' = w) := fun w => by
      have := refTame_any b w hb
      rwa [decide_eq_true hd.2] at this
    have fa : Fin64 a := by have := hd.1; unfold Fin64; omega
    have fb : Fin64 b := by have := hd.2; unfold Fin64; omega
    have HX : Hid (∀ v w, Rf w v (den a + den b) → Calls Try.prog 46 #[v, .float .f64 x, .float .f64 y] w fun e w' => e = .returned (.bool true) ∧ Below w.heap.size w w') := by
      rw [← den_fin fa, ← den_fin fb] at hv he
      intro v w hr
      have hl : den a + den b < p2 1010 ∧ -(den a + den b) < p2 1010 := by
        rw [den_fin fa, den_fin fb]
        exact lim1_sum hd
      exact exact_any v (den a + den b) x y w hr ((Bd.add (den_fit a) (den_fit b)).mono (by omega) (by omega)) hl.1 hl.2 hv he fx lx fy ly
    have HL : Hid (a < 18446744073709551616 ∧ b < 18446744073709551616) := ⟨ha, hb⟩
    clear hd hv he fx fy lx ly ha hb fa fb
    go_enter Try.func11, Try.ntmps11
    go_wp2_with fail
    refine (HA.out _).mono ?_
    rintro e w1 ⟨rfl, rfl⟩
    go_wp2_with fail
    refine (HB.out _).mono ?_
    rintro e w1 ⟨rfl, rfl⟩
    go_wp2_with fail
    refine (refOf_any a _ HL.out.1).mono ?_
    rintro e w2 ⟨v2, rfl, hr2, hb2⟩
    go_wp2_with fail
    refine (refOf_any b _ HL.out.2).mono ?_
    rintro e w3 ⟨v3, rfl, hr3, hb3⟩
    go_wp2_with fail
    refine (refAdd_any _ _ (den a) (den b) _ (hr2.later hb3) hr3 (den_Fit _) (den_Fit _)).mono ?_
    rintro e w4 ⟨v4, rfl, hr4, hb4⟩
    have HR4 : Hid (Rf w4 v4 (den a + den b)) := hr4
    have HB4 : Hid (Below w1.heap.size w1 w4) := hb2.trans ((hb3.trans (hb4.mono hb3.size)).mono hb2.size)
    clear hr2 hr3 hr4 hb2 hb3 hb4
    go_wp2_with fail
    refine (HX.out _ _ HR4.out).mono ?_
    rintro e w5 ⟨rfl, hb5⟩
    have HB5 : Hid (Below w1.heap.size w1 w5) := HB4.out.trans (hb5.mono HB4.out.size)
    clear hb5
    go_wp2
    go_ret
    exact ⟨rfl, HB5.out⟩
  · have z : FloatKind.f64.format.order 0 0 = some .eq := by decide
    by_cases h1 : frung a ≤ 9110782046170513408
    · have h2 : ¬ frung b ≤ 9110782046170513408 := fun h2 => hd ⟨h1, h2⟩
      have HA : Hid (∀ w, Calls Try.prog 45 #[.float .f64 a] w fun e w' => e = .returned (.bool true) ∧ w' = w) := fun w => by
        have := refTame_any a w ha
        rwa [decide_eq_true h1] at this
      have HB : Hid (∀ w, Calls Try.prog 45 #[.float .f64 b] w fun e w' => e = .returned (.bool false) ∧ w' = w) := fun w => by
        have := refTame_any b w hb
        rwa [decide_eq_false h2] at this
      clear hd h1 h2 fx fy lx ly ha hb
      go_enter Try.func11, Try.ntmps11
      go_wp2_with fail
      refine (HA.out _).mono ?_
      rintro e w1 ⟨rfl, rfl⟩
      go_wp2_with fail
      refine (HB.out _).mono ?_
      rintro e w1 ⟨rfl, rfl⟩
      go_wp2
      go_ret
      exact ⟨rfl, Below.refl _ _⟩
    · have HA : Hid (∀ w, Calls Try.prog 45 #[.float .f64 a] w fun e w' => e = .returned (.bool false) ∧ w' = w) := fun w => by
        have := refTame_any a w ha
        rwa [decide_eq_false h1] at this
      clear hd h1 fx fy lx ly ha hb
      go_enter Try.func11, Try.ntmps11
      go_wp2_with fail
      refine (HA.out _).mono ?_
      rintro e w1 ⟨rfl, rfl⟩
      go_wp2
      go_ret
      exact ⟨rfl, Below.refl _ _⟩

set_option maxHeartbeats 2000000 in
theorem refProd_any (a b x y : Nat) (w : World) (ha : a < 18446744073709551616) (hb : b < 18446744073709551616) (hp : Pair (SafeP a b) (fval a * fval b) x y) : Calls Try.prog 16 #[.float .f64 a, .float .f64 b, .float .f64 x, .float .f64 y] w fun e w' => e = .returned (.bool true) ∧ Below w.heap.size w w' := by
  obtain ⟨fx, fy, lx, ly, hp⟩ := hp
  rcases hp with ⟨hd, hv, he⟩ | ⟨hd, rfl, rfl⟩
  · have HA : Hid (∀ w, Calls Try.prog 17 #[.float .f64 a] w fun e w' => e = .returned (.bool true) ∧ w' = w) := fun w => by
      have := refSafe_any a w ha
      rwa [decide_eq_true hd.1] at this
    have HB : Hid (∀ w, Calls Try.prog 17 #[.float .f64 b] w fun e w' => e = .returned (.bool true) ∧ w' = w) := fun w => by
      have := refSafe_any b w hb
      rwa [decide_eq_true hd.2] at this
    have fa : Fin64 a := by have := hd.1; unfold SafeW at this; unfold Fin64; omega
    have fb : Fin64 b := by have := hd.2; unfold SafeW at this; unfold Fin64; omega
    have HX : Hid (∀ v w, Rf w v (den a * den b) → Calls Try.prog 46 #[v, .float .f64 x, .float .f64 y] w fun e w' => e = .returned (.bool true) ∧ Below w.heap.size w w') := by
      rw [← den_fin fa, ← den_fin fb] at hv he
      intro v w hr
      have hl : den a * den b < p2 1010 ∧ -(den a * den b) < p2 1010 := by
        rw [den_fin fa, den_fin fb]
        exact lim1_prod hd
      exact exact_any v (den a * den b) x y w hr ((Bd.mul (den_fit a) (den_fit b)).mono (by omega) (by omega)) hl.1 hl.2 hv he fx lx fy ly
    have HL : Hid (a < 18446744073709551616 ∧ b < 18446744073709551616) := ⟨ha, hb⟩
    clear hd hv he fx fy lx ly ha hb fa fb
    go_enter Try.func16, Try.ntmps16
    go_wp2_with fail
    refine (HA.out _).mono ?_
    rintro e w1 ⟨rfl, rfl⟩
    go_wp2_with fail
    refine (HB.out _).mono ?_
    rintro e w1 ⟨rfl, rfl⟩
    go_wp2_with fail
    refine (refOf_any a _ HL.out.1).mono ?_
    rintro e w2 ⟨v2, rfl, hr2, hb2⟩
    go_wp2_with fail
    refine (refOf_any b _ HL.out.2).mono ?_
    rintro e w3 ⟨v3, rfl, hr3, hb3⟩
    go_wp2_with fail
    refine (mul_rf _ _ (den a) (den b) _ (hr2.later hb3) hr3 (den_Fit _) (den_Fit _)).mono ?_
    rintro e w4 ⟨v4, rfl, hr4, hb4⟩
    have HR4 : Hid (Rf w4 v4 (den a * den b)) := hr4
    have HB4 : Hid (Below w1.heap.size w1 w4) := hb2.trans ((hb3.trans (hb4.mono hb3.size)).mono hb2.size)
    clear hr2 hr3 hr4 hb2 hb3 hb4
    go_wp2_with fail
    refine (HX.out _ _ HR4.out).mono ?_
    rintro e w5 ⟨rfl, hb5⟩
    have HB5 : Hid (Below w1.heap.size w1 w5) := HB4.out.trans (hb5.mono HB4.out.size)
    clear hb5
    go_wp2
    go_ret
    exact ⟨rfl, HB5.out⟩
  · have z : FloatKind.f64.format.order 0 0 = some .eq := by decide
    by_cases h1 : SafeW (frung a)
    · have h2 : ¬ SafeW (frung b) := fun h2 => hd ⟨h1, h2⟩
      have HA : Hid (∀ w, Calls Try.prog 17 #[.float .f64 a] w fun e w' => e = .returned (.bool true) ∧ w' = w) := fun w => by
        have := refSafe_any a w ha
        rwa [decide_eq_true h1] at this
      have HB : Hid (∀ w, Calls Try.prog 17 #[.float .f64 b] w fun e w' => e = .returned (.bool false) ∧ w' = w) := fun w => by
        have := refSafe_any b w hb
        rwa [decide_eq_false h2] at this
      clear hd h1 h2 fx fy lx ly ha hb
      go_enter Try.func16, Try.ntmps16
      go_wp2_with fail
      refine (HA.out _).mono ?_
      rintro e w1 ⟨rfl, rfl⟩
      go_wp2_with fail
      refine (HB.out _).mono ?_
      rintro e w1 ⟨rfl, rfl⟩
      go_wp2
      go_ret
      exact ⟨rfl, Below.refl _ _⟩
    · have HA : Hid (∀ w, Calls Try.prog 17 #[.float .f64 a] w fun e w' => e = .returned (.bool false) ∧ w' = w) := fun w => by
        have := refSafe_any a w ha
        rwa [decide_eq_false h1] at this
      clear hd h1 fx fy lx ly ha hb
      go_enter Try.func16, Try.ntmps16
      go_wp2_with fail
      refine (HA.out _).mono ?_
      rintro e w1 ⟨rfl, rfl⟩
      go_wp2
      go_ret
      exact ⟨rfl, Below.refl _ _⟩

set_option maxHeartbeats 1000000 in
theorem refSplit_yes (a c d x y : Nat) (w : World) (ha : a < 18446744073709551616) (hs : SafeW (frung a)) (h : Halves a c d x y) : Calls Try.prog 15 #[.float .f64 a] w fun e w' => e = .returned (.tuple #[.float .f64 x, .float .f64 y]) ∧ w' = w := by
  have HA : Hid (∀ w, Calls Try.prog 17 #[.float .f64 a] w fun e w' => e = .returned (.bool true) ∧ w' = w) := fun w => by
    have := refSafe_any a w ha
    rwa [decide_eq_true hs] at this
  have r0 : ∀ w, (binOp .mul 22 (.float .f64 4728779608772575232) (.float .f64 a)).run Try.prog w = .ok (.float .f64 c) w := fun w => run_float_arith w .mul _ .f64 _ _ _ h.s0
  have r1 : ∀ w, (binOp .sub 22 (.float .f64 c) (.float .f64 a)).run Try.prog w = .ok (.float .f64 d) w := fun w => run_float_arith w .sub _ .f64 _ _ _ h.s1
  have r2 : ∀ w, (binOp .sub 22 (.float .f64 c) (.float .f64 d)).run Try.prog w = .ok (.float .f64 x) w := fun w => run_float_arith w .sub _ .f64 _ _ _ h.s2
  have r3 : ∀ w, (binOp .sub 22 (.float .f64 a) (.float .f64 x)).run Try.prog w = .ok (.float .f64 y) w := fun w => run_float_arith w .sub _ .f64 _ _ _ h.s3
  clear h hs ha
  go_enter Try.func15, Try.ntmps15
  go_wp2_with fail
  refine (HA.out _).mono ?_
  rintro e w1 ⟨rfl, rfl⟩
  go_wp2
  go_ret2
  exact ⟨rfl, rfl⟩
set_option maxHeartbeats 1000000 in
theorem refSplit_no (a : Nat) (w : World) (ha : a < 18446744073709551616) (hs : ¬ SafeW (frung a)) : Calls Try.prog 15 #[.float .f64 a] w fun e w' => e = .returned (.tuple #[.float .f64 0, .float .f64 0]) ∧ w' = w := by
  have HA : Hid (∀ w, Calls Try.prog 17 #[.float .f64 a] w fun e w' => e = .returned (.bool false) ∧ w' = w) := fun w => by
    have := refSafe_any a w ha
    rwa [decide_eq_false hs] at this
  clear hs ha
  go_enter Try.func15, Try.ntmps15
  go_wp2_with fail
  refine (HA.out _).mono ?_
  rintro e w1 ⟨rfl, rfl⟩
  go_wp2
  go_ret2
  exact ⟨rfl, rfl⟩

set_option maxHeartbeats 2000000 in
theorem sums_law (a b : Nat) (w : World) (ha : a < 18446744073709551616) (hb : b < 18446744073709551616) : Calls Try.prog 3 #[.float .f64 a, .float .f64 b] w fun e w' => e = .returned (.bool true) ∧ Below w.heap.size w w' := by
  have H1 : Hid (∀ w, Calls Try.prog 9 #[.float .f64 a, .float .f64 b] w fun e w' => (∃ x y, e = .returned (.tuple #[.float .f64 x, .float .f64 y]) ∧ Pair (TameW a b) (fval a + fval b) x y) ∧ Below w.heap.size w w') := fun w => sum_pair a b w ha hb
  have H2 : Hid (∀ w, Calls Try.prog 10 #[.float .f64 a, .float .f64 b] w fun e w' => (∃ x y, e = .returned (.tuple #[.float .f64 x, .float .f64 y]) ∧ Pair (TameW a b) (fval a - fval b) x y) ∧ Below w.heap.size w w') := fun w => diff_pair a b w ha hb
  have H3 : Hid (∀ x y w, Pair (TameW a b) (fval a + fval b) x y → Calls Try.prog 11 #[.float .f64 a, .float .f64 b, .float .f64 x, .float .f64 y] w fun e w' => e = .returned (.bool true) ∧ Below w.heap.size w w') := fun x y w h => refSum_any a b x y w ha hb h
  have H4 : Hid (∀ x y w, Pair (TameW a b) (fval a - fval b) x y → Calls Try.prog 11 #[.float .f64 a, .float .f64 (fflip b), .float .f64 x, .float .f64 y] w fun e w' => e = .returned (.bool true) ∧ Below w.heap.size w w') := fun x y w h => by
    refine refSum_any a (fflip b) x y w ha (flip_lt hb) ?_
    have hd : TameW a (fflip b) ↔ TameW a b := by unfold TameW; rw [frung_flip hb]
    obtain ⟨fx, fy, lx, ly, h⟩ := h
    refine ⟨fx, fy, lx, ly, ?_⟩
    rcases h with ⟨h1, h2, h3⟩ | ⟨h1, h2, h3⟩
    · have e : fval a + fval (fflip b) = fval a - fval b := by rw [fval_flip hb (by unfold Fin64; have := h1.2; omega)]; grind
      rw [e]
      exact Or.inl ⟨hd.2 h1, h2, h3⟩
    · exact Or.inr ⟨fun h => h1 (hd.1 h), h2, h3⟩
  have rn := run_negF b hb
  obtain ⟨nb, hnb⟩ : ∃ y, Hid (fflip b = y) := ⟨_, rfl⟩
  rw [hnb.out] at H4 rn
  clear ha hb
  go_enter Try.func3, Try.ntmps3
  go_wp2_with fail
  refine (H1.out _).mono ?_
  rintro e w1 ⟨⟨x, y, rfl, hp1⟩, hb1⟩
  have P1 : Hid _ := hp1
  clear hp1
  go_wp2_with fail
  refine (H2.out _).mono ?_
  rintro e w2 ⟨⟨v, z, rfl, hp2⟩, hb2⟩
  have P2 : Hid _ := hp2
  clear hp2
  go_wp2_with fail
  refine (H3.out _ _ _ P1.out).mono ?_
  rintro e w3 ⟨rfl, hb3⟩
  go_wp2_with fail
  refine (H4.out _ _ _ P2.out).mono ?_
  rintro e w4 ⟨rfl, hb4⟩
  go_wp2_with fail
  refine (awake_any _).mono ?_
  rintro e w5 ⟨rfl, hb5⟩
  have HB : Hid (Below w.heap.size w w5) := hb1.trans ((hb2.trans ((hb3.trans ((hb4.trans (hb5.mono hb4.size)).mono hb3.size)).mono hb2.size)).mono hb1.size)
  clear hb1 hb2 hb3 hb4 hb5
  go_wp2
  go_ret
  exact ⟨rfl, HB.out⟩

set_option maxHeartbeats 2000000 in
theorem products_law (a b : Nat) (w : World) (ha : a < 18446744073709551616) (hb : b < 18446744073709551616) : Calls Try.prog 4 #[.float .f64 a, .float .f64 b] w fun e w' => e = .returned (.bool true) ∧ Below w.heap.size w w' := by
  have H1 : Hid (∀ w, Calls Try.prog 13 #[.float .f64 a, .float .f64 b] w fun e w' => (∃ x y, e = .returned (.tuple #[.float .f64 x, .float .f64 y]) ∧ Pair (SafeP a b) (fval a * fval b) x y) ∧ Below w.heap.size w w') := fun w => prod_pair a b w ha hb
  have H3 : Hid (∀ x y w, Pair (SafeP a b) (fval a * fval b) x y → Calls Try.prog 16 #[.float .f64 a, .float .f64 b, .float .f64 x, .float .f64 y] w fun e w' => e = .returned (.bool true) ∧ Below w.heap.size w w') := fun x y w h => refProd_any a b x y w ha hb h
  obtain ⟨p, q, hpq⟩ : ∃ p q, Hid ((∀ w, Calls Try.prog 14 #[.float .f64 a] w fun e w' => e = .returned (.tuple #[.float .f64 p, .float .f64 q]) ∧ Below w.heap.size w w') ∧ (∀ w, Calls Try.prog 15 #[.float .f64 a] w fun e w' => e = .returned (.tuple #[.float .f64 p, .float .f64 q]) ∧ w' = w) ∧ FloatKind.f64.format.order p p = some .eq ∧ FloatKind.f64.format.order q q = some .eq) := by
    by_cases h : SafeW (frung a)
    · obtain ⟨c, d, x, y, h1, h2, h3, _⟩ := halves_words h
      exact ⟨x, y, fun w => split_yes a c d x y w ha h h1, fun w => refSplit_yes a c d x y w ha h h1, by rw [order_val h2 h2, if_neg (by grind), if_pos rfl], by rw [order_val h3 h3, if_neg (by grind), if_pos rfl]⟩
    · exact ⟨0, 0, fun w => split_no a w ha h, fun w => refSplit_no a w ha h, by decide, by decide⟩
  have op := hpq.out.2.2.1
  have oq := hpq.out.2.2.2
  clear ha hb
  go_enter Try.func4, Try.ntmps4
  go_wp2_with fail
  refine (H1.out _).mono ?_
  rintro e w1 ⟨⟨x, y, rfl, hp1⟩, hb1⟩
  have P1 : Hid _ := hp1
  clear hp1
  go_wp2_with fail
  refine (hpq.out.1 _).mono ?_
  rintro e w2 ⟨rfl, hb2⟩
  go_wp2_with fail
  refine (hpq.out.2.1 _).mono ?_
  rintro e w2' ⟨rfl, rfl⟩
  go_wp2_with fail
  refine (H3.out _ _ _ P1.out).mono ?_
  rintro e w3 ⟨rfl, hb3⟩
  go_wp2_with fail
  refine (awake_any _).mono ?_
  rintro e w5 ⟨rfl, hb5⟩
  have HB : Hid (Below w.heap.size w w5) := hb1.trans ((hb2.trans ((hb3.trans (hb5.mono hb3.size)).mono hb2.size)).mono hb1.size)
  clear hb1 hb2 hb3 hb5
  go_wp2
  go_ret
  exact ⟨rfl, HB.out⟩

end Go.Proofs.Ytfocdhapjljooaa
