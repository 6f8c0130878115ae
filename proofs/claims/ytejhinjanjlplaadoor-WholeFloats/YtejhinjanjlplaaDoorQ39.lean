/- Own texts, put together: Hj Xr Xs Xt Xu Xv Xw Oc Od Gc Hk Hl. -/
import Derived.Test.YtejhinjanjlplaaDoorQ36
import Derived.Test.YtejhinjanjlplaaDoorQ37
import Derived.Test.YtejhinjanjlplaaDoorQ38
namespace Go.Proofs.YtejhinjanjlplaaDoor
/- The reference's Rounds, at full range: of what is nearest to the greatest float. -/
section
open Go.RowKit
attribute [local go_sem ↓] Go.wp_at_zero Go.wp_at_succ
set_option maxRecDepth 100000 in
set_option maxHeartbeats 8000000 in
theorem rounds_top (v : Value) (q : Rat) (x r : Nat) (w : World) (hv : Rf w v q) (hq : Fit q) (hq2 : Fit (2 * q)) (hlim : q < ((18014398509481983 : Nat) : Rat) * p2 970) (hq0 : 0 < q) (hn : Near q r) (hxr : x = r) (hr : r = 9218868437227405311) : Calls Tryd.prog 11 #[v, .float .f64 x] w fun e w' => e = .returned (.bool true) ∧ Below w.heap.size w w' := by
 obtain ⟨S, a, n, c, E, rfl, hs⟩ := hv.sgn
 have hS : decide (S < 0) = false := decide_eq_false (by rcases hs with ⟨h, _⟩ | ⟨h, _⟩ | ⟨_, h⟩ <;> first | omega | (exfalso; grind))
 have h0 : r ≠ 0 := by omega
 have fx : Fin64 x := by unfold Fin64 frung; omega
 have hxl : x < 18446744073709551616 := by omega
 have dx : den x = fval r := by rw [den_fin fx, hxr]
 have vx : fval x = fval r := by rw [hxr]
 obtain ⟨n0, s1, s2⟩ := self_sub fx
 have rs : ∀ w, (binOp .sub 22 (.float .f64 x) (.float .f64 x)).run Tryd.prog w = .ok (.float .f64 n0) w := fun w => run_float_arith w .sub _ .f64 _ _ _ s1
 have o1 : FloatKind.f64.format.order x x = some .eq := by rw [order_val fx fx, if_neg (by grind), if_pos rfl]
 have HN : Hid (∀ w, Calls Tryd.prog 31 #[.float .f64 x, .float .f64 9218868437227405311] w fun e w' => e = .returned (.float .f64 x) ∧ w' = w) := by
   intro w
   rw [hxr, hr]
   exact next_same w
 have t2 : ((2 : Nat) : Rat) * p2 0 = 2 := by rw [p2_zero, show ((2 : Nat) : Rat) = 2 from rfl]; grind
 have HAB : Hid (sgq (((2 : Nat) : Rat) * p2 0 * q - (den x + (((1 : Nat) : Rat) * p2 1024))) = -1 ∨ (sgq (((2 : Nat) : Rat) * p2 0 * q - (den x + (((1 : Nat) : Rat) * p2 1024))) = 0 ∧ r % 2 = 0)) := by
   rw [t2, dx, hr]
   show _ ∨ _
   left
   have := top_sum
   unfold sgq
   rw [if_pos (by grind)]
 have HEV : Hid (r % 2 = 0 → (((x : Int) % 2) == 0) = true) := by
   intro h
   subst hxr; simp; omega
 have rb := run_bits x
 have HFQ : Hid (Fit q) := hq
 have HF2 : Hid (Fit (((2 : Nat) : Rat) * p2 0 * q)) := by rw [t2]; exact hq2
 have HFP : Hid (Fit ((((1 : Nat) : Rat) * p2 1024))) := pow_fit 1 1024 (by omega) (by omega) (by omega)
 have HFU : Hid (Fit (den x + (((1 : Nat) : Rat) * p2 1024))) := fit_top x
 have HXL : Hid (x < 18446744073709551616) := hxl
 have HG : Hid (q < ((18014398509481983 : Nat) : Rat) * p2 970) := hlim
 have HR1 : Hid (r = 9218868437227405311) := hr
 have HXR : Hid (x = r) := hxr
 have HBWX : Hid (fval r + fval (r - 1) ≤ 2 * q ∧ (2 * q = fval r + fval (r - 1) → r % 2 = 0)) := near_max hn hr
 have HDX : Hid (den x = fval r) := dx
 have HT2 : Hid (((2 : Nat) : Rat) * p2 0 = 2) := t2
 have hal0 : Below w.heap.size w (w.alloc (.cells #[.int .i64 S, .slice a n c, .int .i64 E] 36)) := (Below.refl _ _).alloc (Nat.le_refl _) _
 have RA0 : Hid (Rf (w.alloc (.cells #[.int .i64 S, .slice a n c, .int .i64 E] 36)) (.agg #[.int .i64 S, .slice a n c, .int .i64 E]) q) := hv.later hal0
 have HA0 : Hid (BoxN (w.alloc (.cells #[.int .i64 S, .slice a n c, .int .i64 E] 36)) w.heap.size S (.slice a n c) E) := BoxN.new w S E _
 have HB0 : Hid (Below w.heap.size w (w.alloc (.cells #[.int .i64 S, .slice a n c, .int .i64 E] 36))) := hal0
 have ox0 : FloatKind.f64.format.order x 0 = some .gt := by
   have := pos_fval (r := r) (by omega) h0
   rw [order_val fx fin0, vx, fval0, if_neg (by grind), if_neg (by grind)]
 have H0 : Hid (r ≠ 0) := h0
 clear hv hq hq2 hlim hs hq0 hn hxr hr fx hxl dx vx s1 t2 hal0 h0
 go_enter Tryd.func11, Tryd.ntmps11
 go_wp2_with fail
 refine (power_walk 18014398509481983 970 _ (by omega) (by omega) (by omega)).mono ?_
 rintro e w1 ⟨v1, rfl, hr1, hb1⟩
 obtain ⟨S1, a1, n1, c1, E1, rfl⟩ := hr1.agg
 have hal : Below w1.heap.size w1 (w1.alloc (.cells #[.int .i64 S1, .slice a1 n1 c1, .int .i64 E1] 36)) := (Below.refl _ _).alloc (Nat.le_refl _) _
 have R1 : Hid (Rf (w1.alloc (.cells #[.int .i64 S1, .slice a1 n1 c1, .int .i64 E1] 36)) (.agg #[.int .i64 S1, .slice a1 n1 c1, .int .i64 E1]) (((18014398509481983 : Nat) : Rat) * p2 970)) := hr1.later hal
 have RA1 : Hid (Rf (w1.alloc (.cells #[.int .i64 S1, .slice a1 n1 c1, .int .i64 E1] 36)) (.agg #[.int .i64 S, .slice a n c, .int .i64 E]) q) := (RA0.out.later hb1).later hal
 have HA1 : Hid (BoxN (w1.alloc (.cells #[.int .i64 S1, .slice a1 n1 c1, .int .i64 E1] 36)) w.heap.size S (.slice a n c) E) := (HA0.out.later hb1).later hal
 have HB1 : Hid (Below w.heap.size w (w1.alloc (.cells #[.int .i64 S1, .slice a1 n1 c1, .int .i64 E1] 36))) := HB0.out.trans ((hb1.trans (hal.mono hb1.size)).mono HB0.out.size)
 obtain ⟨za0, za1, za2, _, zal⟩ := (HA0.out.later hb1).cells
 clear hr1 hb1 hal
 go_wp2_with fail
 refine (cmp_less _ _ q _ _ RA1.out R1.out HFQ.out (pow_fit _ 970 (by omega) (by omega) (by omega)) HG.out).mono ?_
 rintro e w2 ⟨rfl, hb2⟩
 have RA2 : Hid (Rf w2 (.agg #[.int .i64 S, .slice a n c, .int .i64 E]) q) := RA1.out.later hb2
 have HA2 : Hid (BoxN w2 w.heap.size S (.slice a n c) E) := HA1.out.later hb2
 have HB2 : Hid (Below w.heap.size w w2) := HB1.out.trans (hb2.mono HB1.out.size)
 clear hb2 RA1 HA1 HB1 R1 za0 za1 za2 zal
 go_wp2_with fail
 refine (power_walk 1 1024 _ (by omega) (by omega) (by omega)).mono ?_
 rintro e w3 ⟨v3, rfl, hr3, hb3⟩
 obtain ⟨S3, a3, n3, c3, E3, rfl⟩ := hr3.agg
 have hal : Below w3.heap.size w3 (w3.alloc (.cells #[.int .i64 S3, .slice a3 n3 c3, .int .i64 E3] 36)) := (Below.refl _ _).alloc (Nat.le_refl _) _
 have RA3 : Hid (Rf (w3.alloc (.cells #[.int .i64 S3, .slice a3 n3 c3, .int .i64 E3] 36)) (.agg #[.int .i64 S, .slice a n c, .int .i64 E]) q) := (RA2.out.later hb3).later hal
 have HA3 : Hid (BoxN (w3.alloc (.cells #[.int .i64 S3, .slice a3 n3 c3, .int .i64 E3] 36)) w.heap.size S (.slice a n c) E) := (HA2.out.later hb3).later hal
 have HU3 : Hid (BoxN (w3.alloc (.cells #[.int .i64 S3, .slice a3 n3 c3, .int .i64 E3] 36)) w3.heap.size S3 (.slice a3 n3 c3) E3) := BoxN.new w3 S3 E3 _
 have HB3 : Hid (Below w.heap.size w (w3.alloc (.cells #[.int .i64 S3, .slice a3 n3 c3, .int .i64 E3] 36))) := HB2.out.trans ((hb3.trans (hal.mono hb3.size)).mono HB2.out.size)
 have RU3 : Hid (Rf (w3.alloc (.cells #[.int .i64 S3, .slice a3 n3 c3, .int .i64 E3] 36)) (.agg #[.int .i64 S3, .slice a3 n3 c3, .int .i64 E3]) ((((1 : Nat) : Rat) * p2 1024))) := hr3.later hal
 have hsz3 : Hid (w.heap.size < w3.heap.size) := (HA2.out.later hb3).cells.2.2.2.2
 clear hr3 hb3 hal RA2 HA2 HB2
 go_wp2_with fail
 refine (HN.out _).mono ?_
 rintro e w' ⟨rfl, rfl⟩
 go_wp2_with fail
 refine (power_walk 1 (-1074) _ (by omega) (by omega) (by omega)).mono ?_
 rintro e w5 ⟨v5, rfl, hr5, hb5⟩
 obtain ⟨S5, ds5, E5, d5, k5, q5⟩ := id hr5
 obtain ⟨a5, c5, rfl, _⟩ := d5.form
 have hfd := run_fieldD S5 E5 a5 ds5.length c5
 go_wp2_with fail
 refine (power_walk 1 (-1074) _ (by omega) (by omega) (by omega)).mono ?_
 rintro e w6 ⟨v6, rfl, hr6, hb6⟩
 obtain ⟨S6, ds6, E6, d6, k6, q6⟩ := id hr6
 obtain ⟨a6, c6, rfl, _⟩ := d6.form
 have hfe := run_fieldE S6 E6 a6 ds6.length c6
 have hpp : (0 : Rat) < ((1 : Nat) : Rat) * p2 (-1074) := Rat.mul_pos (by decide) (p2_pos _)
 have hEE : E5 = E6 := canon_E k5 k6 d5.small d6.small (by rw [← q5, ← q6]) (by rw [← q5]; grind)
 have RD6 : Rf w6 (.agg #[.int .i64 (-1), .slice a5 ds5.length c5, .int .i64 E6]) (-(((1 : Nat) : Rat) * p2 (-1074))) := by
   have h1 := (hr5.later hb6).flip rfl
   have hS5 : S5 = 1 := by
     have := canon_sgn k5
     rw [← q5] at this
     rcases this with ⟨_, h⟩ | ⟨h, _⟩ | ⟨_, h⟩
     · exfalso; grind
     · exact h
     · exfalso; grind
   rw [hS5, hEE] at h1
   exact h1
 obtain ⟨n5, hn5⟩ : ∃ n, Hid (ds5.length = n) := ⟨_, rfl⟩
 rw [hn5.out] at RD6 hfd
 simp only [hn5.out]
 have hal : Below w6.heap.size w6 (w6.alloc (.cells #[.int .i64 (-1), .slice a5 n5 c5, .int .i64 E6] 36)) := (Below.refl _ _).alloc (Nat.le_refl _) _
 have RAW : Hid (Rf (w6.alloc (.cells #[.int .i64 (-1), .slice a5 n5 c5, .int .i64 E6] 36)) (.agg #[.int .i64 S, .slice a n c, .int .i64 E]) q) := ((RA3.out.later hb5).later hb6).later hal
 have RUW : Hid (Rf (w6.alloc (.cells #[.int .i64 (-1), .slice a5 n5 c5, .int .i64 E6] 36)) (.agg #[.int .i64 S3, .slice a3 n3 c3, .int .i64 E3]) ((((1 : Nat) : Rat) * p2 1024))) := ((RU3.out.later hb5).later hb6).later hal
 have RDW : Hid (Rf (w6.alloc (.cells #[.int .i64 (-1), .slice a5 n5 c5, .int .i64 E6] 36)) (.agg #[.int .i64 (-1), .slice a5 n5 c5, .int .i64 E6]) (-(((1 : Nat) : Rat) * p2 (-1074)))) := RD6.later hal
 have HAW : Hid (BoxN (w6.alloc (.cells #[.int .i64 (-1), .slice a5 n5 c5, .int .i64 E6] 36)) w.heap.size S (.slice a n c) E) := ((HA3.out.later hb5).later hb6).later hal
 have HUW : Hid (BoxN (w6.alloc (.cells #[.int .i64 (-1), .slice a5 n5 c5, .int .i64 E6] 36)) w3.heap.size S3 (.slice a3 n3 c3) E3) := ((HU3.out.later hb5).later hb6).later hal
 have HDW : Hid (BoxN (w6.alloc (.cells #[.int .i64 (-1), .slice a5 n5 c5, .int .i64 E6] 36)) w6.heap.size (-1) (.slice a5 n5 c5) E6) := BoxN.new w6 _ _ _
 have HBW : Hid (Below w.heap.size w (w6.alloc (.cells #[.int .i64 (-1), .slice a5 n5 c5, .int .i64 E6] 36))) := HB3.out.trans (((hb5.trans (hb6.mono hb5.size)).trans (hal.mono (Nat.le_trans hb5.size hb6.size))).mono HB3.out.size)
 have hszu : Hid (w3.heap.size < w6.heap.size ∧ w.heap.size < w6.heap.size) := ⟨((HU3.out.later hb5).later hb6).cells.2.2.2.2, ((HA3.out.later hb5).later hb6).cells.2.2.2.2⟩
 have HPP : Hid ((0 : Rat) < ((1 : Nat) : Rat) * p2 (-1074)) := hpp
 clear hr5 hr6 hb5 hb6 d5 d6 k5 k6 q5 q6 hEE RD6 hal RA3 RU3 HA3 HU3 HB3 hpp
 have HDN : Hid (∀ w, Calls Tryd.prog 31 #[.float .f64 x, .float .f64 0] w fun e w' => e = .returned (.float .f64 (r - 1)) ∧ w' = w) := by
   intro w
   rw [HXR.out]
   exact next_downF r w (by have := HR1.out; omega) H0.out
 go_wp2_with fail
 refine (HDN.out _).mono ?_
 rintro e w' ⟨rfl, rfl⟩
 go_wp2_with fail
 refine (refOf_any (r - 1) _ (by have := HR1.out; omega)).mono ?_
 rintro e w7 ⟨v7, rfl, hr7, hb7⟩
 obtain ⟨S7, a7, n7, c7, E7, rfl⟩ := hr7.agg
 have HD7 := HDW.out.later hb7
 have hne1 : w.heap.size ≠ w6.heap.size := by have := hszu.out; omega
 have hne2 : w3.heap.size ≠ w6.heap.size := by have := hszu.out; omega
 have HAx := (HAW.out.later hb7).other3 hne1 (.int .i64 S7) (.slice a7 n7 c7) (.int .i64 E7)
 have HUx := (HUW.out.later hb7).other3 hne2 (.int .i64 S7) (.slice a7 n7 c7) (.int .i64 E7)
 have HDx : BoxN (((w7.setCell ⟨w6.heap.size, 0, none⟩ (.int .i64 S7)).setCell ⟨w6.heap.size, 1, none⟩ (.slice a7 n7 c7)).setCell ⟨w6.heap.size, 2, none⟩ (.int .i64 E7)) w6.heap.size S7 (.slice a7 n7 c7) E7 := HD7.set3
 have RAx := (RAW.out.later hb7).boxed (other_box HD7) (.int .i64 S7) (.slice a7 n7 c7) (.int .i64 E7)
 have RUx := (RUW.out.later hb7).boxed (other_box HD7) (.int .i64 S7) (.slice a7 n7 c7) (.int .i64 E7)
 have RDx := hr7.boxed (other_box HD7) (.int .i64 S7) (.slice a7 n7 c7) (.int .i64 E7)
 have HBx := below_num3 (HBW.out.trans (hb7.mono HBW.out.size)) (show w.heap.size ≤ w6.heap.size by have := hszu.out; omega) (.int .i64 S7) (.slice a7 n7 c7) (.int .i64 E7)
 obtain ⟨yd0, yd1, yd2, ydf, ydl⟩ := HD7.cells
 clear HAW HUW HDW RAW RUW RDW HBW hr7 hb7 HD7
 have HAW : Hid (BoxN (((w7.setCell ⟨w6.heap.size, 0, none⟩ (.int .i64 S7)).setCell ⟨w6.heap.size, 1, none⟩ (.slice a7 n7 c7)).setCell ⟨w6.heap.size, 2, none⟩ (.int .i64 E7)) w.heap.size S (.slice a n c) E) := HAx
 have HUW : Hid (BoxN (((w7.setCell ⟨w6.heap.size, 0, none⟩ (.int .i64 S7)).setCell ⟨w6.heap.size, 1, none⟩ (.slice a7 n7 c7)).setCell ⟨w6.heap.size, 2, none⟩ (.int .i64 E7)) w3.heap.size S3 (.slice a3 n3 c3) E3) := HUx
 have HDW : Hid (BoxN (((w7.setCell ⟨w6.heap.size, 0, none⟩ (.int .i64 S7)).setCell ⟨w6.heap.size, 1, none⟩ (.slice a7 n7 c7)).setCell ⟨w6.heap.size, 2, none⟩ (.int .i64 E7)) w6.heap.size S7 (.slice a7 n7 c7) E7) := HDx
 have RAW : Hid (Rf (((w7.setCell ⟨w6.heap.size, 0, none⟩ (.int .i64 S7)).setCell ⟨w6.heap.size, 1, none⟩ (.slice a7 n7 c7)).setCell ⟨w6.heap.size, 2, none⟩ (.int .i64 E7)) (.agg #[.int .i64 S, .slice a n c, .int .i64 E]) q) := RAx
 have RUW : Hid (Rf (((w7.setCell ⟨w6.heap.size, 0, none⟩ (.int .i64 S7)).setCell ⟨w6.heap.size, 1, none⟩ (.slice a7 n7 c7)).setCell ⟨w6.heap.size, 2, none⟩ (.int .i64 E7)) (.agg #[.int .i64 S3, .slice a3 n3 c3, .int .i64 E3]) ((((1 : Nat) : Rat) * p2 1024))) := RUx
 have RDW : Hid (Rf (((w7.setCell ⟨w6.heap.size, 0, none⟩ (.int .i64 S7)).setCell ⟨w6.heap.size, 1, none⟩ (.slice a7 n7 c7)).setCell ⟨w6.heap.size, 2, none⟩ (.int .i64 E7)) (.agg #[.int .i64 S7, .slice a7 n7 c7, .int .i64 E7]) (den (r - 1))) := RDx
 have HBW : Hid (Below w.heap.size w (((w7.setCell ⟨w6.heap.size, 0, none⟩ (.int .i64 S7)).setCell ⟨w6.heap.size, 1, none⟩ (.slice a7 n7 c7)).setCell ⟨w6.heap.size, 2, none⟩ (.int .i64 E7))) := HBx
 clear HAx HUx HDx RAx RUx RDx HBx
 have HFD : Hid (Fit (den (r - 1))) := den_Fit _
 have HFXD : Hid (Fit (den x + den (r - 1))) := (Bd.add (den_fit x) (den_fit (r - 1))).mono (by omega) (by omega)
 have HBL : Hid (sgq (((2 : Nat) : Rat) * p2 0 * q - (den x + den (r - 1))) = 1 ∨ (sgq (((2 : Nat) : Rat) * p2 0 * q - (den x + den (r - 1))) = 0 ∧ r % 2 = 0)) := by
   have hb := HBWX.out
   rw [HT2.out, HDX.out, den_fin (fin_small (by have := HR1.out; omega))]
   show _ ∨ _
   unfold sgq
   by_cases h : fval r + fval (r - 1) < 2 * q
   · left; rw [if_neg (by grind), if_neg (by grind)]
   · right
     rw [if_neg (by grind), if_pos (by grind)]
     exact ⟨rfl, hb.2 (by grind)⟩
 clear hne1 hne2
 go_wp2_with fail
 refine (power_walk 2 0 _ (by omega) (by omega) (by omega)).mono ?_
 rintro e w8 ⟨v8, rfl, hr8, hb8⟩
 obtain ⟨S8, a8, n8, c8, E8, rfl⟩ := hr8.agg
 have hal : Below w8.heap.size w8 (w8.alloc (.cells #[.int .i64 S8, .slice a8 n8 c8, .int .i64 E8] 36)) := (Below.refl _ _).alloc (Nat.le_refl _) _
 have R8 : Hid (Rf (w8.alloc (.cells #[.int .i64 S8, .slice a8 n8 c8, .int .i64 E8] 36)) (.agg #[.int .i64 S8, .slice a8 n8 c8, .int .i64 E8]) (((2 : Nat) : Rat) * p2 0)) := hr8.later hal
 have RA8 : Hid (Rf (w8.alloc (.cells #[.int .i64 S8, .slice a8 n8 c8, .int .i64 E8] 36)) (.agg #[.int .i64 S, .slice a n c, .int .i64 E]) q) := (RAW.out.later hb8).later hal
 have RU8 : Hid (Rf (w8.alloc (.cells #[.int .i64 S8, .slice a8 n8 c8, .int .i64 E8] 36)) (.agg #[.int .i64 S3, .slice a3 n3 c3, .int .i64 E3]) ((((1 : Nat) : Rat) * p2 1024))) := (RUW.out.later hb8).later hal
 have RD8 : Hid (Rf (w8.alloc (.cells #[.int .i64 S8, .slice a8 n8 c8, .int .i64 E8] 36)) (.agg #[.int .i64 S7, .slice a7 n7 c7, .int .i64 E7]) (den (r - 1))) := (RDW.out.later hb8).later hal
 obtain ⟨xa0, xa1, xa2, _, la⟩ := ((HAW.out.later hb8).later hal).cells
 obtain ⟨xu0, xu1, xu2, _, lu⟩ := ((HUW.out.later hb8).later hal).cells
 obtain ⟨xd0, xd1, xd2, _, ld⟩ := ((HDW.out.later hb8).later hal).cells
 obtain ⟨xt0, xt1, xt2, _, lt⟩ := (BoxN.new w8 S8 E8 (.slice a8 n8 c8)).cells
 clear yd0 yd1 yd2 ydf ydl
 have HB8 : Hid (Below w.heap.size w (w8.alloc (.cells #[.int .i64 S8, .slice a8 n8 c8, .int .i64 E8] 36))) := HBW.out.trans (((hb8.trans (hal.mono hb8.size))).mono HBW.out.size)
 have hrefl : Hid (Below (w8.alloc (.cells #[.int .i64 S8, .slice a8 n8 c8, .int .i64 E8] 36)).heap.size (w8.alloc (.cells #[.int .i64 S8, .slice a8 n8 c8, .int .i64 E8] 36)) (w8.alloc (.cells #[.int .i64 S8, .slice a8 n8 c8, .int .i64 E8] 36))) := Below.refl _ _
 clear hr8 hb8 hal la lu ld lt
 obtain ⟨A, hA⟩ : ∃ A, Hid (sgq (((2 : Nat) : Rat) * p2 0 * q - (den x + (((1 : Nat) : Rat) * p2 1024))) = A) := ⟨_, rfl⟩
 obtain ⟨B, hB⟩ : ∃ B, Hid (sgq (((2 : Nat) : Rat) * p2 0 * q - (den x + (den (r - 1)))) = B) := ⟨_, rfl⟩
 go_wp2
 go_region_held3 (fun W => W.cell? ⟨w8.heap.size, 0, none⟩ = some (.int .i64 S8) ∧ W.cell? ⟨w8.heap.size, 1, none⟩ = some (.slice a8 n8 c8) ∧ W.cell? ⟨w8.heap.size, 2, none⟩ = some (.int .i64 E8) ∧ W.cell? ⟨w.heap.size, 0, none⟩ = some (.int .i64 S) ∧ W.cell? ⟨w.heap.size, 1, none⟩ = some (.slice a n c) ∧ W.cell? ⟨w.heap.size, 2, none⟩ = some (.int .i64 E) ∧ W.cell? ⟨w3.heap.size, 0, none⟩ = some (.int .i64 S3) ∧ W.cell? ⟨w3.heap.size, 1, none⟩ = some (.slice a3 n3 c3) ∧ W.cell? ⟨w3.heap.size, 2, none⟩ = some (.int .i64 E3) ∧ Below (w8.alloc (.cells #[.int .i64 S8, .slice a8 n8 c8, .int .i64 E8] 36)).heap.size (w8.alloc (.cells #[.int .i64 S8, .slice a8 n8 c8, .int .i64 E8] 36)) W)
   (first
     | assumption
     | exact ⟨by go_simp, by go_simp, by go_simp, by go_simp, by go_simp, by go_simp, by go_simp, by go_simp, by go_simp, hrefl.out.drew⟩
     | exact keepN9 (by assumption) (by assumption))
   (first
     | (go_at_call 14; refine (mul_rf _ _ (((2 : Nat) : Rat) * p2 0) q _ (R8.out.later hrefl.out.drew) (RA8.out.later hrefl.out.drew) (pow_fit 2 0 (by omega) (by omega) (by omega)) HFQ.out).mono ?_; rintro e wA ⟨vA, rfl, hrA, hbA⟩)
     | (go_at_call 13; refine (refOf_any x _ HXL.out).mono ?_; rintro e wB ⟨vB, rfl, hrB, hbB⟩)
     | (go_at_call 12; refine (refAdd_any _ _ (den x) ((((1 : Nat) : Rat) * p2 1024)) _ hrB (RU8.out.later (by exact (by assumption : _ ∧ _ ∧ _ ∧ _ ∧ _ ∧ _ ∧ _ ∧ _ ∧ _ ∧ Below (w8.alloc (.cells #[.int .i64 S8, .slice a8 n8 c8, .int .i64 E8] 36)).heap.size (w8.alloc (.cells #[.int .i64 S8, .slice a8 n8 c8, .int .i64 E8] 36)) _).2.2.2.2.2.2.2.2.2)) (den_Fit _) HFP.out).mono ?_; rintro e wC ⟨vC, rfl, hrC, hbC⟩)
     | (go_at_call 30; refine (cmp_is _ _ (((2 : Nat) : Rat) * p2 0 * q) (den x + (((1 : Nat) : Rat) * p2 1024)) A _ ((hrA.later hbB).later hbC) hrC HF2.out HFU.out hA.out).mono ?_; rintro e wD ⟨rfl, hbD⟩))
 obtain ⟨xt0', xt1', xt2', xa0', xa1', xa2', _, _, _, hBf⟩ := (by assumption : _ ∧ _ ∧ _ ∧ _ ∧ _ ∧ _ ∧ _ ∧ _ ∧ _ ∧ Below (w8.alloc (.cells #[.int .i64 S8, .slice a8 n8 c8, .int .i64 E8] 36)).heap.size (w8.alloc (.cells #[.int .i64 S8, .slice a8 n8 c8, .int .i64 E8] 36)) wD)
 have yd0 := box_cell hBf xd0
 have yd1 := box_cell hBf xd1
 have yd2 := box_cell hBf xd2
 have HBD : Hid (Below (w8.alloc (.cells #[.int .i64 S8, .slice a8 n8 c8, .int .i64 E8] 36)).heap.size (w8.alloc (.cells #[.int .i64 S8, .slice a8 n8 c8, .int .i64 E8] 36)) wD) := hBf
 clear hrA hrB hrC hbA hbB hbC hbD hBf xa0 xa1 xa2 xu0 xu1 xu2 xd0 xd1 xd2 xt0 xt1 xt2
 have hrefl2 : Hid (Below wD.heap.size wD wD) := Below.refl _ _
 go_wp2
 go_region_held3 (fun W => W.cell? ⟨w8.heap.size, 0, none⟩ = some (.int .i64 S8) ∧ W.cell? ⟨w8.heap.size, 1, none⟩ = some (.slice a8 n8 c8) ∧ W.cell? ⟨w8.heap.size, 2, none⟩ = some (.int .i64 E8) ∧ W.cell? ⟨w.heap.size, 0, none⟩ = some (.int .i64 S) ∧ W.cell? ⟨w.heap.size, 1, none⟩ = some (.slice a n c) ∧ W.cell? ⟨w.heap.size, 2, none⟩ = some (.int .i64 E) ∧ W.cell? ⟨w6.heap.size, 0, none⟩ = some (.int .i64 S7) ∧ W.cell? ⟨w6.heap.size, 1, none⟩ = some (.slice a7 n7 c7) ∧ W.cell? ⟨w6.heap.size, 2, none⟩ = some (.int .i64 E7) ∧ Below wD.heap.size wD W)
   (first
     | assumption
     | exact ⟨by go_simp, by go_simp, by go_simp, by go_simp, by go_simp, by go_simp, by go_simp, by go_simp, by go_simp, hrefl2.out.drew⟩
     | exact keepN9 (by assumption) (by assumption))
   (first
     | (go_at_call 14; refine (mul_rf _ _ (((2 : Nat) : Rat) * p2 0) q _ ((R8.out.later HBD.out).later hrefl2.out.drew) ((RA8.out.later HBD.out).later hrefl2.out.drew) (pow_fit 2 0 (by omega) (by omega) (by omega)) HFQ.out).mono ?_; rintro e wA ⟨vA, rfl, hrA, hbA⟩)
     | (go_at_call 13; refine (refOf_any x _ HXL.out).mono ?_; rintro e wB ⟨vB, rfl, hrB, hbB⟩)
     | (go_at_call 12; refine (refAdd_any _ _ (den x) (den (r - 1)) _ hrB ((RD8.out.later HBD.out).later (by exact (by assumption : _ ∧ _ ∧ _ ∧ _ ∧ _ ∧ _ ∧ _ ∧ _ ∧ _ ∧ Below wD.heap.size wD _).2.2.2.2.2.2.2.2.2)) (den_Fit _) HFD.out).mono ?_; rintro e wC ⟨vC, rfl, hrC, hbC⟩)
     | (go_at_call 30; refine (cmp_is _ _ (((2 : Nat) : Rat) * p2 0 * q) (den x + (den (r - 1))) B _ ((hrA.later hbB).later hbC) hrC HF2.out HFXD.out hB.out).mono ?_; rintro e wE ⟨rfl, hbE⟩))
 have hBg := (by assumption : _ ∧ _ ∧ _ ∧ _ ∧ _ ∧ _ ∧ _ ∧ _ ∧ _ ∧ Below wD.heap.size wD wE).2.2.2.2.2.2.2.2.2
 have HBE : Hid (Below w.heap.size w wE) := HB8.out.trans ((HBD.out.trans (hBg.mono HBD.out.size)).mono HB8.out.size)
 have hAc : A = -1 ∨ (A = 0 ∧ r % 2 = 0) := by have := HAB.out; rwa [hA.out] at this
 have hBc : B = 1 ∨ (B = 0 ∧ r % 2 = 0) := by have := HBL.out; rwa [hB.out] at this
 clear hrA hrB hrC hbA hbB hbC hbE hBg xt0' xt1' xt2' xa0' xa1' xa2' yd0 yd1 yd2 hA hB
 rcases hAc with rfl | ⟨rfl, hpar⟩
 · rcases hBc with rfl | ⟨rfl, hpar⟩
   · go_wp2
     all_goals
       go_ret
       exact ⟨rfl, HBE.out⟩
   · have hev := HEV.out hpar
     clear hpar
     go_wp2
     go_ret
     exact ⟨rfl, HBE.out⟩
 · have hev := HEV.out hpar
   clear hpar
   rcases hBc with rfl | ⟨rfl, _⟩
   · go_wp2
     go_ret
     exact ⟨rfl, HBE.out⟩
   · go_wp2
     go_ret
     exact ⟨rfl, HBE.out⟩
end

/- Package expand: a list squeezed: the walk. -/
section
open Go.RowKit Go.Shelf
attribute [local go_sem] Oper.semAt_some
attribute [local go_sem] run_store_float
end

/- Package expand: a list squeezed, whatever it is; a list turned about. -/
section
open Go.RowKit Go.Shelf
attribute [local go_sem] run_store_float
end

/- Package expand: which lists may be, and what follows of it. -/
section
open Go.RowKit Go.Shelf
theorem up_may {lo hi : Nat} {bs : List Nat} (hx : Ex (vals bs)) (hl : bs.length ≤ 64) (hb : ∀ b ∈ bs, lo ≤ frung b ∧ frung b ≤ hi) : MayP lo hi bs := by
 refine ⟨hl, fun i hi => ?_⟩
 have hm : bs.getD i 0 ∈ bs := by
   rw [show bs.getD i 0 = bs[i] by simp [List.getD, hi]]; exact List.getElem_mem hi
 refine ⟨(hb _ hm).1, (hb _ hm).2, fun e => hx.2 (fval (bs.getD i 0)) (List.mem_map.2 ⟨_, hm, rfl⟩) (fval_zero_iff.2 e), fun h0 => ?_⟩
 have := (List.pairwise_iff_getElem.1 hx.1) (i - 1) i (by simp [vals]; omega) (by simp [vals]; omega) (by omega)
 have h1 : i - 1 < bs.length := by omega
 simpa [vals, List.getD, hi, h1] using this
theorem top990 : fval 9065746049896808448 = U 2064 := by
 rw [(fval_pos_lt (by omega)).1, show fmag 9065746049896808448 = 4503599627370496 by decide, show fpl 9065746049896808448 = 938 by decide]
 unfold U
 rw [show ((2064 : Nat) : Int) - 1074 = 938 + ((52 : Nat) : Int) by omega, p2_add, p2_nat, Rat.mul_comm]
theorem word_le {b : Nat} (h : Fin64 b) (hl : ab (fval b) ≤ U 2064) : frung b ≤ 9065746049896808448 := by
 rcases Nat.lt_or_ge 9065746049896808448 (frung b) with h1 | h1
 · exfalso
   have := fval_lt h1 h
   rw [top990, ab_fval b h] at this
   grind
 · exact h1
theorem Ex.lead {l : List Rat} {c : Rat} (h : Ex (l ++ [c])) : ab l.sum < ab c := by
 have c0 : c ≠ 0 := h.2 c (by simp)
 by_cases e : l = []
 · subst e
   rw [List.sum_nil, show ab 0 = 0 by unfold ab; grind]
   exact ab_pos c0
 · obtain ⟨t, h1, h2⟩ := lo_many (fun d hd => (List.pairwise_append.1 h.1).2.2 d hd c (by simp)) e
   have h3 := h.left.bound (s := t) h1
   have h4 := h2.ge (U_pos t) c0
   grind
theorem vals_last {bs : List Nat} (h : bs ≠ []) : ∃ ds, bs = ds ++ [lastW bs] := by
 rcases List.eq_nil_or_concat bs with rfl | ⟨ds, c, rfl⟩
 · exact absurd rfl h
 · exact ⟨ds, by rw [List.concat_eq_append]; simp [lastW, List.getD]⟩
theorem Ex.le_last {l : List Rat} {c x : Rat} (h : Ex (l ++ [c])) (hx : x ∈ l ++ [c]) : ab x ≤ ab c := by
 rcases List.mem_append.1 hx with hx | hx
 · have := ((List.pairwise_append.1 h.1).2.2 x hx c (by simp)).lt (h.2 c (by simp))
   grind
 · rw [List.mem_singleton.1 hx]; exact Rat.le_refl
theorem Sq.up {top N : Nat} {S : Rat} {bs : List Nat} (h : Sq top S bs) (hS : ab S < U N) : Up (N + 1) bs := by
 refine ⟨h.ex, h.fin, fun b hb => ?_⟩
 have hne : bs ≠ [] := by intro e; rw [e] at hb; cases hb
 obtain ⟨ds, hd⟩ := vals_last hne
 have e2 : vals bs = vals ds ++ [fval (lastW bs)] := by
   conv => lhs; rw [hd]
   simp [vals]
 have hl := (h.lead (fval (lastW bs)) (by rw [e2]; simp)).1
 have hx : fval b ∈ vals bs := List.mem_map.2 ⟨b, hb, rfl⟩
 have hex := h.ex
 rw [e2] at hx hex
 have h1 := hex.le_last hx
 have h2 : ab (fval (lastW bs)) ≤ ab (fval (lastW bs) - S) + ab S := by
   have := ab_add (fval (lastW bs) - S) S
   rwa [show fval (lastW bs) - S + S = fval (lastW bs) by grind] at this
 have h3 := U_succ N
 have h4 := ab_nonneg (fval (lastW bs) - S)
 grind
theorem Up.mono {N N' : Nat} {bs : List Nat} (h : Up N bs) (hN : N ≤ N') : Up N' bs := ⟨h.ex, h.fin, fun b hb => by have := h.lim b hb; have := U_mono hN; grind⟩
theorem up_nil (N : Nat) : Up N [] := ⟨⟨List.Pairwise.nil, by simp [vals]⟩, by simp, by simp⟩
theorem Sq.may {top N : Nat} {S : Rat} {bs : List Nat} (h : Sq top S bs) (hS : ab S < U N) (hN : N ≤ 2063) (ht : top ≤ 2074) : MayP 0 9065746049896808448 bs := by
 have u := h.up hS
 refine up_may h.ex (by have := h.cnt; omega) (fun b hb => ⟨Nat.zero_le _, word_le (h.fin b hb) ?_⟩)
 have := u.lim b hb
 have := U_mono (show N + 1 ≤ 2064 by omega)
 grind
end

/- Package expand: Sign, Near, Cmp, Of. -/
section
open Go.RowKit Go.Shelf
abbrev MayC (bs : List Nat) : Prop := MayP 0 9065746049896808448 bs
end

/- Package expand: Sum, Add. -/
section
open Go.RowKit Go.Shelf
structure SumS (S : Rat) (bs : List Nat) : Prop where
 sum : (vals bs).sum = S
 up : Up 1984 bs
 cnt : bs.length ≤ 64
 may : MayC bs
 sq : ∃ top, Sq top S bs
theorem SumS.nil : SumS 0 [] := ⟨rfl, up_nil _, by simp, ⟨by simp, fun i hi => by simp at hi⟩, ⟨0, Sq.nil 0⟩⟩
end

/- Package expand: Add, Mul, Scale. -/
section
open Go.RowKit Go.Shelf
end

/- Which points may be: grid.Has. -/
section
open Go.RowKit
attribute [local go_sem ↓] Go.wp_at_zero Go.wp_at_succ
attribute [local go_sem] run_store_float
end

/- Signs that are told fast: the floats that are reckoned. -/
section
open Go.RowKit
def S3 (ax ay bx by' cx cy : Nat) : Rat := (fval bx - fval ax) * (fval cy - fval ay) - (fval by' - fval ay) * (fval cx - fval ax)
theorem M.ab {u x : Rat} (h : M u x) : M u (ab x) := by
 unfold Go.Proofs.YtejhinjanjlplaaDoor.ab
 split
 · exact h.neg
 · exact h
theorem RN.int {q x : Rat} (h : RN q x) (n : Int) (e : q = (n : Rat)) (h1 : -9007199254740992 ≤ n) (h2 : n ≤ 9007199254740992) : x = q := h.exact (by rw [e]; exact F_int n h1 h2)
end

/- Floats at full range: what is too great is infinite; quotients. -/
section
theorem near_word (s : Bool) (m : Nat) (place : Int) : ∃ r, Ieee.double.write (.number s m place) = Ieee.double.word s r ∧ Near ((m : Nat) * p2 place) r := by
 show ∃ r, Ieee.double.nearest s m place = Ieee.double.word s r ∧ _
 by_cases hm : m = 0
 · subst hm
   exact ⟨0, by unfold Ieee.Format.nearest; rw [if_pos rfl], Or.inl ⟨by rw [show ((0 : Nat) : Rat) = 0 from rfl]; grind, rfl⟩⟩
 · exact nearest_near s m place hm
def RW (q : Rat) (b : Nat) : Prop := ∃ r, (0 ≤ q ∧ Near q r ∧ b = r) ∨ (q ≤ 0 ∧ Near (-q) r ∧ b = 9223372036854775808 + r)
theorem near_top {q : Rat} {r : Nat} (h : Near q r) (hr : ¬ r < 9218868437227405312) : 0 < q := by
 have h0 := (near_nonneg h).1
 apply Classical.byContradiction
 intro hq
 have e : q = 0 := by grind
 subst e
 have := near_zero h
 omega
theorem RW.cases {q : Rat} {b : Nat} (h : RW q b) : b < 18446744073709551616 ∧ ((Fin64 b ∧ RV q (fval b)) ∨ (b = 9218868437227405312 ∧ 0 < q) ∨ (b = 18442240474082181120 ∧ q < 0)) := by
 obtain ⟨r, h⟩ := h
 rcases h with ⟨h0, hn, rfl⟩ | ⟨h0, hn, rfl⟩
 · have hr := (near_nonneg hn).2
   rcases Nat.lt_or_ge b 9218868437227405312 with h | h
   · exact ⟨by omega, Or.inl ⟨by unfold Fin64 frung; omega, b, h, Or.inl ⟨h0, hn, rfl⟩⟩⟩
   · exact ⟨by omega, Or.inr (Or.inl ⟨by omega, near_top hn (by omega)⟩)⟩
 · have hr := (near_nonneg hn).2
   rcases Nat.lt_or_ge r 9218868437227405312 with h | h
   · exact ⟨by omega, Or.inl ⟨by unfold Fin64 frung; omega, r, h, Or.inr ⟨h0, hn, fval_word h⟩⟩⟩
   · exact ⟨by omega, Or.inr (Or.inr ⟨by omega, by have := near_top hn (by omega); grind⟩)⟩
theorem write_rw (s : Bool) (m : Nat) (place : Int) : ∃ b, Ieee.double.write (.number s m place) = b ∧ RW (sgn1 s * ((m : Nat) * p2 place)) b := by
 obtain ⟨r, e, hn⟩ := near_word s m place
 have h0 := (near_nonneg hn).1
 refine ⟨_, e, r, ?_⟩
 unfold sgn1
 cases s
 · left
   rw [if_neg (by decide), Rat.one_mul]
   exact ⟨h0, hn, rfl⟩
 · right
   rw [if_pos rfl]
   generalize ((m : Nat) : Rat) * p2 place = z at *
   exact ⟨by grind, by rwa [show -(-1 * z) = z by grind], by rw [Ieee.Format.word, d_sw]; rfl⟩
theorem sum_full (s t : Bool) (m n : Nat) (i j : Int) :
   ∃ r, ((Ieee.Datum.number s m i).sum (Ieee.Datum.number t n j)).map Ieee.double.write = some r ∧ RW (sgn1 s * (((m : Nat) : Rat) * p2 i) + sgn1 t * (((n : Nat) : Rat) * p2 j)) r := by
 unfold Ieee.Datum.sum
 simp only [Option.map_some]
 obtain ⟨base, hbase⟩ : ∃ b : Int, b = min i j := ⟨_, rfl⟩
 rw [← hbase]
 have e1 := signed_p2 s m (i - base).toNat base
 have e2 := signed_p2 t n (j - base).toNat base
 rw [show base + (((i - base).toNat : Nat) : Int) = i by omega] at e1
 rw [show base + (((j - base).toNat : Nat) : Int) = j by omega] at e2
 obtain ⟨total, ht⟩ : ∃ z : Int, z = Ieee.signed s m (i - base).toNat + Ieee.signed t n (j - base).toNat := ⟨_, rfl⟩
 rw [← ht]
 have eq : sgn1 s * ((m : Nat) * p2 i) + sgn1 t * ((n : Nat) * p2 j) = (total : Rat) * p2 base := by
   rw [← e1, ← e2, ht, Rat.intCast_add]; grind
 rw [eq]
 have ha := abs_total total (p2 base)
 have hp := p2_pos base
 obtain ⟨sg, hsg⟩ : ∃ b : Bool, b = (if total = 0 then s && t else decide (total < 0)) := ⟨_, rfl⟩
 rw [← hsg]
 obtain ⟨r, hr, hv⟩ := write_rw sg total.natAbs base
 refine ⟨r, by rw [hr], ?_⟩
 have : sgn1 sg * (((total.natAbs : Nat) : Rat) * p2 base) = (total : Rat) * p2 base := by
   by_cases h0 : total = 0
   · subst h0
     rw [show ((Int.natAbs 0 : Nat) : Rat) = 0 from rfl, show ((0 : Int) : Rat) = 0 from rfl]; grind
   · rw [if_neg h0] at hsg
     rw [ha, hsg]
     unfold sgn1
     by_cases h : total < 0
     · rw [if_pos h, if_pos (by simpa using h)]; grind
     · rw [if_neg h, if_neg (by simpa using h)]; grind
 rwa [this] at hv
theorem add_full {a b : Nat} (ha : Fin64 a) (hb : Fin64 b) : ∃ r, floatBits .add .f64 a b = some r ∧ RW (fval a + fval b) r := by
 show ∃ r, ((Ieee.double.read a).sum (Ieee.double.read b)).map Ieee.double.write = some r ∧ _
 rw [read_fin ha, read_fin hb]
 exact sum_full _ _ _ _ _ _
theorem sub_full {a b : Nat} (ha : Fin64 a) (hb : Fin64 b) : ∃ r, floatBits .sub .f64 a b = some r ∧ RW (fval a - fval b) r := by
 show ∃ r, ((Ieee.double.read a).sum (Ieee.double.read b).opposite).map Ieee.double.write = some r ∧ _
 rw [read_fin ha, read_fin hb]
 have e : fval a - fval b = sgn1 (fneg a) * ((fmag (frung a) : Nat) * p2 (fpl (frung a))) + sgn1 (!fneg b) * ((fmag (frung b) : Nat) * p2 (fpl (frung b))) := by
   rw [fval_eq a, fval_eq b]
   generalize ((fmag (frung b) : Nat) : Rat) * p2 (fpl (frung b)) = z
   cases fneg b <;> simp [sgn1] <;> grind
 rw [e]
 exact sum_full _ _ _ _ _ _
theorem mul_full {a b : Nat} (ha : Fin64 a) (hb : Fin64 b) : ∃ r, floatBits .mul .f64 a b = some r ∧ RW (fval a * fval b) r := by
 show ∃ r, ((Ieee.double.read a).product (Ieee.double.read b)).map Ieee.double.write = some r ∧ _
 rw [read_fin ha, read_fin hb]
 unfold Ieee.Datum.product
 simp only [Option.map_some]
 have e : fval a * fval b = sgn1 (fneg a ^^ fneg b) * (((fmag (frung a) * fmag (frung b) : Nat) : Rat) * p2 (fpl (frung a) + fpl (frung b))) := by
   rw [fval_eq a, fval_eq b, p2_add, Rat.natCast_mul]
   generalize ((fmag (frung a) : Nat) : Rat) = m
   generalize ((fmag (frung b) : Nat) : Rat) = n
   generalize p2 (fpl (frung a)) = u
   generalize p2 (fpl (frung b)) = v
   cases fneg a <;> cases fneg b <;> simp [sgn1] <;> grind
 rw [e]
 obtain ⟨r, hr, h⟩ := write_rw (fneg a ^^ fneg b) (fmag (frung a) * fmag (frung b)) (fpl (frung a) + fpl (frung b))
 exact ⟨r, by rw [hr], h⟩
theorem near_fin {q : Rat} {r : Nat} (h : Near q r) (hq : q < 18014398509481983 * p2 970) : r < 9218868437227405312 := by
 rcases h with ⟨rfl, rfl⟩ | ⟨_, T, k, hl, hh, e⟩
 · omega
 · have hb := kept_bounds hl hh
   have hT : T ≤ 2045 := by
     rcases hl.1 with h | h
     · omega
     · have e1 : ((9007199254740992 : Int) : Rat) * p2 ((T : Int) - 1075) = p2 ((T : Int) - 1022) := by
         rw [show (T : Int) - 1022 = ((T : Int) - 1075) + ((53 : Nat) : Int) by omega, p2_add, p2_nat, Rat.mul_comm]; rfl
       rw [e1] at h
       have e2 : (18014398509481983 : Rat) * p2 970 ≤ p2 1024 := by
         have h1 : p2 1024 = 18014398509481984 * p2 970 := by
           rw [show (1024 : Int) = ((54 : Nat) : Int) + 970 by omega, p2_add, p2_nat]; rfl
         have := p2_pos 970
         rw [h1]
         grind
       have := p2_lt_iff.1 (lt_of_le_lt h (lt_of_lt_le hq e2))
       omega
   rcases Nat.lt_or_ge T 2045 with h | h
   · omega
   · obtain rfl : T = 2045 := by omega
     have s1 := hh.1
     rw [show ((2045 : Nat) : Int) - 1075 = 970 from rfl] at s1
     have s2 : ((2 * (k : Int) - 1 : Int) : Rat) * p2 970 < ((18014398509481983 : Int) : Rat) * p2 970 := lt_of_le_lt s1 hq
     have s3 := int_lt (p2_pos 970) s2
     omega
theorem RW.fin {q : Rat} {b : Nat} (h : RW q b) (hq : ab q < 18014398509481983 * p2 970) : b < 18446744073709551616 ∧ Fin64 b ∧ RV q (fval b) := by
 have hl := ab_lt.1 hq
 obtain ⟨r, h⟩ := h
 rcases h with ⟨h0, hn, rfl⟩ | ⟨h0, hn, rfl⟩
 · have := near_fin hn hl.1
   exact ⟨by omega, by unfold Fin64 frung; omega, b, this, Or.inl ⟨h0, hn, rfl⟩⟩
 · have := near_fin hn hl.2
   exact ⟨by omega, by unfold Fin64 frung; omega, r, this, Or.inr ⟨h0, hn, fval_word this⟩⟩
end

/- The reference's Rounds, at full range. -/
section
open Go.RowKit
attribute [local go_sem ↓] Go.wp_at_zero Go.wp_at_succ
theorem fit2F {q : Rat} (h : Bd 90000 (-90000) q) : Fit q ∧ Fit (2 * q) := by
 refine ⟨h.mono (by omega) (by omega), ?_⟩
 have := (h.add h).mono (h' := 100000) (l' := -100000) (by omega) (by omega)
 rwa [show q + q = 2 * q by grind] at this
theorem low_lim {q : Rat} (h : Near q 0) : q < p2 1010 := by
 have hp := p2_pos 1010
 by_cases hq : 0 < q
 · have hb := (near_between h hq (by omega)).1
   have h1 := fval_rung 0 1 (by omega) (by omega) (by omega)
   rw [show 0 * 4503599627370496 + 1 = 0 + 1 by omega, half_unit, show ((0 : Nat) : Int) - 1075 = -1075 from rfl, show ((1 : Nat) : Rat) = 1 from rfl] at h1
   rw [h1, fval0] at hb
   have := p2_lt (a := -1075) (b := 1010) (by omega)
   grind
 · grind
theorem rounds_nnF (v : Value) (q : Rat) (x r : Nat) (w : World) (hv : Rf w v q) (hq : Bd 90000 (-90000) q) (h0 : 0 ≤ q) (hn : Near q r) (hx : x = r ∨ (x = 9223372036854775808 ∧ r = 0)) : Calls Tryd.prog 11 #[v, .float .f64 x] w fun e w' => e = .returned (.bool true) ∧ Below w.heap.size w w' := by
 by_cases hg : q < ((18014398509481983 : Nat) : Rat) * p2 970
 · have hr := near_fin hn hg
   have hnn : (q = 0 ∧ r = 0) ∨ (0 < q ∧ Near q r) := by
     by_cases hz : q = 0
     · subst hz; exact Or.inl ⟨rfl, near_zero hn⟩
     · exact Or.inr ⟨by grind, hn⟩
   by_cases hz : r = 0
   · subst hz
     exact rounds_zero v q x 0 w hv (fit2F hq).1 (fit2F hq).2 (low_lim hn) ⟨hnn, hx, by omega⟩ rfl
   · have hxr : x = r := hx.resolve_right (fun h => hz h.2)
     by_cases ht : r = 9218868437227405311
     · refine rounds_top v q x r w hv (fit2F hq).1 (fit2F hq).2 hg ?_ hn hxr ht
       rcases hnn with ⟨_, h⟩ | ⟨h, _⟩
       · exact absurd h hz
       · exact h
     · exact rounds_posF v q x r w hv (fit2F hq).1 (fit2F hq).2 hg ⟨hnn, hx, by omega⟩ hz
 · have hr := near_inf hn (by grind)
   have hxr : x = 9218868437227405312 := by omega
   rw [hxr]
   exact rounds_inf v q w hv (fit2F hq).1 (by grind)
theorem order_selfF {x : Nat} (h : frung x ≤ 9218868437227405312) : FloatKind.f64.format.order x x = some .eq := by
 have := eql_self x
 rw [decide_eq_true h] at this
 simpa using this
set_option maxHeartbeats 1000000 in
theorem rounds_full (v : Value) (q : Rat) (x : Nat) (w : World) (hv : Rf w v q) (hq : Bd 90000 (-90000) q) (h : RW q x) : Calls Tryd.prog 11 #[v, .float .f64 x] w fun e w' => e = .returned (.bool true) ∧ Below w.heap.size w w' := by
 obtain ⟨r, h⟩ := h
 by_cases h0 : 0 ≤ q
 · rcases h with ⟨_, hn, e⟩ | ⟨h1, hn, e⟩
   · exact rounds_nnF v q x r w hv hq h0 hn (Or.inl e)
   · have hz : q = 0 := by grind
     subst hz
     rw [show (-0 : Rat) = 0 by grind] at hn
     have := near_zero hn
     exact rounds_nnF v 0 x r w hv hq h0 hn (Or.inr ⟨by omega, this⟩)
 · have R0 : Hid (Rf w v q) := hv
   obtain ⟨S, a, n, c, E, rfl, hs⟩ := hv.sgn
   obtain rfl : S = -1 := by
     rcases hs with ⟨_, h⟩ | ⟨_, h⟩ | ⟨h, _⟩
     · exfalso; grind
     · exfalso; grind
     · exact h
   obtain ⟨_, hn, e⟩ := h.resolve_left (fun h => h0 h.1)
   have hr := (near_nonneg hn).2
   have hx : x < 18446744073709551616 := by omega
   have o1 : FloatKind.f64.format.order x x = some .eq := order_selfF (by unfold frung; omega)
   have rn := run_negF x hx
   have hf : fflip x = r := by unfold fflip; split <;> omega
   have HX : Hid (∀ v w, Rf w v (-q) → Calls Tryd.prog 11 #[v, .float .f64 (fflip x)] w fun e w' => e = .returned (.bool true) ∧ Below w.heap.size w w') := fun v w hv =>
     rounds_nnF v (-q) (fflip x) r w hv hq.neg (by grind) hn (Or.inl hf)
   have HB0 : Hid (Below w.heap.size w (w.alloc (.cells #[.int .i64 (-1), .slice a n c, .int .i64 E] 36))) := (Below.refl _ _).alloc (Nat.le_refl _) _
   clear hs hq h hn e hr hx h0 hf hv
   obtain ⟨y, hy⟩ : ∃ y, Hid (fflip x = y) := ⟨_, rfl⟩
   rw [hy.out] at rn HX
   go_enter Tryd.func11, Tryd.ntmps11
   go_wp2_with fail
   refine (neg_rf _ q _ (R0.out.later HB0.out)).mono ?_
   rintro e w1 ⟨v1, rfl, hr1, hb1⟩
   have HB1 : Hid (Below w.heap.size w w1) := HB0.out.trans (hb1.mono HB0.out.size)
   have HR1 : Hid _ := hr1
   clear hr1 hb1
   go_wp2_with fail
   refine (HX.out _ _ HR1.out).mono ?_
   rintro e w2 ⟨rfl, hb2⟩
   have HB2 : Hid (Below w.heap.size w w2) := HB1.out.trans (hb2.mono HB1.out.size)
   clear hb2
   go_wp2
   go_ret
   exact ⟨rfl, HB2.out⟩
end

/- WholeFloats: plain facts. -/
section
open Go.RowKit
attribute [local go_sem ↓] Go.wp_at_zero Go.wp_at_succ
theorem float_same {q : Rat} {f x : Nat} (hf : FloatOf q f) (hx : RW q x) : FloatKind.f64.format.order f x = some .eq := by
 obtain ⟨r, hx⟩ := hx
 have z : FloatKind.f64.format.order 0 9223372036854775808 = some .eq := by decide +kernel
 rcases hf with ⟨h0, hn⟩ | ⟨h0, s, hn, e⟩
 · rcases hx with ⟨_, h2, e2⟩ | ⟨h1, h2, e2⟩
   · have := near_fun hn h2
     have hr := (near_nonneg hn).2
     subst this
     rw [e2]
     exact order_selfF (by unfold frung; omega)
   · have hz : q = 0 := by grind
     subst hz
     rw [show (-0 : Rat) = 0 by grind] at h2
     rw [e2, near_zero hn, near_zero h2]
     exact z
 · obtain ⟨_, h2, e2⟩ := hx.resolve_left (fun h => by have := h.1; grind)
   have := near_fun hn h2
   have hr := (near_nonneg hn).2
   subst this
   rw [e, e2]
   by_cases hs : s = 0
   · rw [if_pos hs, hs]; exact z
   · rw [if_neg hs]; exact order_selfF (by unfold frung; omega)
theorem rw_self {a : Nat} (h : Fin64 a) (ha : a < 18446744073709551616) : RW (fval a) a := by
 unfold Fin64 frung at h
 by_cases hs : a < 9223372036854775808
 · have hr : a < 9218868437227405312 := by omega
   exact ⟨a, Or.inl ⟨fval_nonneg hr, near_self hr, rfl⟩⟩
 · obtain ⟨s, rfl⟩ : ∃ s, a = 9223372036854775808 + s := ⟨a - 9223372036854775808, by omega⟩
   have hr : s < 9218868437227405312 := by omega
   have := fval_nonneg hr
   refine ⟨s, Or.inr ⟨?_, ?_, rfl⟩⟩
   · rw [fval_word hr]; grind
   · rw [fval_word hr, show -(-fval s) = fval s by grind]; exact near_self hr
theorem op2_yes {f : Rat → Rat → Rat} {p q : Rat} {y : Option Rat} (h : Op2 f (some p) (some q) y) (hm : May (f p q)) : y = some (f p q) := by
 rcases h with ⟨p', q', e1, e2, h⟩ | ⟨h, _⟩
 · cases e1; cases e2
   rcases h with ⟨_, h⟩ | ⟨h, _⟩
   · exact h
   · exact absurd hm h
 · rcases h with h | h <;> cases h
theorem op2_no {f : Rat → Rat → Rat} {a b y : Option Rat} (h : Op2 f a b y) (hn : a = none ∨ b = none) : y = none := by
 rcases h with ⟨p', q', e1, e2, h⟩ | ⟨_, h⟩
 · rcases hn with h | h
   · rw [e1] at h; cases h
   · rw [e2] at h; cases h
 · exact h
theorem cmp_told (va vb : Value) (p q : Rat) (c : Int) (w : World) (ha : IsNum w va (some p)) (hb : IsNum w vb (some q)) (hc : cmpR p q = c) :
   Calls Tryd.prog 9 #[va, vb] w fun e w' => e = .returned (.int .i64 c) ∧ Below w.heap.size w w' := by
 have := cmp_any va vb (some p) (some q) w ha hb
 rwa [show CmpX (some p) (some q) = c from hc] at this
theorem self_nan {x : Nat} (h : ¬ Fin64 x) : floatBits .sub .f64 x x = none := by
 unfold Fin64 at h
 show ((Ieee.double.read x).sum (Ieee.double.read x).opposite).map Ieee.double.write = none
 rcases Nat.lt_or_ge 9218868437227405312 (frung x) with h1 | h1
 · obtain ⟨s, t, h2⟩ := read_nan h1
   rw [h2]; rfl
 · rw [read_inf (show frung x = 9218868437227405312 by omega)]
   unfold Ieee.Datum.opposite Ieee.Datum.sum
   cases fneg x <;> rfl
end
end Go.Proofs.YtejhinjanjlplaaDoor
