/- Own texts, put together: Hm. -/
import Derived.Test.YtejhinjanjlplaaDoorQ39
/- WholeFloats: one of the two is not finite. -/
namespace Go.Proofs.YtejhinjanjlplaaDoor
open Go.RowKit
attribute [local go_sem ↓] Go.wp_at_zero Go.wp_at_succ
set_option maxRecDepth 100000 in
set_option maxHeartbeats 4000000 in
theorem floats_nn (a b : Nat) (w : World) (hT : Tab w) (la : a < 18446744073709551616) (lb : b < 18446744073709551616) (ha : ¬ Fin64 a) (hb : ¬ Fin64 b) :
   Calls Tryd.prog 3 #[.float .f64 a, .float .f64 b] w fun e w' => e = .returned (.bool true) ∧ Below w.heap.size w w' := by
 have HT : Hid (Tab w) := hT
 have Ha : Hid (a < 18446744073709551616) := la
 have Hb : Hid (b < 18446744073709551616) := lb
 have OA : Hid (∀ w, Tab w → Calls Tryd.prog 4 #[.float .f64 a] w fun e w' => OpR w w' (fun y => y = none) e) := by
   intro w hT
   have := ofW_any a w hT Ha.out
   rwa [if_neg (show ¬ frung a < 9218868437227405312 from ha)] at this
 have OB : Hid (∀ w, Tab w → Calls Tryd.prog 4 #[.float .f64 b] w fun e w' => OpR w w' (fun y => y = none) e) := by
   intro w hT
   have := ofW_any b w hT Hb.out
   rwa [if_neg (show ¬ frung b < 9218868437227405312 from hb)] at this
 have ra := run_sub_nan a a (self_nan ha)
 have ta : ∀ w, FloatKind.f64.format.order (nanW a a w) 0 = none := fun w => nan_order (nanW_nan a a w).1 0
 have rb := run_sub_nan b b (self_nan hb)
 have tb : ∀ w, FloatKind.f64.format.order (nanW b b w) 0 = none := fun w => nan_order (nanW_nan b b w).1 0
 clear hT la lb ha hb
 have hB0 : Hid (Below w.heap.size w w) := Below.refl _ _
 go_enter Tryd.func3, Tryd.ntmps3
 go_wp2_with fail
 refine (OA.out w HT.out).mono ?_
 rintro e w1 ⟨v1, z1, rfl, hn1, hz1, hb1⟩
 obtain ⟨a1, n1, c1, low1, neg1, nn1, rfl, hn1⟩ := isNum_form hn1
 subst hz1
 have HA : Hid (Below w1.heap.size w1 (w1.alloc (.cells #[.slice a1 n1 c1, .int .i64 low1, .bool neg1, .bool nn1] 27))) := (Below.refl _ _).alloc (Nat.le_refl _) _
 have HB1 : Hid (Below w.heap.size w w1) := hb1
 have HN1 : Hid (IsNum w1 (.agg #[.slice a1 n1 c1, .int .i64 low1, .bool neg1, .bool nn1]) (none : Option Rat)) := hn1
 clear hb1 hn1 hB0
 go_wp2_with fail
 refine (OB.out _ (HT.out.later (thru HB1.out HA.out))).mono ?_
 rintro e w2 ⟨v2, z2, rfl, hn2, hz2, hb2⟩
 obtain ⟨a2, n2, c2, low2, neg2, nn2, rfl, hn2⟩ := isNum_form hn2
 subst hz2
 have hc := thru HA.out hb2
 have p0 : w2.cell? ⟨w1.heap.size, 0, none⟩ = some (.slice a1 n1 c1) := cell_later hb2 (by go_simp)
 have p1 : w2.cell? ⟨w1.heap.size, 1, none⟩ = some (.int .i64 low1) := cell_later hb2 (by go_simp)
 have p2 : w2.cell? ⟨w1.heap.size, 2, none⟩ = some (.bool neg1) := cell_later hb2 (by go_simp)
 have p3 : w2.cell? ⟨w1.heap.size, 3, none⟩ = some (.bool nn1) := cell_later hb2 (by go_simp)
 have hs : w1.heap.size < w2.heap.size := by have := hb2.size; simp at this; omega
 have hA2 : Below w2.heap.size w2 (w2.alloc (.cells #[.slice a2 n2 c2, .int .i64 low2, .bool neg2, .bool nn2] 27)) := (Below.refl _ _).alloc (Nat.le_refl _) _
 have hBv : Hid (Below w.heap.size w (w2.alloc (.cells #[.slice a2 n2 c2, .int .i64 low2, .bool neg2, .bool nn2] 27))) := thru (thru HB1.out hc) hA2
 have hPv : Hid (IsNum (w2.alloc (.cells #[.slice a2 n2 c2, .int .i64 low2, .bool neg2, .bool nn2] 27)) (.agg #[.slice a1 n1 c1, .int .i64 low1, .bool neg1, .bool nn1]) (none : Option Rat)) := (HN1.out.later hc).later hA2
 have hQv : Hid (IsNum (w2.alloc (.cells #[.slice a2 n2 c2, .int .i64 low2, .bool neg2, .bool nn2] 27)) (.agg #[.slice a2 n2 c2, .int .i64 low2, .bool neg2, .bool nn2]) (none : Option Rat)) := hn2.later hA2
 clear hb2 hc HN1 HB1 HA hn2
 have x0v : (w2.alloc (.cells #[.slice a2 n2 c2, .int .i64 low2, .bool neg2, .bool nn2] 27)).cell? ⟨w1.heap.size, 0, none⟩ = some (.slice a1 n1 c1) := cell_later hA2 p0
 have x1v : (w2.alloc (.cells #[.slice a2 n2 c2, .int .i64 low2, .bool neg2, .bool nn2] 27)).cell? ⟨w1.heap.size, 1, none⟩ = some (.int .i64 low1) := cell_later hA2 p1
 have x2v : (w2.alloc (.cells #[.slice a2 n2 c2, .int .i64 low2, .bool neg2, .bool nn2] 27)).cell? ⟨w1.heap.size, 2, none⟩ = some (.bool neg1) := cell_later hA2 p2
 have x3v : (w2.alloc (.cells #[.slice a2 n2 c2, .int .i64 low2, .bool neg2, .bool nn2] 27)).cell? ⟨w1.heap.size, 3, none⟩ = some (.bool nn1) := cell_later hA2 p3
 have y0v : (w2.alloc (.cells #[.slice a2 n2 c2, .int .i64 low2, .bool neg2, .bool nn2] 27)).cell? ⟨w2.heap.size, 0, none⟩ = some (.slice a2 n2 c2) := by go_simp
 have y1v : (w2.alloc (.cells #[.slice a2 n2 c2, .int .i64 low2, .bool neg2, .bool nn2] 27)).cell? ⟨w2.heap.size, 1, none⟩ = some (.int .i64 low2) := by go_simp
 have y2v : (w2.alloc (.cells #[.slice a2 n2 c2, .int .i64 low2, .bool neg2, .bool nn2] 27)).cell? ⟨w2.heap.size, 2, none⟩ = some (.bool neg2) := by go_simp
 have y3v : (w2.alloc (.cells #[.slice a2 n2 c2, .int .i64 low2, .bool neg2, .bool nn2] 27)).cell? ⟨w2.heap.size, 3, none⟩ = some (.bool nn2) := by go_simp
 clear hA2 p0 p1 p2 p3
 go_wp2_with fail
 refine (ok_any _ (none : Option Rat) _ (by first | exact hPv.out | exact hPv.out.later (Below.refl _ _).drew)).mono ?_
 rintro e w3 ⟨rfl, hbw3⟩
 have x0w3 : w3.cell? ⟨w1.heap.size, 0, none⟩ = some (.slice a1 n1 c1) := cell_later hbw3 (by first | assumption | go_simp)
 have x1w3 : w3.cell? ⟨w1.heap.size, 1, none⟩ = some (.int .i64 low1) := cell_later hbw3 (by first | assumption | go_simp)
 have x2w3 : w3.cell? ⟨w1.heap.size, 2, none⟩ = some (.bool neg1) := cell_later hbw3 (by first | assumption | go_simp)
 have x3w3 : w3.cell? ⟨w1.heap.size, 3, none⟩ = some (.bool nn1) := cell_later hbw3 (by first | assumption | go_simp)
 have y0w3 : w3.cell? ⟨w2.heap.size, 0, none⟩ = some (.slice a2 n2 c2) := cell_later hbw3 (by first | assumption | go_simp)
 have y1w3 : w3.cell? ⟨w2.heap.size, 1, none⟩ = some (.int .i64 low2) := cell_later hbw3 (by first | assumption | go_simp)
 have y2w3 : w3.cell? ⟨w2.heap.size, 2, none⟩ = some (.bool neg2) := cell_later hbw3 (by first | assumption | go_simp)
 have y3w3 : w3.cell? ⟨w2.heap.size, 3, none⟩ = some (.bool nn2) := cell_later hbw3 (by first | assumption | go_simp)
 have hBw3 : Hid (Below w.heap.size w w3) := thru (by first | exact hBv.out | exact hBv.out.drew) hbw3
 have hPw3 : Hid (IsNum w3 (.agg #[.slice a1 n1 c1, .int .i64 low1, .bool neg1, .bool nn1]) (none : Option Rat)) := (by first | exact hPv.out.later hbw3 | exact (hPv.out.later (Below.refl _ _).drew).later hbw3)
 have hQw3 : Hid (IsNum w3 (.agg #[.slice a2 n2 c2, .int .i64 low2, .bool neg2, .bool nn2]) (none : Option Rat)) := (by first | exact hQv.out.later hbw3 | exact (hQv.out.later (Below.refl _ _).drew).later hbw3)
 clear hbw3 hBv hPv hQv x0v x1v x2v x3v y0v y1v y2v y3v
 go_wp2_with fail
 refine (ok_any _ (none : Option Rat) _ (by first | exact hQw3.out | exact hQw3.out.later (Below.refl _ _).drew)).mono ?_
 rintro e w4 ⟨rfl, hbw4⟩
 have x0w4 : w4.cell? ⟨w1.heap.size, 0, none⟩ = some (.slice a1 n1 c1) := cell_later hbw4 (by first | assumption | go_simp)
 have x1w4 : w4.cell? ⟨w1.heap.size, 1, none⟩ = some (.int .i64 low1) := cell_later hbw4 (by first | assumption | go_simp)
 have x2w4 : w4.cell? ⟨w1.heap.size, 2, none⟩ = some (.bool neg1) := cell_later hbw4 (by first | assumption | go_simp)
 have x3w4 : w4.cell? ⟨w1.heap.size, 3, none⟩ = some (.bool nn1) := cell_later hbw4 (by first | assumption | go_simp)
 have y0w4 : w4.cell? ⟨w2.heap.size, 0, none⟩ = some (.slice a2 n2 c2) := cell_later hbw4 (by first | assumption | go_simp)
 have y1w4 : w4.cell? ⟨w2.heap.size, 1, none⟩ = some (.int .i64 low2) := cell_later hbw4 (by first | assumption | go_simp)
 have y2w4 : w4.cell? ⟨w2.heap.size, 2, none⟩ = some (.bool neg2) := cell_later hbw4 (by first | assumption | go_simp)
 have y3w4 : w4.cell? ⟨w2.heap.size, 3, none⟩ = some (.bool nn2) := cell_later hbw4 (by first | assumption | go_simp)
 have hBw4 : Hid (Below w.heap.size w w4) := thru (by first | exact hBw3.out | exact hBw3.out.drew) hbw4
 have hPw4 : Hid (IsNum w4 (.agg #[.slice a1 n1 c1, .int .i64 low1, .bool neg1, .bool nn1]) (none : Option Rat)) := (by first | exact hPw3.out.later hbw4 | exact (hPw3.out.later (Below.refl _ _).drew).later hbw4)
 have hQw4 : Hid (IsNum w4 (.agg #[.slice a2 n2 c2, .int .i64 low2, .bool neg2, .bool nn2]) (none : Option Rat)) := (by first | exact hQw3.out.later hbw4 | exact (hQw3.out.later (Below.refl _ _).drew).later hbw4)
 clear hbw4 hBw3 hPw3 hQw3 x0w3 x1w3 x2w3 x3w3 y0w3 y1w3 y2w3 y3w3
 go_wp2_with fail
 refine (add_any _ _ (none : Option Rat) (none : Option Rat) _ (by first | exact hPw4.out | exact hPw4.out.later (Below.refl _ _).drew) (by first | exact hQw4.out | exact hQw4.out.later (Below.refl _ _).drew) (HT.out.later (by first | exact hBw4.out | exact hBw4.out.drew))).mono ?_
 rintro e w5 ⟨v5, y5, rfl, hn5, hy5, hbw5⟩
 replace hy5 := op2_no hy5 (Or.inl rfl)
 subst hy5
 have HN5 : Hid (IsNum w5 v5 none) := hn5
 clear hn5
 have x0w5 : w5.cell? ⟨w1.heap.size, 0, none⟩ = some (.slice a1 n1 c1) := cell_later hbw5 (by first | assumption | go_simp)
 have x1w5 : w5.cell? ⟨w1.heap.size, 1, none⟩ = some (.int .i64 low1) := cell_later hbw5 (by first | assumption | go_simp)
 have x2w5 : w5.cell? ⟨w1.heap.size, 2, none⟩ = some (.bool neg1) := cell_later hbw5 (by first | assumption | go_simp)
 have x3w5 : w5.cell? ⟨w1.heap.size, 3, none⟩ = some (.bool nn1) := cell_later hbw5 (by first | assumption | go_simp)
 have y0w5 : w5.cell? ⟨w2.heap.size, 0, none⟩ = some (.slice a2 n2 c2) := cell_later hbw5 (by first | assumption | go_simp)
 have y1w5 : w5.cell? ⟨w2.heap.size, 1, none⟩ = some (.int .i64 low2) := cell_later hbw5 (by first | assumption | go_simp)
 have y2w5 : w5.cell? ⟨w2.heap.size, 2, none⟩ = some (.bool neg2) := cell_later hbw5 (by first | assumption | go_simp)
 have y3w5 : w5.cell? ⟨w2.heap.size, 3, none⟩ = some (.bool nn2) := cell_later hbw5 (by first | assumption | go_simp)
 have hBw5 : Hid (Below w.heap.size w w5) := thru (by first | exact hBw4.out | exact hBw4.out.drew) hbw5
 have hPw5 : Hid (IsNum w5 (.agg #[.slice a1 n1 c1, .int .i64 low1, .bool neg1, .bool nn1]) (none : Option Rat)) := (by first | exact hPw4.out.later hbw5 | exact (hPw4.out.later (Below.refl _ _).drew).later hbw5)
 have hQw5 : Hid (IsNum w5 (.agg #[.slice a2 n2 c2, .int .i64 low2, .bool neg2, .bool nn2]) (none : Option Rat)) := (by first | exact hQw4.out.later hbw5 | exact (hQw4.out.later (Below.refl _ _).drew).later hbw5)
 clear hbw5 hBw4 hPw4 hQw4 x0w4 x1w4 x2w4 x3w4 y0w4 y1w4 y2w4 y3w4
 go_wp2_with fail
 refine (ok_any _ none _ HN5.out).mono ?_
 rintro e w6 ⟨rfl, hbw6⟩
 have x0w6 : w6.cell? ⟨w1.heap.size, 0, none⟩ = some (.slice a1 n1 c1) := cell_later hbw6 (by first | assumption | go_simp)
 have x1w6 : w6.cell? ⟨w1.heap.size, 1, none⟩ = some (.int .i64 low1) := cell_later hbw6 (by first | assumption | go_simp)
 have x2w6 : w6.cell? ⟨w1.heap.size, 2, none⟩ = some (.bool neg1) := cell_later hbw6 (by first | assumption | go_simp)
 have x3w6 : w6.cell? ⟨w1.heap.size, 3, none⟩ = some (.bool nn1) := cell_later hbw6 (by first | assumption | go_simp)
 have y0w6 : w6.cell? ⟨w2.heap.size, 0, none⟩ = some (.slice a2 n2 c2) := cell_later hbw6 (by first | assumption | go_simp)
 have y1w6 : w6.cell? ⟨w2.heap.size, 1, none⟩ = some (.int .i64 low2) := cell_later hbw6 (by first | assumption | go_simp)
 have y2w6 : w6.cell? ⟨w2.heap.size, 2, none⟩ = some (.bool neg2) := cell_later hbw6 (by first | assumption | go_simp)
 have y3w6 : w6.cell? ⟨w2.heap.size, 3, none⟩ = some (.bool nn2) := cell_later hbw6 (by first | assumption | go_simp)
 have hBw6 : Hid (Below w.heap.size w w6) := thru (by first | exact hBw5.out | exact hBw5.out.drew) hbw6
 have hPw6 : Hid (IsNum w6 (.agg #[.slice a1 n1 c1, .int .i64 low1, .bool neg1, .bool nn1]) (none : Option Rat)) := (by first | exact hPw5.out.later hbw6 | exact (hPw5.out.later (Below.refl _ _).drew).later hbw6)
 have hQw6 : Hid (IsNum w6 (.agg #[.slice a2 n2 c2, .int .i64 low2, .bool neg2, .bool nn2]) (none : Option Rat)) := (by first | exact hQw5.out.later hbw6 | exact (hQw5.out.later (Below.refl _ _).drew).later hbw6)
 clear hbw6 hBw5 hPw5 hQw5 x0w5 x1w5 x2w5 x3w5 y0w5 y1w5 y2w5 y3w5
 go_wp2_with fail
 refine (mul_any _ _ (none : Option Rat) (none : Option Rat) _ (by first | exact hPw6.out | exact hPw6.out.later (Below.refl _ _).drew) (by first | exact hQw6.out | exact hQw6.out.later (Below.refl _ _).drew) (HT.out.later (by first | exact hBw6.out | exact hBw6.out.drew))).mono ?_
 rintro e w7 ⟨v7, y7, rfl, hn7, hy7, hbw7⟩
 replace hy7 := op2_no hy7 (Or.inl rfl)
 subst hy7
 have HN7 : Hid (IsNum w7 v7 none) := hn7
 clear hn7
 have x0w7 : w7.cell? ⟨w1.heap.size, 0, none⟩ = some (.slice a1 n1 c1) := cell_later hbw7 (by first | assumption | go_simp)
 have x1w7 : w7.cell? ⟨w1.heap.size, 1, none⟩ = some (.int .i64 low1) := cell_later hbw7 (by first | assumption | go_simp)
 have x2w7 : w7.cell? ⟨w1.heap.size, 2, none⟩ = some (.bool neg1) := cell_later hbw7 (by first | assumption | go_simp)
 have x3w7 : w7.cell? ⟨w1.heap.size, 3, none⟩ = some (.bool nn1) := cell_later hbw7 (by first | assumption | go_simp)
 have y0w7 : w7.cell? ⟨w2.heap.size, 0, none⟩ = some (.slice a2 n2 c2) := cell_later hbw7 (by first | assumption | go_simp)
 have y1w7 : w7.cell? ⟨w2.heap.size, 1, none⟩ = some (.int .i64 low2) := cell_later hbw7 (by first | assumption | go_simp)
 have y2w7 : w7.cell? ⟨w2.heap.size, 2, none⟩ = some (.bool neg2) := cell_later hbw7 (by first | assumption | go_simp)
 have y3w7 : w7.cell? ⟨w2.heap.size, 3, none⟩ = some (.bool nn2) := cell_later hbw7 (by first | assumption | go_simp)
 have hBw7 : Hid (Below w.heap.size w w7) := thru (by first | exact hBw6.out | exact hBw6.out.drew) hbw7
 have hPw7 : Hid (IsNum w7 (.agg #[.slice a1 n1 c1, .int .i64 low1, .bool neg1, .bool nn1]) (none : Option Rat)) := (by first | exact hPw6.out.later hbw7 | exact (hPw6.out.later (Below.refl _ _).drew).later hbw7)
 have hQw7 : Hid (IsNum w7 (.agg #[.slice a2 n2 c2, .int .i64 low2, .bool neg2, .bool nn2]) (none : Option Rat)) := (by first | exact hQw6.out.later hbw7 | exact (hQw6.out.later (Below.refl _ _).drew).later hbw7)
 clear hbw7 hBw6 hPw6 hQw6 x0w6 x1w6 x2w6 x3w6 y0w6 y1w6 y2w6 y3w6
 go_wp2_with fail
 refine (ok_any _ none _ HN7.out).mono ?_
 rintro e w8 ⟨rfl, hbw8⟩
 have x0w8 : w8.cell? ⟨w1.heap.size, 0, none⟩ = some (.slice a1 n1 c1) := cell_later hbw8 (by first | assumption | go_simp)
 have x1w8 : w8.cell? ⟨w1.heap.size, 1, none⟩ = some (.int .i64 low1) := cell_later hbw8 (by first | assumption | go_simp)
 have x2w8 : w8.cell? ⟨w1.heap.size, 2, none⟩ = some (.bool neg1) := cell_later hbw8 (by first | assumption | go_simp)
 have x3w8 : w8.cell? ⟨w1.heap.size, 3, none⟩ = some (.bool nn1) := cell_later hbw8 (by first | assumption | go_simp)
 have y0w8 : w8.cell? ⟨w2.heap.size, 0, none⟩ = some (.slice a2 n2 c2) := cell_later hbw8 (by first | assumption | go_simp)
 have y1w8 : w8.cell? ⟨w2.heap.size, 1, none⟩ = some (.int .i64 low2) := cell_later hbw8 (by first | assumption | go_simp)
 have y2w8 : w8.cell? ⟨w2.heap.size, 2, none⟩ = some (.bool neg2) := cell_later hbw8 (by first | assumption | go_simp)
 have y3w8 : w8.cell? ⟨w2.heap.size, 3, none⟩ = some (.bool nn2) := cell_later hbw8 (by first | assumption | go_simp)
 have hBw8 : Hid (Below w.heap.size w w8) := thru (by first | exact hBw7.out | exact hBw7.out.drew) hbw8
 have hPw8 : Hid (IsNum w8 (.agg #[.slice a1 n1 c1, .int .i64 low1, .bool neg1, .bool nn1]) (none : Option Rat)) := (by first | exact hPw7.out.later hbw8 | exact (hPw7.out.later (Below.refl _ _).drew).later hbw8)
 have hQw8 : Hid (IsNum w8 (.agg #[.slice a2 n2 c2, .int .i64 low2, .bool neg2, .bool nn2]) (none : Option Rat)) := (by first | exact hQw7.out.later hbw8 | exact (hQw7.out.later (Below.refl _ _).drew).later hbw8)
 clear hbw8 hBw7 hPw7 hQw7 x0w7 x1w7 x2w7 x3w7 y0w7 y1w7 y2w7 y3w7
 go_wp2
 go_ret
 exact ⟨rfl, hBw8.out⟩
set_option maxRecDepth 100000 in
set_option maxHeartbeats 4000000 in
theorem floats_ny (a b : Nat) (w : World) (hT : Tab w) (la : a < 18446744073709551616) (lb : b < 18446744073709551616) (ha : ¬ Fin64 a) (hb : Fin64 b) :
   Calls Tryd.prog 3 #[.float .f64 a, .float .f64 b] w fun e w' => e = .returned (.bool true) ∧ Below w.heap.size w w' := by
 have HT : Hid (Tab w) := hT
 have Ha : Hid (a < 18446744073709551616) := la
 have Hb : Hid (b < 18446744073709551616) := lb
 have OA : Hid (∀ w, Tab w → Calls Tryd.prog 4 #[.float .f64 a] w fun e w' => OpR w w' (fun y => y = none) e) := by
   intro w hT
   have := ofW_any a w hT Ha.out
   rwa [if_neg (show ¬ frung a < 9218868437227405312 from ha)] at this
 have OB : Hid (∀ w, Tab w → Calls Tryd.prog 4 #[.float .f64 b] w fun e w' => OpR w w' (fun y => y = some (fval b)) e) := by
   intro w hT
   have := ofW_any b w hT Hb.out
   rwa [if_pos (show frung b < 9218868437227405312 from hb)] at this
 have ra := run_sub_nan a a (self_nan ha)
 have ta : ∀ w, FloatKind.f64.format.order (nanW a a w) 0 = none := fun w => nan_order (nanW_nan a a w).1 0
 obtain ⟨mb, sb, tb⟩ := self_sub hb
 have rb : ∀ w, (binOp .sub 22 (.float .f64 b) (.float .f64 b)).run Tryd.prog w = .ok (.float .f64 mb) w := fun w => run_float_arith w .sub _ .f64 _ _ _ sb
 clear hT la lb ha hb sb
 have hB0 : Hid (Below w.heap.size w w) := Below.refl _ _
 go_enter Tryd.func3, Tryd.ntmps3
 go_wp2_with fail
 refine (OA.out w HT.out).mono ?_
 rintro e w1 ⟨v1, z1, rfl, hn1, hz1, hb1⟩
 obtain ⟨a1, n1, c1, low1, neg1, nn1, rfl, hn1⟩ := isNum_form hn1
 subst hz1
 have HA : Hid (Below w1.heap.size w1 (w1.alloc (.cells #[.slice a1 n1 c1, .int .i64 low1, .bool neg1, .bool nn1] 27))) := (Below.refl _ _).alloc (Nat.le_refl _) _
 have HB1 : Hid (Below w.heap.size w w1) := hb1
 have HN1 : Hid (IsNum w1 (.agg #[.slice a1 n1 c1, .int .i64 low1, .bool neg1, .bool nn1]) (none : Option Rat)) := hn1
 clear hb1 hn1 hB0
 go_wp2_with fail
 refine (OB.out _ (HT.out.later (thru HB1.out HA.out))).mono ?_
 rintro e w2 ⟨v2, z2, rfl, hn2, hz2, hb2⟩
 obtain ⟨a2, n2, c2, low2, neg2, nn2, rfl, hn2⟩ := isNum_form hn2
 subst hz2
 have hc := thru HA.out hb2
 have p0 : w2.cell? ⟨w1.heap.size, 0, none⟩ = some (.slice a1 n1 c1) := cell_later hb2 (by go_simp)
 have p1 : w2.cell? ⟨w1.heap.size, 1, none⟩ = some (.int .i64 low1) := cell_later hb2 (by go_simp)
 have p2 : w2.cell? ⟨w1.heap.size, 2, none⟩ = some (.bool neg1) := cell_later hb2 (by go_simp)
 have p3 : w2.cell? ⟨w1.heap.size, 3, none⟩ = some (.bool nn1) := cell_later hb2 (by go_simp)
 have hs : w1.heap.size < w2.heap.size := by have := hb2.size; simp at this; omega
 have hA2 : Below w2.heap.size w2 (w2.alloc (.cells #[.slice a2 n2 c2, .int .i64 low2, .bool neg2, .bool nn2] 27)) := (Below.refl _ _).alloc (Nat.le_refl _) _
 have hBv : Hid (Below w.heap.size w (w2.alloc (.cells #[.slice a2 n2 c2, .int .i64 low2, .bool neg2, .bool nn2] 27))) := thru (thru HB1.out hc) hA2
 have hPv : Hid (IsNum (w2.alloc (.cells #[.slice a2 n2 c2, .int .i64 low2, .bool neg2, .bool nn2] 27)) (.agg #[.slice a1 n1 c1, .int .i64 low1, .bool neg1, .bool nn1]) (none : Option Rat)) := (HN1.out.later hc).later hA2
 have hQv : Hid (IsNum (w2.alloc (.cells #[.slice a2 n2 c2, .int .i64 low2, .bool neg2, .bool nn2] 27)) (.agg #[.slice a2 n2 c2, .int .i64 low2, .bool neg2, .bool nn2]) (some (fval b))) := hn2.later hA2
 clear hb2 hc HN1 HB1 HA hn2
 have x0v : (w2.alloc (.cells #[.slice a2 n2 c2, .int .i64 low2, .bool neg2, .bool nn2] 27)).cell? ⟨w1.heap.size, 0, none⟩ = some (.slice a1 n1 c1) := cell_later hA2 p0
 have x1v : (w2.alloc (.cells #[.slice a2 n2 c2, .int .i64 low2, .bool neg2, .bool nn2] 27)).cell? ⟨w1.heap.size, 1, none⟩ = some (.int .i64 low1) := cell_later hA2 p1
 have x2v : (w2.alloc (.cells #[.slice a2 n2 c2, .int .i64 low2, .bool neg2, .bool nn2] 27)).cell? ⟨w1.heap.size, 2, none⟩ = some (.bool neg1) := cell_later hA2 p2
 have x3v : (w2.alloc (.cells #[.slice a2 n2 c2, .int .i64 low2, .bool neg2, .bool nn2] 27)).cell? ⟨w1.heap.size, 3, none⟩ = some (.bool nn1) := cell_later hA2 p3
 have y0v : (w2.alloc (.cells #[.slice a2 n2 c2, .int .i64 low2, .bool neg2, .bool nn2] 27)).cell? ⟨w2.heap.size, 0, none⟩ = some (.slice a2 n2 c2) := by go_simp
 have y1v : (w2.alloc (.cells #[.slice a2 n2 c2, .int .i64 low2, .bool neg2, .bool nn2] 27)).cell? ⟨w2.heap.size, 1, none⟩ = some (.int .i64 low2) := by go_simp
 have y2v : (w2.alloc (.cells #[.slice a2 n2 c2, .int .i64 low2, .bool neg2, .bool nn2] 27)).cell? ⟨w2.heap.size, 2, none⟩ = some (.bool neg2) := by go_simp
 have y3v : (w2.alloc (.cells #[.slice a2 n2 c2, .int .i64 low2, .bool neg2, .bool nn2] 27)).cell? ⟨w2.heap.size, 3, none⟩ = some (.bool nn2) := by go_simp
 clear hA2 p0 p1 p2 p3
 go_wp2_with fail
 refine (ok_any _ (none : Option Rat) _ (by first | exact hPv.out | exact hPv.out.later (Below.refl _ _).drew)).mono ?_
 rintro e w3 ⟨rfl, hbw3⟩
 have x0w3 : w3.cell? ⟨w1.heap.size, 0, none⟩ = some (.slice a1 n1 c1) := cell_later hbw3 (by first | assumption | go_simp)
 have x1w3 : w3.cell? ⟨w1.heap.size, 1, none⟩ = some (.int .i64 low1) := cell_later hbw3 (by first | assumption | go_simp)
 have x2w3 : w3.cell? ⟨w1.heap.size, 2, none⟩ = some (.bool neg1) := cell_later hbw3 (by first | assumption | go_simp)
 have x3w3 : w3.cell? ⟨w1.heap.size, 3, none⟩ = some (.bool nn1) := cell_later hbw3 (by first | assumption | go_simp)
 have y0w3 : w3.cell? ⟨w2.heap.size, 0, none⟩ = some (.slice a2 n2 c2) := cell_later hbw3 (by first | assumption | go_simp)
 have y1w3 : w3.cell? ⟨w2.heap.size, 1, none⟩ = some (.int .i64 low2) := cell_later hbw3 (by first | assumption | go_simp)
 have y2w3 : w3.cell? ⟨w2.heap.size, 2, none⟩ = some (.bool neg2) := cell_later hbw3 (by first | assumption | go_simp)
 have y3w3 : w3.cell? ⟨w2.heap.size, 3, none⟩ = some (.bool nn2) := cell_later hbw3 (by first | assumption | go_simp)
 have hBw3 : Hid (Below w.heap.size w w3) := thru (by first | exact hBv.out | exact hBv.out.drew) hbw3
 have hPw3 : Hid (IsNum w3 (.agg #[.slice a1 n1 c1, .int .i64 low1, .bool neg1, .bool nn1]) (none : Option Rat)) := (by first | exact hPv.out.later hbw3 | exact (hPv.out.later (Below.refl _ _).drew).later hbw3)
 have hQw3 : Hid (IsNum w3 (.agg #[.slice a2 n2 c2, .int .i64 low2, .bool neg2, .bool nn2]) (some (fval b))) := (by first | exact hQv.out.later hbw3 | exact (hQv.out.later (Below.refl _ _).drew).later hbw3)
 clear hbw3 hBv hPv hQv x0v x1v x2v x3v y0v y1v y2v y3v
 go_wp2_with fail
 refine (ok_any _ (some (fval b)) _ (by first | exact hQw3.out | exact hQw3.out.later (Below.refl _ _).drew)).mono ?_
 rintro e w4 ⟨rfl, hbw4⟩
 have x0w4 : w4.cell? ⟨w1.heap.size, 0, none⟩ = some (.slice a1 n1 c1) := cell_later hbw4 (by first | assumption | go_simp)
 have x1w4 : w4.cell? ⟨w1.heap.size, 1, none⟩ = some (.int .i64 low1) := cell_later hbw4 (by first | assumption | go_simp)
 have x2w4 : w4.cell? ⟨w1.heap.size, 2, none⟩ = some (.bool neg1) := cell_later hbw4 (by first | assumption | go_simp)
 have x3w4 : w4.cell? ⟨w1.heap.size, 3, none⟩ = some (.bool nn1) := cell_later hbw4 (by first | assumption | go_simp)
 have y0w4 : w4.cell? ⟨w2.heap.size, 0, none⟩ = some (.slice a2 n2 c2) := cell_later hbw4 (by first | assumption | go_simp)
 have y1w4 : w4.cell? ⟨w2.heap.size, 1, none⟩ = some (.int .i64 low2) := cell_later hbw4 (by first | assumption | go_simp)
 have y2w4 : w4.cell? ⟨w2.heap.size, 2, none⟩ = some (.bool neg2) := cell_later hbw4 (by first | assumption | go_simp)
 have y3w4 : w4.cell? ⟨w2.heap.size, 3, none⟩ = some (.bool nn2) := cell_later hbw4 (by first | assumption | go_simp)
 have hBw4 : Hid (Below w.heap.size w w4) := thru (by first | exact hBw3.out | exact hBw3.out.drew) hbw4
 have hPw4 : Hid (IsNum w4 (.agg #[.slice a1 n1 c1, .int .i64 low1, .bool neg1, .bool nn1]) (none : Option Rat)) := (by first | exact hPw3.out.later hbw4 | exact (hPw3.out.later (Below.refl _ _).drew).later hbw4)
 have hQw4 : Hid (IsNum w4 (.agg #[.slice a2 n2 c2, .int .i64 low2, .bool neg2, .bool nn2]) (some (fval b))) := (by first | exact hQw3.out.later hbw4 | exact (hQw3.out.later (Below.refl _ _).drew).later hbw4)
 clear hbw4 hBw3 hPw3 hQw3 x0w3 x1w3 x2w3 x3w3 y0w3 y1w3 y2w3 y3w3
 go_wp2_with fail
 refine (add_any _ _ (none : Option Rat) (some (fval b)) _ (by first | exact hPw4.out | exact hPw4.out.later (Below.refl _ _).drew) (by first | exact hQw4.out | exact hQw4.out.later (Below.refl _ _).drew) (HT.out.later (by first | exact hBw4.out | exact hBw4.out.drew))).mono ?_
 rintro e w5 ⟨v5, y5, rfl, hn5, hy5, hbw5⟩
 replace hy5 := op2_no hy5 (Or.inl rfl)
 subst hy5
 have HN5 : Hid (IsNum w5 v5 none) := hn5
 clear hn5
 have x0w5 : w5.cell? ⟨w1.heap.size, 0, none⟩ = some (.slice a1 n1 c1) := cell_later hbw5 (by first | assumption | go_simp)
 have x1w5 : w5.cell? ⟨w1.heap.size, 1, none⟩ = some (.int .i64 low1) := cell_later hbw5 (by first | assumption | go_simp)
 have x2w5 : w5.cell? ⟨w1.heap.size, 2, none⟩ = some (.bool neg1) := cell_later hbw5 (by first | assumption | go_simp)
 have x3w5 : w5.cell? ⟨w1.heap.size, 3, none⟩ = some (.bool nn1) := cell_later hbw5 (by first | assumption | go_simp)
 have y0w5 : w5.cell? ⟨w2.heap.size, 0, none⟩ = some (.slice a2 n2 c2) := cell_later hbw5 (by first | assumption | go_simp)
 have y1w5 : w5.cell? ⟨w2.heap.size, 1, none⟩ = some (.int .i64 low2) := cell_later hbw5 (by first | assumption | go_simp)
 have y2w5 : w5.cell? ⟨w2.heap.size, 2, none⟩ = some (.bool neg2) := cell_later hbw5 (by first | assumption | go_simp)
 have y3w5 : w5.cell? ⟨w2.heap.size, 3, none⟩ = some (.bool nn2) := cell_later hbw5 (by first | assumption | go_simp)
 have hBw5 : Hid (Below w.heap.size w w5) := thru (by first | exact hBw4.out | exact hBw4.out.drew) hbw5
 have hPw5 : Hid (IsNum w5 (.agg #[.slice a1 n1 c1, .int .i64 low1, .bool neg1, .bool nn1]) (none : Option Rat)) := (by first | exact hPw4.out.later hbw5 | exact (hPw4.out.later (Below.refl _ _).drew).later hbw5)
 have hQw5 : Hid (IsNum w5 (.agg #[.slice a2 n2 c2, .int .i64 low2, .bool neg2, .bool nn2]) (some (fval b))) := (by first | exact hQw4.out.later hbw5 | exact (hQw4.out.later (Below.refl _ _).drew).later hbw5)
 clear hbw5 hBw4 hPw4 hQw4 x0w4 x1w4 x2w4 x3w4 y0w4 y1w4 y2w4 y3w4
 go_wp2_with fail
 refine (ok_any _ none _ HN5.out).mono ?_
 rintro e w6 ⟨rfl, hbw6⟩
 have x0w6 : w6.cell? ⟨w1.heap.size, 0, none⟩ = some (.slice a1 n1 c1) := cell_later hbw6 (by first | assumption | go_simp)
 have x1w6 : w6.cell? ⟨w1.heap.size, 1, none⟩ = some (.int .i64 low1) := cell_later hbw6 (by first | assumption | go_simp)
 have x2w6 : w6.cell? ⟨w1.heap.size, 2, none⟩ = some (.bool neg1) := cell_later hbw6 (by first | assumption | go_simp)
 have x3w6 : w6.cell? ⟨w1.heap.size, 3, none⟩ = some (.bool nn1) := cell_later hbw6 (by first | assumption | go_simp)
 have y0w6 : w6.cell? ⟨w2.heap.size, 0, none⟩ = some (.slice a2 n2 c2) := cell_later hbw6 (by first | assumption | go_simp)
 have y1w6 : w6.cell? ⟨w2.heap.size, 1, none⟩ = some (.int .i64 low2) := cell_later hbw6 (by first | assumption | go_simp)
 have y2w6 : w6.cell? ⟨w2.heap.size, 2, none⟩ = some (.bool neg2) := cell_later hbw6 (by first | assumption | go_simp)
 have y3w6 : w6.cell? ⟨w2.heap.size, 3, none⟩ = some (.bool nn2) := cell_later hbw6 (by first | assumption | go_simp)
 have hBw6 : Hid (Below w.heap.size w w6) := thru (by first | exact hBw5.out | exact hBw5.out.drew) hbw6
 have hPw6 : Hid (IsNum w6 (.agg #[.slice a1 n1 c1, .int .i64 low1, .bool neg1, .bool nn1]) (none : Option Rat)) := (by first | exact hPw5.out.later hbw6 | exact (hPw5.out.later (Below.refl _ _).drew).later hbw6)
 have hQw6 : Hid (IsNum w6 (.agg #[.slice a2 n2 c2, .int .i64 low2, .bool neg2, .bool nn2]) (some (fval b))) := (by first | exact hQw5.out.later hbw6 | exact (hQw5.out.later (Below.refl _ _).drew).later hbw6)
 clear hbw6 hBw5 hPw5 hQw5 x0w5 x1w5 x2w5 x3w5 y0w5 y1w5 y2w5 y3w5
 go_wp2_with fail
 refine (mul_any _ _ (none : Option Rat) (some (fval b)) _ (by first | exact hPw6.out | exact hPw6.out.later (Below.refl _ _).drew) (by first | exact hQw6.out | exact hQw6.out.later (Below.refl _ _).drew) (HT.out.later (by first | exact hBw6.out | exact hBw6.out.drew))).mono ?_
 rintro e w7 ⟨v7, y7, rfl, hn7, hy7, hbw7⟩
 replace hy7 := op2_no hy7 (Or.inl rfl)
 subst hy7
 have HN7 : Hid (IsNum w7 v7 none) := hn7
 clear hn7
 have x0w7 : w7.cell? ⟨w1.heap.size, 0, none⟩ = some (.slice a1 n1 c1) := cell_later hbw7 (by first | assumption | go_simp)
 have x1w7 : w7.cell? ⟨w1.heap.size, 1, none⟩ = some (.int .i64 low1) := cell_later hbw7 (by first | assumption | go_simp)
 have x2w7 : w7.cell? ⟨w1.heap.size, 2, none⟩ = some (.bool neg1) := cell_later hbw7 (by first | assumption | go_simp)
 have x3w7 : w7.cell? ⟨w1.heap.size, 3, none⟩ = some (.bool nn1) := cell_later hbw7 (by first | assumption | go_simp)
 have y0w7 : w7.cell? ⟨w2.heap.size, 0, none⟩ = some (.slice a2 n2 c2) := cell_later hbw7 (by first | assumption | go_simp)
 have y1w7 : w7.cell? ⟨w2.heap.size, 1, none⟩ = some (.int .i64 low2) := cell_later hbw7 (by first | assumption | go_simp)
 have y2w7 : w7.cell? ⟨w2.heap.size, 2, none⟩ = some (.bool neg2) := cell_later hbw7 (by first | assumption | go_simp)
 have y3w7 : w7.cell? ⟨w2.heap.size, 3, none⟩ = some (.bool nn2) := cell_later hbw7 (by first | assumption | go_simp)
 have hBw7 : Hid (Below w.heap.size w w7) := thru (by first | exact hBw6.out | exact hBw6.out.drew) hbw7
 have hPw7 : Hid (IsNum w7 (.agg #[.slice a1 n1 c1, .int .i64 low1, .bool neg1, .bool nn1]) (none : Option Rat)) := (by first | exact hPw6.out.later hbw7 | exact (hPw6.out.later (Below.refl _ _).drew).later hbw7)
 have hQw7 : Hid (IsNum w7 (.agg #[.slice a2 n2 c2, .int .i64 low2, .bool neg2, .bool nn2]) (some (fval b))) := (by first | exact hQw6.out.later hbw7 | exact (hQw6.out.later (Below.refl _ _).drew).later hbw7)
 clear hbw7 hBw6 hPw6 hQw6 x0w6 x1w6 x2w6 x3w6 y0w6 y1w6 y2w6 y3w6
 go_wp2_with fail
 refine (ok_any _ none _ HN7.out).mono ?_
 rintro e w8 ⟨rfl, hbw8⟩
 have x0w8 : w8.cell? ⟨w1.heap.size, 0, none⟩ = some (.slice a1 n1 c1) := cell_later hbw8 (by first | assumption | go_simp)
 have x1w8 : w8.cell? ⟨w1.heap.size, 1, none⟩ = some (.int .i64 low1) := cell_later hbw8 (by first | assumption | go_simp)
 have x2w8 : w8.cell? ⟨w1.heap.size, 2, none⟩ = some (.bool neg1) := cell_later hbw8 (by first | assumption | go_simp)
 have x3w8 : w8.cell? ⟨w1.heap.size, 3, none⟩ = some (.bool nn1) := cell_later hbw8 (by first | assumption | go_simp)
 have y0w8 : w8.cell? ⟨w2.heap.size, 0, none⟩ = some (.slice a2 n2 c2) := cell_later hbw8 (by first | assumption | go_simp)
 have y1w8 : w8.cell? ⟨w2.heap.size, 1, none⟩ = some (.int .i64 low2) := cell_later hbw8 (by first | assumption | go_simp)
 have y2w8 : w8.cell? ⟨w2.heap.size, 2, none⟩ = some (.bool neg2) := cell_later hbw8 (by first | assumption | go_simp)
 have y3w8 : w8.cell? ⟨w2.heap.size, 3, none⟩ = some (.bool nn2) := cell_later hbw8 (by first | assumption | go_simp)
 have hBw8 : Hid (Below w.heap.size w w8) := thru (by first | exact hBw7.out | exact hBw7.out.drew) hbw8
 have hPw8 : Hid (IsNum w8 (.agg #[.slice a1 n1 c1, .int .i64 low1, .bool neg1, .bool nn1]) (none : Option Rat)) := (by first | exact hPw7.out.later hbw8 | exact (hPw7.out.later (Below.refl _ _).drew).later hbw8)
 have hQw8 : Hid (IsNum w8 (.agg #[.slice a2 n2 c2, .int .i64 low2, .bool neg2, .bool nn2]) (some (fval b))) := (by first | exact hQw7.out.later hbw8 | exact (hQw7.out.later (Below.refl _ _).drew).later hbw8)
 clear hbw8 hBw7 hPw7 hQw7 x0w7 x1w7 x2w7 x3w7 y0w7 y1w7 y2w7 y3w7
 go_wp2
 go_ret
 exact ⟨rfl, hBw8.out⟩
set_option maxRecDepth 100000 in
set_option maxHeartbeats 4000000 in
theorem floats_yn (a b : Nat) (w : World) (hT : Tab w) (la : a < 18446744073709551616) (lb : b < 18446744073709551616) (ha : Fin64 a) (hb : ¬ Fin64 b) :
   Calls Tryd.prog 3 #[.float .f64 a, .float .f64 b] w fun e w' => e = .returned (.bool true) ∧ Below w.heap.size w w' := by
 have HT : Hid (Tab w) := hT
 have Ha : Hid (a < 18446744073709551616) := la
 have Hb : Hid (b < 18446744073709551616) := lb
 have OA : Hid (∀ w, Tab w → Calls Tryd.prog 4 #[.float .f64 a] w fun e w' => OpR w w' (fun y => y = some (fval a)) e) := by
   intro w hT
   have := ofW_any a w hT Ha.out
   rwa [if_pos (show frung a < 9218868437227405312 from ha)] at this
 have OB : Hid (∀ w, Tab w → Calls Tryd.prog 4 #[.float .f64 b] w fun e w' => OpR w w' (fun y => y = none) e) := by
   intro w hT
   have := ofW_any b w hT Hb.out
   rwa [if_neg (show ¬ frung b < 9218868437227405312 from hb)] at this
 obtain ⟨ma, sa, ta⟩ := self_sub ha
 have ra : ∀ w, (binOp .sub 22 (.float .f64 a) (.float .f64 a)).run Tryd.prog w = .ok (.float .f64 ma) w := fun w => run_float_arith w .sub _ .f64 _ _ _ sa
 have rb := run_sub_nan b b (self_nan hb)
 have tb : ∀ w, FloatKind.f64.format.order (nanW b b w) 0 = none := fun w => nan_order (nanW_nan b b w).1 0
 clear hT la lb ha hb sa
 have hB0 : Hid (Below w.heap.size w w) := Below.refl _ _
 go_enter Tryd.func3, Tryd.ntmps3
 go_wp2_with fail
 refine (OA.out w HT.out).mono ?_
 rintro e w1 ⟨v1, z1, rfl, hn1, hz1, hb1⟩
 obtain ⟨a1, n1, c1, low1, neg1, nn1, rfl, hn1⟩ := isNum_form hn1
 subst hz1
 have HA : Hid (Below w1.heap.size w1 (w1.alloc (.cells #[.slice a1 n1 c1, .int .i64 low1, .bool neg1, .bool nn1] 27))) := (Below.refl _ _).alloc (Nat.le_refl _) _
 have HB1 : Hid (Below w.heap.size w w1) := hb1
 have HN1 : Hid (IsNum w1 (.agg #[.slice a1 n1 c1, .int .i64 low1, .bool neg1, .bool nn1]) (some (fval a))) := hn1
 clear hb1 hn1 hB0
 go_wp2_with fail
 refine (OB.out _ (HT.out.later (thru HB1.out HA.out))).mono ?_
 rintro e w2 ⟨v2, z2, rfl, hn2, hz2, hb2⟩
 obtain ⟨a2, n2, c2, low2, neg2, nn2, rfl, hn2⟩ := isNum_form hn2
 subst hz2
 have hc := thru HA.out hb2
 have p0 : w2.cell? ⟨w1.heap.size, 0, none⟩ = some (.slice a1 n1 c1) := cell_later hb2 (by go_simp)
 have p1 : w2.cell? ⟨w1.heap.size, 1, none⟩ = some (.int .i64 low1) := cell_later hb2 (by go_simp)
 have p2 : w2.cell? ⟨w1.heap.size, 2, none⟩ = some (.bool neg1) := cell_later hb2 (by go_simp)
 have p3 : w2.cell? ⟨w1.heap.size, 3, none⟩ = some (.bool nn1) := cell_later hb2 (by go_simp)
 have hs : w1.heap.size < w2.heap.size := by have := hb2.size; simp at this; omega
 have hA2 : Below w2.heap.size w2 (w2.alloc (.cells #[.slice a2 n2 c2, .int .i64 low2, .bool neg2, .bool nn2] 27)) := (Below.refl _ _).alloc (Nat.le_refl _) _
 have hBv : Hid (Below w.heap.size w (w2.alloc (.cells #[.slice a2 n2 c2, .int .i64 low2, .bool neg2, .bool nn2] 27))) := thru (thru HB1.out hc) hA2
 have hPv : Hid (IsNum (w2.alloc (.cells #[.slice a2 n2 c2, .int .i64 low2, .bool neg2, .bool nn2] 27)) (.agg #[.slice a1 n1 c1, .int .i64 low1, .bool neg1, .bool nn1]) (some (fval a))) := (HN1.out.later hc).later hA2
 have hQv : Hid (IsNum (w2.alloc (.cells #[.slice a2 n2 c2, .int .i64 low2, .bool neg2, .bool nn2] 27)) (.agg #[.slice a2 n2 c2, .int .i64 low2, .bool neg2, .bool nn2]) (none : Option Rat)) := hn2.later hA2
 clear hb2 hc HN1 HB1 HA hn2
 have x0v : (w2.alloc (.cells #[.slice a2 n2 c2, .int .i64 low2, .bool neg2, .bool nn2] 27)).cell? ⟨w1.heap.size, 0, none⟩ = some (.slice a1 n1 c1) := cell_later hA2 p0
 have x1v : (w2.alloc (.cells #[.slice a2 n2 c2, .int .i64 low2, .bool neg2, .bool nn2] 27)).cell? ⟨w1.heap.size, 1, none⟩ = some (.int .i64 low1) := cell_later hA2 p1
 have x2v : (w2.alloc (.cells #[.slice a2 n2 c2, .int .i64 low2, .bool neg2, .bool nn2] 27)).cell? ⟨w1.heap.size, 2, none⟩ = some (.bool neg1) := cell_later hA2 p2
 have x3v : (w2.alloc (.cells #[.slice a2 n2 c2, .int .i64 low2, .bool neg2, .bool nn2] 27)).cell? ⟨w1.heap.size, 3, none⟩ = some (.bool nn1) := cell_later hA2 p3
 have y0v : (w2.alloc (.cells #[.slice a2 n2 c2, .int .i64 low2, .bool neg2, .bool nn2] 27)).cell? ⟨w2.heap.size, 0, none⟩ = some (.slice a2 n2 c2) := by go_simp
 have y1v : (w2.alloc (.cells #[.slice a2 n2 c2, .int .i64 low2, .bool neg2, .bool nn2] 27)).cell? ⟨w2.heap.size, 1, none⟩ = some (.int .i64 low2) := by go_simp
 have y2v : (w2.alloc (.cells #[.slice a2 n2 c2, .int .i64 low2, .bool neg2, .bool nn2] 27)).cell? ⟨w2.heap.size, 2, none⟩ = some (.bool neg2) := by go_simp
 have y3v : (w2.alloc (.cells #[.slice a2 n2 c2, .int .i64 low2, .bool neg2, .bool nn2] 27)).cell? ⟨w2.heap.size, 3, none⟩ = some (.bool nn2) := by go_simp
 clear hA2 p0 p1 p2 p3
 go_wp2_with fail
 refine (ok_any _ (some (fval a)) _ (by first | exact hPv.out | exact hPv.out.later (Below.refl _ _).drew)).mono ?_
 rintro e w3 ⟨rfl, hbw3⟩
 have x0w3 : w3.cell? ⟨w1.heap.size, 0, none⟩ = some (.slice a1 n1 c1) := cell_later hbw3 (by first | assumption | go_simp)
 have x1w3 : w3.cell? ⟨w1.heap.size, 1, none⟩ = some (.int .i64 low1) := cell_later hbw3 (by first | assumption | go_simp)
 have x2w3 : w3.cell? ⟨w1.heap.size, 2, none⟩ = some (.bool neg1) := cell_later hbw3 (by first | assumption | go_simp)
 have x3w3 : w3.cell? ⟨w1.heap.size, 3, none⟩ = some (.bool nn1) := cell_later hbw3 (by first | assumption | go_simp)
 have y0w3 : w3.cell? ⟨w2.heap.size, 0, none⟩ = some (.slice a2 n2 c2) := cell_later hbw3 (by first | assumption | go_simp)
 have y1w3 : w3.cell? ⟨w2.heap.size, 1, none⟩ = some (.int .i64 low2) := cell_later hbw3 (by first | assumption | go_simp)
 have y2w3 : w3.cell? ⟨w2.heap.size, 2, none⟩ = some (.bool neg2) := cell_later hbw3 (by first | assumption | go_simp)
 have y3w3 : w3.cell? ⟨w2.heap.size, 3, none⟩ = some (.bool nn2) := cell_later hbw3 (by first | assumption | go_simp)
 have hBw3 : Hid (Below w.heap.size w w3) := thru (by first | exact hBv.out | exact hBv.out.drew) hbw3
 have hPw3 : Hid (IsNum w3 (.agg #[.slice a1 n1 c1, .int .i64 low1, .bool neg1, .bool nn1]) (some (fval a))) := (by first | exact hPv.out.later hbw3 | exact (hPv.out.later (Below.refl _ _).drew).later hbw3)
 have hQw3 : Hid (IsNum w3 (.agg #[.slice a2 n2 c2, .int .i64 low2, .bool neg2, .bool nn2]) (none : Option Rat)) := (by first | exact hQv.out.later hbw3 | exact (hQv.out.later (Below.refl _ _).drew).later hbw3)
 clear hbw3 hBv hPv hQv x0v x1v x2v x3v y0v y1v y2v y3v
 go_wp2_with fail
 refine (ok_any _ (none : Option Rat) _ (by first | exact hQw3.out | exact hQw3.out.later (Below.refl _ _).drew)).mono ?_
 rintro e w4 ⟨rfl, hbw4⟩
 have x0w4 : w4.cell? ⟨w1.heap.size, 0, none⟩ = some (.slice a1 n1 c1) := cell_later hbw4 (by first | assumption | go_simp)
 have x1w4 : w4.cell? ⟨w1.heap.size, 1, none⟩ = some (.int .i64 low1) := cell_later hbw4 (by first | assumption | go_simp)
 have x2w4 : w4.cell? ⟨w1.heap.size, 2, none⟩ = some (.bool neg1) := cell_later hbw4 (by first | assumption | go_simp)
 have x3w4 : w4.cell? ⟨w1.heap.size, 3, none⟩ = some (.bool nn1) := cell_later hbw4 (by first | assumption | go_simp)
 have y0w4 : w4.cell? ⟨w2.heap.size, 0, none⟩ = some (.slice a2 n2 c2) := cell_later hbw4 (by first | assumption | go_simp)
 have y1w4 : w4.cell? ⟨w2.heap.size, 1, none⟩ = some (.int .i64 low2) := cell_later hbw4 (by first | assumption | go_simp)
 have y2w4 : w4.cell? ⟨w2.heap.size, 2, none⟩ = some (.bool neg2) := cell_later hbw4 (by first | assumption | go_simp)
 have y3w4 : w4.cell? ⟨w2.heap.size, 3, none⟩ = some (.bool nn2) := cell_later hbw4 (by first | assumption | go_simp)
 have hBw4 : Hid (Below w.heap.size w w4) := thru (by first | exact hBw3.out | exact hBw3.out.drew) hbw4
 have hPw4 : Hid (IsNum w4 (.agg #[.slice a1 n1 c1, .int .i64 low1, .bool neg1, .bool nn1]) (some (fval a))) := (by first | exact hPw3.out.later hbw4 | exact (hPw3.out.later (Below.refl _ _).drew).later hbw4)
 have hQw4 : Hid (IsNum w4 (.agg #[.slice a2 n2 c2, .int .i64 low2, .bool neg2, .bool nn2]) (none : Option Rat)) := (by first | exact hQw3.out.later hbw4 | exact (hQw3.out.later (Below.refl _ _).drew).later hbw4)
 clear hbw4 hBw3 hPw3 hQw3 x0w3 x1w3 x2w3 x3w3 y0w3 y1w3 y2w3 y3w3
 go_wp2_with fail
 refine (add_any _ _ (some (fval a)) (none : Option Rat) _ (by first | exact hPw4.out | exact hPw4.out.later (Below.refl _ _).drew) (by first | exact hQw4.out | exact hQw4.out.later (Below.refl _ _).drew) (HT.out.later (by first | exact hBw4.out | exact hBw4.out.drew))).mono ?_
 rintro e w5 ⟨v5, y5, rfl, hn5, hy5, hbw5⟩
 replace hy5 := op2_no hy5 (Or.inr rfl)
 subst hy5
 have HN5 : Hid (IsNum w5 v5 none) := hn5
 clear hn5
 have x0w5 : w5.cell? ⟨w1.heap.size, 0, none⟩ = some (.slice a1 n1 c1) := cell_later hbw5 (by first | assumption | go_simp)
 have x1w5 : w5.cell? ⟨w1.heap.size, 1, none⟩ = some (.int .i64 low1) := cell_later hbw5 (by first | assumption | go_simp)
 have x2w5 : w5.cell? ⟨w1.heap.size, 2, none⟩ = some (.bool neg1) := cell_later hbw5 (by first | assumption | go_simp)
 have x3w5 : w5.cell? ⟨w1.heap.size, 3, none⟩ = some (.bool nn1) := cell_later hbw5 (by first | assumption | go_simp)
 have y0w5 : w5.cell? ⟨w2.heap.size, 0, none⟩ = some (.slice a2 n2 c2) := cell_later hbw5 (by first | assumption | go_simp)
 have y1w5 : w5.cell? ⟨w2.heap.size, 1, none⟩ = some (.int .i64 low2) := cell_later hbw5 (by first | assumption | go_simp)
 have y2w5 : w5.cell? ⟨w2.heap.size, 2, none⟩ = some (.bool neg2) := cell_later hbw5 (by first | assumption | go_simp)
 have y3w5 : w5.cell? ⟨w2.heap.size, 3, none⟩ = some (.bool nn2) := cell_later hbw5 (by first | assumption | go_simp)
 have hBw5 : Hid (Below w.heap.size w w5) := thru (by first | exact hBw4.out | exact hBw4.out.drew) hbw5
 have hPw5 : Hid (IsNum w5 (.agg #[.slice a1 n1 c1, .int .i64 low1, .bool neg1, .bool nn1]) (some (fval a))) := (by first | exact hPw4.out.later hbw5 | exact (hPw4.out.later (Below.refl _ _).drew).later hbw5)
 have hQw5 : Hid (IsNum w5 (.agg #[.slice a2 n2 c2, .int .i64 low2, .bool neg2, .bool nn2]) (none : Option Rat)) := (by first | exact hQw4.out.later hbw5 | exact (hQw4.out.later (Below.refl _ _).drew).later hbw5)
 clear hbw5 hBw4 hPw4 hQw4 x0w4 x1w4 x2w4 x3w4 y0w4 y1w4 y2w4 y3w4
 go_wp2_with fail
 refine (ok_any _ none _ HN5.out).mono ?_
 rintro e w6 ⟨rfl, hbw6⟩
 have x0w6 : w6.cell? ⟨w1.heap.size, 0, none⟩ = some (.slice a1 n1 c1) := cell_later hbw6 (by first | assumption | go_simp)
 have x1w6 : w6.cell? ⟨w1.heap.size, 1, none⟩ = some (.int .i64 low1) := cell_later hbw6 (by first | assumption | go_simp)
 have x2w6 : w6.cell? ⟨w1.heap.size, 2, none⟩ = some (.bool neg1) := cell_later hbw6 (by first | assumption | go_simp)
 have x3w6 : w6.cell? ⟨w1.heap.size, 3, none⟩ = some (.bool nn1) := cell_later hbw6 (by first | assumption | go_simp)
 have y0w6 : w6.cell? ⟨w2.heap.size, 0, none⟩ = some (.slice a2 n2 c2) := cell_later hbw6 (by first | assumption | go_simp)
 have y1w6 : w6.cell? ⟨w2.heap.size, 1, none⟩ = some (.int .i64 low2) := cell_later hbw6 (by first | assumption | go_simp)
 have y2w6 : w6.cell? ⟨w2.heap.size, 2, none⟩ = some (.bool neg2) := cell_later hbw6 (by first | assumption | go_simp)
 have y3w6 : w6.cell? ⟨w2.heap.size, 3, none⟩ = some (.bool nn2) := cell_later hbw6 (by first | assumption | go_simp)
 have hBw6 : Hid (Below w.heap.size w w6) := thru (by first | exact hBw5.out | exact hBw5.out.drew) hbw6
 have hPw6 : Hid (IsNum w6 (.agg #[.slice a1 n1 c1, .int .i64 low1, .bool neg1, .bool nn1]) (some (fval a))) := (by first | exact hPw5.out.later hbw6 | exact (hPw5.out.later (Below.refl _ _).drew).later hbw6)
 have hQw6 : Hid (IsNum w6 (.agg #[.slice a2 n2 c2, .int .i64 low2, .bool neg2, .bool nn2]) (none : Option Rat)) := (by first | exact hQw5.out.later hbw6 | exact (hQw5.out.later (Below.refl _ _).drew).later hbw6)
 clear hbw6 hBw5 hPw5 hQw5 x0w5 x1w5 x2w5 x3w5 y0w5 y1w5 y2w5 y3w5
 go_wp2_with fail
 refine (mul_any _ _ (some (fval a)) (none : Option Rat) _ (by first | exact hPw6.out | exact hPw6.out.later (Below.refl _ _).drew) (by first | exact hQw6.out | exact hQw6.out.later (Below.refl _ _).drew) (HT.out.later (by first | exact hBw6.out | exact hBw6.out.drew))).mono ?_
 rintro e w7 ⟨v7, y7, rfl, hn7, hy7, hbw7⟩
 replace hy7 := op2_no hy7 (Or.inr rfl)
 subst hy7
 have HN7 : Hid (IsNum w7 v7 none) := hn7
 clear hn7
 have x0w7 : w7.cell? ⟨w1.heap.size, 0, none⟩ = some (.slice a1 n1 c1) := cell_later hbw7 (by first | assumption | go_simp)
 have x1w7 : w7.cell? ⟨w1.heap.size, 1, none⟩ = some (.int .i64 low1) := cell_later hbw7 (by first | assumption | go_simp)
 have x2w7 : w7.cell? ⟨w1.heap.size, 2, none⟩ = some (.bool neg1) := cell_later hbw7 (by first | assumption | go_simp)
 have x3w7 : w7.cell? ⟨w1.heap.size, 3, none⟩ = some (.bool nn1) := cell_later hbw7 (by first | assumption | go_simp)
 have y0w7 : w7.cell? ⟨w2.heap.size, 0, none⟩ = some (.slice a2 n2 c2) := cell_later hbw7 (by first | assumption | go_simp)
 have y1w7 : w7.cell? ⟨w2.heap.size, 1, none⟩ = some (.int .i64 low2) := cell_later hbw7 (by first | assumption | go_simp)
 have y2w7 : w7.cell? ⟨w2.heap.size, 2, none⟩ = some (.bool neg2) := cell_later hbw7 (by first | assumption | go_simp)
 have y3w7 : w7.cell? ⟨w2.heap.size, 3, none⟩ = some (.bool nn2) := cell_later hbw7 (by first | assumption | go_simp)
 have hBw7 : Hid (Below w.heap.size w w7) := thru (by first | exact hBw6.out | exact hBw6.out.drew) hbw7
 have hPw7 : Hid (IsNum w7 (.agg #[.slice a1 n1 c1, .int .i64 low1, .bool neg1, .bool nn1]) (some (fval a))) := (by first | exact hPw6.out.later hbw7 | exact (hPw6.out.later (Below.refl _ _).drew).later hbw7)
 have hQw7 : Hid (IsNum w7 (.agg #[.slice a2 n2 c2, .int .i64 low2, .bool neg2, .bool nn2]) (none : Option Rat)) := (by first | exact hQw6.out.later hbw7 | exact (hQw6.out.later (Below.refl _ _).drew).later hbw7)
 clear hbw7 hBw6 hPw6 hQw6 x0w6 x1w6 x2w6 x3w6 y0w6 y1w6 y2w6 y3w6
 go_wp2_with fail
 refine (ok_any _ none _ HN7.out).mono ?_
 rintro e w8 ⟨rfl, hbw8⟩
 have x0w8 : w8.cell? ⟨w1.heap.size, 0, none⟩ = some (.slice a1 n1 c1) := cell_later hbw8 (by first | assumption | go_simp)
 have x1w8 : w8.cell? ⟨w1.heap.size, 1, none⟩ = some (.int .i64 low1) := cell_later hbw8 (by first | assumption | go_simp)
 have x2w8 : w8.cell? ⟨w1.heap.size, 2, none⟩ = some (.bool neg1) := cell_later hbw8 (by first | assumption | go_simp)
 have x3w8 : w8.cell? ⟨w1.heap.size, 3, none⟩ = some (.bool nn1) := cell_later hbw8 (by first | assumption | go_simp)
 have y0w8 : w8.cell? ⟨w2.heap.size, 0, none⟩ = some (.slice a2 n2 c2) := cell_later hbw8 (by first | assumption | go_simp)
 have y1w8 : w8.cell? ⟨w2.heap.size, 1, none⟩ = some (.int .i64 low2) := cell_later hbw8 (by first | assumption | go_simp)
 have y2w8 : w8.cell? ⟨w2.heap.size, 2, none⟩ = some (.bool neg2) := cell_later hbw8 (by first | assumption | go_simp)
 have y3w8 : w8.cell? ⟨w2.heap.size, 3, none⟩ = some (.bool nn2) := cell_later hbw8 (by first | assumption | go_simp)
 have hBw8 : Hid (Below w.heap.size w w8) := thru (by first | exact hBw7.out | exact hBw7.out.drew) hbw8
 have hPw8 : Hid (IsNum w8 (.agg #[.slice a1 n1 c1, .int .i64 low1, .bool neg1, .bool nn1]) (some (fval a))) := (by first | exact hPw7.out.later hbw8 | exact (hPw7.out.later (Below.refl _ _).drew).later hbw8)
 have hQw8 : Hid (IsNum w8 (.agg #[.slice a2 n2 c2, .int .i64 low2, .bool neg2, .bool nn2]) (none : Option Rat)) := (by first | exact hQw7.out.later hbw8 | exact (hQw7.out.later (Below.refl _ _).drew).later hbw8)
 clear hbw8 hBw7 hPw7 hQw7 x0w7 x1w7 x2w7 x3w7 y0w7 y1w7 y2w7 y3w7
 go_wp2
 go_ret
 exact ⟨rfl, hBw8.out⟩
end Go.Proofs.YtejhinjanjlplaaDoor
