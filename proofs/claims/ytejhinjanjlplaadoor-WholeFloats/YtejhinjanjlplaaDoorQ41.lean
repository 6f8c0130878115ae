/- Own texts, put together: Hn. -/
import Derived.Test.YtejhinjanjlplaaDoorQ39
/- WholeFloats: two finite floats, the first less. -/
namespace Go.Proofs.YtejhinjanjlplaaDoor
open Go.RowKit
attribute [local go_sem ↓] Go.wp_at_zero Go.wp_at_succ
set_option maxRecDepth 100000 in
set_option maxHeartbeats 8000000 in
theorem floats_lt (a b : Nat) (w : World) (hT : Tab w) (la : a < 18446744073709551616) (lb : b < 18446744073709551616) (ha : Fin64 a) (hb : Fin64 b) (hab : fval a < fval b) :
   Calls Tryd.prog 3 #[.float .f64 a, .float .f64 b] w fun e w' => e = .returned (.bool true) ∧ Below w.heap.size w w' := by
 have HT : Hid (Tab w) := hT
 have Ha : Hid (a < 18446744073709551616) := la
 have Hb : Hid (b < 18446744073709551616) := lb
 have OA : Hid (∀ w, Tab w → Calls Tryd.prog 4 #[.float .f64 a] w fun e w' => OpR w w' (fun y => y = some (fval a)) e) := by
   intro w hT
   have := ofW_any a w hT Ha.out
   rwa [if_pos (show frung a < 9218868437227405312 from ha)] at this
 have OB : Hid (∀ w, Tab w → Calls Tryd.prog 4 #[.float .f64 b] w fun e w' => OpR w w' (fun y => y = some (fval b)) e) := by
   intro w hT
   have := ofW_any b w hT Hb.out
   rwa [if_pos (show frung b < 9218868437227405312 from hb)] at this
 obtain ⟨ma, sa, ta⟩ := self_sub ha
 have ra : ∀ w, (binOp .sub 22 (.float .f64 a) (.float .f64 a)).run Tryd.prog w = .ok (.float .f64 ma) w := fun w => run_float_arith w .sub _ .f64 _ _ _ sa
 obtain ⟨mb, sb, tb⟩ := self_sub hb
 have rb : ∀ w, (binOp .sub 22 (.float .f64 b) (.float .f64 b)).run Tryd.prog w = .ok (.float .f64 mb) w := fun w => run_float_arith w .sub _ .f64 _ _ _ sb
 have oab : FloatKind.f64.format.order a b = some .lt := by rw [order_val ha hb, if_pos hab]
 obtain ⟨s1, e1, k1⟩ := add_full ha hb
 have q1 : ∀ w, (binOp .add 22 (.float .f64 a) (.float .f64 b)).run Tryd.prog w = .ok (.float .f64 s1) w := fun w => run_float_arith w .add _ .f64 _ _ _ e1
 have K1 : Hid (RW (fval a + fval b) s1) := k1
 obtain ⟨s2, e2, k2⟩ := sub_full ha hb
 have q2 : ∀ w, (binOp .sub 22 (.float .f64 a) (.float .f64 b)).run Tryd.prog w = .ok (.float .f64 s2) w := fun w => run_float_arith w .sub _ .f64 _ _ _ e2
 have K2 : Hid (RW (fval a - fval b) s2) := k2
 obtain ⟨s3, e3, k3⟩ := mul_full ha hb
 have q3 : ∀ w, (binOp .mul 22 (.float .f64 a) (.float .f64 b)).run Tryd.prog w = .ok (.float .f64 s3) w := fun w => run_float_arith w .mul _ .f64 _ _ _ e3
 have K3 : Hid (RW (fval a * fval b) s3) := k3
 have RA : Hid (RW (fval a) a) := rw_self ha la
 have RB : Hid (RW (fval b) b) := rw_self hb lb
 have DA : Hid (den a = fval a) := den_fin ha
 have DB : Hid (den b = fval b) := den_fin hb
 have M1 : Hid (May (fval a + fval b)) := ((fval_bd ha).add (fval_bd hb)).may (by omega) (by omega)
 have M2 : Hid (May (fval a - fval b)) := ((fval_bd ha).sub (fval_bd hb)).may (by omega) (by omega)
 have M3 : Hid (May (fval a * fval b)) := ((fval_bd ha).mul (fval_bd hb)).may (by omega) (by omega)
 have C1 : Hid (cmpR (fval a) (fval b) = -1) := by show _ = _; unfold cmpR; rw [if_pos hab]
 have C2 : Hid (cmpR (fval b) (fval a) = 1) := by show _ = _; unfold cmpR; rw [if_neg (by grind), if_pos hab]
 clear hT la lb ha hb sa sb hab e1 e2 e3 k1 k2 k3
 have hB0 : Hid (Below w.heap.size w w) := Below.refl _ _
 go_enter Tryd.func3, Tryd.ntmps3
 go_wp2_with fail
 refine (OA.out w HT.out).mono ?_
 rintro e w1 ⟨v1, z1, rfl, hn1, hz1, hb1⟩
 obtain ⟨a1, n1, c1, low1, neg1, nn1, rfl, hn1⟩ := isNum_form hn1
 subst hz1
 have HA : Hid (Below w1.heap.size w1 (w1.alloc (.cells #[.slice a1 n1 c1, .int .i64 low1, .bool neg1, .bool nn1] 27))) := (Below.refl _ _).alloc (Nat.le_refl _) _
 have HB1 : Hid (Below w.heap.size w w1) := hb1
 have HN1 : Hid (IsNum w1 (.agg #[.slice a1 n1 c1, .int .i64 low1, .bool neg1, .bool nn1]) (some (fval a))) := hn1
 clear hb1 hn1 hB0
 go_wp2_with fail
 refine (OB.out _ (HT.out.later (thru HB1.out HA.out))).mono ?_
 rintro e w2 ⟨v2, z2, rfl, hn2, hz2, hb2⟩
 obtain ⟨a2, n2, c2, low2, neg2, nn2, rfl, hn2⟩ := isNum_form hn2
 subst hz2
 have hc := thru HA.out hb2
 have p0 : w2.cell? ⟨w1.heap.size, 0, none⟩ = some (.slice a1 n1 c1) := cell_later hb2 (by go_simp)
 have p1 : w2.cell? ⟨w1.heap.size, 1, none⟩ = some (.int .i64 low1) := cell_later hb2 (by go_simp)
 have p2 : w2.cell? ⟨w1.heap.size, 2, none⟩ = some (.bool neg1) := cell_later hb2 (by go_simp)
 have p3 : w2.cell? ⟨w1.heap.size, 3, none⟩ = some (.bool nn1) := cell_later hb2 (by go_simp)
 have hs : w1.heap.size < w2.heap.size := by have := hb2.size; simp at this; omega
 have hA2 : Below w2.heap.size w2 (w2.alloc (.cells #[.slice a2 n2 c2, .int .i64 low2, .bool neg2, .bool nn2] 27)) := (Below.refl _ _).alloc (Nat.le_refl _) _
 have hBv : Hid (Below w.heap.size w (w2.alloc (.cells #[.slice a2 n2 c2, .int .i64 low2, .bool neg2, .bool nn2] 27))) := thru (thru HB1.out hc) hA2
 have hPv : Hid (IsNum (w2.alloc (.cells #[.slice a2 n2 c2, .int .i64 low2, .bool neg2, .bool nn2] 27)) (.agg #[.slice a1 n1 c1, .int .i64 low1, .bool neg1, .bool nn1]) (some (fval a))) := (HN1.out.later hc).later hA2
 have hQv : Hid (IsNum (w2.alloc (.cells #[.slice a2 n2 c2, .int .i64 low2, .bool neg2, .bool nn2] 27)) (.agg #[.slice a2 n2 c2, .int .i64 low2, .bool neg2, .bool nn2]) (some (fval b))) := hn2.later hA2
 clear hb2 hc HN1 HB1 HA hn2
 have x0v : (w2.alloc (.cells #[.slice a2 n2 c2, .int .i64 low2, .bool neg2, .bool nn2] 27)).cell? ⟨w1.heap.size, 0, none⟩ = some (.slice a1 n1 c1) := cell_later hA2 p0
 have x1v : (w2.alloc (.cells #[.slice a2 n2 c2, .int .i64 low2, .bool neg2, .bool nn2] 27)).cell? ⟨w1.heap.size, 1, none⟩ = some (.int .i64 low1) := cell_later hA2 p1
 have x2v : (w2.alloc (.cells #[.slice a2 n2 c2, .int .i64 low2, .bool neg2, .bool nn2] 27)).cell? ⟨w1.heap.size, 2, none⟩ = some (.bool neg1) := cell_later hA2 p2
 have x3v : (w2.alloc (.cells #[.slice a2 n2 c2, .int .i64 low2, .bool neg2, .bool nn2] 27)).cell? ⟨w1.heap.size, 3, none⟩ = some (.bool nn1) := cell_later hA2 p3
 have y0v : (w2.alloc (.cells #[.slice a2 n2 c2, .int .i64 low2, .bool neg2, .bool nn2] 27)).cell? ⟨w2.heap.size, 0, none⟩ = some (.slice a2 n2 c2) := by go_simp
 have y1v : (w2.alloc (.cells #[.slice a2 n2 c2, .int .i64 low2, .bool neg2, .bool nn2] 27)).cell? ⟨w2.heap.size, 1, none⟩ = some (.int .i64 low2) := by go_simp
 have y2v : (w2.alloc (.cells #[.slice a2 n2 c2, .int .i64 low2, .bool neg2, .bool nn2] 27)).cell? ⟨w2.heap.size, 2, none⟩ = some (.bool neg2) := by go_simp
 have y3v : (w2.alloc (.cells #[.slice a2 n2 c2, .int .i64 low2, .bool neg2, .bool nn2] 27)).cell? ⟨w2.heap.size, 3, none⟩ = some (.bool nn2) := by go_simp
 clear hA2 p0 p1 p2 p3
 go_wp2_with fail
 refine (float_any _ (some (fval a)) _ (by first | exact hPv.out | exact hPv.out.later (Below.refl _ _).drew)).mono ?_
 rintro e w3 ⟨⟨f3, rfl, hf3⟩, hbw3⟩
 have o3 : FloatKind.f64.format.order f3 a = some .eq := float_same hf3 RA.out
 clear hf3
 have x0w3 : w3.cell? ⟨w1.heap.size, 0, none⟩ = some (.slice a1 n1 c1) := cell_later hbw3 (by first | assumption | go_simp)
 have x1w3 : w3.cell? ⟨w1.heap.size, 1, none⟩ = some (.int .i64 low1) := cell_later hbw3 (by first | assumption | go_simp)
 have x2w3 : w3.cell? ⟨w1.heap.size, 2, none⟩ = some (.bool neg1) := cell_later hbw3 (by first | assumption | go_simp)
 have x3w3 : w3.cell? ⟨w1.heap.size, 3, none⟩ = some (.bool nn1) := cell_later hbw3 (by first | assumption | go_simp)
 have y0w3 : w3.cell? ⟨w2.heap.size, 0, none⟩ = some (.slice a2 n2 c2) := cell_later hbw3 (by first | assumption | go_simp)
 have y1w3 : w3.cell? ⟨w2.heap.size, 1, none⟩ = some (.int .i64 low2) := cell_later hbw3 (by first | assumption | go_simp)
 have y2w3 : w3.cell? ⟨w2.heap.size, 2, none⟩ = some (.bool neg2) := cell_later hbw3 (by first | assumption | go_simp)
 have y3w3 : w3.cell? ⟨w2.heap.size, 3, none⟩ = some (.bool nn2) := cell_later hbw3 (by first | assumption | go_simp)
 have hBw3 : Hid (Below w.heap.size w w3) := thru (by first | exact hBv.out | exact hBv.out.drew) hbw3
 have hPw3 : Hid (IsNum w3 (.agg #[.slice a1 n1 c1, .int .i64 low1, .bool neg1, .bool nn1]) (some (fval a))) := (by first | exact hPv.out.later hbw3 | exact (hPv.out.later (Below.refl _ _).drew).later hbw3)
 have hQw3 : Hid (IsNum w3 (.agg #[.slice a2 n2 c2, .int .i64 low2, .bool neg2, .bool nn2]) (some (fval b))) := (by first | exact hQv.out.later hbw3 | exact (hQv.out.later (Below.refl _ _).drew).later hbw3)
 clear hbw3 hBv hPv hQv x0v x1v x2v x3v y0v y1v y2v y3v
 go_wp2_with fail
 refine (float_any _ (some (fval b)) _ (by first | exact hQw3.out | exact hQw3.out.later (Below.refl _ _).drew)).mono ?_
 rintro e w4 ⟨⟨f4, rfl, hf4⟩, hbw4⟩
 have o4 : FloatKind.f64.format.order f4 b = some .eq := float_same hf4 RB.out
 clear hf4
 have x0w4 : w4.cell? ⟨w1.heap.size, 0, none⟩ = some (.slice a1 n1 c1) := cell_later hbw4 (by first | assumption | go_simp)
 have x1w4 : w4.cell? ⟨w1.heap.size, 1, none⟩ = some (.int .i64 low1) := cell_later hbw4 (by first | assumption | go_simp)
 have x2w4 : w4.cell? ⟨w1.heap.size, 2, none⟩ = some (.bool neg1) := cell_later hbw4 (by first | assumption | go_simp)
 have x3w4 : w4.cell? ⟨w1.heap.size, 3, none⟩ = some (.bool nn1) := cell_later hbw4 (by first | assumption | go_simp)
 have y0w4 : w4.cell? ⟨w2.heap.size, 0, none⟩ = some (.slice a2 n2 c2) := cell_later hbw4 (by first | assumption | go_simp)
 have y1w4 : w4.cell? ⟨w2.heap.size, 1, none⟩ = some (.int .i64 low2) := cell_later hbw4 (by first | assumption | go_simp)
 have y2w4 : w4.cell? ⟨w2.heap.size, 2, none⟩ = some (.bool neg2) := cell_later hbw4 (by first | assumption | go_simp)
 have y3w4 : w4.cell? ⟨w2.heap.size, 3, none⟩ = some (.bool nn2) := cell_later hbw4 (by first | assumption | go_simp)
 have hBw4 : Hid (Below w.heap.size w w4) := thru (by first | exact hBw3.out | exact hBw3.out.drew) hbw4
 have hPw4 : Hid (IsNum w4 (.agg #[.slice a1 n1 c1, .int .i64 low1, .bool neg1, .bool nn1]) (some (fval a))) := (by first | exact hPw3.out.later hbw4 | exact (hPw3.out.later (Below.refl _ _).drew).later hbw4)
 have hQw4 : Hid (IsNum w4 (.agg #[.slice a2 n2 c2, .int .i64 low2, .bool neg2, .bool nn2]) (some (fval b))) := (by first | exact hQw3.out.later hbw4 | exact (hQw3.out.later (Below.refl _ _).drew).later hbw4)
 clear hbw4 hBw3 hPw3 hQw3 x0w3 x1w3 x2w3 x3w3 y0w3 y1w3 y2w3 y3w3
 go_wp2_with fail
 refine (cmp_told _ _ _ _ _ _ (by first | exact hPw4.out | exact hPw4.out.later (Below.refl _ _).drew) (by first | exact hQw4.out | exact hQw4.out.later (Below.refl _ _).drew) C1.out).mono ?_
 rintro e w5 ⟨rfl, hbw5⟩
 have x0w5 : w5.cell? ⟨w1.heap.size, 0, none⟩ = some (.slice a1 n1 c1) := cell_later hbw5 (by first | assumption | go_simp)
 have x1w5 : w5.cell? ⟨w1.heap.size, 1, none⟩ = some (.int .i64 low1) := cell_later hbw5 (by first | assumption | go_simp)
 have x2w5 : w5.cell? ⟨w1.heap.size, 2, none⟩ = some (.bool neg1) := cell_later hbw5 (by first | assumption | go_simp)
 have x3w5 : w5.cell? ⟨w1.heap.size, 3, none⟩ = some (.bool nn1) := cell_later hbw5 (by first | assumption | go_simp)
 have y0w5 : w5.cell? ⟨w2.heap.size, 0, none⟩ = some (.slice a2 n2 c2) := cell_later hbw5 (by first | assumption | go_simp)
 have y1w5 : w5.cell? ⟨w2.heap.size, 1, none⟩ = some (.int .i64 low2) := cell_later hbw5 (by first | assumption | go_simp)
 have y2w5 : w5.cell? ⟨w2.heap.size, 2, none⟩ = some (.bool neg2) := cell_later hbw5 (by first | assumption | go_simp)
 have y3w5 : w5.cell? ⟨w2.heap.size, 3, none⟩ = some (.bool nn2) := cell_later hbw5 (by first | assumption | go_simp)
 have hBw5 : Hid (Below w.heap.size w w5) := thru (by first | exact hBw4.out | exact hBw4.out.drew) hbw5
 have hPw5 : Hid (IsNum w5 (.agg #[.slice a1 n1 c1, .int .i64 low1, .bool neg1, .bool nn1]) (some (fval a))) := (by first | exact hPw4.out.later hbw5 | exact (hPw4.out.later (Below.refl _ _).drew).later hbw5)
 have hQw5 : Hid (IsNum w5 (.agg #[.slice a2 n2 c2, .int .i64 low2, .bool neg2, .bool nn2]) (some (fval b))) := (by first | exact hQw4.out.later hbw5 | exact (hQw4.out.later (Below.refl _ _).drew).later hbw5)
 clear hbw5 hBw4 hPw4 hQw4 x0w4 x1w4 x2w4 x3w4 y0w4 y1w4 y2w4 y3w4
 go_wp2_with fail
 refine (cmp_told _ _ _ _ _ _ (by first | exact hQw5.out | exact hQw5.out.later (Below.refl _ _).drew) (by first | exact hPw5.out | exact hPw5.out.later (Below.refl _ _).drew) C2.out).mono ?_
 rintro e w6 ⟨rfl, hbw6⟩
 have x0w6 : w6.cell? ⟨w1.heap.size, 0, none⟩ = some (.slice a1 n1 c1) := cell_later hbw6 (by first | assumption | go_simp)
 have x1w6 : w6.cell? ⟨w1.heap.size, 1, none⟩ = some (.int .i64 low1) := cell_later hbw6 (by first | assumption | go_simp)
 have x2w6 : w6.cell? ⟨w1.heap.size, 2, none⟩ = some (.bool neg1) := cell_later hbw6 (by first | assumption | go_simp)
 have x3w6 : w6.cell? ⟨w1.heap.size, 3, none⟩ = some (.bool nn1) := cell_later hbw6 (by first | assumption | go_simp)
 have y0w6 : w6.cell? ⟨w2.heap.size, 0, none⟩ = some (.slice a2 n2 c2) := cell_later hbw6 (by first | assumption | go_simp)
 have y1w6 : w6.cell? ⟨w2.heap.size, 1, none⟩ = some (.int .i64 low2) := cell_later hbw6 (by first | assumption | go_simp)
 have y2w6 : w6.cell? ⟨w2.heap.size, 2, none⟩ = some (.bool neg2) := cell_later hbw6 (by first | assumption | go_simp)
 have y3w6 : w6.cell? ⟨w2.heap.size, 3, none⟩ = some (.bool nn2) := cell_later hbw6 (by first | assumption | go_simp)
 have hBw6 : Hid (Below w.heap.size w w6) := thru (by first | exact hBw5.out | exact hBw5.out.drew) hbw6
 have hPw6 : Hid (IsNum w6 (.agg #[.slice a1 n1 c1, .int .i64 low1, .bool neg1, .bool nn1]) (some (fval a))) := (by first | exact hPw5.out.later hbw6 | exact (hPw5.out.later (Below.refl _ _).drew).later hbw6)
 have hQw6 : Hid (IsNum w6 (.agg #[.slice a2 n2 c2, .int .i64 low2, .bool neg2, .bool nn2]) (some (fval b))) := (by first | exact hQw5.out.later hbw6 | exact (hQw5.out.later (Below.refl _ _).drew).later hbw6)
 clear hbw6 hBw5 hPw5 hQw5 x0w5 x1w5 x2w5 x3w5 y0w5 y1w5 y2w5 y3w5
 go_wp2_with fail
 refine (add_any _ _ (some (fval a)) (some (fval b)) _ (by first | exact hPw6.out | exact hPw6.out.later (Below.refl _ _).drew) (by first | exact hQw6.out | exact hQw6.out.later (Below.refl _ _).drew) (HT.out.later (by first | exact hBw6.out | exact hBw6.out.drew))).mono ?_
 rintro e w7 ⟨v7, y7, rfl, hn7, hy7, hbw7⟩
 replace hy7 := op2_yes hy7 M1.out
 subst hy7
 have HN7 : Hid (IsNum w7 v7 (some (fval a + fval b))) := hn7
 clear hn7
 have x0w7 : w7.cell? ⟨w1.heap.size, 0, none⟩ = some (.slice a1 n1 c1) := cell_later hbw7 (by first | assumption | go_simp)
 have x1w7 : w7.cell? ⟨w1.heap.size, 1, none⟩ = some (.int .i64 low1) := cell_later hbw7 (by first | assumption | go_simp)
 have x2w7 : w7.cell? ⟨w1.heap.size, 2, none⟩ = some (.bool neg1) := cell_later hbw7 (by first | assumption | go_simp)
 have x3w7 : w7.cell? ⟨w1.heap.size, 3, none⟩ = some (.bool nn1) := cell_later hbw7 (by first | assumption | go_simp)
 have y0w7 : w7.cell? ⟨w2.heap.size, 0, none⟩ = some (.slice a2 n2 c2) := cell_later hbw7 (by first | assumption | go_simp)
 have y1w7 : w7.cell? ⟨w2.heap.size, 1, none⟩ = some (.int .i64 low2) := cell_later hbw7 (by first | assumption | go_simp)
 have y2w7 : w7.cell? ⟨w2.heap.size, 2, none⟩ = some (.bool neg2) := cell_later hbw7 (by first | assumption | go_simp)
 have y3w7 : w7.cell? ⟨w2.heap.size, 3, none⟩ = some (.bool nn2) := cell_later hbw7 (by first | assumption | go_simp)
 have hBw7 : Hid (Below w.heap.size w w7) := thru (by first | exact hBw6.out | exact hBw6.out.drew) hbw7
 have hPw7 : Hid (IsNum w7 (.agg #[.slice a1 n1 c1, .int .i64 low1, .bool neg1, .bool nn1]) (some (fval a))) := (by first | exact hPw6.out.later hbw7 | exact (hPw6.out.later (Below.refl _ _).drew).later hbw7)
 have hQw7 : Hid (IsNum w7 (.agg #[.slice a2 n2 c2, .int .i64 low2, .bool neg2, .bool nn2]) (some (fval b))) := (by first | exact hQw6.out.later hbw7 | exact (hQw6.out.later (Below.refl _ _).drew).later hbw7)
 clear hbw7 hBw6 hPw6 hQw6 x0w6 x1w6 x2w6 x3w6 y0w6 y1w6 y2w6 y3w6
 go_wp2_with fail
 refine (float_any _ (some (fval a + fval b)) _ HN7.out).mono ?_
 rintro e w8 ⟨⟨f8, rfl, hf8⟩, hbw8⟩
 have o8 : FloatKind.f64.format.order f8 s1 = some .eq := float_same hf8 K1.out
 clear hf8
 have x0w8 : w8.cell? ⟨w1.heap.size, 0, none⟩ = some (.slice a1 n1 c1) := cell_later hbw8 (by first | assumption | go_simp)
 have x1w8 : w8.cell? ⟨w1.heap.size, 1, none⟩ = some (.int .i64 low1) := cell_later hbw8 (by first | assumption | go_simp)
 have x2w8 : w8.cell? ⟨w1.heap.size, 2, none⟩ = some (.bool neg1) := cell_later hbw8 (by first | assumption | go_simp)
 have x3w8 : w8.cell? ⟨w1.heap.size, 3, none⟩ = some (.bool nn1) := cell_later hbw8 (by first | assumption | go_simp)
 have y0w8 : w8.cell? ⟨w2.heap.size, 0, none⟩ = some (.slice a2 n2 c2) := cell_later hbw8 (by first | assumption | go_simp)
 have y1w8 : w8.cell? ⟨w2.heap.size, 1, none⟩ = some (.int .i64 low2) := cell_later hbw8 (by first | assumption | go_simp)
 have y2w8 : w8.cell? ⟨w2.heap.size, 2, none⟩ = some (.bool neg2) := cell_later hbw8 (by first | assumption | go_simp)
 have y3w8 : w8.cell? ⟨w2.heap.size, 3, none⟩ = some (.bool nn2) := cell_later hbw8 (by first | assumption | go_simp)
 have hBw8 : Hid (Below w.heap.size w w8) := thru (by first | exact hBw7.out | exact hBw7.out.drew) hbw8
 have hPw8 : Hid (IsNum w8 (.agg #[.slice a1 n1 c1, .int .i64 low1, .bool neg1, .bool nn1]) (some (fval a))) := (by first | exact hPw7.out.later hbw8 | exact (hPw7.out.later (Below.refl _ _).drew).later hbw8)
 have hQw8 : Hid (IsNum w8 (.agg #[.slice a2 n2 c2, .int .i64 low2, .bool neg2, .bool nn2]) (some (fval b))) := (by first | exact hQw7.out.later hbw8 | exact (hQw7.out.later (Below.refl _ _).drew).later hbw8)
 clear hbw8 hBw7 hPw7 hQw7 x0w7 x1w7 x2w7 x3w7 y0w7 y1w7 y2w7 y3w7
 go_wp2_with fail
 refine (sub_any _ _ (some (fval a)) (some (fval b)) _ (by first | exact hPw8.out | exact hPw8.out.later (Below.refl _ _).drew) (by first | exact hQw8.out | exact hQw8.out.later (Below.refl _ _).drew) (HT.out.later (by first | exact hBw8.out | exact hBw8.out.drew))).mono ?_
 rintro e w9 ⟨v9, y9, rfl, hn9, hy9, hbw9⟩
 replace hy9 := op2_yes hy9 M2.out
 subst hy9
 have HN9 : Hid (IsNum w9 v9 (some (fval a - fval b))) := hn9
 clear hn9
 have x0w9 : w9.cell? ⟨w1.heap.size, 0, none⟩ = some (.slice a1 n1 c1) := cell_later hbw9 (by first | assumption | go_simp)
 have x1w9 : w9.cell? ⟨w1.heap.size, 1, none⟩ = some (.int .i64 low1) := cell_later hbw9 (by first | assumption | go_simp)
 have x2w9 : w9.cell? ⟨w1.heap.size, 2, none⟩ = some (.bool neg1) := cell_later hbw9 (by first | assumption | go_simp)
 have x3w9 : w9.cell? ⟨w1.heap.size, 3, none⟩ = some (.bool nn1) := cell_later hbw9 (by first | assumption | go_simp)
 have y0w9 : w9.cell? ⟨w2.heap.size, 0, none⟩ = some (.slice a2 n2 c2) := cell_later hbw9 (by first | assumption | go_simp)
 have y1w9 : w9.cell? ⟨w2.heap.size, 1, none⟩ = some (.int .i64 low2) := cell_later hbw9 (by first | assumption | go_simp)
 have y2w9 : w9.cell? ⟨w2.heap.size, 2, none⟩ = some (.bool neg2) := cell_later hbw9 (by first | assumption | go_simp)
 have y3w9 : w9.cell? ⟨w2.heap.size, 3, none⟩ = some (.bool nn2) := cell_later hbw9 (by first | assumption | go_simp)
 have hBw9 : Hid (Below w.heap.size w w9) := thru (by first | exact hBw8.out | exact hBw8.out.drew) hbw9
 have hPw9 : Hid (IsNum w9 (.agg #[.slice a1 n1 c1, .int .i64 low1, .bool neg1, .bool nn1]) (some (fval a))) := (by first | exact hPw8.out.later hbw9 | exact (hPw8.out.later (Below.refl _ _).drew).later hbw9)
 have hQw9 : Hid (IsNum w9 (.agg #[.slice a2 n2 c2, .int .i64 low2, .bool neg2, .bool nn2]) (some (fval b))) := (by first | exact hQw8.out.later hbw9 | exact (hQw8.out.later (Below.refl _ _).drew).later hbw9)
 clear hbw9 hBw8 hPw8 hQw8 x0w8 x1w8 x2w8 x3w8 y0w8 y1w8 y2w8 y3w8
 go_wp2_with fail
 refine (float_any _ (some (fval a - fval b)) _ HN9.out).mono ?_
 rintro e w10 ⟨⟨f10, rfl, hf10⟩, hbw10⟩
 have o10 : FloatKind.f64.format.order f10 s2 = some .eq := float_same hf10 K2.out
 clear hf10
 have x0w10 : w10.cell? ⟨w1.heap.size, 0, none⟩ = some (.slice a1 n1 c1) := cell_later hbw10 (by first | assumption | go_simp)
 have x1w10 : w10.cell? ⟨w1.heap.size, 1, none⟩ = some (.int .i64 low1) := cell_later hbw10 (by first | assumption | go_simp)
 have x2w10 : w10.cell? ⟨w1.heap.size, 2, none⟩ = some (.bool neg1) := cell_later hbw10 (by first | assumption | go_simp)
 have x3w10 : w10.cell? ⟨w1.heap.size, 3, none⟩ = some (.bool nn1) := cell_later hbw10 (by first | assumption | go_simp)
 have y0w10 : w10.cell? ⟨w2.heap.size, 0, none⟩ = some (.slice a2 n2 c2) := cell_later hbw10 (by first | assumption | go_simp)
 have y1w10 : w10.cell? ⟨w2.heap.size, 1, none⟩ = some (.int .i64 low2) := cell_later hbw10 (by first | assumption | go_simp)
 have y2w10 : w10.cell? ⟨w2.heap.size, 2, none⟩ = some (.bool neg2) := cell_later hbw10 (by first | assumption | go_simp)
 have y3w10 : w10.cell? ⟨w2.heap.size, 3, none⟩ = some (.bool nn2) := cell_later hbw10 (by first | assumption | go_simp)
 have hBw10 : Hid (Below w.heap.size w w10) := thru (by first | exact hBw9.out | exact hBw9.out.drew) hbw10
 have hPw10 : Hid (IsNum w10 (.agg #[.slice a1 n1 c1, .int .i64 low1, .bool neg1, .bool nn1]) (some (fval a))) := (by first | exact hPw9.out.later hbw10 | exact (hPw9.out.later (Below.refl _ _).drew).later hbw10)
 have hQw10 : Hid (IsNum w10 (.agg #[.slice a2 n2 c2, .int .i64 low2, .bool neg2, .bool nn2]) (some (fval b))) := (by first | exact hQw9.out.later hbw10 | exact (hQw9.out.later (Below.refl _ _).drew).later hbw10)
 clear hbw10 hBw9 hPw9 hQw9 x0w9 x1w9 x2w9 x3w9 y0w9 y1w9 y2w9 y3w9
 go_wp2_with fail
 refine (mul_any _ _ (some (fval a)) (some (fval b)) _ (by first | exact hPw10.out | exact hPw10.out.later (Below.refl _ _).drew) (by first | exact hQw10.out | exact hQw10.out.later (Below.refl _ _).drew) (HT.out.later (by first | exact hBw10.out | exact hBw10.out.drew))).mono ?_
 rintro e w11 ⟨v11, y11, rfl, hn11, hy11, hbw11⟩
 replace hy11 := op2_yes hy11 M3.out
 subst hy11
 have HN11 : Hid (IsNum w11 v11 (some (fval a * fval b))) := hn11
 clear hn11
 have x0w11 : w11.cell? ⟨w1.heap.size, 0, none⟩ = some (.slice a1 n1 c1) := cell_later hbw11 (by first | assumption | go_simp)
 have x1w11 : w11.cell? ⟨w1.heap.size, 1, none⟩ = some (.int .i64 low1) := cell_later hbw11 (by first | assumption | go_simp)
 have x2w11 : w11.cell? ⟨w1.heap.size, 2, none⟩ = some (.bool neg1) := cell_later hbw11 (by first | assumption | go_simp)
 have x3w11 : w11.cell? ⟨w1.heap.size, 3, none⟩ = some (.bool nn1) := cell_later hbw11 (by first | assumption | go_simp)
 have y0w11 : w11.cell? ⟨w2.heap.size, 0, none⟩ = some (.slice a2 n2 c2) := cell_later hbw11 (by first | assumption | go_simp)
 have y1w11 : w11.cell? ⟨w2.heap.size, 1, none⟩ = some (.int .i64 low2) := cell_later hbw11 (by first | assumption | go_simp)
 have y2w11 : w11.cell? ⟨w2.heap.size, 2, none⟩ = some (.bool neg2) := cell_later hbw11 (by first | assumption | go_simp)
 have y3w11 : w11.cell? ⟨w2.heap.size, 3, none⟩ = some (.bool nn2) := cell_later hbw11 (by first | assumption | go_simp)
 have hBw11 : Hid (Below w.heap.size w w11) := thru (by first | exact hBw10.out | exact hBw10.out.drew) hbw11
 have hPw11 : Hid (IsNum w11 (.agg #[.slice a1 n1 c1, .int .i64 low1, .bool neg1, .bool nn1]) (some (fval a))) := (by first | exact hPw10.out.later hbw11 | exact (hPw10.out.later (Below.refl _ _).drew).later hbw11)
 have hQw11 : Hid (IsNum w11 (.agg #[.slice a2 n2 c2, .int .i64 low2, .bool neg2, .bool nn2]) (some (fval b))) := (by first | exact hQw10.out.later hbw11 | exact (hQw10.out.later (Below.refl _ _).drew).later hbw11)
 clear hbw11 hBw10 hPw10 hQw10 x0w10 x1w10 x2w10 x3w10 y0w10 y1w10 y2w10 y3w10
 go_wp2_with fail
 refine (float_any _ (some (fval a * fval b)) _ HN11.out).mono ?_
 rintro e w12 ⟨⟨f12, rfl, hf12⟩, hbw12⟩
 have o12 : FloatKind.f64.format.order f12 s3 = some .eq := float_same hf12 K3.out
 clear hf12
 have x0w12 : w12.cell? ⟨w1.heap.size, 0, none⟩ = some (.slice a1 n1 c1) := cell_later hbw12 (by first | assumption | go_simp)
 have x1w12 : w12.cell? ⟨w1.heap.size, 1, none⟩ = some (.int .i64 low1) := cell_later hbw12 (by first | assumption | go_simp)
 have x2w12 : w12.cell? ⟨w1.heap.size, 2, none⟩ = some (.bool neg1) := cell_later hbw12 (by first | assumption | go_simp)
 have x3w12 : w12.cell? ⟨w1.heap.size, 3, none⟩ = some (.bool nn1) := cell_later hbw12 (by first | assumption | go_simp)
 have y0w12 : w12.cell? ⟨w2.heap.size, 0, none⟩ = some (.slice a2 n2 c2) := cell_later hbw12 (by first | assumption | go_simp)
 have y1w12 : w12.cell? ⟨w2.heap.size, 1, none⟩ = some (.int .i64 low2) := cell_later hbw12 (by first | assumption | go_simp)
 have y2w12 : w12.cell? ⟨w2.heap.size, 2, none⟩ = some (.bool neg2) := cell_later hbw12 (by first | assumption | go_simp)
 have y3w12 : w12.cell? ⟨w2.heap.size, 3, none⟩ = some (.bool nn2) := cell_later hbw12 (by first | assumption | go_simp)
 have hBw12 : Hid (Below w.heap.size w w12) := thru (by first | exact hBw11.out | exact hBw11.out.drew) hbw12
 have hPw12 : Hid (IsNum w12 (.agg #[.slice a1 n1 c1, .int .i64 low1, .bool neg1, .bool nn1]) (some (fval a))) := (by first | exact hPw11.out.later hbw12 | exact (hPw11.out.later (Below.refl _ _).drew).later hbw12)
 have hQw12 : Hid (IsNum w12 (.agg #[.slice a2 n2 c2, .int .i64 low2, .bool neg2, .bool nn2]) (some (fval b))) := (by first | exact hQw11.out.later hbw12 | exact (hQw11.out.later (Below.refl _ _).drew).later hbw12)
 clear hbw12 hBw11 hPw11 hQw11 x0w11 x1w11 x2w11 x3w11 y0w11 y1w11 y2w11 y3w11
 go_wp2_with fail
 refine (refOf_any a _ Ha.out).mono ?_
 rintro e w13 ⟨v13, rfl, hr13, hbw13⟩
 have HR13 : Hid (Rf w13 v13 (den a)) := hr13
 clear hr13
 have x0w13 : w13.cell? ⟨w1.heap.size, 0, none⟩ = some (.slice a1 n1 c1) := cell_later hbw13 (by first | assumption | go_simp)
 have x1w13 : w13.cell? ⟨w1.heap.size, 1, none⟩ = some (.int .i64 low1) := cell_later hbw13 (by first | assumption | go_simp)
 have x2w13 : w13.cell? ⟨w1.heap.size, 2, none⟩ = some (.bool neg1) := cell_later hbw13 (by first | assumption | go_simp)
 have x3w13 : w13.cell? ⟨w1.heap.size, 3, none⟩ = some (.bool nn1) := cell_later hbw13 (by first | assumption | go_simp)
 have y0w13 : w13.cell? ⟨w2.heap.size, 0, none⟩ = some (.slice a2 n2 c2) := cell_later hbw13 (by first | assumption | go_simp)
 have y1w13 : w13.cell? ⟨w2.heap.size, 1, none⟩ = some (.int .i64 low2) := cell_later hbw13 (by first | assumption | go_simp)
 have y2w13 : w13.cell? ⟨w2.heap.size, 2, none⟩ = some (.bool neg2) := cell_later hbw13 (by first | assumption | go_simp)
 have y3w13 : w13.cell? ⟨w2.heap.size, 3, none⟩ = some (.bool nn2) := cell_later hbw13 (by first | assumption | go_simp)
 have hBw13 : Hid (Below w.heap.size w w13) := thru (by first | exact hBw12.out | exact hBw12.out.drew) hbw13
 have hPw13 : Hid (IsNum w13 (.agg #[.slice a1 n1 c1, .int .i64 low1, .bool neg1, .bool nn1]) (some (fval a))) := (by first | exact hPw12.out.later hbw13 | exact (hPw12.out.later (Below.refl _ _).drew).later hbw13)
 have hQw13 : Hid (IsNum w13 (.agg #[.slice a2 n2 c2, .int .i64 low2, .bool neg2, .bool nn2]) (some (fval b))) := (by first | exact hQw12.out.later hbw13 | exact (hQw12.out.later (Below.refl _ _).drew).later hbw13)
 clear hbw13 hBw12 hPw12 hQw12 x0w12 x1w12 x2w12 x3w12 y0w12 y1w12 y2w12 y3w12
 go_wp2_with fail
 refine (refOf_any b _ Hb.out).mono ?_
 rintro e w14 ⟨v14, rfl, hr14, hbw14⟩
 have HS14 : Hid (Rf w14 v14 (den b)) := hr14
 have HR14 : Hid (Rf w14 v13 (den a)) := HR13.out.later hbw14
 clear hr14
 have x0w14 : w14.cell? ⟨w1.heap.size, 0, none⟩ = some (.slice a1 n1 c1) := cell_later hbw14 (by first | assumption | go_simp)
 have x1w14 : w14.cell? ⟨w1.heap.size, 1, none⟩ = some (.int .i64 low1) := cell_later hbw14 (by first | assumption | go_simp)
 have x2w14 : w14.cell? ⟨w1.heap.size, 2, none⟩ = some (.bool neg1) := cell_later hbw14 (by first | assumption | go_simp)
 have x3w14 : w14.cell? ⟨w1.heap.size, 3, none⟩ = some (.bool nn1) := cell_later hbw14 (by first | assumption | go_simp)
 have y0w14 : w14.cell? ⟨w2.heap.size, 0, none⟩ = some (.slice a2 n2 c2) := cell_later hbw14 (by first | assumption | go_simp)
 have y1w14 : w14.cell? ⟨w2.heap.size, 1, none⟩ = some (.int .i64 low2) := cell_later hbw14 (by first | assumption | go_simp)
 have y2w14 : w14.cell? ⟨w2.heap.size, 2, none⟩ = some (.bool neg2) := cell_later hbw14 (by first | assumption | go_simp)
 have y3w14 : w14.cell? ⟨w2.heap.size, 3, none⟩ = some (.bool nn2) := cell_later hbw14 (by first | assumption | go_simp)
 have hBw14 : Hid (Below w.heap.size w w14) := thru (by first | exact hBw13.out | exact hBw13.out.drew) hbw14
 have hPw14 : Hid (IsNum w14 (.agg #[.slice a1 n1 c1, .int .i64 low1, .bool neg1, .bool nn1]) (some (fval a))) := (by first | exact hPw13.out.later hbw14 | exact (hPw13.out.later (Below.refl _ _).drew).later hbw14)
 have hQw14 : Hid (IsNum w14 (.agg #[.slice a2 n2 c2, .int .i64 low2, .bool neg2, .bool nn2]) (some (fval b))) := (by first | exact hQw13.out.later hbw14 | exact (hQw13.out.later (Below.refl _ _).drew).later hbw14)
 clear hbw14 hBw13 hPw13 hQw13 x0w13 x1w13 x2w13 x3w13 y0w13 y1w13 y2w13 y3w13
 go_wp2_with fail
 refine (refAdd_any _ _ (den a) (den b) _ HR14.out HS14.out (den_Fit _) (den_Fit _)).mono ?_
 rintro e w15 ⟨v15, rfl, hr15, hbw15⟩
 have HU15 : Hid (Rf w15 v15 (den a + den b)) := hr15
 clear hr15
 have x0w15 : w15.cell? ⟨w1.heap.size, 0, none⟩ = some (.slice a1 n1 c1) := cell_later hbw15 (by first | assumption | go_simp)
 have x1w15 : w15.cell? ⟨w1.heap.size, 1, none⟩ = some (.int .i64 low1) := cell_later hbw15 (by first | assumption | go_simp)
 have x2w15 : w15.cell? ⟨w1.heap.size, 2, none⟩ = some (.bool neg1) := cell_later hbw15 (by first | assumption | go_simp)
 have x3w15 : w15.cell? ⟨w1.heap.size, 3, none⟩ = some (.bool nn1) := cell_later hbw15 (by first | assumption | go_simp)
 have y0w15 : w15.cell? ⟨w2.heap.size, 0, none⟩ = some (.slice a2 n2 c2) := cell_later hbw15 (by first | assumption | go_simp)
 have y1w15 : w15.cell? ⟨w2.heap.size, 1, none⟩ = some (.int .i64 low2) := cell_later hbw15 (by first | assumption | go_simp)
 have y2w15 : w15.cell? ⟨w2.heap.size, 2, none⟩ = some (.bool neg2) := cell_later hbw15 (by first | assumption | go_simp)
 have y3w15 : w15.cell? ⟨w2.heap.size, 3, none⟩ = some (.bool nn2) := cell_later hbw15 (by first | assumption | go_simp)
 have hBw15 : Hid (Below w.heap.size w w15) := thru (by first | exact hBw14.out | exact hBw14.out.drew) hbw15
 have hPw15 : Hid (IsNum w15 (.agg #[.slice a1 n1 c1, .int .i64 low1, .bool neg1, .bool nn1]) (some (fval a))) := (by first | exact hPw14.out.later hbw15 | exact (hPw14.out.later (Below.refl _ _).drew).later hbw15)
 have hQw15 : Hid (IsNum w15 (.agg #[.slice a2 n2 c2, .int .i64 low2, .bool neg2, .bool nn2]) (some (fval b))) := (by first | exact hQw14.out.later hbw15 | exact (hQw14.out.later (Below.refl _ _).drew).later hbw15)
 clear hbw15 hBw14 hPw14 hQw14 x0w14 x1w14 x2w14 x3w14 y0w14 y1w14 y2w14 y3w14
 go_wp2_with fail
 refine (rounds_full _ (den a + den b) s1 _ HU15.out (((den_fit a).add (den_fit b)).mono (by omega) (by omega)) (by rw [DA.out, DB.out]; exact K1.out)).mono ?_
 rintro e w16 ⟨rfl, hbw16⟩
 have x0w16 : w16.cell? ⟨w1.heap.size, 0, none⟩ = some (.slice a1 n1 c1) := cell_later hbw16 (by first | assumption | go_simp)
 have x1w16 : w16.cell? ⟨w1.heap.size, 1, none⟩ = some (.int .i64 low1) := cell_later hbw16 (by first | assumption | go_simp)
 have x2w16 : w16.cell? ⟨w1.heap.size, 2, none⟩ = some (.bool neg1) := cell_later hbw16 (by first | assumption | go_simp)
 have x3w16 : w16.cell? ⟨w1.heap.size, 3, none⟩ = some (.bool nn1) := cell_later hbw16 (by first | assumption | go_simp)
 have y0w16 : w16.cell? ⟨w2.heap.size, 0, none⟩ = some (.slice a2 n2 c2) := cell_later hbw16 (by first | assumption | go_simp)
 have y1w16 : w16.cell? ⟨w2.heap.size, 1, none⟩ = some (.int .i64 low2) := cell_later hbw16 (by first | assumption | go_simp)
 have y2w16 : w16.cell? ⟨w2.heap.size, 2, none⟩ = some (.bool neg2) := cell_later hbw16 (by first | assumption | go_simp)
 have y3w16 : w16.cell? ⟨w2.heap.size, 3, none⟩ = some (.bool nn2) := cell_later hbw16 (by first | assumption | go_simp)
 have hBw16 : Hid (Below w.heap.size w w16) := thru (by first | exact hBw15.out | exact hBw15.out.drew) hbw16
 have hPw16 : Hid (IsNum w16 (.agg #[.slice a1 n1 c1, .int .i64 low1, .bool neg1, .bool nn1]) (some (fval a))) := (by first | exact hPw15.out.later hbw16 | exact (hPw15.out.later (Below.refl _ _).drew).later hbw16)
 have hQw16 : Hid (IsNum w16 (.agg #[.slice a2 n2 c2, .int .i64 low2, .bool neg2, .bool nn2]) (some (fval b))) := (by first | exact hQw15.out.later hbw16 | exact (hQw15.out.later (Below.refl _ _).drew).later hbw16)
 clear hbw16 hBw15 hPw15 hQw15 x0w15 x1w15 x2w15 x3w15 y0w15 y1w15 y2w15 y3w15
 go_wp2_with fail
 refine (refOf_any a _ Ha.out).mono ?_
 rintro e w17 ⟨v17, rfl, hr17, hbw17⟩
 have HR17 : Hid (Rf w17 v17 (den a)) := hr17
 clear hr17
 have x0w17 : w17.cell? ⟨w1.heap.size, 0, none⟩ = some (.slice a1 n1 c1) := cell_later hbw17 (by first | assumption | go_simp)
 have x1w17 : w17.cell? ⟨w1.heap.size, 1, none⟩ = some (.int .i64 low1) := cell_later hbw17 (by first | assumption | go_simp)
 have x2w17 : w17.cell? ⟨w1.heap.size, 2, none⟩ = some (.bool neg1) := cell_later hbw17 (by first | assumption | go_simp)
 have x3w17 : w17.cell? ⟨w1.heap.size, 3, none⟩ = some (.bool nn1) := cell_later hbw17 (by first | assumption | go_simp)
 have y0w17 : w17.cell? ⟨w2.heap.size, 0, none⟩ = some (.slice a2 n2 c2) := cell_later hbw17 (by first | assumption | go_simp)
 have y1w17 : w17.cell? ⟨w2.heap.size, 1, none⟩ = some (.int .i64 low2) := cell_later hbw17 (by first | assumption | go_simp)
 have y2w17 : w17.cell? ⟨w2.heap.size, 2, none⟩ = some (.bool neg2) := cell_later hbw17 (by first | assumption | go_simp)
 have y3w17 : w17.cell? ⟨w2.heap.size, 3, none⟩ = some (.bool nn2) := cell_later hbw17 (by first | assumption | go_simp)
 have hBw17 : Hid (Below w.heap.size w w17) := thru (by first | exact hBw16.out | exact hBw16.out.drew) hbw17
 have hPw17 : Hid (IsNum w17 (.agg #[.slice a1 n1 c1, .int .i64 low1, .bool neg1, .bool nn1]) (some (fval a))) := (by first | exact hPw16.out.later hbw17 | exact (hPw16.out.later (Below.refl _ _).drew).later hbw17)
 have hQw17 : Hid (IsNum w17 (.agg #[.slice a2 n2 c2, .int .i64 low2, .bool neg2, .bool nn2]) (some (fval b))) := (by first | exact hQw16.out.later hbw17 | exact (hQw16.out.later (Below.refl _ _).drew).later hbw17)
 clear hbw17 hBw16 hPw16 hQw16 x0w16 x1w16 x2w16 x3w16 y0w16 y1w16 y2w16 y3w16
 go_wp2_with fail
 refine (refOf_any b _ Hb.out).mono ?_
 rintro e w18 ⟨v18, rfl, hr18, hbw18⟩
 have HS18 : Hid (Rf w18 v18 (den b)) := hr18
 have HR18 : Hid (Rf w18 v17 (den a)) := HR17.out.later hbw18
 clear hr18
 have x0w18 : w18.cell? ⟨w1.heap.size, 0, none⟩ = some (.slice a1 n1 c1) := cell_later hbw18 (by first | assumption | go_simp)
 have x1w18 : w18.cell? ⟨w1.heap.size, 1, none⟩ = some (.int .i64 low1) := cell_later hbw18 (by first | assumption | go_simp)
 have x2w18 : w18.cell? ⟨w1.heap.size, 2, none⟩ = some (.bool neg1) := cell_later hbw18 (by first | assumption | go_simp)
 have x3w18 : w18.cell? ⟨w1.heap.size, 3, none⟩ = some (.bool nn1) := cell_later hbw18 (by first | assumption | go_simp)
 have y0w18 : w18.cell? ⟨w2.heap.size, 0, none⟩ = some (.slice a2 n2 c2) := cell_later hbw18 (by first | assumption | go_simp)
 have y1w18 : w18.cell? ⟨w2.heap.size, 1, none⟩ = some (.int .i64 low2) := cell_later hbw18 (by first | assumption | go_simp)
 have y2w18 : w18.cell? ⟨w2.heap.size, 2, none⟩ = some (.bool neg2) := cell_later hbw18 (by first | assumption | go_simp)
 have y3w18 : w18.cell? ⟨w2.heap.size, 3, none⟩ = some (.bool nn2) := cell_later hbw18 (by first | assumption | go_simp)
 have hBw18 : Hid (Below w.heap.size w w18) := thru (by first | exact hBw17.out | exact hBw17.out.drew) hbw18
 have hPw18 : Hid (IsNum w18 (.agg #[.slice a1 n1 c1, .int .i64 low1, .bool neg1, .bool nn1]) (some (fval a))) := (by first | exact hPw17.out.later hbw18 | exact (hPw17.out.later (Below.refl _ _).drew).later hbw18)
 have hQw18 : Hid (IsNum w18 (.agg #[.slice a2 n2 c2, .int .i64 low2, .bool neg2, .bool nn2]) (some (fval b))) := (by first | exact hQw17.out.later hbw18 | exact (hQw17.out.later (Below.refl _ _).drew).later hbw18)
 clear hbw18 hBw17 hPw17 hQw17 x0w17 x1w17 x2w17 x3w17 y0w17 y1w17 y2w17 y3w17
 go_wp2_with fail
 refine (mul_rf _ _ (den a) (den b) _ HR18.out HS18.out (den_Fit _) (den_Fit _)).mono ?_
 rintro e w19 ⟨v19, rfl, hr19, hbw19⟩
 have HU19 : Hid (Rf w19 v19 (den a * den b)) := hr19
 clear hr19
 have x0w19 : w19.cell? ⟨w1.heap.size, 0, none⟩ = some (.slice a1 n1 c1) := cell_later hbw19 (by first | assumption | go_simp)
 have x1w19 : w19.cell? ⟨w1.heap.size, 1, none⟩ = some (.int .i64 low1) := cell_later hbw19 (by first | assumption | go_simp)
 have x2w19 : w19.cell? ⟨w1.heap.size, 2, none⟩ = some (.bool neg1) := cell_later hbw19 (by first | assumption | go_simp)
 have x3w19 : w19.cell? ⟨w1.heap.size, 3, none⟩ = some (.bool nn1) := cell_later hbw19 (by first | assumption | go_simp)
 have y0w19 : w19.cell? ⟨w2.heap.size, 0, none⟩ = some (.slice a2 n2 c2) := cell_later hbw19 (by first | assumption | go_simp)
 have y1w19 : w19.cell? ⟨w2.heap.size, 1, none⟩ = some (.int .i64 low2) := cell_later hbw19 (by first | assumption | go_simp)
 have y2w19 : w19.cell? ⟨w2.heap.size, 2, none⟩ = some (.bool neg2) := cell_later hbw19 (by first | assumption | go_simp)
 have y3w19 : w19.cell? ⟨w2.heap.size, 3, none⟩ = some (.bool nn2) := cell_later hbw19 (by first | assumption | go_simp)
 have hBw19 : Hid (Below w.heap.size w w19) := thru (by first | exact hBw18.out | exact hBw18.out.drew) hbw19
 have hPw19 : Hid (IsNum w19 (.agg #[.slice a1 n1 c1, .int .i64 low1, .bool neg1, .bool nn1]) (some (fval a))) := (by first | exact hPw18.out.later hbw19 | exact (hPw18.out.later (Below.refl _ _).drew).later hbw19)
 have hQw19 : Hid (IsNum w19 (.agg #[.slice a2 n2 c2, .int .i64 low2, .bool neg2, .bool nn2]) (some (fval b))) := (by first | exact hQw18.out.later hbw19 | exact (hQw18.out.later (Below.refl _ _).drew).later hbw19)
 clear hbw19 hBw18 hPw18 hQw18 x0w18 x1w18 x2w18 x3w18 y0w18 y1w18 y2w18 y3w18
 go_wp2_with fail
 refine (rounds_full _ (den a * den b) s3 _ HU19.out (((den_fit a).mul (den_fit b)).mono (by omega) (by omega)) (by rw [DA.out, DB.out]; exact K3.out)).mono ?_
 rintro e w20 ⟨rfl, hbw20⟩
 have x0w20 : w20.cell? ⟨w1.heap.size, 0, none⟩ = some (.slice a1 n1 c1) := cell_later hbw20 (by first | assumption | go_simp)
 have x1w20 : w20.cell? ⟨w1.heap.size, 1, none⟩ = some (.int .i64 low1) := cell_later hbw20 (by first | assumption | go_simp)
 have x2w20 : w20.cell? ⟨w1.heap.size, 2, none⟩ = some (.bool neg1) := cell_later hbw20 (by first | assumption | go_simp)
 have x3w20 : w20.cell? ⟨w1.heap.size, 3, none⟩ = some (.bool nn1) := cell_later hbw20 (by first | assumption | go_simp)
 have y0w20 : w20.cell? ⟨w2.heap.size, 0, none⟩ = some (.slice a2 n2 c2) := cell_later hbw20 (by first | assumption | go_simp)
 have y1w20 : w20.cell? ⟨w2.heap.size, 1, none⟩ = some (.int .i64 low2) := cell_later hbw20 (by first | assumption | go_simp)
 have y2w20 : w20.cell? ⟨w2.heap.size, 2, none⟩ = some (.bool neg2) := cell_later hbw20 (by first | assumption | go_simp)
 have y3w20 : w20.cell? ⟨w2.heap.size, 3, none⟩ = some (.bool nn2) := cell_later hbw20 (by first | assumption | go_simp)
 have hBw20 : Hid (Below w.heap.size w w20) := thru (by first | exact hBw19.out | exact hBw19.out.drew) hbw20
 have hPw20 : Hid (IsNum w20 (.agg #[.slice a1 n1 c1, .int .i64 low1, .bool neg1, .bool nn1]) (some (fval a))) := (by first | exact hPw19.out.later hbw20 | exact (hPw19.out.later (Below.refl _ _).drew).later hbw20)
 have hQw20 : Hid (IsNum w20 (.agg #[.slice a2 n2 c2, .int .i64 low2, .bool neg2, .bool nn2]) (some (fval b))) := (by first | exact hQw19.out.later hbw20 | exact (hQw19.out.later (Below.refl _ _).drew).later hbw20)
 clear hbw20 hBw19 hPw19 hQw19 x0w19 x1w19 x2w19 x3w19 y0w19 y1w19 y2w19 y3w19
 go_wp2
 go_ret
 exact ⟨rfl, hBw20.out⟩
end Go.Proofs.YtejhinjanjlplaaDoor
