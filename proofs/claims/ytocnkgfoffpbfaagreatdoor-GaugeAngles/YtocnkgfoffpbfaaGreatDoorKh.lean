import Derived.Test.YtocnkgfoffpbfaaGreatDoorQ35
import Derived.Test.YtocnkgfoffpbfaaGreatDoorQ37
/- The document's side of layer 6: Area. -/
namespace Go.Proofs.YtocnkgfoffpbfaaGreatDoor
open Go.RowKit Go.Shelf
attribute [local go_sem] run_store_float
set_option maxRecDepth 100000 in
set_option maxHeartbeats 2000000 in
theorem int2_ref (w : World) : Calls Tryz.prog 50 #[.int .i64 2] w fun e w' => RfR w w' 2 e := by
 have HAL : Hid (Below w.heap.size w (w.alloc (.cells #[.int .i64 0, .slice none 0 0, .int .i64 0] 58))) := (Below.refl _ w).alloc (Nat.le_refl _) _
 go_enter Tryz.func50, Tryz.ntmps50
 go_wp2_with fail
 refine (power_walk 2 0 _ (by omega) (by omega) (by omega)).mono ?_
 rintro e w3 ⟨v3, rfl, hr3, hb3⟩
 obtain ⟨S3, a3, n3, c3, E3, rfl⟩ := hr3.agg
 have R3 : Hid (Rf w3 (.agg #[.int .i64 S3, .slice a3 n3 c3, .int .i64 E3]) 2) := by
   have e : ((2 : Nat) : Rat) * p2 0 = 2 := by decide +kernel
   rw [← e]; exact hr3
 have HB3 : Hid (Below w.heap.size w w3) := below_step HAL.out hb3
 have X3 : Hid (BoxN w3 w.heap.size 0 (.slice none 0 0) 0) := (BoxN.new w 0 0 _).later hb3
 clear hr3 hb3
 obtain ⟨t0, t1, t2, tf, _⟩ := X3.out.cells
 have tf0 := tf 0
 have tf1 := tf 1
 have tf2 := tf 2
 clear tf
 go_wp2
 have Y := (X3.out.set3 (S' := S3) (sv' := .slice a3 n3 c3) (E' := E3)).cells
 refine bodyPost_ret (v := .agg #[.int .i64 S3, .slice a3 n3 c3, .int .i64 E3]) (by simp [results, Tryz.results50, go_sem, Y.1, Y.2.1, Y.2.2.1]) rfl ?_
 refine ⟨_, rfl, R3.out.boxed (other_box X3.out) _ _ _, ?_⟩
 exact ((HB3.out.setCell (Nat.le_refl _) _).setCell (Nat.le_refl _) _).setCell (Nat.le_refl _) _
theorem fit_two : Fit 2 := Bd.mono (h := 2) (l := 0) ⟨by decide +kernel, by decide +kernel, 2, by decide +kernel⟩ (by omega) (by omega)
theorem tw_S3 (ax ay bx by' cx cy : Nat) : tw ax ay bx by' cx cy = S3 ax ay bx by' cx cy := by unfold tw S3; grind
theorem S3_bd {ax ay bx by' cx cy : Nat} (h : P3 ax ay bx by' cx cy) : Bd 2052 (-2148) (S3 ax ay bx by' cx cy) := by
 obtain ⟨⟨h1, h2⟩, ⟨h3, h4⟩, h5, h6⟩ := h
 exact ((((fval_bd2 (crd_fin h3.1)).sub (fval_bd2 (crd_fin h1.1))).mul ((fval_bd2 (crd_fin h6.1)).sub (fval_bd2 (crd_fin h2.1)))).sub (((fval_bd2 (crd_fin h4.1)).sub (fval_bd2 (crd_fin h2.1))).mul ((fval_bd2 (crd_fin h5.1)).sub (fval_bd2 (crd_fin h1.1))))).mono (by omega) (by omega)
set_option maxRecDepth 100000 in
set_option maxHeartbeats 4000000 in
theorem area6_ref (ax ay bx by' cx cy g : Nat) (w : World) (z : Int) (hz : garea ax ay bx by' cx cy g = z) (hw : W6 ax ay bx by' cx cy) (hg : g < 18446744073709551616) :
   Calls Tryz.prog 15 #[pv ax ay, pv bx by', pv cx cy, .float .f64 g] w fun e w' => e = .returned (.int .i64 z) ∧ Below w.heap.size w w' := by
 have HW : Hid (W6 ax ay bx by' cx cy) := hw
 have HG : Hid (g < 18446744073709551616) := hg
 have HZ : Hid (garea ax ay bx by' cx cy g = z) := hz
 clear hz
 clear hw hg
 have HB0 : Hid (Below w.heap.size w ((((w.alloc (.cells #[.float .f64 ax, .float .f64 ay] 24)).alloc (.cells #[.float .f64 bx, .float .f64 by'] 24)).alloc (.cells #[.float .f64 cx, .float .f64 cy] 24)).alloc (.cells #[.float .f64 ax, .float .f64 ay, .float .f64 bx, .float .f64 by', .float .f64 cx, .float .f64 cy] 24))) := (((((Below.refl _ w).alloc (Nat.le_refl _) _).alloc (by simp) _).alloc (by simp; omega) _).alloc (by simp; omega) _)
 go_enter Tryz.func15, Tryz.ntmps15
 go_wp2_with fail
 refine (may3_ref ax ay bx by' cx cy _ _ _ ⟨HW.out.1.1, HW.out.1.2, HW.out.2.1.1, HW.out.2.1.2, HW.out.2.2⟩ ⟨by go_simp, by go_simp, by go_simp, by go_simp, by go_simp, by go_simp⟩).mono ?_
 rintro e w1 ⟨⟨t, rfl, ht⟩, hb1⟩
 have u0 : w1.cell? ⟨w.heap.size, 0, none⟩ = some (.float .f64 ax) := box_cell hb1 (by go_simp)
 have u1 : w1.cell? ⟨w.heap.size, 1, none⟩ = some (.float .f64 ay) := box_cell hb1 (by go_simp)
 have u2 : w1.cell? ⟨w.heap.size + 1, 0, none⟩ = some (.float .f64 bx) := box_cell hb1 (by go_simp)
 have u3 : w1.cell? ⟨w.heap.size + 1, 1, none⟩ = some (.float .f64 by') := box_cell hb1 (by go_simp)
 have u4 : w1.cell? ⟨w.heap.size + 1 + 1, 0, none⟩ = some (.float .f64 cx) := box_cell hb1 (by go_simp)
 have u5 : w1.cell? ⟨w.heap.size + 1 + 1, 1, none⟩ = some (.float .f64 cy) := box_cell hb1 (by go_simp)
 have HB1 : Hid (Below w.heap.size w w1) := below_step HB0.out hb1
 have HT : Hid (t = true ↔ P3 ax ay bx by' cx cy) := ht
 clear ht hb1 HB0
 cases t
 · have hz0 : z = 0 := by
     rw [← HZ.out]
     exact garea_no (fun h => by have := HT.out.2 h.1; simp at this)
   subst hz0
   go_wp2
   go_ret
   exact ⟨rfl, HB1.out⟩
 · have HP : Hid (P3 ax ay bx by' cx cy) := HT.out.1 (by simp)
   clear HT
   rcases Nat.lt_trichotomy (frung g) 9218868437227405312 with hf | hf | hf
   · have HF : Hid (Fin64 g) := hf
     obtain ⟨n, s1, s2⟩ := self_sub HF.out
     have o1 : FloatKind.f64.format.order g g = some .eq := by rw [order_val HF.out HF.out, if_neg (by grind), if_pos rfl]
     have rs : ∀ w, (binOp .sub 22 (.float .f64 g) (.float .f64 g)).run Tryz.prog w = .ok (.float .f64 n) w := fun w => run_float_arith w .sub _ .f64 _ _ _ s1
     clear hf s1
     have HZ2 : Hid (sgq ((if S3 ax ay bx by' cx cy < 0 then -S3 ax ay bx by' cx cy else S3 ax ay bx by' cx cy) - 2 * fval g) = z) := by
       have h := garea_yes ⟨HP.out, HF.out⟩
       rw [HZ.out, tw_S3] at h
       exact h.symm
     have HFT : Hid (Fit ((if S3 ax ay bx by' cx cy < 0 then -S3 ax ay bx by' cx cy else S3 ax ay bx by' cx cy)) ∧ Fit (fval g) ∧ Fit (2 * fval g)) := by
       refine ⟨?_, fval_fit g HF.out, ?_⟩
       · split
         · exact (S3_bd HP.out).neg.mono (by omega) (by omega)
         · exact (S3_bd HP.out).mono (by omega) (by omega)
       · have := (fval_bd2 HF.out).add (fval_bd2 HF.out)
         have e : fval g + fval g = 2 * fval g := by grind
         rw [e] at this
         exact this.mono (by omega) (by omega)
     clear HZ
     go_wp2_with fail
     refine (sum3_rf ax ay bx by' cx cy _ HW.out HP.out).mono ?_
     rintro e w2 ⟨v1, rfl, r1, hb2⟩
     obtain ⟨S1, a1, n1, c1, E1, rfl⟩ := r1.agg
     have HB2 : Hid (Below w.heap.size w w2) := below_step HB1.out hb2
     clear hb2 HB1
     go_wp2_with fail
     refine (abs_rf _ _ _ r1).mono ?_
     rintro e w3 ⟨v2, rfl, r2, hb3⟩
     obtain ⟨S2, a2, n2, c2, E2, rfl⟩ := r2.agg
     have HB3 : Hid (Below w.heap.size w w3) := below_step HB2.out hb3
     clear hb3 HB2
     go_wp2_with fail
     refine (int2_ref _).mono ?_
     rintro e w4 ⟨v3, rfl, r3, hb4⟩
     obtain ⟨S3, a3, n3, c3, E3, rfl⟩ := r3.agg
     replace r2 := r2.later hb4
     have HB4 : Hid (Below w.heap.size w w4) := below_step HB3.out hb4
     clear hb4 HB3
     go_wp2_with fail
     refine (refOf_any g _ HG.out).mono ?_
     rintro e w5 ⟨v4, rfl, r4, hb5⟩
     obtain ⟨S4, a4, n4, c4, E4, rfl⟩ := r4.agg
     replace r2 := r2.later hb5
     replace r3 := r3.later hb5
     have HB5 : Hid (Below w.heap.size w w5) := below_step HB4.out hb5
     clear hb5 HB4
     rw [den_fin HF.out] at r4
     go_wp2_with fail
     refine (mul_rf _ _ 2 (fval g) _ r3 r4 fit_two HFT.out.2.1).mono ?_
     rintro e w6 ⟨v5, rfl, r5, hb6⟩
     obtain ⟨S5, a5, n5, c5, E5, rfl⟩ := r5.agg
     replace r2 := r2.later hb6
     have HB6 : Hid (Below w.heap.size w w6) := below_step HB5.out hb6
     clear hb6 HB5
     go_wp2_with fail
     have hc := cmp_rf _ _ _ _ _ r2 r5 HFT.out.1 HFT.out.2.2
     rw [HZ2.out] at hc
     refine hc.mono ?_
     rintro e w7 ⟨rfl, hb7⟩
     have HB7 : Hid (Below w.heap.size w w7) := below_step HB6.out hb7
     clear hb7 HB6 hc r1 r2 r3 r4 r5
     go_wp2
     go_ret
     exact ⟨rfl, HB7.out⟩
   · have hz0 : z = 0 := by
       rw [← HZ.out]
       exact garea_no (fun h => by have := h.2; unfold Fin64 at this; omega)
     subst hz0
     have o1 : FloatKind.f64.format.order g g = some .eq := by
       have hb2 : g = 9218868437227405312 ∨ g = 18442240474082181120 := by have := HG.out; unfold frung at hf; omega
       rcases hb2 with rfl | rfl <;> decide +kernel
     have s1 : floatBits .sub .f64 g g = none := by
       have hb2 : g = 9218868437227405312 ∨ g = 18442240474082181120 := by have := HG.out; unfold frung at hf; omega
       rcases hb2 with rfl | rfl <;> decide +kernel
     have rs := run_sub_nan g g s1
     have h3 : ∀ w, FloatKind.f64.format.order (nanW g g w) 0 = none := fun w => nan_order (nanW_nan g g w).1 0
     clear hf s1
     go_wp2
     go_ret
     exact ⟨rfl, HB1.out.drew⟩
   · have hz0 : z = 0 := by
       rw [← HZ.out]
       exact garea_no (fun h => by have := h.2; unfold Fin64 at this; omega)
     subst hz0
     have o1 : FloatKind.f64.format.order g g = none := order_nan_left hf
     clear hf
     go_wp2
     go_ret
     exact ⟨rfl, HB1.out⟩
end Go.Proofs.YtocnkgfoffpbfaaGreatDoor
