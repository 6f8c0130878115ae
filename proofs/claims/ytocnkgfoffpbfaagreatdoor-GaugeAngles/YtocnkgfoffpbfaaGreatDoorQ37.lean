/- Own texts, put together: Kf. -/
import Derived.Test.YtocnkgfoffpbfaaGreatDoorQ4
import Derived.Test.YtocnkgfoffpbfaaGreatDoorQ24
import Derived.Test.YtocnkgfoffpbfaaGreatDoorQ26
import Derived.Test.YtocnkgfoffpbfaaGreatDoorQ32
import Derived.Test.YtocnkgfoffpbfaaGreatDoorQ34
/- The document's side of layer 6: Cmp and Dot. -/
namespace Go.Proofs.YtocnkgfoffpbfaaGreatDoor
open Go.RowKit Go.Shelf
attribute [local go_sem] run_store_float
theorem sum2_fit {x y z v x' y' z' v' : Nat} (h : (Fin64 x ∧ Fin64 y) ∧ Fin64 z ∧ Fin64 v) (h' : (Fin64 x' ∧ Fin64 y') ∧ Fin64 z' ∧ Fin64 v') : Fit ((fval x - fval y) * (fval z - fval v) + (fval x' - fval y') * (fval z' - fval v')) :=
 ((((fval_bd2 h.1.1).sub (fval_bd2 h.1.2)).mul ((fval_bd2 h.2.1).sub (fval_bd2 h.2.2))).add (((fval_bd2 h'.1.1).sub (fval_bd2 h'.1.2)).mul ((fval_bd2 h'.2.1).sub (fval_bd2 h'.2.2)))).mono (by omega) (by omega)
set_option maxRecDepth 100000 in
set_option maxHeartbeats 4000000 in
theorem cmp6_ref (ax ay bx by' cx cy dx dy : Nat) (w : World) (z : Int) (hw : W8 ax ay bx by' cx cy dx dy) (hz : gcmp ax ay bx by' cx cy dx dy = z) :
   Calls Tryz.prog 10 #[pv ax ay, pv bx by', pv cx cy, pv dx dy] w fun e w' => e = .returned (.int .i64 z) ∧ Below w.heap.size w w' := by
 have HW : Hid (W8 ax ay bx by' cx cy dx dy) := hw
 have HZ : Hid (gcmp ax ay bx by' cx cy dx dy = z) := hz
 clear hw hz
 have HB0 : Hid (Below w.heap.size w (((((w.alloc (.cells #[.float .f64 ax, .float .f64 ay] 24)).alloc (.cells #[.float .f64 bx, .float .f64 by'] 24)).alloc (.cells #[.float .f64 cx, .float .f64 cy] 24)).alloc (.cells #[.float .f64 dx, .float .f64 dy] 24)).alloc (.cells #[.float .f64 ax, .float .f64 ay, .float .f64 bx, .float .f64 by', .float .f64 cx, .float .f64 cy, .float .f64 dx, .float .f64 dy] 24))) := ((((((Below.refl _ w).alloc (Nat.le_refl _) _).alloc (by simp) _).alloc (by simp; omega) _).alloc (by simp; omega) _).alloc (by simp; omega) _)
 go_enter Tryz.func10, Tryz.ntmps10
 go_wp2_with fail
 refine (may4_ref ax ay bx by' cx cy dx dy _ _ _ ⟨HW.out.1.1.1, HW.out.1.1.2, HW.out.1.2.1.1, HW.out.1.2.1.2, HW.out.1.2.2.1, HW.out.1.2.2.2, HW.out.2⟩ ⟨by go_simp, by go_simp, by go_simp, by go_simp, by go_simp, by go_simp, by go_simp, by go_simp⟩).mono ?_
 rintro e w1 ⟨⟨t, rfl, ht⟩, hb1⟩
 have u0 : w1.cell? ⟨w.heap.size, 0, none⟩ = some (.float .f64 ax) := box_cell hb1 (by go_simp)
 have u1 : w1.cell? ⟨w.heap.size, 1, none⟩ = some (.float .f64 ay) := box_cell hb1 (by go_simp)
 have u2 : w1.cell? ⟨w.heap.size + 1, 0, none⟩ = some (.float .f64 bx) := box_cell hb1 (by go_simp)
 have u3 : w1.cell? ⟨w.heap.size + 1, 1, none⟩ = some (.float .f64 by') := box_cell hb1 (by go_simp)
 have u4 : w1.cell? ⟨w.heap.size + 1 + 1, 0, none⟩ = some (.float .f64 cx) := box_cell hb1 (by go_simp)
 have u5 : w1.cell? ⟨w.heap.size + 1 + 1, 1, none⟩ = some (.float .f64 cy) := box_cell hb1 (by go_simp)
 have u6 : w1.cell? ⟨w.heap.size + 1 + 1 + 1, 0, none⟩ = some (.float .f64 dx) := box_cell hb1 (by go_simp)
 have u7 : w1.cell? ⟨w.heap.size + 1 + 1 + 1, 1, none⟩ = some (.float .f64 dy) := box_cell hb1 (by go_simp)
 have HB1 : Hid (Below w.heap.size w w1) := below_step HB0.out hb1
 have HT : Hid (t = true ↔ Pt ax ay ∧ Pt bx by' ∧ Pt cx cy ∧ Pt dx dy) := ht
 clear ht hb1 HB0
 cases t
 · have hz0 : z = 0 := by
     rw [← HZ.out]
     exact gcmp_no (fun h => by have := HT.out.2 ⟨h.1.1, h.1.2.1, h.1.2.2, h.2⟩; simp at this)
   subst hz0
   go_wp2
   go_ret
   exact ⟨rfl, HB1.out⟩
 · have HP : Hid (P4 ax ay bx by' cx cy dx dy) := by
     have h := HT.out.1 (by simp)
     exact ⟨⟨h.1, h.2.1, h.2.2.1⟩, h.2.2.2⟩
   have HF : Hid (Fin64 ax ∧ Fin64 ay ∧ Fin64 bx ∧ Fin64 by' ∧ Fin64 cx ∧ Fin64 cy ∧ Fin64 dx ∧ Fin64 dy) := ⟨crd_fin HP.out.1.1.1.1, crd_fin HP.out.1.1.2.1, crd_fin HP.out.1.2.1.1.1, crd_fin HP.out.1.2.1.2.1, crd_fin HP.out.1.2.2.1.1, crd_fin HP.out.1.2.2.2.1, crd_fin HP.out.2.1.1, crd_fin HP.out.2.2.1⟩
   clear HT
   have HZ2 : Hid (sgq (((fval bx - fval ax) * (fval bx - fval ax) + (fval by' - fval ay) * (fval by' - fval ay)) - ((fval dx - fval cx) * (fval dx - fval cx) + (fval dy - fval cy) * (fval dy - fval cy))) = z) := by
     have h := gcmp_yes HP.out
     rw [HZ.out] at h
     exact h.symm
   clear HZ HP
   go_wp2_with fail
   refine wp_region_held_drew (S := (fun W => W.cell? ⟨w.heap.size, 0, none⟩ = some (.float .f64 ax) ∧ W.cell? ⟨w.heap.size, 1, none⟩ = some (.float .f64 ay) ∧ W.cell? ⟨w.heap.size + 1, 0, none⟩ = some (.float .f64 bx) ∧ W.cell? ⟨w.heap.size + 1, 1, none⟩ = some (.float .f64 by') ∧ W.cell? ⟨w.heap.size + 1 + 1, 0, none⟩ = some (.float .f64 cx) ∧ W.cell? ⟨w.heap.size + 1 + 1, 1, none⟩ = some (.float .f64 cy) ∧ W.cell? ⟨w.heap.size + 1 + 1 + 1, 0, none⟩ = some (.float .f64 dx) ∧ W.cell? ⟨w.heap.size + 1 + 1 + 1, 1, none⟩ = some (.float .f64 dy) ∧ Below w.heap.size w W)) (by kernel_rfl) ⟨u0, u1, u2, u3, u4, u5, u6, u7, HB1.out.drew⟩ (fun hS => ?_)
   refine takA (i := 0) (d := some 16) (v := .agg #[.float .f64 ax, .float .f64 ay]) hS ?_
   simp only [AP]
   refine takA (i := 1) (d := some 17) (v := .agg #[.float .f64 bx, .float .f64 by']) hS ?_
   simp only [AP]
   refine takA (i := 3) (d := some 19) (v := .agg #[.float .f64 cx, .float .f64 cy]) hS ?_
   simp only [AP]
   refine takA (i := 4) (d := some 20) (v := .agg #[.float .f64 dx, .float .f64 dy]) hS ?_
   simp only [AP]
   refine calA 2 fun KF hK => ?_
   go_simp
   refine (square_ref ax ay bx by' _ ⟨HW.out.1.1.1, HW.out.1.1.2, HW.out.1.2.1.1, HW.out.1.2.1.2⟩ ⟨HF.out.1, HF.out.2.1, HF.out.2.2.1, HF.out.2.2.2.1⟩).mono ?_
   rintro e wx ⟨v1, rfl, r1, hbx⟩
   obtain ⟨S1, a1, n1, c1, E1, rfl⟩ := r1.agg
   go_wp2_with fail
   refine hK.out _ _ (kp8 hbx hS) ?_
   clear hS hbx
   intro hS
   clear hK KF
   try simp only [AP]
   refine calA 5 fun KF hK => ?_
   go_simp
   refine (square_ref cx cy dx dy _ ⟨HW.out.1.2.2.1, HW.out.1.2.2.2, HW.out.2.1, HW.out.2.2⟩ ⟨HF.out.2.2.2.2.1, HF.out.2.2.2.2.2.1, HF.out.2.2.2.2.2.2.1, HF.out.2.2.2.2.2.2.2⟩).mono ?_
   rintro e wx ⟨v2, rfl, r2, hbx⟩
   obtain ⟨S2, a2, n2, c2, E2, rfl⟩ := r2.agg
   replace r1 := r1.later hbx
   go_wp2_with fail
   refine hK.out _ _ (kp8 hbx hS) ?_
   clear hS hbx
   intro hS
   clear hK KF
   try simp only [AP]
   refine calA 6 fun KF hK => ?_
   go_simp
   have hc := cmp_rf _ _ _ _ _ r1 r2 (sum2_fit ⟨⟨HF.out.2.2.1, HF.out.1⟩, HF.out.2.2.1, HF.out.1⟩ ⟨⟨HF.out.2.2.2.1, HF.out.2.1⟩, HF.out.2.2.2.1, HF.out.2.1⟩) (sum2_fit ⟨⟨HF.out.2.2.2.2.2.2.1, HF.out.2.2.2.2.1⟩, HF.out.2.2.2.2.2.2.1, HF.out.2.2.2.2.1⟩ ⟨⟨HF.out.2.2.2.2.2.2.2, HF.out.2.2.2.2.2.1⟩, HF.out.2.2.2.2.2.2.2, HF.out.2.2.2.2.2.1⟩)
   rw [HZ2.out] at hc
   refine hc.mono ?_
   rintro e wx ⟨rfl, hbx⟩
   clear hc
   go_wp2_with fail
   refine hK.out _ _ (kp8 hbx hS) ?_
   clear hS hbx
   intro hS
   clear hK KF
   try simp only [AP]
   refine takA (i := 7) (d := some 8) (v := .int .i64 z) hS ?_
   simp only [AP]
   refine wpAnyH_done (by kernel_rfl) ?_ _
   have HBE : Hid (Below w.heap.size w _) := hS.2.2.2.2.2.2.2.2
   clear hS u0 u1 u2 u3 u4 u5 u6 u7
   go_wp2
   go_ret
   exact ⟨rfl, HBE.out⟩
set_option maxRecDepth 100000 in
set_option maxHeartbeats 4000000 in
theorem dot6_ref (ax ay bx by' cx cy : Nat) (w : World) (z : Int) (hw : W6 ax ay bx by' cx cy) (hz : gdot ax ay bx by' cx cy = z) :
   Calls Tryz.prog 12 #[pv ax ay, pv bx by', pv cx cy] w fun e w' => e = .returned (.int .i64 z) ∧ Below w.heap.size w w' := by
 have HW : Hid (W6 ax ay bx by' cx cy) := hw
 have HZ : Hid (gdot ax ay bx by' cx cy = z) := hz
 clear hw hz
 have HB0 : Hid (Below w.heap.size w ((((w.alloc (.cells #[.float .f64 ax, .float .f64 ay] 24)).alloc (.cells #[.float .f64 bx, .float .f64 by'] 24)).alloc (.cells #[.float .f64 cx, .float .f64 cy] 24)).alloc (.cells #[.float .f64 ax, .float .f64 ay, .float .f64 bx, .float .f64 by', .float .f64 cx, .float .f64 cy] 24))) := (((((Below.refl _ w).alloc (Nat.le_refl _) _).alloc (by simp) _).alloc (by simp; omega) _).alloc (by simp; omega) _)
 go_enter Tryz.func12, Tryz.ntmps12
 go_wp2_with fail
 refine (may3_ref ax ay bx by' cx cy _ _ _ ⟨HW.out.1.1, HW.out.1.2, HW.out.2.1.1, HW.out.2.1.2, HW.out.2.2⟩ ⟨by go_simp, by go_simp, by go_simp, by go_simp, by go_simp, by go_simp⟩).mono ?_
 rintro e w1 ⟨⟨t, rfl, ht⟩, hb1⟩
 have u0 : w1.cell? ⟨w.heap.size, 0, none⟩ = some (.float .f64 ax) := box_cell hb1 (by go_simp)
 have u1 : w1.cell? ⟨w.heap.size, 1, none⟩ = some (.float .f64 ay) := box_cell hb1 (by go_simp)
 have u2 : w1.cell? ⟨w.heap.size + 1, 0, none⟩ = some (.float .f64 bx) := box_cell hb1 (by go_simp)
 have u3 : w1.cell? ⟨w.heap.size + 1, 1, none⟩ = some (.float .f64 by') := box_cell hb1 (by go_simp)
 have u4 : w1.cell? ⟨w.heap.size + 1 + 1, 0, none⟩ = some (.float .f64 cx) := box_cell hb1 (by go_simp)
 have u5 : w1.cell? ⟨w.heap.size + 1 + 1, 1, none⟩ = some (.float .f64 cy) := box_cell hb1 (by go_simp)
 have HB1 : Hid (Below w.heap.size w w1) := below_step HB0.out hb1
 have HT : Hid (t = true ↔ Pt ax ay ∧ Pt bx by' ∧ Pt cx cy) := ht
 clear ht hb1 HB0
 cases t
 · have hz0 : z = 0 := by
     rw [← HZ.out]
     exact gdot_no (fun h => by have := HT.out.2 h; simp at this)
   subst hz0
   go_wp2
   go_ret
   exact ⟨rfl, HB1.out⟩
 · have HP : Hid (P3 ax ay bx by' cx cy) := by
     have h := HT.out.1 (by simp)
     exact h
   have HF : Hid (Fin64 ax ∧ Fin64 ay ∧ Fin64 bx ∧ Fin64 by' ∧ Fin64 cx ∧ Fin64 cy) := ⟨crd_fin HP.out.1.1.1, crd_fin HP.out.1.2.1, crd_fin HP.out.2.1.1.1, crd_fin HP.out.2.1.2.1, crd_fin HP.out.2.2.1.1, crd_fin HP.out.2.2.2.1⟩
   clear HT
   have HZ2 : Hid (sgq ((fval ax - fval cx) * (fval bx - fval cx) + (fval ay - fval cy) * (fval by' - fval cy)) = z) := by
     have h := gdot_yes HP.out
     rw [HZ.out] at h
     exact h.symm
   clear HZ HP
   go_wp2_with fail
   refine (product_ref ax ay bx by' cx cy _ ⟨HW.out.1.1, HW.out.1.2, HW.out.2.1.1, HW.out.2.1.2, HW.out.2.2⟩ HF.out).mono ?_
   rintro e w2 ⟨v1, rfl, r1, hb2⟩
   obtain ⟨S1, a1, n1, c1, E1, rfl⟩ := r1.agg
   have HB2 : Hid (Below w.heap.size w w2) := below_step HB1.out hb2
   clear hb2 HB1 u0 u1 u2 u3 u4 u5
   go_wp2_with fail
   have hc := sign_rf _ _ _ r1
   rw [HZ2.out] at hc
   refine hc.mono ?_
   rintro e w3 ⟨rfl, hb3⟩
   have HB3 : Hid (Below w.heap.size w w3) := below_step HB2.out hb3
   clear hb3 hc r1 HB2
   go_wp2
   go_ret
   exact ⟨rfl, HB3.out⟩
end Go.Proofs.YtocnkgfoffpbfaaGreatDoor
