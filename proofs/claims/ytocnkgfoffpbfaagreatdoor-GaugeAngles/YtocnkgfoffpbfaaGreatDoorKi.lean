import Derived.Test.YtocnkgfoffpbfaaGreatDoorQ4
import Derived.Test.YtocnkgfoffpbfaaGreatDoorQ24
import Derived.Test.YtocnkgfoffpbfaaGreatDoorQ38
import Derived.Test.YtocnkgfoffpbfaaGreatDoorKh
/- The document's side of layer 6: Sharp. -/
namespace Go.Proofs.YtocnkgfoffpbfaaGreatDoor
open Go.RowKit Go.Shelf
attribute [local go_sem] run_store_float
set_option maxRecDepth 100000 in
set_option maxHeartbeats 4000000 in
theorem sharp6_ref (ax ay bx by' cx cy g : Nat) (w : World) (tb : Bool) (hb : tb = true ↔ GS ax ay bx by' cx cy g) (hw : W6 ax ay bx by' cx cy) (hg : g < 18446744073709551616) :
   Calls Tryz.prog 17 #[pv ax ay, pv bx by', pv cx cy, .float .f64 g] w fun e w' => e = .returned (.bool tb) ∧ Below w.heap.size w w' := by
 have HW : Hid (W6 ax ay bx by' cx cy) := hw
 have HG : Hid (g < 18446744073709551616) := hg
 have HZ : Hid (tb = true ↔ GS ax ay bx by' cx cy g) := hb
 clear hb
 clear hw hg
 have HB0 : Hid (Below w.heap.size w ((((w.alloc (.cells #[.float .f64 ax, .float .f64 ay] 24)).alloc (.cells #[.float .f64 bx, .float .f64 by'] 24)).alloc (.cells #[.float .f64 cx, .float .f64 cy] 24)).alloc (.cells #[.float .f64 ax, .float .f64 ay, .float .f64 bx, .float .f64 by', .float .f64 cx, .float .f64 cy] 24))) := (((((Below.refl _ w).alloc (Nat.le_refl _) _).alloc (by simp) _).alloc (by simp; omega) _).alloc (by simp; omega) _)
 go_enter Tryz.func17, Tryz.ntmps17
 go_wp2_with fail
 refine (may3_ref ax ay bx by' cx cy _ _ _ ⟨HW.out.1.1, HW.out.1.2, HW.out.2.1.1, HW.out.2.1.2, HW.out.2.2⟩ ⟨by go_simp, by go_simp, by go_simp, by go_simp, by go_simp, by go_simp⟩).mono ?_
 rintro e w1 ⟨⟨t, rfl, ht⟩, hb1⟩
 have u0 : w1.cell? ⟨w.heap.size, 0, none⟩ = some (.float .f64 ax) := box_cell hb1 (by go_simp)
 have u1 : w1.cell? ⟨w.heap.size, 1, none⟩ = some (.float .f64 ay) := box_cell hb1 (by go_simp)
 have u2 : w1.cell? ⟨w.heap.size + 1, 0, none⟩ = some (.float .f64 bx) := box_cell hb1 (by go_simp)
 have u3 : w1.cell? ⟨w.heap.size + 1, 1, none⟩ = some (.float .f64 by') := box_cell hb1 (by go_simp)
 have u4 : w1.cell? ⟨w.heap.size + 1 + 1, 0, none⟩ = some (.float .f64 cx) := box_cell hb1 (by go_simp)
 have u5 : w1.cell? ⟨w.heap.size + 1 + 1, 1, none⟩ = some (.float .f64 cy) := box_cell hb1 (by go_simp)
 have HB1 : Hid (Below w.heap.size w w1) := below_step HB0.out hb1
 have HT : Hid (t = true ↔ P3 ax ay bx by' cx cy) := ht
 clear ht hb1 HB0
 cases t
 · have hz0 : tb = false := by
     cases tb
     · rfl
     · exact absurd (HZ.out.1 rfl).1 (fun h => by have := HT.out.2 h.1; simp at this)
   subst hz0
   go_wp2
   go_ret
   exact ⟨rfl, HB1.out⟩
 · have HP : Hid (P3 ax ay bx by' cx cy) := HT.out.1 (by simp)
   clear HT
   rcases Nat.lt_trichotomy (frung g) 9218868437227405312 with hf | hf | hf
   · have HF : Hid (Fin64 g) := hf
     obtain ⟨n, s1, s2⟩ := self_sub HF.out
     have o1 : FloatKind.f64.format.order g g = some .eq := by rw [order_val HF.out HF.out, if_neg (by grind), if_pos rfl]
     have rs : ∀ w, (binOp .sub 22 (.float .f64 g) (.float .f64 g)).run Tryz.prog w = .ok (.float .f64 n) w := fun w => run_float_arith w .sub _ .f64 _ _ _ s1
     clear hf s1
     obtain ⟨s, hs⟩ : ∃ s, sgq ((fval bx - fval ax) * (fval cx - fval ax) + (fval by' - fval ay) * (fval cy - fval ay)) = s := ⟨_, rfl⟩
     have HS1 : Hid (sgq ((fval bx - fval ax) * (fval cx - fval ax) + (fval by' - fval ay) * (fval cy - fval ay)) = s) := hs
     clear hs
     go_wp2_with fail
     refine (product_ref bx by' cx cy ax ay _ ⟨HW.out.2.1.1, HW.out.2.1.2, HW.out.2.2.1, HW.out.2.2.2, HW.out.1.1, HW.out.1.2⟩ ⟨crd_fin HP.out.2.1.1.1, crd_fin HP.out.2.1.2.1, crd_fin HP.out.2.2.1.1, crd_fin HP.out.2.2.2.1, crd_fin HP.out.1.1.1, crd_fin HP.out.1.2.1⟩).mono ?_
     rintro e w2 ⟨v1, rfl, r1, hb2⟩
     obtain ⟨S1, a1, n1, c1, E1, rfl⟩ := r1.agg
     obtain ⟨W3, hW3⟩ : ∃ W3, W3 = w2.alloc (.cells #[.int .i64 S1, .slice a1 n1 c1, .int .i64 E1] 58) := ⟨_, rfl⟩
     have hb3 : Below w2.heap.size w2 W3.drew := by rw [hW3]; exact ((Below.refl _ w2).alloc (Nat.le_refl _) _).drew
     have z0 : W3.drew.cell? ⟨w2.heap.size, 0, none⟩ = some (.int .i64 S1) := by rw [hW3]; go_simp
     have z1 : W3.drew.cell? ⟨w2.heap.size, 1, none⟩ = some (.slice a1 n1 c1) := by rw [hW3]; go_simp
     have z2 : W3.drew.cell? ⟨w2.heap.size, 2, none⟩ = some (.int .i64 E1) := by rw [hW3]; go_simp
     replace u0 := box_cell hb3 (box_cell hb2 u0)
     replace u1 := box_cell hb3 (box_cell hb2 u1)
     replace u2 := box_cell hb3 (box_cell hb2 u2)
     replace u3 := box_cell hb3 (box_cell hb2 u3)
     replace u4 := box_cell hb3 (box_cell hb2 u4)
     replace u5 := box_cell hb3 (box_cell hb2 u5)
     replace r1 := r1.later hb3
     have HB3 : Hid (Below w.heap.size w W3.drew) := below_step (below_step HB1.out hb2) hb3
     go_wp2_with fail
     rw [← hW3]
     clear hW3 hb2 hb3 HB1
     by_cases hs0 : 0 < s
     · obtain ⟨q, hq⟩ : ∃ q, sgq (((fval bx - fval ax) * (fval cx - fval ax) + (fval by' - fval ay) * (fval cy - fval ay)) * ((fval bx - fval ax) * (fval cx - fval ax) + (fval by' - fval ay) * (fval cy - fval ay)) - fval g * (((fval bx - fval ax) * (fval bx - fval ax) + (fval by' - fval ay) * (fval by' - fval ay)) * ((fval cx - fval ax) * (fval cx - fval ax) + (fval cy - fval ay) * (fval cy - fval ay)))) = q := ⟨_, rfl⟩
       have HQ : Hid (sgq (((fval bx - fval ax) * (fval cx - fval ax) + (fval by' - fval ay) * (fval cy - fval ay)) * ((fval bx - fval ax) * (fval cx - fval ax) + (fval by' - fval ay) * (fval cy - fval ay)) - fval g * (((fval bx - fval ax) * (fval bx - fval ax) + (fval by' - fval ay) * (fval by' - fval ay)) * ((fval cx - fval ax) * (fval cx - fval ax) + (fval cy - fval ay) * (fval cy - fval ay)))) = q) := hq
       have htb : decide (0 < q) = tb := by
         have e : ((fval bx - fval ax) * (fval cx - fval ax) + (fval by' - fval ay) * (fval cy - fval ay)) * ((fval bx - fval ax) * (fval cx - fval ax) + (fval by' - fval ay) * (fval cy - fval ay)) - fval g * (((fval bx - fval ax) * (fval bx - fval ax) + (fval by' - fval ay) * (fval by' - fval ay)) * ((fval cx - fval ax) * (fval cx - fval ax) + (fval cy - fval ay) * (fval cy - fval ay))) = cosE ax ay bx by' cx cy g := by unfold cosE; grind
         rw [e] at hq
         have k : tb = true ↔ 0 < q := by
           rw [HZ.out, ← hq, sgq_pos]
           refine ⟨fun h => h.2.2, fun h => ⟨⟨HP.out, HF.out⟩, ?_, h⟩⟩
           have := hs0
           rw [← HS1.out, sgq_pos] at this
           unfold dotR
           exact this
         cases tb
         · exact decide_eq_false (fun h => by have := k.2 h; cases this)
         · exact decide_eq_true (k.1 rfl)
       clear hq
       have HFB : Hid (Fit ((fval bx - fval ax) * (fval cx - fval ax) + (fval by' - fval ay) * (fval cy - fval ay)) ∧ Fit ((fval bx - fval ax) * (fval bx - fval ax) + (fval by' - fval ay) * (fval by' - fval ay)) ∧ Fit ((fval cx - fval ax) * (fval cx - fval ax) + (fval cy - fval ay) * (fval cy - fval ay)) ∧ Fit (fval g) ∧ Fit (((fval bx - fval ax) * (fval bx - fval ax) + (fval by' - fval ay) * (fval by' - fval ay)) * ((fval cx - fval ax) * (fval cx - fval ax) + (fval cy - fval ay) * (fval cy - fval ay))) ∧ Fit (((fval bx - fval ax) * (fval cx - fval ax) + (fval by' - fval ay) * (fval cy - fval ay)) * ((fval bx - fval ax) * (fval cx - fval ax) + (fval by' - fval ay) * (fval cy - fval ay))) ∧ Fit (fval g * (((fval bx - fval ax) * (fval bx - fval ax) + (fval by' - fval ay) * (fval by' - fval ay)) * ((fval cx - fval ax) * (fval cx - fval ax) + (fval cy - fval ay) * (fval cy - fval ay))))) := by
         have bx_ := (fval_bd2 (crd_fin HP.out.2.1.1.1)).sub (fval_bd2 (crd_fin HP.out.1.1.1))
         have by_ := (fval_bd2 (crd_fin HP.out.2.1.2.1)).sub (fval_bd2 (crd_fin HP.out.1.2.1))
         have cx_ := (fval_bd2 (crd_fin HP.out.2.2.1.1)).sub (fval_bd2 (crd_fin HP.out.1.1.1))
         have cy_ := (fval_bd2 (crd_fin HP.out.2.2.2.1)).sub (fval_bd2 (crd_fin HP.out.1.2.1))
         have p := (bx_.mul cx_).add (by_.mul cy_)
         have l := (bx_.mul bx_).add (by_.mul by_)
         have m := (cx_.mul cx_).add (cy_.mul cy_)
         exact ⟨p.mono (by omega) (by omega), l.mono (by omega) (by omega), m.mono (by omega) (by omega), fval_fit g HF.out, (l.mul m).mono (by omega) (by omega), (p.mul p).mono (by omega) (by omega), ((fval_bd2 HF.out).mul (l.mul m)).mono (by omega) (by omega)⟩
       have hsd : decide (0 < s) = true := decide_eq_true hs0
       clear HZ hs0
       refine wp_region_held_drew (S := (fun W => W.cell? ⟨w.heap.size, 0, none⟩ = some (.float .f64 ax) ∧ W.cell? ⟨w.heap.size, 1, none⟩ = some (.float .f64 ay) ∧ W.cell? ⟨w.heap.size + 1, 0, none⟩ = some (.float .f64 bx) ∧ W.cell? ⟨w.heap.size + 1, 1, none⟩ = some (.float .f64 by') ∧ W.cell? ⟨w.heap.size + 1 + 1, 0, none⟩ = some (.float .f64 cx) ∧ W.cell? ⟨w.heap.size + 1 + 1, 1, none⟩ = some (.float .f64 cy) ∧ W.cell? ⟨w2.heap.size, 0, none⟩ = some (.int .i64 S1) ∧ W.cell? ⟨w2.heap.size, 1, none⟩ = some (.slice a1 n1 c1) ∧ W.cell? ⟨w2.heap.size, 2, none⟩ = some (.int .i64 E1) ∧ Below w.heap.size w W)) (by kernel_rfl) ⟨u0, u1, u2, u3, u4, u5, z0, z1, z2, HB3.out⟩ (fun hS => ?_)
       refine takA (i := 0) (d := some 31) (v := .agg #[.int .i64 S1, .slice a1 n1 c1, .int .i64 E1]) hS ?_
       simp only [AP]
       refine calA 1 fun KF hK => ?_
       go_simp
       have hc := sign_rf _ _ _ r1
       rw [HS1.out] at hc
       refine hc.mono ?_
       rintro e wx ⟨rfl, hbx⟩
       clear hc
       replace r1 := r1.later hbx
       go_wp2_with fail
       refine hK.out _ _ (kp9 hbx hS) ?_
       clear hS hbx
       intro hS
       clear hK KF
       try simp only [AP]
       refine takA (i := 2) (d := some 33) (v := .bool true) hS ?_
       simp only [AP]
       refine takA (i := 3) (d := some 34) (v := .bool true) hS ?_
       simp only [AP]
       refine takA (i := 4) (d := some 35) (v := .agg #[.int .i64 S1, .slice a1 n1 c1, .int .i64 E1]) hS ?_
       simp only [AP]
       refine takA (i := 5) (d := some 36) (v := .agg #[.int .i64 S1, .slice a1 n1 c1, .int .i64 E1]) hS ?_
       simp only [AP]
       refine takA (i := 7) (d := some 38) (v := .float .f64 g) hS ?_
       simp only [AP]
       refine takA (i := 9) (d := some 40) (v := .agg #[.float .f64 ax, .float .f64 ay]) hS ?_
       simp only [AP]
       refine takA (i := 10) (d := some 41) (v := .agg #[.float .f64 bx, .float .f64 by']) hS ?_
       simp only [AP]
       refine takA (i := 12) (d := some 43) (v := .agg #[.float .f64 ax, .float .f64 ay]) hS ?_
       simp only [AP]
       refine takA (i := 13) (d := some 44) (v := .agg #[.float .f64 cx, .float .f64 cy]) hS ?_
       simp only [AP]
       refine calA 6 fun KF hK => ?_
       go_simp
       refine (mul_rf _ _ _ _ _ r1 r1 HFB.out.1 HFB.out.1).mono ?_
       rintro e wx ⟨v2, rfl, r2, hbx⟩
       obtain ⟨S2, a2, n2, c2, E2, rfl⟩ := r2.agg
       go_wp2_with fail
       refine hK.out _ _ (kp9 hbx hS) ?_
       clear hS hbx
       intro hS
       clear hK KF
       try simp only [AP]
       refine calA 8 fun KF hK => ?_
       go_simp
       refine (refOf_any g _ HG.out).mono ?_
       rintro e wx ⟨v3, rfl, r3, hbx⟩
       obtain ⟨S3, a3, n3, c3, E3, rfl⟩ := r3.agg
       rw [den_fin HF.out] at r3
       replace r2 := r2.later hbx
       go_wp2_with fail
       refine hK.out _ _ (kp9 hbx hS) ?_
       clear hS hbx
       intro hS
       clear hK KF
       try simp only [AP]
       refine calA 11 fun KF hK => ?_
       go_simp
       refine (square_ref ax ay bx by' _ ⟨HW.out.1.1, HW.out.1.2, HW.out.2.1.1, HW.out.2.1.2⟩ ⟨crd_fin HP.out.1.1.1, crd_fin HP.out.1.2.1, crd_fin HP.out.2.1.1.1, crd_fin HP.out.2.1.2.1⟩).mono ?_
       rintro e wx ⟨v4, rfl, r4, hbx⟩
       obtain ⟨S4, a4, n4, c4, E4, rfl⟩ := r4.agg
       replace r2 := r2.later hbx
       replace r3 := r3.later hbx
       go_wp2_with fail
       refine hK.out _ _ (kp9 hbx hS) ?_
       clear hS hbx
       intro hS
       clear hK KF
       try simp only [AP]
       refine calA 14 fun KF hK => ?_
       go_simp
       refine (square_ref ax ay cx cy _ ⟨HW.out.1.1, HW.out.1.2, HW.out.2.2.1, HW.out.2.2.2⟩ ⟨crd_fin HP.out.1.1.1, crd_fin HP.out.1.2.1, crd_fin HP.out.2.2.1.1, crd_fin HP.out.2.2.2.1⟩).mono ?_
       rintro e wx ⟨v5, rfl, r5, hbx⟩
       obtain ⟨S5, a5, n5, c5, E5, rfl⟩ := r5.agg
       replace r2 := r2.later hbx
       replace r3 := r3.later hbx
       replace r4 := r4.later hbx
       go_wp2_with fail
       refine hK.out _ _ (kp9 hbx hS) ?_
       clear hS hbx
       intro hS
       clear hK KF
       try simp only [AP]
       refine calA 15 fun KF hK => ?_
       go_simp
       refine (mul_rf _ _ _ _ _ r4 r5 HFB.out.2.1 HFB.out.2.2.1).mono ?_
       rintro e wx ⟨v6, rfl, r6, hbx⟩
       obtain ⟨S6, a6, n6, c6, E6, rfl⟩ := r6.agg
       replace r2 := r2.later hbx
       replace r3 := r3.later hbx
       go_wp2_with fail
       refine hK.out _ _ (kp9 hbx hS) ?_
       clear hS hbx
       intro hS
       clear hK KF
       try simp only [AP]
       refine calA 16 fun KF hK => ?_
       go_simp
       refine (mul_rf _ _ _ _ _ r3 r6 HFB.out.2.2.2.1 HFB.out.2.2.2.2.1).mono ?_
       rintro e wx ⟨v7, rfl, r7, hbx⟩
       obtain ⟨S7, a7, n7, c7, E7, rfl⟩ := r7.agg
       replace r2 := r2.later hbx
       go_wp2_with fail
       refine hK.out _ _ (kp9 hbx hS) ?_
       clear hS hbx
       intro hS
       clear hK KF
       try simp only [AP]
       refine calA 17 fun KF hK => ?_
       go_simp
       have hc := cmp_rf _ _ _ _ _ r2 r7 HFB.out.2.2.2.2.2.1 HFB.out.2.2.2.2.2.2
       rw [HQ.out] at hc
       refine hc.mono ?_
       rintro e wx ⟨rfl, hbx⟩
       clear hc
       go_wp2_with fail
       refine hK.out _ _ (kp9 hbx hS) ?_
       clear hS hbx
       intro hS
       clear hK KF
       try simp only [AP]
       refine takA (i := 18) (d := some 49) (v := .bool tb) hS ?_
       simp only [AP]
       refine takA (i := 19) (d := some 50) (v := .bool tb) hS ?_
       simp only [AP]
       refine takA (i := 20) (d := some 8) (v := .bool tb) hS ?_
       simp only [AP]
       refine wpAnyH_done (by kernel_rfl) ?_ _
       have HBE : Hid (Below w.heap.size w _) := hS.2.2.2.2.2.2.2.2.2
       clear hS
       go_wp2
       go_ret
       exact ⟨rfl, HBE.out⟩
     · have hz0 : tb = false := by
         cases tb
         · rfl
         · refine absurd ?_ hs0
           rw [← HS1.out, sgq_pos]
           have := (HZ.out.1 rfl).2.1
           unfold dotR at this
           exact this
       subst hz0
       have hsd : decide (0 < s) = false := decide_eq_false hs0
       clear HZ hs0
       refine wp_region_held_drew (S := (fun W => W.cell? ⟨w.heap.size, 0, none⟩ = some (.float .f64 ax) ∧ W.cell? ⟨w.heap.size, 1, none⟩ = some (.float .f64 ay) ∧ W.cell? ⟨w.heap.size + 1, 0, none⟩ = some (.float .f64 bx) ∧ W.cell? ⟨w.heap.size + 1, 1, none⟩ = some (.float .f64 by') ∧ W.cell? ⟨w.heap.size + 1 + 1, 0, none⟩ = some (.float .f64 cx) ∧ W.cell? ⟨w.heap.size + 1 + 1, 1, none⟩ = some (.float .f64 cy) ∧ W.cell? ⟨w2.heap.size, 0, none⟩ = some (.int .i64 S1) ∧ W.cell? ⟨w2.heap.size, 1, none⟩ = some (.slice a1 n1 c1) ∧ W.cell? ⟨w2.heap.size, 2, none⟩ = some (.int .i64 E1) ∧ Below w.heap.size w W)) (by kernel_rfl) ⟨u0, u1, u2, u3, u4, u5, z0, z1, z2, HB3.out⟩ (fun hS => ?_)
       refine takA (i := 0) (d := some 31) (v := .agg #[.int .i64 S1, .slice a1 n1 c1, .int .i64 E1]) hS ?_
       simp only [AP]
       refine calA 1 fun KF hK => ?_
       go_simp
       have hc := sign_rf _ _ _ r1
       rw [HS1.out] at hc
       refine hc.mono ?_
       rintro e wx ⟨rfl, hbx⟩
       clear hc
       replace r1 := r1.later hbx
       go_wp2_with fail
       refine hK.out _ _ (kp9 hbx hS) ?_
       clear hS hbx
       intro hS
       clear hK KF
       try simp only [AP]
       refine takA (i := 2) (d := some 33) (v := .bool false) hS ?_
       simp only [AP]
       refine takA (i := 3) (d := some 34) (v := .bool false) hS ?_
       simp only [AP]
       refine skip_at 4 (d := some 35) (by kernel_rfl) (by kernel_rfl) (by kernel_rfl) (by kernel_rfl) (fun _ _ _ h => h) (by rfl) hS ?_
       simp only [AP]
       refine skip_at 5 (d := some 36) (by kernel_rfl) (by kernel_rfl) (by kernel_rfl) (by kernel_rfl) (fun _ _ _ h => h) (by rfl) hS ?_
       simp only [AP]
       refine skip_at 6 (d := some 37) (by kernel_rfl) (by kernel_rfl) (by kernel_rfl) (by kernel_rfl) (fun _ _ _ h => h) (by rfl) hS ?_
       simp only [AP]
       refine skip_at 7 (d := some 38) (by kernel_rfl) (by kernel_rfl) (by kernel_rfl) (by kernel_rfl) (fun _ _ _ h => h) (by rfl) hS ?_
       simp only [AP]
       refine skip_at 8 (d := some 39) (by kernel_rfl) (by kernel_rfl) (by kernel_rfl) (by kernel_rfl) (fun _ _ _ h => h) (by rfl) hS ?_
       simp only [AP]
       refine skip_at 9 (d := some 40) (by kernel_rfl) (by kernel_rfl) (by kernel_rfl) (by kernel_rfl) (fun _ _ _ h => h) (by rfl) hS ?_
       simp only [AP]
       refine skip_at 10 (d := some 41) (by kernel_rfl) (by kernel_rfl) (by kernel_rfl) (by kernel_rfl) (fun _ _ _ h => h) (by rfl) hS ?_
       simp only [AP]
       refine skip_at 11 (d := some 42) (by kernel_rfl) (by kernel_rfl) (by kernel_rfl) (by kernel_rfl) (fun _ _ _ h => h) (by rfl) hS ?_
       simp only [AP]
       refine skip_at 12 (d := some 43) (by kernel_rfl) (by kernel_rfl) (by kernel_rfl) (by kernel_rfl) (fun _ _ _ h => h) (by rfl) hS ?_
       simp only [AP]
       refine skip_at 13 (d := some 44) (by kernel_rfl) (by kernel_rfl) (by kernel_rfl) (by kernel_rfl) (fun _ _ _ h => h) (by rfl) hS ?_
       simp only [AP]
       refine skip_at 14 (d := some 45) (by kernel_rfl) (by kernel_rfl) (by kernel_rfl) (by kernel_rfl) (fun _ _ _ h => h) (by rfl) hS ?_
       simp only [AP]
       refine skip_at 15 (d := some 46) (by kernel_rfl) (by kernel_rfl) (by kernel_rfl) (by kernel_rfl) (fun _ _ _ h => h) (by rfl) hS ?_
       simp only [AP]
       refine skip_at 16 (d := some 47) (by kernel_rfl) (by kernel_rfl) (by kernel_rfl) (by kernel_rfl) (fun _ _ _ h => h) (by rfl) hS ?_
       simp only [AP]
       refine skip_at 17 (d := some 48) (by kernel_rfl) (by kernel_rfl) (by kernel_rfl) (by kernel_rfl) (fun _ _ _ h => h) (by rfl) hS ?_
       simp only [AP]
       refine skip_at 18 (d := some 49) (by kernel_rfl) (by kernel_rfl) (by kernel_rfl) (by kernel_rfl) (fun _ _ _ h => h) (by rfl) hS ?_
       simp only [AP]
       refine takA (i := 19) (d := some 50) (v := .bool false) hS ?_
       simp only [AP]
       refine takA (i := 20) (d := some 8) (v := .bool false) hS ?_
       simp only [AP]
       refine wpAnyH_done (by kernel_rfl) ?_ _
       have HBE : Hid (Below w.heap.size w _) := hS.2.2.2.2.2.2.2.2.2
       clear hS
       go_wp2
       go_ret
       exact ⟨rfl, HBE.out⟩
   · have hz0 : tb = false := by
       cases tb
       · rfl
       · exact absurd (HZ.out.1 rfl).1 (fun h => by have := h.2; unfold Fin64 at this; omega)
     subst hz0
     have o1 : FloatKind.f64.format.order g g = some .eq := by
       have hb2 : g = 9218868437227405312 ∨ g = 18442240474082181120 := by have := HG.out; unfold frung at hf; omega
       rcases hb2 with rfl | rfl <;> decide +kernel
     have s1 : floatBits .sub .f64 g g = none := by
       have hb2 : g = 9218868437227405312 ∨ g = 18442240474082181120 := by have := HG.out; unfold frung at hf; omega
       rcases hb2 with rfl | rfl <;> decide +kernel
     have rs := run_sub_nan g g s1
     have h3 : ∀ w, FloatKind.f64.format.order (nanW g g w) 0 = none := fun w => nan_order (nanW_nan g g w).1 0
     clear hf s1
     go_wp2
     go_ret
     exact ⟨rfl, HB1.out.drew⟩
   · have hz0 : tb = false := by
       cases tb
       · rfl
       · exact absurd (HZ.out.1 rfl).1 (fun h => by have := h.2; unfold Fin64 at this; omega)
     subst hz0
     have o1 : FloatKind.f64.format.order g g = none := order_nan_left hf
     clear hf
     go_wp2
     go_ret
     exact ⟨rfl, HB1.out⟩
end Go.Proofs.YtocnkgfoffpbfaaGreatDoor
