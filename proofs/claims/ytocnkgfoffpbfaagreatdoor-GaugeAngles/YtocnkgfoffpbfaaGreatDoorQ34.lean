/- Own texts, put together: Gl. -/
import Derived.Test.YtocnkgfoffpbfaaGreatDoorQ4
import Derived.Test.YtocnkgfoffpbfaaGreatDoorQ24
import Derived.Test.YtocnkgfoffpbfaaGreatDoorQ31
/- Angles and areas: Dot, Area. -/
namespace Go.Proofs.YtocnkgfoffpbfaaGreatDoor
open Go.RowKit Go.Shelf
attribute [local go_sem ↓] Go.wp_at_zero Go.wp_at_succ
attribute [local go_sem] run_store_float
theorem B3.drew {w W : World} {ax ay bx by' cx cy : Nat} (h : B3 w W ax ay bx by' cx cy) : B3 w W.drew ax ay bx by' cx cy := h.later (Below.refl _ W).drew
noncomputable def gdot (ax ay bx by' cx cy : Nat) : Int := @ite _ (P3 ax ay bx by' cx cy) (Classical.propDecidable _) (sgq (dotR (fval ax) (fval ay) (fval bx) (fval by') (fval cx) (fval cy))) 0
theorem gdot_yes {ax ay bx by' cx cy : Nat} (h : P3 ax ay bx by' cx cy) : gdot ax ay bx by' cx cy = sgq (dotR (fval ax) (fval ay) (fval bx) (fval by') (fval cx) (fval cy)) := by unfold gdot; rw [if_pos h]
theorem gdot_no {ax ay bx by' cx cy : Nat} (h : ¬ P3 ax ay bx by' cx cy) : gdot ax ay bx by' cx cy = 0 := by unfold gdot; rw [if_neg h]
set_option maxRecDepth 100000 in
set_option maxHeartbeats 4000000 in
theorem gdot_any (ax ay bx by' cx cy : Nat) (w : World) (z : Int) (hT : Tab w) (hw : W6 ax ay bx by' cx cy) (hz : gdot ax ay bx by' cx cy = z) :
   Calls Tryz.prog 11 #[pv ax ay, pv bx by', pv cx cy] w fun e w' => e = .returned (.int .i64 z) ∧ Below w.heap.size w w' := by
 have HT : Hid (Tab w) := hT
 have HW : Hid (W6 ax ay bx by' cx cy) := hw
 have HZ0 : Hid (gdot ax ay bx by' cx cy = z) := hz
 clear hT hw hz
 go_enter Tryz.func11, Tryz.ntmps11
 go_wp2_with fail
 refine (has3' ax ay bx by' cx cy ax ay bx by' cx cy w HW.out).mono ?_
 rintro e w1 ⟨⟨t, rfl, ht⟩, hB⟩
 have HB1 : Hid (Below w.heap.size w w1) := hB.bel
 have HTt : Hid (t = true ↔ P3 ax ay bx by' cx cy) := ht
 clear ht
 cases t
 · clear hB
   go_wp2
   go_ret
   have e0 : z = 0 := by rw [← HZ0.out]; exact gdot_no (fun h => Bool.noConfusion (HTt.out.2 h))
   exact ⟨by rw [e0]; rfl, HB1.out⟩
 · have HP : Hid (P3 ax ay bx by' cx cy) := HTt.out.1 rfl
   have HZ : Hid (sgq (dotR (fval ax) (fval ay) (fval bx) (fval by') (fval cx) (fval cy)) = z) := by rw [← HZ0.out]; exact (gdot_yes HP.out).symm
   have HZ2 : Hid (sgq ((fval ax - fval cx) * (fval bx - fval cx) + (fval ay - fval cy) * (fval by' - fval cy)) = z) := HZ.out
   have wa := HP.out.1.w HW.out.1
   have wb := HP.out.2.1.w HW.out.2.1
   have wc := HP.out.2.2.w HW.out.2.2
   have HF : Hid ((Wfl cx ∧ Wfl cy ∧ Wfl ax ∧ Wfl ay) ∧ Wfl cx ∧ Wfl cy ∧ Wfl bx ∧ Wfl by') := ⟨⟨wc.1, wc.2, wa.1, wa.2⟩, wc.1, wc.2, wb.1, wb.2⟩
   have HY : Hid (Wy (fval ax - fval cx) ∧ Wy (fval ay - fval cy) ∧ Wy (fval bx - fval cx) ∧ Wy (fval by' - fval cy)) := ⟨wy_of wc.1.2 wa.1.2, wy_of wc.2.2 wa.2.2, wy_of wc.1.2 wb.1.2, wy_of wc.2.2 wb.2.2⟩
   obtain ⟨x1, e1, W1⟩ := way_word HP.out.2.2.1 HP.out.1.1
   obtain ⟨y1, e2, W2⟩ := way_word HP.out.2.2.2 HP.out.1.2
   obtain ⟨x2, e3, W3⟩ := way_word HP.out.2.2.1 HP.out.2.1.1
   obtain ⟨y2, e4, W4⟩ := way_word HP.out.2.2.2 HP.out.2.1.2
   obtain ⟨s, zz, Es, Ps, _⟩ := prod2_word W1 W2 W3 W4
   obtain ⟨v, ev, hs⟩ := dot_word Ps
   have HE : Hid (floatBits .sub .f64 ax cx = some x1 ∧ floatBits .sub .f64 ay cy = some y1 ∧ floatBits .sub .f64 bx cx = some x2 ∧ floatBits .sub .f64 by' cy = some y2 ∧ ProdE x1 y1 x2 y2 s zz) := ⟨e1, e2, e3, e4, Es⟩
   obtain ⟨t2, ht2'⟩ : ∃ t, (FloatKind.f64.format.order (frung s) v == some .gt) = t := ⟨_, rfl⟩
   have ht2 : Hid ((FloatKind.f64.format.order (frung s) v == some .gt) = t2) := ht2'
   have HX : Hid (s < 18446744073709551616 ∧ Fin64 s ∧ floatBits .mul .f64 4386506037058863104 zz = some v ∧ (t2 = true → sgq (fval s) = z)) := ⟨Ps.ws, Ps.fs, ev, by rw [← ht2', ← HZ2.out]; exact hs⟩
   clear wa wb wc e1 e2 e3 e4 W1 W2 W3 W4 Es Ps ev hs ht2' HZ0 HTt
   obtain ⟨ha0, ha1, hb0, hb1, hc0, hc1, _⟩ := hB
   go_wp2_with fail
   cases t2
   · refine wp_region_held_drew (S := (fun W => W.cell? ⟨w.heap.size, 0, none⟩ = some (.float .f64 ax) ∧ W.cell? ⟨w.heap.size, 1, none⟩ = some (.float .f64 ay) ∧ W.cell? ⟨w.heap.size + 1, 0, none⟩ = some (.float .f64 bx) ∧ W.cell? ⟨w.heap.size + 1, 1, none⟩ = some (.float .f64 by') ∧ W.cell? ⟨w.heap.size + 1 + 1, 0, none⟩ = some (.float .f64 cx) ∧ W.cell? ⟨w.heap.size + 1 + 1, 1, none⟩ = some (.float .f64 cy) ∧ Below w.heap.size w W)) (by kernel_rfl) ⟨ha0, ha1, hb0, hb1, hc0, hc1, HB1.out.drew⟩ (fun hS => ?_)
     refine takA (i := 0) (d := some 16) (v := .agg #[.float .f64 cx, .float .f64 cy]) hS ?_
     simp only [AP]
     refine takA (i := 1) (d := some 17) (v := .agg #[.float .f64 ax, .float .f64 ay]) hS ?_
     simp only [AP]
     refine takA (i := 3) (d := some 19) (v := .agg #[.float .f64 cx, .float .f64 cy]) hS ?_
     simp only [AP]
     refine takA (i := 4) (d := some 20) (v := .agg #[.float .f64 bx, .float .f64 by']) hS ?_
     simp only [AP]
     refine calA 2 fun KF hK => ?_
     go_simp
     refine (nearWay_is cx cy ax ay x1 y1 _ HE.out.1 HE.out.2.1).mono ?_
     rintro e wx ⟨rfl, hbx⟩
     go_wp2_with fail
     refine hK.out _ _ (kp6 hbx hS) ?_
     clear hS hbx
     intro hS
     clear hK KF
     try simp only [AP]
     refine calA 5 fun KF hK => ?_
     go_simp
     refine (nearWay_is cx cy bx by' x2 y2 _ HE.out.2.2.1 HE.out.2.2.2.1).mono ?_
     rintro e wx ⟨rfl, hbx⟩
     go_wp2_with fail
     refine hK.out _ _ (kp6 hbx hS) ?_
     clear hS hbx
     intro hS
     clear hK KF
     try simp only [AP]
     refine calA 6 fun KF hK => ?_
     go_simp
     refine (nearProduct_is x1 y1 x2 y2 s zz _ HE.out.2.2.2.2).mono ?_
     rintro e wx ⟨rfl, hbx⟩
     go_wp2_with fail
     refine hK.out _ _ (kp6 hbx hS) ?_
     clear hS hbx
     intro hS
     clear hK KF
     try simp only [AP]
     refine takA (i := 7) (d := some 23) (v := .float .f64 s) hS ?_
     simp only [AP]
     refine takA (i := 8) (d := some 24) (v := .float .f64 zz) hS ?_
     simp only [AP]
     refine calA 9 fun KF hK => ?_
     go_simp
     refine (told_no s zz v _ HX.out.1 HX.out.2.2.1 ht2.out).mono ?_
     rintro e wx ⟨rfl, hbx⟩
     subst hbx
     have hbx := True.intro
     go_wp2_with fail
     refine hK.out _ _ hS ?_
     clear hS hbx
     intro hS
     clear hK KF
     try simp only [AP]
     refine takA (i := 10) (d := some 15) (v := .tuple #[.int .i64 0, .bool false]) hS ?_
     simp only [AP]
     refine takA (i := 11) (d := some 26) (v := .int .i64 0) hS ?_
     simp only [AP]
     refine takA (i := 12) (d := some 27) (v := .bool false) hS ?_
     simp only [AP]
     refine takA (i := 13) (d := some 7) (v := .int .i64 0) hS ?_
     simp only [AP]
     refine takA (i := 14) (d := some 8) (v := .bool false) hS ?_
     simp only [AP]
     refine wpAnyH_done (by kernel_rfl) ?_ _
     have HB5 : Hid (B3 w _ ax ay bx by' cx cy) := ⟨hS.1, hS.2.1, hS.2.2.1, hS.2.2.2.1, hS.2.2.2.2.1, hS.2.2.2.2.2.1, hS.2.2.2.2.2.2⟩
     clear hS ha0 ha1 hb0 hb1 hc0 hc1
     go_wp2_with fail
     refine wp_region_held_drew (S := (fun W => W.cell? ⟨w.heap.size, 0, none⟩ = some (.float .f64 ax) ∧ W.cell? ⟨w.heap.size, 1, none⟩ = some (.float .f64 ay) ∧ W.cell? ⟨w.heap.size + 1, 0, none⟩ = some (.float .f64 bx) ∧ W.cell? ⟨w.heap.size + 1, 1, none⟩ = some (.float .f64 by') ∧ W.cell? ⟨w.heap.size + 1 + 1, 0, none⟩ = some (.float .f64 cx) ∧ W.cell? ⟨w.heap.size + 1 + 1, 1, none⟩ = some (.float .f64 cy) ∧ Below w.heap.size w W)) (by kernel_rfl) ⟨HB5.out.a0, HB5.out.a1, HB5.out.b0, HB5.out.b1, HB5.out.c0, HB5.out.c1, HB5.out.bel.drew⟩ (fun hS => ?_)
     refine takA (i := 0) (d := some 30) (v := .agg #[.float .f64 cx, .float .f64 cy]) hS ?_
     simp only [AP]
     refine takA (i := 1) (d := some 31) (v := .agg #[.float .f64 ax, .float .f64 ay]) hS ?_
     simp only [AP]
     refine takA (i := 3) (d := some 33) (v := .agg #[.float .f64 cx, .float .f64 cy]) hS ?_
     simp only [AP]
     refine takA (i := 4) (d := some 34) (v := .agg #[.float .f64 bx, .float .f64 by']) hS ?_
     simp only [AP]
     refine calA 2 fun KF hK => ?_
     go_simp
     refine (way_any cx cy ax ay _ (HT.out.later hS.2.2.2.2.2.2) HF.out.1).mono ?_
     rintro e wx ⟨aE, nE, cE, lE, gE, oE, aF, nF, cF, lF, gF, oF, rfl, hnE, hnF, hbx⟩
     go_wp2_with fail
     refine hK.out _ _ (kp6 hbx hS) ?_
     clear hS hbx
     intro hS
     clear hK KF
     try simp only [AP]
     refine calA 5 fun KF hK => ?_
     go_simp
     refine (way_any cx cy bx by' _ (HT.out.later hS.2.2.2.2.2.2) HF.out.2).mono ?_
     rintro e wx ⟨aH, nH, cH, lH, gH, oH, aI, nI, cI, lI, gI, oI, rfl, hnH, hnI, hbx⟩
     replace hnE := hnE.later hbx
     replace hnF := hnF.later hbx
     go_wp2_with fail
     refine hK.out _ _ (kp6 hbx hS) ?_
     clear hS hbx
     intro hS
     clear hK KF
     try simp only [AP]
     refine calA 6 fun KF hK => ?_
     go_simp
     refine (product_any _ _ _ _ _ _ _ _ _ _ _ _ _ _ _ _ _ _ _ _ _ _ _ _ _ (HT.out.later hS.2.2.2.2.2.2) hnE hnF hnH hnI (HY.out.1.may HY.out.2.2.1) (HY.out.2.1.may HY.out.2.2.2) (HY.out.1.may2 HY.out.2.2.1 HY.out.2.1 HY.out.2.2.2)).mono ?_
     rintro e wx ⟨aJ, nJ, cJ, lJ, gJ, oJ, rfl, hnJ, hbx⟩
     go_wp2_with fail
     refine hK.out _ _ (kp6 hbx hS) ?_
     clear hS hbx
     intro hS
     clear hK KF
     try simp only [AP]
     refine calA 7 fun KF hK => ?_
     go_simp
     have hc := signQ hnJ
     rw [HZ2.out] at hc
     refine hc.mono ?_
     rintro e wx ⟨rfl, hbx⟩
     clear hc
     go_wp2_with fail
     refine hK.out _ _ (kp6 hbx hS) ?_
     clear hS hbx
     intro hS
     clear hK KF
     try simp only [AP]
     refine takA (i := 8) (d := some 6) (v := .int .i64 z) hS ?_
     simp only [AP]
     refine wpAnyH_done (by kernel_rfl) ?_ _
     have HBE : Hid (Below w.heap.size w _) := hS.2.2.2.2.2.2
     clear hS hnE hnF hnH hnI hnJ
     go_wp2
     go_ret
     exact ⟨rfl, HBE.out⟩
   · refine wp_region_held_drew (S := (fun W => W.cell? ⟨w.heap.size, 0, none⟩ = some (.float .f64 ax) ∧ W.cell? ⟨w.heap.size, 1, none⟩ = some (.float .f64 ay) ∧ W.cell? ⟨w.heap.size + 1, 0, none⟩ = some (.float .f64 bx) ∧ W.cell? ⟨w.heap.size + 1, 1, none⟩ = some (.float .f64 by') ∧ W.cell? ⟨w.heap.size + 1 + 1, 0, none⟩ = some (.float .f64 cx) ∧ W.cell? ⟨w.heap.size + 1 + 1, 1, none⟩ = some (.float .f64 cy) ∧ Below w.heap.size w W)) (by kernel_rfl) ⟨ha0, ha1, hb0, hb1, hc0, hc1, HB1.out.drew⟩ (fun hS => ?_)
     refine takA (i := 0) (d := some 16) (v := .agg #[.float .f64 cx, .float .f64 cy]) hS ?_
     simp only [AP]
     refine takA (i := 1) (d := some 17) (v := .agg #[.float .f64 ax, .float .f64 ay]) hS ?_
     simp only [AP]
     refine takA (i := 3) (d := some 19) (v := .agg #[.float .f64 cx, .float .f64 cy]) hS ?_
     simp only [AP]
     refine takA (i := 4) (d := some 20) (v := .agg #[.float .f64 bx, .float .f64 by']) hS ?_
     simp only [AP]
     refine calA 2 fun KF hK => ?_
     go_simp
     refine (nearWay_is cx cy ax ay x1 y1 _ HE.out.1 HE.out.2.1).mono ?_
     rintro e wx ⟨rfl, hbx⟩
     go_wp2_with fail
     refine hK.out _ _ (kp6 hbx hS) ?_
     clear hS hbx
     intro hS
     clear hK KF
     try simp only [AP]
     refine calA 5 fun KF hK => ?_
     go_simp
     refine (nearWay_is cx cy bx by' x2 y2 _ HE.out.2.2.1 HE.out.2.2.2.1).mono ?_
     rintro e wx ⟨rfl, hbx⟩
     go_wp2_with fail
     refine hK.out _ _ (kp6 hbx hS) ?_
     clear hS hbx
     intro hS
     clear hK KF
     try simp only [AP]
     refine calA 6 fun KF hK => ?_
     go_simp
     refine (nearProduct_is x1 y1 x2 y2 s zz _ HE.out.2.2.2.2).mono ?_
     rintro e wx ⟨rfl, hbx⟩
     go_wp2_with fail
     refine hK.out _ _ (kp6 hbx hS) ?_
     clear hS hbx
     intro hS
     clear hK KF
     try simp only [AP]
     refine takA (i := 7) (d := some 23) (v := .float .f64 s) hS ?_
     simp only [AP]
     refine takA (i := 8) (d := some 24) (v := .float .f64 zz) hS ?_
     simp only [AP]
     refine calA 9 fun KF hK => ?_
     go_simp
     have hc := told_yes s zz v wx HX.out.1 HX.out.2.1 HX.out.2.2.1 ht2.out
     rw [HX.out.2.2.2 (by simp)] at hc
     refine hc.mono ?_
     rintro e wx ⟨rfl, hbx⟩
     subst hbx
     clear hc
     have hbx := True.intro
     go_wp2_with fail
     refine hK.out _ _ hS ?_
     clear hS hbx
     intro hS
     clear hK KF
     try simp only [AP]
     refine takA (i := 10) (d := some 15) (v := .tuple #[.int .i64 z, .bool true]) hS ?_
     simp only [AP]
     refine takA (i := 11) (d := some 26) (v := .int .i64 z) hS ?_
     simp only [AP]
     refine takA (i := 12) (d := some 27) (v := .bool true) hS ?_
     simp only [AP]
     refine takA (i := 13) (d := some 7) (v := .int .i64 z) hS ?_
     simp only [AP]
     refine takA (i := 14) (d := some 8) (v := .bool true) hS ?_
     simp only [AP]
     refine wpAnyH_done (by kernel_rfl) ?_ _
     have HB5 : Hid (B3 w _ ax ay bx by' cx cy) := ⟨hS.1, hS.2.1, hS.2.2.1, hS.2.2.2.1, hS.2.2.2.2.1, hS.2.2.2.2.2.1, hS.2.2.2.2.2.2⟩
     clear hS ha0 ha1 hb0 hb1 hc0 hc1
     go_wp2
     go_ret
     exact ⟨rfl, HB5.out.bel⟩
end Go.Proofs.YtocnkgfoffpbfaaGreatDoor
