/- Own texts, put together: Gl Gm. -/
import Derived.Test.YtocnkgfoffpbfaaGreatDoorQ3
import Derived.Test.YtocnkgfoffpbfaaGreatDoorQ43
/- Angles and areas: Dot, Area. -/
namespace Go.Proofs.YtocnkgfoffpbfaaGreatDoor
open Go.RowKit Go.Shelf
attribute [local go_sem ↓] Go.wp_at_zero Go.wp_at_succ
attribute [local go_sem] run_store_float

theorem B3.drew {w W : World} {ax ay bx by' cx cy : Nat} (h : B3 w W ax ay bx by' cx cy) : B3 w W.drew ax ay bx by' cx cy := h.later (Below.refl _ W).drew
noncomputable def gdot (ax ay bx by' cx cy : Nat) : Int := @ite _ (P3 ax ay bx by' cx cy) (Classical.propDecidable _) (sgq (dotR (fval ax) (fval ay) (fval bx) (fval by') (fval cx) (fval cy))) 0
theorem gdot_yes {ax ay bx by' cx cy : Nat} (h : P3 ax ay bx by' cx cy) : gdot ax ay bx by' cx cy = sgq (dotR (fval ax) (fval ay) (fval bx) (fval by') (fval cx) (fval cy)) := by unfold gdot; rw [if_pos h]
theorem gdot_no {ax ay bx by' cx cy : Nat} (h : ¬ P3 ax ay bx by' cx cy) : gdot ax ay bx by' cx cy = 0 := by unfold gdot; rw [if_neg h]

set_option maxRecDepth 100000 in
set_option maxHeartbeats 4000000 in
theorem gdot_any (ax ay bx by' cx cy : Nat) (w : World) (z : Int) (hT : Tab w) (hw : W6 ax ay bx by' cx cy) (hz : gdot ax ay bx by' cx cy = z) :
   Calls Tryz.prog 11 #[pv ax ay, pv bx by', pv cx cy] w fun e w' => e = .returned (.int .i64 z) ∧ Below w.heap.size w w' := by
 have HT : Hid (Tab w) := hT
 have HW : Hid (W6 ax ay bx by' cx cy) := hw
 have HZ0 : Hid (gdot ax ay bx by' cx cy = z) := hz
 clear hT hw hz
 go_enter Tryz.func11, Tryz.ntmps11
 go_wp2_with fail
 refine (has3' ax ay bx by' cx cy ax ay bx by' cx cy w HW.out).mono ?_
 rintro e w1 ⟨⟨t, rfl, ht⟩, hB⟩
 have HB1 : Hid (Below w.heap.size w w1) := hB.bel
 have HTt : Hid (t = true ↔ P3 ax ay bx by' cx cy) := ht
 clear ht
 cases t
 · clear hB
   go_wp2
   go_ret
   have e0 : z = 0 := by rw [← HZ0.out]; exact gdot_no (fun h => Bool.noConfusion (HTt.out.2 h))
   exact ⟨by rw [e0]; rfl, HB1.out⟩
 · have HP : Hid (P3 ax ay bx by' cx cy) := HTt.out.1 rfl
   have HZ : Hid (sgq (dotR (fval ax) (fval ay) (fval bx) (fval by') (fval cx) (fval cy)) = z) := by rw [← HZ0.out]; exact (gdot_yes HP.out).symm
   have HZ2 : Hid (sgq ((fval ax - fval cx) * (fval bx - fval cx) + (fval ay - fval cy) * (fval by' - fval cy)) = z) := HZ.out
   have wa := HP.out.1.w HW.out.1
   have wb := HP.out.2.1.w HW.out.2.1
   have wc := HP.out.2.2.w HW.out.2.2
   have HF : Hid ((Wfl cx ∧ Wfl cy ∧ Wfl ax ∧ Wfl ay) ∧ Wfl cx ∧ Wfl cy ∧ Wfl bx ∧ Wfl by') := ⟨⟨wc.1, wc.2, wa.1, wa.2⟩, wc.1, wc.2, wb.1, wb.2⟩
   have HY : Hid (Wy (fval ax - fval cx) ∧ Wy (fval ay - fval cy) ∧ Wy (fval bx - fval cx) ∧ Wy (fval by' - fval cy)) := ⟨wy_of wc.1.2 wa.1.2, wy_of wc.2.2 wa.2.2, wy_of wc.1.2 wb.1.2, wy_of wc.2.2 wb.2.2⟩
   obtain ⟨x1, e1, W1⟩ := way_word HP.out.2.2.1 HP.out.1.1
   obtain ⟨y1, e2, W2⟩ := way_word HP.out.2.2.2 HP.out.1.2
   obtain ⟨x2, e3, W3⟩ := way_word HP.out.2.2.1 HP.out.2.1.1
   obtain ⟨y2, e4, W4⟩ := way_word HP.out.2.2.2 HP.out.2.1.2
   obtain ⟨s, zz, Es, Ps, _⟩ := prod2_word W1 W2 W3 W4
   obtain ⟨v, ev, hs⟩ := dot_word Ps
   have HE : Hid (floatBits .sub .f64 ax cx = some x1 ∧ floatBits .sub .f64 ay cy = some y1 ∧ floatBits .sub .f64 bx cx = some x2 ∧ floatBits .sub .f64 by' cy = some y2 ∧ ProdE x1 y1 x2 y2 s zz) := ⟨e1, e2, e3, e4, Es⟩
   obtain ⟨t2, ht2'⟩ : ∃ t, (FloatKind.f64.format.order (frung s) v == some .gt) = t := ⟨_, rfl⟩
   have ht2 : Hid ((FloatKind.f64.format.order (frung s) v == some .gt) = t2) := ht2'
   have HX : Hid (s < 18446744073709551616 ∧ Fin64 s ∧ floatBits .mul .f64 4386506037058863104 zz = some v ∧ (t2 = true → sgq (fval s) = z)) := ⟨Ps.ws, Ps.fs, ev, by rw [← ht2', ← HZ2.out]; exact hs⟩
   clear wa wb wc e1 e2 e3 e4 W1 W2 W3 W4 Es Ps ev hs ht2' HZ0 HTt
   obtain ⟨ha0, ha1, hb0, hb1, hc0, hc1, _⟩ := hB
   go_wp2_with fail
   cases t2
   · refine wp_region_held_drew (S := (fun W => W.cell? ⟨w.heap.size, 0, none⟩ = some (.float .f64 ax) ∧ W.cell? ⟨w.heap.size, 1, none⟩ = some (.float .f64 ay) ∧ W.cell? ⟨w.heap.size + 1, 0, none⟩ = some (.float .f64 bx) ∧ W.cell? ⟨w.heap.size + 1, 1, none⟩ = some (.float .f64 by') ∧ W.cell? ⟨w.heap.size + 1 + 1, 0, none⟩ = some (.float .f64 cx) ∧ W.cell? ⟨w.heap.size + 1 + 1, 1, none⟩ = some (.float .f64 cy) ∧ Below w.heap.size w W)) (by kernel_rfl) ⟨ha0, ha1, hb0, hb1, hc0, hc1, HB1.out.drew⟩ (fun hS => ?_)
     refine takA (i := 0) (d := some 16) (v := .agg #[.float .f64 cx, .float .f64 cy]) hS ?_
     simp only [AP]
     refine takA (i := 1) (d := some 17) (v := .agg #[.float .f64 ax, .float .f64 ay]) hS ?_
     simp only [AP]
     refine takA (i := 3) (d := some 19) (v := .agg #[.float .f64 cx, .float .f64 cy]) hS ?_
     simp only [AP]
     refine takA (i := 4) (d := some 20) (v := .agg #[.float .f64 bx, .float .f64 by']) hS ?_
     simp only [AP]
     refine calA 2 fun KF hK => ?_
     go_simp
     refine (nearWay_is cx cy ax ay x1 y1 _ HE.out.1 HE.out.2.1).mono ?_
     rintro e wx ⟨rfl, hbx⟩

     go_wp2_with fail
     refine hK.out _ _ ⟨box_cell hbx hS.1, box_cell hbx hS.2.1, box_cell hbx hS.2.2.1, box_cell hbx hS.2.2.2.1, box_cell hbx hS.2.2.2.2.1, box_cell hbx hS.2.2.2.2.2.1, below_step hS.2.2.2.2.2.2 hbx⟩ ?_
     clear hS hbx
     intro hS
     clear hK KF
     try simp only [AP]
     refine calA 5 fun KF hK => ?_
     go_simp
     refine (nearWay_is cx cy bx by' x2 y2 _ HE.out.2.2.1 HE.out.2.2.2.1).mono ?_
     rintro e wx ⟨rfl, hbx⟩

     go_wp2_with fail
     refine hK.out _ _ ⟨box_cell hbx hS.1, box_cell hbx hS.2.1, box_cell hbx hS.2.2.1, box_cell hbx hS.2.2.2.1, box_cell hbx hS.2.2.2.2.1, box_cell hbx hS.2.2.2.2.2.1, below_step hS.2.2.2.2.2.2 hbx⟩ ?_
     clear hS hbx
     intro hS
     clear hK KF
     try simp only [AP]
     refine calA 6 fun KF hK => ?_
     go_simp
     refine (nearProduct_is x1 y1 x2 y2 s zz _ HE.out.2.2.2.2).mono ?_
     rintro e wx ⟨rfl, hbx⟩

     go_wp2_with fail
     refine hK.out _ _ ⟨box_cell hbx hS.1, box_cell hbx hS.2.1, box_cell hbx hS.2.2.1, box_cell hbx hS.2.2.2.1, box_cell hbx hS.2.2.2.2.1, box_cell hbx hS.2.2.2.2.2.1, below_step hS.2.2.2.2.2.2 hbx⟩ ?_
     clear hS hbx
     intro hS
     clear hK KF
     try simp only [AP]
     refine takA (i := 7) (d := some 23) (v := .float .f64 s) hS ?_
     simp only [AP]
     refine takA (i := 8) (d := some 24) (v := .float .f64 zz) hS ?_
     simp only [AP]
     refine calA 9 fun KF hK => ?_
     go_simp
     refine (told_no s zz v _ HX.out.1 HX.out.2.2.1 ht2.out).mono ?_
     rintro e wx ⟨rfl, hbx⟩
     subst hbx
     have hbx := True.intro
     go_wp2_with fail
     refine hK.out _ _ hS ?_
     clear hS hbx
     intro hS
     clear hK KF
     try simp only [AP]
     refine takA (i := 10) (d := some 15) (v := .tuple #[.int .i64 0, .bool false]) hS ?_
     simp only [AP]
     refine takA (i := 11) (d := some 26) (v := .int .i64 0) hS ?_
     simp only [AP]
     refine takA (i := 12) (d := some 27) (v := .bool false) hS ?_
     simp only [AP]
     refine takA (i := 13) (d := some 7) (v := .int .i64 0) hS ?_
     simp only [AP]
     refine takA (i := 14) (d := some 8) (v := .bool false) hS ?_
     simp only [AP]
     refine wpAnyH_done (by kernel_rfl) ?_ _
     have HB5 : Hid (B3 w _ ax ay bx by' cx cy) := ⟨hS.1, hS.2.1, hS.2.2.1, hS.2.2.2.1, hS.2.2.2.2.1, hS.2.2.2.2.2.1, hS.2.2.2.2.2.2⟩
     clear hS ha0 ha1 hb0 hb1 hc0 hc1
     go_wp2_with fail
     refine wp_region_held_drew (S := (fun W => W.cell? ⟨w.heap.size, 0, none⟩ = some (.float .f64 ax) ∧ W.cell? ⟨w.heap.size, 1, none⟩ = some (.float .f64 ay) ∧ W.cell? ⟨w.heap.size + 1, 0, none⟩ = some (.float .f64 bx) ∧ W.cell? ⟨w.heap.size + 1, 1, none⟩ = some (.float .f64 by') ∧ W.cell? ⟨w.heap.size + 1 + 1, 0, none⟩ = some (.float .f64 cx) ∧ W.cell? ⟨w.heap.size + 1 + 1, 1, none⟩ = some (.float .f64 cy) ∧ Below w.heap.size w W)) (by kernel_rfl) ⟨HB5.out.a0, HB5.out.a1, HB5.out.b0, HB5.out.b1, HB5.out.c0, HB5.out.c1, HB5.out.bel.drew⟩ (fun hS => ?_)
     refine takA (i := 0) (d := some 30) (v := .agg #[.float .f64 cx, .float .f64 cy]) hS ?_
     simp only [AP]
     refine takA (i := 1) (d := some 31) (v := .agg #[.float .f64 ax, .float .f64 ay]) hS ?_
     simp only [AP]
     refine takA (i := 3) (d := some 33) (v := .agg #[.float .f64 cx, .float .f64 cy]) hS ?_
     simp only [AP]
     refine takA (i := 4) (d := some 34) (v := .agg #[.float .f64 bx, .float .f64 by']) hS ?_
     simp only [AP]
     refine calA 2 fun KF hK => ?_
     go_simp
     refine (way_any cx cy ax ay _ (HT.out.later hS.2.2.2.2.2.2) HF.out.1).mono ?_
     rintro e wx ⟨aE, nE, cE, lE, gE, oE, aF, nF, cF, lF, gF, oF, rfl, hnE, hnF, hbx⟩

     go_wp2_with fail
     refine hK.out _ _ ⟨box_cell hbx hS.1, box_cell hbx hS.2.1, box_cell hbx hS.2.2.1, box_cell hbx hS.2.2.2.1, box_cell hbx hS.2.2.2.2.1, box_cell hbx hS.2.2.2.2.2.1, below_step hS.2.2.2.2.2.2 hbx⟩ ?_
     clear hS hbx
     intro hS
     clear hK KF
     try simp only [AP]
     refine calA 5 fun KF hK => ?_
     go_simp
     refine (way_any cx cy bx by' _ (HT.out.later hS.2.2.2.2.2.2) HF.out.2).mono ?_
     rintro e wx ⟨aH, nH, cH, lH, gH, oH, aI, nI, cI, lI, gI, oI, rfl, hnH, hnI, hbx⟩
     replace hnE := hnE.later hbx
     replace hnF := hnF.later hbx
     go_wp2_with fail
     refine hK.out _ _ ⟨box_cell hbx hS.1, box_cell hbx hS.2.1, box_cell hbx hS.2.2.1, box_cell hbx hS.2.2.2.1, box_cell hbx hS.2.2.2.2.1, box_cell hbx hS.2.2.2.2.2.1, below_step hS.2.2.2.2.2.2 hbx⟩ ?_
     clear hS hbx
     intro hS
     clear hK KF
     try simp only [AP]
     refine calA 6 fun KF hK => ?_
     go_simp
     refine (product_any _ _ _ _ _ _ _ _ _ _ _ _ _ _ _ _ _ _ _ _ _ _ _ _ _ (HT.out.later hS.2.2.2.2.2.2) hnE hnF hnH hnI (HY.out.1.may HY.out.2.2.1) (HY.out.2.1.may HY.out.2.2.2) (HY.out.1.may2 HY.out.2.2.1 HY.out.2.1 HY.out.2.2.2)).mono ?_
     rintro e wx ⟨aJ, nJ, cJ, lJ, gJ, oJ, rfl, hnJ, hbx⟩

     go_wp2_with fail
     refine hK.out _ _ ⟨box_cell hbx hS.1, box_cell hbx hS.2.1, box_cell hbx hS.2.2.1, box_cell hbx hS.2.2.2.1, box_cell hbx hS.2.2.2.2.1, box_cell hbx hS.2.2.2.2.2.1, below_step hS.2.2.2.2.2.2 hbx⟩ ?_
     clear hS hbx
     intro hS
     clear hK KF
     try simp only [AP]
     refine calA 7 fun KF hK => ?_
     go_simp
     have hc := signQ hnJ
     rw [HZ2.out] at hc
     refine hc.mono ?_
     rintro e wx ⟨rfl, hbx⟩
     clear hc
     go_wp2_with fail
     refine hK.out _ _ ⟨box_cell hbx hS.1, box_cell hbx hS.2.1, box_cell hbx hS.2.2.1, box_cell hbx hS.2.2.2.1, box_cell hbx hS.2.2.2.2.1, box_cell hbx hS.2.2.2.2.2.1, below_step hS.2.2.2.2.2.2 hbx⟩ ?_
     clear hS hbx
     intro hS
     clear hK KF
     try simp only [AP]
     refine takA (i := 8) (d := some 6) (v := .int .i64 z) hS ?_
     simp only [AP]
     refine wpAnyH_done (by kernel_rfl) ?_ _
     have HBE : Hid (Below w.heap.size w _) := hS.2.2.2.2.2.2
     clear hS hnE hnF hnH hnI hnJ
     go_wp2
     go_ret
     exact ⟨rfl, HBE.out⟩
   · refine wp_region_held_drew (S := (fun W => W.cell? ⟨w.heap.size, 0, none⟩ = some (.float .f64 ax) ∧ W.cell? ⟨w.heap.size, 1, none⟩ = some (.float .f64 ay) ∧ W.cell? ⟨w.heap.size + 1, 0, none⟩ = some (.float .f64 bx) ∧ W.cell? ⟨w.heap.size + 1, 1, none⟩ = some (.float .f64 by') ∧ W.cell? ⟨w.heap.size + 1 + 1, 0, none⟩ = some (.float .f64 cx) ∧ W.cell? ⟨w.heap.size + 1 + 1, 1, none⟩ = some (.float .f64 cy) ∧ Below w.heap.size w W)) (by kernel_rfl) ⟨ha0, ha1, hb0, hb1, hc0, hc1, HB1.out.drew⟩ (fun hS => ?_)
     refine takA (i := 0) (d := some 16) (v := .agg #[.float .f64 cx, .float .f64 cy]) hS ?_
     simp only [AP]
     refine takA (i := 1) (d := some 17) (v := .agg #[.float .f64 ax, .float .f64 ay]) hS ?_
     simp only [AP]
     refine takA (i := 3) (d := some 19) (v := .agg #[.float .f64 cx, .float .f64 cy]) hS ?_
     simp only [AP]
     refine takA (i := 4) (d := some 20) (v := .agg #[.float .f64 bx, .float .f64 by']) hS ?_
     simp only [AP]
     refine calA 2 fun KF hK => ?_
     go_simp
     refine (nearWay_is cx cy ax ay x1 y1 _ HE.out.1 HE.out.2.1).mono ?_
     rintro e wx ⟨rfl, hbx⟩

     go_wp2_with fail
     refine hK.out _ _ ⟨box_cell hbx hS.1, box_cell hbx hS.2.1, box_cell hbx hS.2.2.1, box_cell hbx hS.2.2.2.1, box_cell hbx hS.2.2.2.2.1, box_cell hbx hS.2.2.2.2.2.1, below_step hS.2.2.2.2.2.2 hbx⟩ ?_
     clear hS hbx
     intro hS
     clear hK KF
     try simp only [AP]
     refine calA 5 fun KF hK => ?_
     go_simp
     refine (nearWay_is cx cy bx by' x2 y2 _ HE.out.2.2.1 HE.out.2.2.2.1).mono ?_
     rintro e wx ⟨rfl, hbx⟩

     go_wp2_with fail
     refine hK.out _ _ ⟨box_cell hbx hS.1, box_cell hbx hS.2.1, box_cell hbx hS.2.2.1, box_cell hbx hS.2.2.2.1, box_cell hbx hS.2.2.2.2.1, box_cell hbx hS.2.2.2.2.2.1, below_step hS.2.2.2.2.2.2 hbx⟩ ?_
     clear hS hbx
     intro hS
     clear hK KF
     try simp only [AP]
     refine calA 6 fun KF hK => ?_
     go_simp
     refine (nearProduct_is x1 y1 x2 y2 s zz _ HE.out.2.2.2.2).mono ?_
     rintro e wx ⟨rfl, hbx⟩

     go_wp2_with fail
     refine hK.out _ _ ⟨box_cell hbx hS.1, box_cell hbx hS.2.1, box_cell hbx hS.2.2.1, box_cell hbx hS.2.2.2.1, box_cell hbx hS.2.2.2.2.1, box_cell hbx hS.2.2.2.2.2.1, below_step hS.2.2.2.2.2.2 hbx⟩ ?_
     clear hS hbx
     intro hS
     clear hK KF
     try simp only [AP]
     refine takA (i := 7) (d := some 23) (v := .float .f64 s) hS ?_
     simp only [AP]
     refine takA (i := 8) (d := some 24) (v := .float .f64 zz) hS ?_
     simp only [AP]
     refine calA 9 fun KF hK => ?_
     go_simp
     have hc := told_yes s zz v wx HX.out.1 HX.out.2.1 HX.out.2.2.1 ht2.out
     rw [HX.out.2.2.2 (by simp)] at hc
     refine hc.mono ?_
     rintro e wx ⟨rfl, hbx⟩
     subst hbx
     clear hc
     have hbx := True.intro
     go_wp2_with fail
     refine hK.out _ _ hS ?_
     clear hS hbx
     intro hS
     clear hK KF
     try simp only [AP]
     refine takA (i := 10) (d := some 15) (v := .tuple #[.int .i64 z, .bool true]) hS ?_
     simp only [AP]
     refine takA (i := 11) (d := some 26) (v := .int .i64 z) hS ?_
     simp only [AP]
     refine takA (i := 12) (d := some 27) (v := .bool true) hS ?_
     simp only [AP]
     refine takA (i := 13) (d := some 7) (v := .int .i64 z) hS ?_
     simp only [AP]
     refine takA (i := 14) (d := some 8) (v := .bool true) hS ?_
     simp only [AP]
     refine wpAnyH_done (by kernel_rfl) ?_ _
     have HB5 : Hid (B3 w _ ax ay bx by' cx cy) := ⟨hS.1, hS.2.1, hS.2.2.1, hS.2.2.2.1, hS.2.2.2.2.1, hS.2.2.2.2.2.1, hS.2.2.2.2.2.2⟩
     clear hS ha0 ha1 hb0 hb1 hc0 hc1
     go_wp2
     go_ret
     exact ⟨rfl, HB5.out.bel⟩

end Go.Proofs.YtocnkgfoffpbfaaGreatDoor

/- Areas: Area. -/
namespace Go.Proofs.YtocnkgfoffpbfaaGreatDoor
open Go.RowKit Go.Shelf
attribute [local go_sem ↓] Go.wp_at_zero Go.wp_at_succ
attribute [local go_sem] run_store_float

def tw (ax ay bx by' cx cy : Nat) : Rat := (fval bx - fval ax) * (fval cy - fval ay) + (fval by' - fval ay) * -(fval cx - fval ax)
noncomputable def garea (ax ay bx by' cx cy g : Nat) : Int := @ite _ (P3 ax ay bx by' cx cy ∧ Fin64 g) (Classical.propDecidable _) (sgq (ab (tw ax ay bx by' cx cy) - 2 * fval g)) 0
theorem garea_yes {ax ay bx by' cx cy g : Nat} (h : P3 ax ay bx by' cx cy ∧ Fin64 g) : garea ax ay bx by' cx cy g = sgq (ab (tw ax ay bx by' cx cy) - 2 * fval g) := by unfold garea; rw [if_pos h]
theorem garea_no {ax ay bx by' cx cy g : Nat} (h : ¬ (P3 ax ay bx by' cx cy ∧ Fin64 g)) : garea ax ay bx by' cx cy g = 0 := by unfold garea; rw [if_neg h]

set_option maxRecDepth 100000 in
set_option maxHeartbeats 4000000 in
theorem garea_any (ax ay bx by' cx cy g : Nat) (w : World) (z : Int) (hT : Tab w) (hw : W6 ax ay bx by' cx cy) (hg : g < 18446744073709551616) (hz : garea ax ay bx by' cx cy g = z) :
   Calls Tryz.prog 14 #[pv ax ay, pv bx by', pv cx cy, .float .f64 g] w fun e w' => e = .returned (.int .i64 z) ∧ Below w.heap.size w w' := by
 have HT : Hid (Tab w) := hT
 have HW : Hid (W6 ax ay bx by' cx cy) := hw
 have HZ0 : Hid (garea ax ay bx by' cx cy g = z) := hz
 have HGw : Hid (g < 18446744073709551616) := hg
 clear hT hw hz hg
 go_enter Tryz.func14, Tryz.ntmps14
 go_wp2_with fail
 refine (has3' ax ay bx by' cx cy ax ay bx by' cx cy w HW.out).mono ?_
 rintro e w1 ⟨⟨t, rfl, ht⟩, hB⟩
 have HB1 : Hid (Below w.heap.size w w1) := hB.bel
 have HTt : Hid (t = true ↔ P3 ax ay bx by' cx cy) := ht
 clear ht
 cases t
 · clear hB
   go_wp2
   go_ret
   have e0 : z = 0 := by rw [← HZ0.out]; exact garea_no (fun h => Bool.noConfusion (HTt.out.2 h.1))
   exact ⟨by rw [e0]; rfl, HB1.out⟩
 · have HP : Hid (P3 ax ay bx by' cx cy) := HTt.out.1 rfl
   clear HTt
   go_wp2_with fail
   refine (finite_any g _ HGw.out).mono ?_
   rintro e wx ⟨⟨tg, rfl, htg⟩, hbx⟩
   subst hbx
   have HTg : Hid (tg = true ↔ Fin64 g) := htg
   clear htg
   cases tg
   · clear hB
     go_wp2
     go_ret
     have e0 : z = 0 := by rw [← HZ0.out]; exact garea_no (fun h => Bool.noConfusion (HTg.out.2 h.2))
     exact ⟨by rw [e0]; rfl, HB1.out⟩
   · have HG : Hid (g < 18446744073709551616 ∧ Fin64 g) := ⟨HGw.out, HTg.out.1 (by simp)⟩
     have HZ : Hid (sgq (ab (tw ax ay bx by' cx cy) - 2 * fval g) = z) := by rw [← HZ0.out]; exact (garea_yes ⟨HP.out, HG.out.2⟩).symm
     have HMg : Hid (May (2 * fval g)) := by
       have h2 : 2 * fval g = fval g + fval g := by grind
       show May _
       rw [h2]
       exact ((fval_bd HG.out.2).add (fval_bd HG.out.2)).may (by omega) (by omega)
     have wa := HP.out.1.w HW.out.1
     have wb := HP.out.2.1.w HW.out.2.1
     have wc := HP.out.2.2.w HW.out.2.2
     have HF : Hid ((Wfl ax ∧ Wfl ay ∧ Wfl bx ∧ Wfl by') ∧ Wfl ax ∧ Wfl ay ∧ Wfl cx ∧ Wfl cy) := ⟨⟨wa.1, wa.2, wb.1, wb.2⟩, wa.1, wa.2, wc.1, wc.2⟩
     have HY : Hid (Wy (fval bx - fval ax) ∧ Wy (fval by' - fval ay) ∧ Wy (-(fval cx - fval ax)) ∧ Wy (fval cy - fval ay)) := ⟨wy_of wa.1.2 wb.1.2, wy_of wa.2.2 wb.2.2, (wy_of wa.1.2 wc.1.2).neg, wy_of wa.2.2 wc.2.2⟩
     obtain ⟨x1, e1, W1⟩ := way_word HP.out.1.1 HP.out.2.1.1
     obtain ⟨y1, e2, W2⟩ := way_word HP.out.1.2 HP.out.2.1.2
     obtain ⟨x2, e3, W3⟩ := way_word HP.out.1.1 HP.out.2.2.1
     obtain ⟨y2, e4, W4⟩ := way_word HP.out.1.2 HP.out.2.2.2
     obtain ⟨s, zz, Es, Ps, _⟩ := prod2_word W1 W2 W4 W3.flip
     obtain ⟨a, hz, x, z3, v, ea, eh, ex, ez, ev, fx, wx', hs⟩ := area_word Ps HG.out.2
     obtain ⟨fx2, hfx'⟩ : ∃ f, fflip x2 = f := ⟨_, rfl⟩
     have hfx : Hid (fflip x2 = fx2) := hfx'
     rw [hfx'] at Es
     have HE : Hid (floatBits .sub .f64 bx ax = some x1 ∧ floatBits .sub .f64 by' ay = some y1 ∧ floatBits .sub .f64 cx ax = some x2 ∧ floatBits .sub .f64 cy ay = some y2 ∧ x2 < 18446744073709551616 ∧ ProdE x1 y1 y2 fx2 s zz) := ⟨e1, e2, e3, e4, W3.w, Es⟩
     have HAs : Hid (∀ w, Calls Tryz.prog 42 #[.float .f64 s] w fun e w' => e = .returned (.float .f64 (frung s)) ∧ w' = w) := fun w => abs_any s w Ps.ws
     have HAg : Hid (∀ w, Calls Tryz.prog 42 #[.float .f64 g] w fun e w' => e = .returned (.float .f64 (frung g)) ∧ w' = w) := fun w => abs_any g w HG.out.1
     have q1 : ∀ w, (binOp .quo 22 (.float .f64 (frung s)) (.float .f64 4611686018427387904)).run Tryz.prog w = .ok (.float .f64 a) w := fun w => run_float_arith w .quo _ .f64 _ _ _ ea
     have q2 : ∀ w, (binOp .quo 22 (.float .f64 zz) (.float .f64 4611686018427387904)).run Tryz.prog w = .ok (.float .f64 hz) w := fun w => run_float_arith w .quo _ .f64 _ _ _ eh
     have q3 : ∀ w, (binOp .sub 22 (.float .f64 a) (.float .f64 g)).run Tryz.prog w = .ok (.float .f64 x) w := fun w => run_float_arith w .sub _ .f64 _ _ _ ex
     have q4 : ∀ w, (binOp .add 22 (.float .f64 hz) (.float .f64 (frung g))).run Tryz.prog w = .ok (.float .f64 z3) w := fun w => run_float_arith w .add _ .f64 _ _ _ ez
     generalize frung s = fs at *
     generalize frung g = fg at *
     obtain ⟨t2, ht2'⟩ : ∃ t, (FloatKind.f64.format.order (frung x) v == some .gt) = t := ⟨_, rfl⟩
     have ht2 : Hid ((FloatKind.f64.format.order (frung x) v == some .gt) = t2) := ht2'
     have HX : Hid (x < 18446744073709551616 ∧ Fin64 x ∧ floatBits .mul .f64 4386506037058863104 z3 = some v ∧ (t2 = true → sgq (fval x) = z)) := ⟨wx', fx, ev, by rw [← ht2', ← HZ.out]; exact hs⟩
     obtain ⟨sg, hsg'⟩ : ∃ k, sgq (tw ax ay bx by' cx cy) = k := ⟨_, rfl⟩
     have hsg : Hid (sgq (tw ax ay bx by' cx cy) = sg) := hsg'
     obtain ⟨bn, hbn'⟩ : ∃ b, decide (sg < 0) = b := ⟨_, rfl⟩
     have hbn : Hid (decide (sg < 0) = bn) := hbn'
     have sgn : decide (sg < 0) = true → tw ax ay bx by' cx cy < 0 := fun h => by
       have h := of_decide_eq_true h
       rw [← hsg'] at h
       unfold sgq at h
       split at h
       · assumption
       · split at h <;> omega
     have sgp : decide (sg < 0) = false → 0 ≤ tw ax ay bx by' cx cy := fun h => by
       have h := of_decide_eq_false h
       rw [← hsg'] at h
       unfold sgq at h
       split at h
       · omega
       · grind
     have HZn : Hid (decide (sg < 0) = true → sgq (-tw ax ay bx by' cx cy - 2 * fval g) = z) := fun h => by
       rw [← HZ.out, show ab (tw ax ay bx by' cx cy) = -tw ax ay bx by' cx cy by rw [ab, if_pos (sgn h)]]
     have HZp : Hid (decide (sg < 0) = false → sgq (tw ax ay bx by' cx cy - 2 * fval g) = z) := fun h => by
       rw [← HZ.out, ab_pos' (sgp h)]
     clear wa wb wc e1 e2 e3 e4 W1 W2 W3 W4 Es Ps ea eh ex ez ev fx wx' hs ht2' HZ0 HTg hfx' hsg' hbn' sgn sgp
     obtain ⟨ha0, ha1, hb0, hb1, hc0, hc1, _⟩ := hB
     go_wp2_with fail
     refine wp_region_held_drew (S := (fun W => W.cell? ⟨w.heap.size, 0, none⟩ = some (.float .f64 ax) ∧ W.cell? ⟨w.heap.size, 1, none⟩ = some (.float .f64 ay) ∧ W.cell? ⟨w.heap.size + 1, 0, none⟩ = some (.float .f64 bx) ∧ W.cell? ⟨w.heap.size + 1, 1, none⟩ = some (.float .f64 by') ∧ W.cell? ⟨w.heap.size + 1 + 1, 0, none⟩ = some (.float .f64 cx) ∧ W.cell? ⟨w.heap.size + 1 + 1, 1, none⟩ = some (.float .f64 cy) ∧ Below w.heap.size w W)) (by kernel_rfl) ⟨ha0, ha1, hb0, hb1, hc0, hc1, HB1.out.drew⟩ (fun hS => ?_)
     refine takA (i := 0) (d := some 27) (v := .agg #[.float .f64 ax, .float .f64 ay]) hS ?_
     simp only [AP]
     refine takA (i := 1) (d := some 28) (v := .agg #[.float .f64 bx, .float .f64 by']) hS ?_
     simp only [AP]
     refine takA (i := 3) (d := some 30) (v := .agg #[.float .f64 ax, .float .f64 ay]) hS ?_
     simp only [AP]
     refine takA (i := 4) (d := some 31) (v := .agg #[.float .f64 cx, .float .f64 cy]) hS ?_
     simp only [AP]
     refine calA 2 fun KF hK => ?_
     go_simp
     refine (nearWay_is ax ay bx by' x1 y1 _ HE.out.1 HE.out.2.1).mono ?_
     rintro e wx ⟨rfl, hbx⟩

     go_wp2_with fail
     refine hK.out _ _ ⟨box_cell hbx hS.1, box_cell hbx hS.2.1, box_cell hbx hS.2.2.1, box_cell hbx hS.2.2.2.1, box_cell hbx hS.2.2.2.2.1, box_cell hbx hS.2.2.2.2.2.1, below_step hS.2.2.2.2.2.2 hbx⟩ ?_
     clear hS hbx
     intro hS
     clear hK KF
     try simp only [AP]
     refine calA 5 fun KF hK => ?_
     go_simp
     refine (nearWay_is ax ay cx cy x2 y2 _ HE.out.2.2.1 HE.out.2.2.2.1).mono ?_
     rintro e wx ⟨rfl, hbx⟩

     go_wp2_with fail
     refine hK.out _ _ ⟨box_cell hbx hS.1, box_cell hbx hS.2.1, box_cell hbx hS.2.2.1, box_cell hbx hS.2.2.2.1, box_cell hbx hS.2.2.2.2.1, box_cell hbx hS.2.2.2.2.2.1, below_step hS.2.2.2.2.2.2 hbx⟩ ?_
     clear hS hbx
     intro hS
     clear hK KF
     try simp only [AP]
     refine calA 6 fun KF hK => ?_
     go_simp
     have hc := nearAcross_is x2 y2 wx HE.out.2.2.2.2.1
     rw [hfx.out] at hc
     refine hc.mono ?_
     rintro e wx ⟨rfl, hbx⟩
     clear hc
     go_wp2_with fail
     refine hK.out _ _ ⟨box_cell hbx hS.1, box_cell hbx hS.2.1, box_cell hbx hS.2.2.1, box_cell hbx hS.2.2.2.1, box_cell hbx hS.2.2.2.2.1, box_cell hbx hS.2.2.2.2.2.1, below_step hS.2.2.2.2.2.2 hbx⟩ ?_
     clear hS hbx
     intro hS
     clear hK KF
     try simp only [AP]
     refine calA 7 fun KF hK => ?_
     go_simp
     refine (nearProduct_is x1 y1 y2 fx2 s zz _ HE.out.2.2.2.2.2).mono ?_
     rintro e wx ⟨rfl, hbx⟩

     go_wp2_with fail
     refine hK.out _ _ ⟨box_cell hbx hS.1, box_cell hbx hS.2.1, box_cell hbx hS.2.2.1, box_cell hbx hS.2.2.2.1, box_cell hbx hS.2.2.2.2.1, box_cell hbx hS.2.2.2.2.2.1, below_step hS.2.2.2.2.2.2 hbx⟩ ?_
     clear hS hbx
     intro hS
     clear hK KF
     try simp only [AP]
     refine takA (i := 8) (d := some 26) (v := .tuple #[.float .f64 s, .float .f64 zz]) hS ?_
     simp only [AP]
     refine takA (i := 9) (d := some 35) (v := .float .f64 s) hS ?_
     simp only [AP]
     refine takA (i := 10) (d := some 36) (v := .float .f64 zz) hS ?_
     simp only [AP]
     refine takA (i := 11) (d := some 9) (v := .float .f64 s) hS ?_
     simp only [AP]
     refine takA (i := 12) (d := some 10) (v := .float .f64 zz) hS ?_
     simp only [AP]
     refine wpAnyH_done (by kernel_rfl) ?_ _
     have HB5 : Hid (B3 w _ ax ay bx by' cx cy) := ⟨hS.1, hS.2.1, hS.2.2.1, hS.2.2.2.1, hS.2.2.2.2.1, hS.2.2.2.2.2.1, hS.2.2.2.2.2.2⟩
     clear hS ha0 ha1 hb0 hb1 hc0 hc1
     go_wp2_with fail
     refine (HAs.out _).mono ?_
     rintro e wx ⟨rfl, hbx⟩
     subst hbx
     go_wp2_with fail
     refine (HAg.out _).mono ?_
     rintro e wx ⟨rfl, hbx⟩
     subst hbx
     go_wp2_with fail
     cases t2
     · refine (told_no x z3 v _ HX.out.1 HX.out.2.2.1 ht2.out).mono ?_
       rintro e wx ⟨rfl, hbx⟩
       subst hbx
       clear q1 q2 q3 q4 HAs HAg
       go_wp2_with fail
       refine wp_region_held_drew (S := (fun W => W.cell? ⟨w.heap.size, 0, none⟩ = some (.float .f64 ax) ∧ W.cell? ⟨w.heap.size, 1, none⟩ = some (.float .f64 ay) ∧ W.cell? ⟨w.heap.size + 1, 0, none⟩ = some (.float .f64 bx) ∧ W.cell? ⟨w.heap.size + 1, 1, none⟩ = some (.float .f64 by') ∧ W.cell? ⟨w.heap.size + 1 + 1, 0, none⟩ = some (.float .f64 cx) ∧ W.cell? ⟨w.heap.size + 1 + 1, 1, none⟩ = some (.float .f64 cy) ∧ Below w.heap.size w W)) (by kernel_rfl) ⟨HB5.out.a0, HB5.out.a1, HB5.out.b0, HB5.out.b1, HB5.out.c0, HB5.out.c1, HB5.out.bel.drew⟩ (fun hS => ?_)
       refine takA (i := 0) (d := some 54) (v := .agg #[.float .f64 ax, .float .f64 ay]) hS ?_
       simp only [AP]
       refine takA (i := 1) (d := some 55) (v := .agg #[.float .f64 bx, .float .f64 by']) hS ?_
       simp only [AP]
       refine takA (i := 3) (d := some 57) (v := .agg #[.float .f64 ax, .float .f64 ay]) hS ?_
       simp only [AP]
       refine takA (i := 4) (d := some 58) (v := .agg #[.float .f64 cx, .float .f64 cy]) hS ?_
       simp only [AP]
       refine frame_named (fun A hA => ?_)
       refine draw1 (f := 1) (n := 4) (al := 8) (fun k => if k = 0 then 2 else if k = 1 then 5 else if k = 2 then 6 else 7) (fun (xb : Bool) (kb : Nat) => #[true, true, decide (1 ≤ kb), true, true, decide (2 ≤ kb), decide (3 ≤ kb), decide (4 ≤ kb), xb, false]) (fun (xb : Bool) (kb : Nat) (aa : Act) (W : World) => ∃ (ea e1 e2 e3 e4 : Value), aa = (((((A.put (some 14) ea).put (some 56) e1).put (some 59) e2).put (some 60) e3).put (some 61) e4) ∧ (W.cell? ⟨w.heap.size, 0, none⟩ = some (.float .f64 ax) ∧ W.cell? ⟨w.heap.size, 1, none⟩ = some (.float .f64 ay) ∧ W.cell? ⟨w.heap.size + 1, 0, none⟩ = some (.float .f64 bx) ∧ W.cell? ⟨w.heap.size + 1, 1, none⟩ = some (.float .f64 by') ∧ W.cell? ⟨w.heap.size + 1 + 1, 0, none⟩ = some (.float .f64 cx) ∧ W.cell? ⟨w.heap.size + 1 + 1, 1, none⟩ = some (.float .f64 cy) ∧ Below w.heap.size w W) ∧ (xb = true → ∃ bb, ea = .pointer (some ⟨bb, 0, none⟩) ∧ NB W bb 0 ∧ w.heap.size + 1 + 1 < bb) ∧ (1 ≤ kb → PF W e1 (fval bx - fval ax) (fval by' - fval ay)) ∧ (2 ≤ kb → PF W e2 (fval cx - fval ax) (fval cy - fval ay)) ∧ (3 ≤ kb → PF W e3 (fval cy - fval ay) (-(fval cx - fval ax))) ∧ (4 ≤ kb → NF W e4 ((fval bx - fval ax) * (fval cy - fval ay) + (fval by' - fval ay) * -(fval cx - fval ax)))) ?_ ?_ ?_ ?_ ?_ ?_ 5 false 0 _ _ (by omega) (by decide) ?_
       · intro xb kb hk hx
         have h5 : kb = 0 ∨ kb = 1 ∨ kb = 2 ∨ kb = 3 ∨ kb = 4 := by omega
         rcases h5 with rfl | rfl | rfl | rfl | rfl <;> cases xb <;> first | exact absurd (hx rfl) (by decide) | (show _ = _; kernel_rfl)
       · intro xb kb hk
         have h5 : kb = 0 ∨ kb = 1 ∨ kb = 2 ∨ kb = 3 := by omega
         rcases h5 with rfl | rfl | rfl | rfl <;> cases xb <;> rfl
       · intro kb hk
         have h5 : kb = 0 ∨ kb = 1 ∨ kb = 2 ∨ kb = 3 ∨ kb = 4 := by omega
         rcases h5 with rfl | rfl | rfl | rfl | rfl <;> rfl
       · intro xb kb hk
         have h5 : kb = 0 ∨ kb = 1 ∨ kb = 2 ∨ kb = 3 := by omega
         rcases h5 with rfl | rfl | rfl | rfl
         · refine ⟨_, rfl, ?_⟩
           intro aa W hI K' hK
           obtain ⟨ea, e1, e2, e3, e4, rfl, hS, hv, k1, k2, k3, k4⟩ := hI
           have HV : Hid (xb = true → ∃ bb, ea = .pointer (some ⟨bb, 0, none⟩) ∧ NB W bb 0 ∧ w.heap.size + 1 + 1 < bb) := hv
           clear hv k1 k2 k3 k4
           rw [hA]
           simp only [AP]
           go_simp
           go_wp2_with fail
           refine (way_any ax ay bx by' _ (HT.out.later hS.2.2.2.2.2.2) HF.out.1).mono ?_
           rintro e wx ⟨aZ, nZ, cZ, lZ, gZ, oZ, aY, nY, cY, lY, gY, oY, rfl, hnew, hnew', hbx⟩
           have hS2 : (fun W => W.cell? ⟨w.heap.size, 0, none⟩ = some (.float .f64 ax) ∧ W.cell? ⟨w.heap.size, 1, none⟩ = some (.float .f64 ay) ∧ W.cell? ⟨w.heap.size + 1, 0, none⟩ = some (.float .f64 bx) ∧ W.cell? ⟨w.heap.size + 1, 1, none⟩ = some (.float .f64 by') ∧ W.cell? ⟨w.heap.size + 1 + 1, 0, none⟩ = some (.float .f64 cx) ∧ W.cell? ⟨w.heap.size + 1 + 1, 1, none⟩ = some (.float .f64 cy) ∧ Below w.heap.size w W) wx := ⟨box_cell hbx hS.1, box_cell hbx hS.2.1, box_cell hbx hS.2.2.1, box_cell hbx hS.2.2.2.1, box_cell hbx hS.2.2.2.2.1, box_cell hbx hS.2.2.2.2.2.1, below_step hS.2.2.2.2.2.2 hbx⟩
           go_wp2_with fail
           exact hK.out _ _ hS2 ⟨ea, _, e2, e3, e4, by rw [hA]; rfl, hS2, fun h => (by obtain ⟨bb, h1, h2, h3⟩ := (HV.out h); exact ⟨bb, h1, h2.later hbx, h3⟩), fun _ => ⟨aZ, nZ, cZ, lZ, gZ, oZ, aY, nY, cY, lY, gY, oY, rfl, hnew, hnew'⟩, fun h => by omega, fun h => by omega, fun h => by omega⟩
         · refine ⟨_, rfl, ?_⟩
           intro aa W hI K' hK
           obtain ⟨ea, e1, e2, e3, e4, rfl, hS, hv, k1, k2, k3, k4⟩ := hI
           have r1 := k1 (by omega)
           have HV : Hid (xb = true → ∃ bb, ea = .pointer (some ⟨bb, 0, none⟩) ∧ NB W bb 0 ∧ w.heap.size + 1 + 1 < bb) := hv
           clear hv k1 k2 k3 k4
           have R1 : Hid (PF W e1 (fval bx - fval ax) (fval by' - fval ay)) := r1
           clear r1
           rw [hA]
           simp only [AP]
           go_simp
           go_wp2_with fail
           refine (way_any ax ay cx cy _ (HT.out.later hS.2.2.2.2.2.2) HF.out.2).mono ?_
           rintro e wx ⟨aZ, nZ, cZ, lZ, gZ, oZ, aY, nY, cY, lY, gY, oY, rfl, hnew, hnew', hbx⟩
           have hS2 : (fun W => W.cell? ⟨w.heap.size, 0, none⟩ = some (.float .f64 ax) ∧ W.cell? ⟨w.heap.size, 1, none⟩ = some (.float .f64 ay) ∧ W.cell? ⟨w.heap.size + 1, 0, none⟩ = some (.float .f64 bx) ∧ W.cell? ⟨w.heap.size + 1, 1, none⟩ = some (.float .f64 by') ∧ W.cell? ⟨w.heap.size + 1 + 1, 0, none⟩ = some (.float .f64 cx) ∧ W.cell? ⟨w.heap.size + 1 + 1, 1, none⟩ = some (.float .f64 cy) ∧ Below w.heap.size w W) wx := ⟨box_cell hbx hS.1, box_cell hbx hS.2.1, box_cell hbx hS.2.2.1, box_cell hbx hS.2.2.2.1, box_cell hbx hS.2.2.2.2.1, box_cell hbx hS.2.2.2.2.2.1, below_step hS.2.2.2.2.2.2 hbx⟩
           go_wp2_with fail
           exact hK.out _ _ hS2 ⟨ea, _, _, e3, e4, by rw [hA]; rfl, hS2, fun h => (by obtain ⟨bb, h1, h2, h3⟩ := (HV.out h); exact ⟨bb, h1, h2.later hbx, h3⟩), fun _ => R1.out.later hbx, fun _ => ⟨aZ, nZ, cZ, lZ, gZ, oZ, aY, nY, cY, lY, gY, oY, rfl, hnew, hnew'⟩, fun h => by omega, fun h => by omega⟩
         · refine ⟨_, rfl, ?_⟩
           intro aa W hI K' hK
           obtain ⟨ea, e1, e2, e3, e4, rfl, hS, hv, k1, k2, k3, k4⟩ := hI
           have r1 := k1 (by omega)
           have r2 := k2 (by omega)
           have HV : Hid (xb = true → ∃ bb, ea = .pointer (some ⟨bb, 0, none⟩) ∧ NB W bb 0 ∧ w.heap.size + 1 + 1 < bb) := hv
           clear hv k1 k2 k3 k4
           have R1 : Hid (PF W e1 (fval bx - fval ax) (fval by' - fval ay)) := r1
           clear r1
           have s2 := r2
           obtain ⟨aH, nH, cH, lH, gH, oH, aI, nI, cI, lI, gI, oI, rfl, hnH, hnI⟩ := s2
           rw [hA]
           simp only [AP]
           go_simp
           go_wp2_with fail
           refine (across_any _ _ _ _ _ _ _ _ _ _ _ _ _ hnH hnI).mono ?_
           rintro e wx ⟨aZ, nZ, cZ, lZ, gZ, oZ, aY, nY, cY, lY, gY, oY, rfl, hnew, hnew', hbx⟩
           have hS2 : (fun W => W.cell? ⟨w.heap.size, 0, none⟩ = some (.float .f64 ax) ∧ W.cell? ⟨w.heap.size, 1, none⟩ = some (.float .f64 ay) ∧ W.cell? ⟨w.heap.size + 1, 0, none⟩ = some (.float .f64 bx) ∧ W.cell? ⟨w.heap.size + 1, 1, none⟩ = some (.float .f64 by') ∧ W.cell? ⟨w.heap.size + 1 + 1, 0, none⟩ = some (.float .f64 cx) ∧ W.cell? ⟨w.heap.size + 1 + 1, 1, none⟩ = some (.float .f64 cy) ∧ Below w.heap.size w W) wx := ⟨box_cell hbx hS.1, box_cell hbx hS.2.1, box_cell hbx hS.2.2.1, box_cell hbx hS.2.2.2.1, box_cell hbx hS.2.2.2.2.1, box_cell hbx hS.2.2.2.2.2.1, below_step hS.2.2.2.2.2.2 hbx⟩
           go_wp2_with fail
           exact hK.out _ _ hS2 ⟨ea, _, _, _, e4, by rw [hA]; rfl, hS2, fun h => (by obtain ⟨bb, h1, h2, h3⟩ := (HV.out h); exact ⟨bb, h1, h2.later hbx, h3⟩), fun _ => R1.out.later hbx, fun _ => r2.later hbx, fun _ => ⟨aZ, nZ, cZ, lZ, gZ, oZ, aY, nY, cY, lY, gY, oY, rfl, hnew, hnew'⟩, fun h => by omega⟩
         · refine ⟨_, rfl, ?_⟩
           intro aa W hI K' hK
           obtain ⟨ea, e1, e2, e3, e4, rfl, hS, hv, k1, k2, k3, k4⟩ := hI
           have r1 := k1 (by omega)
           have r2 := k2 (by omega)
           have r3 := k3 (by omega)
           have HV : Hid (xb = true → ∃ bb, ea = .pointer (some ⟨bb, 0, none⟩) ∧ NB W bb 0 ∧ w.heap.size + 1 + 1 < bb) := hv
           clear hv k1 k2 k3 k4
           have s1 := r1
           obtain ⟨aE, nE, cE, lE, gE, oE, aF, nF, cF, lF, gF, oF, rfl, hnE, hnF⟩ := s1
           have R2 : Hid (PF W e2 (fval cx - fval ax) (fval cy - fval ay)) := r2
           clear r2
           have s3 := r3
           obtain ⟨aJ, nJ, cJ, lJ, gJ, oJ, aK, nK, cK, lK, gK, oK, rfl, hnJ, hnK⟩ := s3
           rw [hA]
           simp only [AP]
           go_simp
           go_wp2_with fail
           refine (product_any _ _ _ _ _ _ _ _ _ _ _ _ _ _ _ _ _ _ _ _ _ _ _ _ _ (HT.out.later hS.2.2.2.2.2.2) hnE hnF hnJ hnK (HY.out.1.may HY.out.2.2.2) (HY.out.2.1.may HY.out.2.2.1) (HY.out.1.may2 HY.out.2.2.2 HY.out.2.1 HY.out.2.2.1)).mono ?_
           rintro e wx ⟨aZ, nZ, cZ, lZ, gZ, oZ, rfl, hnew, hbx⟩
           have hS2 : (fun W => W.cell? ⟨w.heap.size, 0, none⟩ = some (.float .f64 ax) ∧ W.cell? ⟨w.heap.size, 1, none⟩ = some (.float .f64 ay) ∧ W.cell? ⟨w.heap.size + 1, 0, none⟩ = some (.float .f64 bx) ∧ W.cell? ⟨w.heap.size + 1, 1, none⟩ = some (.float .f64 by') ∧ W.cell? ⟨w.heap.size + 1 + 1, 0, none⟩ = some (.float .f64 cx) ∧ W.cell? ⟨w.heap.size + 1 + 1, 1, none⟩ = some (.float .f64 cy) ∧ Below w.heap.size w W) wx := ⟨box_cell hbx hS.1, box_cell hbx hS.2.1, box_cell hbx hS.2.2.1, box_cell hbx hS.2.2.2.1, box_cell hbx hS.2.2.2.2.1, box_cell hbx hS.2.2.2.2.2.1, below_step hS.2.2.2.2.2.2 hbx⟩
           go_wp2_with fail
           exact hK.out _ _ hS2 ⟨ea, _, _, _, _, by rw [hA]; rfl, hS2, fun h => (by obtain ⟨bb, h1, h2, h3⟩ := (HV.out h); exact ⟨bb, h1, h2.later hbx, h3⟩), fun _ => r1.later hbx, fun _ => R2.out.later hbx, fun _ => r3.later hbx, fun _ => ⟨aZ, nZ, cZ, lZ, gZ, oZ, rfl, hnew⟩⟩
       · intro kb hk
         refine ⟨_, rfl, ?_⟩
         intro aa W hI K' hK
         obtain ⟨ea, e1, e2, e3, e4, rfl, hS, hv, k1, k2, k3, k4⟩ := hI
         have HK : Hid ((1 ≤ kb → PF W e1 (fval bx - fval ax) (fval by' - fval ay)) ∧ (2 ≤ kb → PF W e2 (fval cx - fval ax) (fval cy - fval ay)) ∧ (3 ≤ kb → PF W e3 (fval cy - fval ay) (-(fval cx - fval ax))) ∧ (4 ≤ kb → NF W e4 ((fval bx - fval ax) * (fval cy - fval ay) + (fval by' - fval ay) * -(fval cx - fval ax)))) := ⟨k1, k2, k3, k4⟩
         clear hv k1 k2 k3 k4
         have hbx : Below W.heap.size W (W.alloc (.cells #[.slice none 0 0, .int .i64 0, .bool false, .bool false] 49)) := (Below.refl _ W).alloc (Nat.le_refl _) _
         have hlt2 : w.heap.size + 1 + 1 < W.heap.size := World.block_lt_of_cell? _ _ hS.2.2.2.2.1
         have hS2 : (fun W => W.cell? ⟨w.heap.size, 0, none⟩ = some (.float .f64 ax) ∧ W.cell? ⟨w.heap.size, 1, none⟩ = some (.float .f64 ay) ∧ W.cell? ⟨w.heap.size + 1, 0, none⟩ = some (.float .f64 bx) ∧ W.cell? ⟨w.heap.size + 1, 1, none⟩ = some (.float .f64 by') ∧ W.cell? ⟨w.heap.size + 1 + 1, 0, none⟩ = some (.float .f64 cx) ∧ W.cell? ⟨w.heap.size + 1 + 1, 1, none⟩ = some (.float .f64 cy) ∧ Below w.heap.size w W) (W.alloc (.cells #[.slice none 0 0, .int .i64 0, .bool false, .bool false] 49)) := ⟨box_cell hbx hS.1, box_cell hbx hS.2.1, box_cell hbx hS.2.2.1, box_cell hbx hS.2.2.2.1, box_cell hbx hS.2.2.2.2.1, box_cell hbx hS.2.2.2.2.2.1, below_step hS.2.2.2.2.2.2 hbx⟩
         rw [hA]
         simp only [AP]
         go_simp
         go_wp2_with fail
         exact hK.out _ _ hS2 ⟨_, e1, e2, e3, e4, by rw [hA]; rfl, hS2, fun _ => ⟨W.heap.size, rfl, NB.zero W, hlt2⟩, fun h => (HK.out.1 h).later hbx, fun h => (HK.out.2.1 h).later hbx, fun h => (HK.out.2.2.1 h).later hbx, fun h => (HK.out.2.2.2 h).later hbx⟩
       · intro aa W hI
         obtain ⟨ea, e1, e2, e3, e4, rfl, hS, hv, k1, k2, k3, k4⟩ := hI
         replace hv := hv rfl
         have r1 := k1 (by omega)
         have r2 := k2 (by omega)
         have r3 := k3 (by omega)
         have r4 := k4 (by omega)
         clear k1 k2 k3 k4
         obtain ⟨bb, rfl, hNB, hlow⟩ := hv
         obtain ⟨aL, nL, cL, lL, gL, oL, rfl, hnL⟩ := r4
         clear r1 r2 r3
         subst hA
         simp only [AP]
         obtain ⟨_, _, _, _, _, _, ⟨k0, k1, k2, k3⟩, _, hfr⟩ := hNB.cells
         have f0 := hfr 0
         have f1 := hfr 1
         have f2 := hfr 2
         have f3 := hfr 3
         have hP : (fun W' => NB W' (bb) _ ∧ Kept W W' (bb) ∧ IsNum W' (.agg #[.slice aL nL cL, .int .i64 lL, .bool gL, .bool oL]) _ ∧ CB W' (bb) #[.slice aL nL cL, .int .i64 lL, .bool gL, .bool oL] 49) ((((W.setCell ⟨bb, 0, none⟩ (.slice aL nL cL)).setCell ⟨bb, 1, none⟩ (.int .i64 lL)).setCell ⟨bb, 2, none⟩ (.bool gL)).setCell ⟨bb, 3, none⟩ (.bool oL)) := hNB.put' hnL
         have hS2 : (fun W => W.cell? ⟨w.heap.size, 0, none⟩ = some (.float .f64 ax) ∧ W.cell? ⟨w.heap.size, 1, none⟩ = some (.float .f64 ay) ∧ W.cell? ⟨w.heap.size + 1, 0, none⟩ = some (.float .f64 bx) ∧ W.cell? ⟨w.heap.size + 1, 1, none⟩ = some (.float .f64 by') ∧ W.cell? ⟨w.heap.size + 1 + 1, 0, none⟩ = some (.float .f64 cx) ∧ W.cell? ⟨w.heap.size + 1 + 1, 1, none⟩ = some (.float .f64 cy) ∧ Below w.heap.size w W) ((((W.setCell ⟨bb, 0, none⟩ (.slice aL nL cL)).setCell ⟨bb, 1, none⟩ (.int .i64 lL)).setCell ⟨bb, 2, none⟩ (.bool gL)).setCell ⟨bb, 3, none⟩ (.bool oL)) := ⟨Sets.cell (by omega) [(0, .slice aL nL cL), (1, .int .i64 lL), (2, .bool gL), (3, .bool oL)] hS.1, Sets.cell (by omega) [(0, .slice aL nL cL), (1, .int .i64 lL), (2, .bool gL), (3, .bool oL)] hS.2.1, Sets.cell (by omega) [(0, .slice aL nL cL), (1, .int .i64 lL), (2, .bool gL), (3, .bool oL)] hS.2.2.1, Sets.cell (by omega) [(0, .slice aL nL cL), (1, .int .i64 lL), (2, .bool gL), (3, .bool oL)] hS.2.2.2.1, Sets.cell (by omega) [(0, .slice aL nL cL), (1, .int .i64 lL), (2, .bool gL), (3, .bool oL)] hS.2.2.2.2.1, Sets.cell (by omega) [(0, .slice aL nL cL), (1, .int .i64 lL), (2, .bool gL), (3, .bool oL)] hS.2.2.2.2.2.1, Sets.below (by omega) [(0, .slice aL nL cL), (1, .int .i64 lL), (2, .bool gL), (3, .bool oL)] hS.2.2.2.2.2.2⟩
         refine calA 9 fun KF hK => ?_
         go_simp
         go_wp2_with fail
         refine hK.out _ _ hS2 ?_
         clear hS
         intro hS
         clear hK KF k0 k1 k2 k3 f0 f1 f2 f3 hfr
         try simp only [Act.put]
         try simp only [List.setIfInBounds_toArray, List.set_cons_zero, List.set_cons_succ]
         refine wpAnyH_done (by kernel_rfl) ?_ _
         generalize ((((W.setCell ⟨bb, 0, none⟩ (.slice aL nL cL)).setCell ⟨bb, 1, none⟩ (.int .i64 lL)).setCell ⟨bb, 2, none⟩ (.bool gL)).setCell ⟨bb, 3, none⟩ (.bool oL)) = WL at *
         have HN1 : Hid (NB WL bb (tw ax ay bx by' cx cy)) := hP.1
         have HBL : Hid (Below w.heap.size w WL) := hS2.2.2.2.2.2.2
         clear hP hS2 hS hNB hnL
         obtain ⟨aV, nV, cV, lV, gV, oV, ⟨k0, k1, k2, k3⟩, hnV, _⟩ := HN1.out.cells
         have HV : Hid (IsNum WL (.agg #[.slice aV nV cV, .int .i64 lV, .bool gV, .bool oV]) (some (tw ax ay bx by' cx cy))) := hnV
         clear hnV
         go_wp2_with fail
         have hc := signQ HV.out
         rw [hsg.out] at hc
         refine hc.mono ?_
         rintro e w5 ⟨rfl, hb5⟩
         clear hc
         have HN5 : Hid (NB w5 bb (tw ax ay bx by' cx cy)) := HN1.out.later hb5
         have HV5 : Hid (IsNum w5 (.agg #[.slice aV nV cV, .int .i64 lV, .bool gV, .bool oV]) (some (tw ax ay bx by' cx cy))) := HV.out.later hb5
         replace HBL : Hid (Below w.heap.size w w5) := below_step HBL.out hb5
         clear hb5 k0 k1 k2 k3 HN1 HV
         obtain ⟨aV, nV, cV, lV, gV, oV, ⟨k0, k1, k2, k3⟩, hnV, _⟩ := HN5.out.cells
         have HV6 : Hid (IsNum w5 (.agg #[.slice aV nV cV, .int .i64 lV, .bool gV, .bool oV]) (some (tw ax ay bx by' cx cy))) := hnV
         clear hnV HV5
         cases bn
         · have hN : NB w5 bb (tw ax ay bx by' cx cy) := HN5.out
           have hneg := hbn.out
           clear k0 k1 k2 k3 HV6
           obtain ⟨aV, nV, cV, lV, gV, oV, ⟨k0, k1, k2, k3⟩, hnV, _⟩ := hN.cells
           clear hN
           go_wp2_with fail
           replace hnV := hnV.later (Below.refl _ _).drew
           refine wp_region_held_drew (S := (fun W => W.cell? ⟨bb, 0, none⟩ = some (.slice aV nV cV) ∧ W.cell? ⟨bb, 1, none⟩ = some (.int .i64 lV) ∧ W.cell? ⟨bb, 2, none⟩ = some (.bool gV) ∧ W.cell? ⟨bb, 3, none⟩ = some (.bool oV) ∧ Below w.heap.size w W)) (by kernel_rfl) ⟨k0, k1, k2, k3, HBL.out.drew⟩ (fun hS => ?_)
           refine takA (i := 0) (d := some 67) (v := .agg #[.slice aV nV cV, .int .i64 lV, .bool gV, .bool oV]) hS ?_
           simp only [AP]
           refine takA (i := 1) (d := some 68) (v := .float .f64 g) hS ?_
           simp only [AP]
           refine calA 2 fun KF hK => ?_
           go_simp
           refine (ofQ HG.out.1 HG.out.2 (HT.out.later hS.2.2.2.2)).mono ?_
           rintro e wx ⟨aM, nM, cM, lM, gM, oM, rfl, hnM, hbx⟩
           replace hnV := hnV.later hbx
           go_wp2_with fail
           refine hK.out _ _ ⟨box_cell hbx hS.1, box_cell hbx hS.2.1, box_cell hbx hS.2.2.1, box_cell hbx hS.2.2.2.1, below_step hS.2.2.2.2 hbx⟩ ?_
           clear hS hbx
           intro hS
           clear hK KF
           try simp only [AP]
           refine calA 3 fun KF hK => ?_
           go_simp
           refine (shiftQ hnM HMg.out).mono ?_
           rintro e wx ⟨aO, nO, cO, lO, gO, oO, rfl, hnO, hbx⟩
           replace hnV := hnV.later hbx
           go_wp2_with fail
           refine hK.out _ _ ⟨box_cell hbx hS.1, box_cell hbx hS.2.1, box_cell hbx hS.2.2.1, box_cell hbx hS.2.2.2.1, below_step hS.2.2.2.2 hbx⟩ ?_
           clear hS hbx
           intro hS
           clear hK KF
           try simp only [AP]
           refine calA 4 fun KF hK => ?_
           go_simp
           have hc := cmpQ hnV hnO
           rw [HZp.out hneg] at hc
           refine hc.mono ?_
           rintro e wx ⟨rfl, hbx⟩
           clear hc
           go_wp2_with fail
           refine hK.out _ _ ⟨box_cell hbx hS.1, box_cell hbx hS.2.1, box_cell hbx hS.2.2.1, box_cell hbx hS.2.2.2.1, below_step hS.2.2.2.2 hbx⟩ ?_
           clear hS hbx
           intro hS
           clear hK KF
           try simp only [AP]
           refine takA (i := 5) (d := some 8) (v := .int .i64 z) hS ?_
           simp only [AP]
           refine wpAnyH_done (by kernel_rfl) ?_ _
           have HBE : Hid (Below w.heap.size w _) := hS.2.2.2.2
           clear hS hnV hnM hnO
           go_wp2
           go_ret
           exact ⟨rfl, HBE.out⟩
         · have hneg := hbn.out
           go_wp2_with fail
           refine (negQ HV6.out).mono ?_
           rintro e w6 ⟨aX, nX, cX, lX, gX, oX, rfl, hnX, hb6⟩
           have HN6 := HN5.out.later hb6
           replace HBL : Hid (Below w.heap.size w w6) := below_step HBL.out hb6
           clear hb6 k0 k1 k2 k3 HV6 HN5
           obtain ⟨_, _, _, _, _, _, ⟨k0, k1, k2, k3⟩, _, hfr⟩ := HN6.cells
           have f0 := hfr 0
           have f1 := hfr 1
           have f2 := hfr 2
           have f3 := hfr 3
           have hP : (fun W' => NB W' bb _ ∧ Kept w6 W' bb ∧ IsNum W' (.agg #[.slice aX nX cX, .int .i64 lX, .bool gX, .bool oX]) _ ∧ CB W' bb #[.slice aX nX cX, .int .i64 lX, .bool gX, .bool oX] 49) ((((w6.setCell ⟨bb, 0, none⟩ (.slice aX nX cX)).setCell ⟨bb, 1, none⟩ (.int .i64 lX)).setCell ⟨bb, 2, none⟩ (.bool gX)).setCell ⟨bb, 3, none⟩ (.bool oX)) := HN6.put' hnX
           have HPP : Hid ((fun W' => NB W' bb (-(tw ax ay bx by' cx cy)) ∧ Below w.heap.size w W') ((((w6.setCell ⟨bb, 0, none⟩ (.slice aX nX cX)).setCell ⟨bb, 1, none⟩ (.int .i64 lX)).setCell ⟨bb, 2, none⟩ (.bool gX)).setCell ⟨bb, 3, none⟩ (.bool oX))) := ⟨hP.1, hP.2.1.bel _ _ (by omega) HBL.out.size HBL.out⟩
           clear hP HBL
           go_wp2_with fail
           clear k0 k1 k2 k3 f0 f1 f2 f3 hfr HN6 hnX
           generalize ((((w6.setCell ⟨bb, 0, none⟩ (.slice aX nX cX)).setCell ⟨bb, 1, none⟩ (.int .i64 lX)).setCell ⟨bb, 2, none⟩ (.bool gX)).setCell ⟨bb, 3, none⟩ (.bool oX)) = WL at *
           have hN := HPP.out.1
           have HBL : Hid (Below w.heap.size w WL) := HPP.out.2
           clear HPP
           obtain ⟨aV, nV, cV, lV, gV, oV, ⟨k0, k1, k2, k3⟩, hnV, _⟩ := hN.cells
           clear hN
           replace hnV := hnV.later (Below.refl _ _).drew
           refine wp_region_held_drew (S := (fun W => W.cell? ⟨bb, 0, none⟩ = some (.slice aV nV cV) ∧ W.cell? ⟨bb, 1, none⟩ = some (.int .i64 lV) ∧ W.cell? ⟨bb, 2, none⟩ = some (.bool gV) ∧ W.cell? ⟨bb, 3, none⟩ = some (.bool oV) ∧ Below w.heap.size w W)) (by kernel_rfl) ⟨k0, k1, k2, k3, HBL.out.drew⟩ (fun hS => ?_)
           refine takA (i := 0) (d := some 67) (v := .agg #[.slice aV nV cV, .int .i64 lV, .bool gV, .bool oV]) hS ?_
           simp only [AP]
           refine takA (i := 1) (d := some 68) (v := .float .f64 g) hS ?_
           simp only [AP]
           refine calA 2 fun KF hK => ?_
           go_simp
           refine (ofQ HG.out.1 HG.out.2 (HT.out.later hS.2.2.2.2)).mono ?_
           rintro e wx ⟨aM, nM, cM, lM, gM, oM, rfl, hnM, hbx⟩
           replace hnV := hnV.later hbx
           go_wp2_with fail
           refine hK.out _ _ ⟨box_cell hbx hS.1, box_cell hbx hS.2.1, box_cell hbx hS.2.2.1, box_cell hbx hS.2.2.2.1, below_step hS.2.2.2.2 hbx⟩ ?_
           clear hS hbx
           intro hS
           clear hK KF
           try simp only [AP]
           refine calA 3 fun KF hK => ?_
           go_simp
           refine (shiftQ hnM HMg.out).mono ?_
           rintro e wx ⟨aO, nO, cO, lO, gO, oO, rfl, hnO, hbx⟩
           replace hnV := hnV.later hbx
           go_wp2_with fail
           refine hK.out _ _ ⟨box_cell hbx hS.1, box_cell hbx hS.2.1, box_cell hbx hS.2.2.1, box_cell hbx hS.2.2.2.1, below_step hS.2.2.2.2 hbx⟩ ?_
           clear hS hbx
           intro hS
           clear hK KF
           try simp only [AP]
           refine calA 4 fun KF hK => ?_
           go_simp
           have hc := cmpQ hnV hnO
           rw [HZn.out hneg] at hc
           refine hc.mono ?_
           rintro e wx ⟨rfl, hbx⟩
           clear hc
           go_wp2_with fail
           refine hK.out _ _ ⟨box_cell hbx hS.1, box_cell hbx hS.2.1, box_cell hbx hS.2.2.1, box_cell hbx hS.2.2.2.1, below_step hS.2.2.2.2 hbx⟩ ?_
           clear hS hbx
           intro hS
           clear hK KF
           try simp only [AP]
           refine takA (i := 5) (d := some 8) (v := .int .i64 z) hS ?_
           simp only [AP]
           refine wpAnyH_done (by kernel_rfl) ?_ _
           have HBE : Hid (Below w.heap.size w _) := hS.2.2.2.2
           clear hS hnV hnM hnO
           go_wp2
           go_ret
           exact ⟨rfl, HBE.out⟩
       · exact ⟨undef, undef, undef, undef, undef, by rw [hA]; rfl, hS, fun h => Bool.noConfusion h, fun h => by omega, fun h => by omega, fun h => by omega, fun h => by omega⟩
     · refine (told_yes x z3 v _ HX.out.1 HX.out.2.1 HX.out.2.2.1 ht2.out).mono ?_
       rintro e wx ⟨rfl, hbx⟩
       subst hbx
       go_wp2
       go_ret
       exact ⟨by rw [HX.out.2.2.2 (by simp)]; rfl, HB5.out.bel⟩

end Go.Proofs.YtocnkgfoffpbfaaGreatDoor
