/- Own texts, put together: Gm Gq. -/
import Derived.Test.YtocnkgfoffpbfaaGreatDoorQ4
import Derived.Test.YtocnkgfoffpbfaaGreatDoorQ24
import Derived.Test.YtocnkgfoffpbfaaGreatDoorQ30
import Derived.Test.YtocnkgfoffpbfaaGreatDoorQ34
namespace Go.Proofs.YtocnkgfoffpbfaaGreatDoor
/- Areas: Area. -/
section
open Go.RowKit Go.Shelf
attribute [local go_sem ↓] Go.wp_at_zero Go.wp_at_succ
attribute [local go_sem] run_store_float
def tw (ax ay bx by' cx cy : Nat) : Rat := (fval bx - fval ax) * (fval cy - fval ay) + (fval by' - fval ay) * -(fval cx - fval ax)
noncomputable def garea (ax ay bx by' cx cy g : Nat) : Int := @ite _ (P3 ax ay bx by' cx cy ∧ Fin64 g) (Classical.propDecidable _) (sgq (ab (tw ax ay bx by' cx cy) - 2 * fval g)) 0
theorem garea_yes {ax ay bx by' cx cy g : Nat} (h : P3 ax ay bx by' cx cy ∧ Fin64 g) : garea ax ay bx by' cx cy g = sgq (ab (tw ax ay bx by' cx cy) - 2 * fval g) := by unfold garea; rw [if_pos h]
theorem garea_no {ax ay bx by' cx cy g : Nat} (h : ¬ (P3 ax ay bx by' cx cy ∧ Fin64 g)) : garea ax ay bx by' cx cy g = 0 := by unfold garea; rw [if_neg h]
set_option maxRecDepth 100000 in
set_option maxHeartbeats 4000000 in
theorem garea_any (ax ay bx by' cx cy g : Nat) (w : World) (z : Int) (hT : Tab w) (hw : W6 ax ay bx by' cx cy) (hg : g < 18446744073709551616) (hz : garea ax ay bx by' cx cy g = z) :
   Calls Tryz.prog 14 #[pv ax ay, pv bx by', pv cx cy, .float .f64 g] w fun e w' => e = .returned (.int .i64 z) ∧ Below w.heap.size w w' := by
 have HT : Hid (Tab w) := hT
 have HW : Hid (W6 ax ay bx by' cx cy) := hw
 have HZ0 : Hid (garea ax ay bx by' cx cy g = z) := hz
 have HGw : Hid (g < 18446744073709551616) := hg
 clear hT hw hz hg
 go_enter Tryz.func14, Tryz.ntmps14
 go_wp2_with fail
 refine (has3' ax ay bx by' cx cy ax ay bx by' cx cy w HW.out).mono ?_
 rintro e w1 ⟨⟨t, rfl, ht⟩, hB⟩
 have HB1 : Hid (Below w.heap.size w w1) := hB.bel
 have HTt : Hid (t = true ↔ P3 ax ay bx by' cx cy) := ht
 clear ht
 cases t
 · clear hB
   go_wp2
   go_ret
   have e0 : z = 0 := by rw [← HZ0.out]; exact garea_no (fun h => Bool.noConfusion (HTt.out.2 h.1))
   exact ⟨by rw [e0]; rfl, HB1.out⟩
 · have HP : Hid (P3 ax ay bx by' cx cy) := HTt.out.1 rfl
   clear HTt
   go_wp2_with fail
   refine (finite_any g _ HGw.out).mono ?_
   rintro e wx ⟨⟨tg, rfl, htg⟩, hbx⟩
   subst hbx
   have HTg : Hid (tg = true ↔ Fin64 g) := htg
   clear htg
   cases tg
   · clear hB
     go_wp2
     go_ret
     have e0 : z = 0 := by rw [← HZ0.out]; exact garea_no (fun h => Bool.noConfusion (HTg.out.2 h.2))
     exact ⟨by rw [e0]; rfl, HB1.out⟩
   · have HG : Hid (g < 18446744073709551616 ∧ Fin64 g) := ⟨HGw.out, HTg.out.1 (by simp)⟩
     have HZ : Hid (sgq (ab (tw ax ay bx by' cx cy) - 2 * fval g) = z) := by rw [← HZ0.out]; exact (garea_yes ⟨HP.out, HG.out.2⟩).symm
     have HMg : Hid (May (2 * fval g)) := by
       have h2 : 2 * fval g = fval g + fval g := by grind
       show May _
       rw [h2]
       exact ((fval_bd HG.out.2).add (fval_bd HG.out.2)).may (by omega) (by omega)
     have wa := HP.out.1.w HW.out.1
     have wb := HP.out.2.1.w HW.out.2.1
     have wc := HP.out.2.2.w HW.out.2.2
     have HF : Hid ((Wfl ax ∧ Wfl ay ∧ Wfl bx ∧ Wfl by') ∧ Wfl ax ∧ Wfl ay ∧ Wfl cx ∧ Wfl cy) := ⟨⟨wa.1, wa.2, wb.1, wb.2⟩, wa.1, wa.2, wc.1, wc.2⟩
     have HY : Hid (Wy (fval bx - fval ax) ∧ Wy (fval by' - fval ay) ∧ Wy (-(fval cx - fval ax)) ∧ Wy (fval cy - fval ay)) := ⟨wy_of wa.1.2 wb.1.2, wy_of wa.2.2 wb.2.2, (wy_of wa.1.2 wc.1.2).neg, wy_of wa.2.2 wc.2.2⟩
     obtain ⟨x1, e1, W1⟩ := way_word HP.out.1.1 HP.out.2.1.1
     obtain ⟨y1, e2, W2⟩ := way_word HP.out.1.2 HP.out.2.1.2
     obtain ⟨x2, e3, W3⟩ := way_word HP.out.1.1 HP.out.2.2.1
     obtain ⟨y2, e4, W4⟩ := way_word HP.out.1.2 HP.out.2.2.2
     obtain ⟨s, zz, Es, Ps, _⟩ := prod2_word W1 W2 W4 W3.flip
     obtain ⟨a, hz, x, z3, v, ea, eh, ex, ez, ev, fx, wx', hs⟩ := area_word Ps HG.out.2
     obtain ⟨fx2, hfx'⟩ : ∃ f, fflip x2 = f := ⟨_, rfl⟩
     have hfx : Hid (fflip x2 = fx2) := hfx'
     rw [hfx'] at Es
     have HE : Hid (floatBits .sub .f64 bx ax = some x1 ∧ floatBits .sub .f64 by' ay = some y1 ∧ floatBits .sub .f64 cx ax = some x2 ∧ floatBits .sub .f64 cy ay = some y2 ∧ x2 < 18446744073709551616 ∧ ProdE x1 y1 y2 fx2 s zz) := ⟨e1, e2, e3, e4, W3.w, Es⟩
     have HAs : Hid (∀ w, Calls Tryz.prog 42 #[.float .f64 s] w fun e w' => e = .returned (.float .f64 (frung s)) ∧ w' = w) := fun w => abs_any s w Ps.ws
     have HAg : Hid (∀ w, Calls Tryz.prog 42 #[.float .f64 g] w fun e w' => e = .returned (.float .f64 (frung g)) ∧ w' = w) := fun w => abs_any g w HG.out.1
     have q1 : ∀ w, (binOp .quo 22 (.float .f64 (frung s)) (.float .f64 4611686018427387904)).run Tryz.prog w = .ok (.float .f64 a) w := fun w => run_float_arith w .quo _ .f64 _ _ _ ea
     have q2 : ∀ w, (binOp .quo 22 (.float .f64 zz) (.float .f64 4611686018427387904)).run Tryz.prog w = .ok (.float .f64 hz) w := fun w => run_float_arith w .quo _ .f64 _ _ _ eh
     have q3 : ∀ w, (binOp .sub 22 (.float .f64 a) (.float .f64 g)).run Tryz.prog w = .ok (.float .f64 x) w := fun w => run_float_arith w .sub _ .f64 _ _ _ ex
     have q4 : ∀ w, (binOp .add 22 (.float .f64 hz) (.float .f64 (frung g))).run Tryz.prog w = .ok (.float .f64 z3) w := fun w => run_float_arith w .add _ .f64 _ _ _ ez
     generalize frung s = fs at *
     generalize frung g = fg at *
     obtain ⟨t2, ht2'⟩ : ∃ t, (FloatKind.f64.format.order (frung x) v == some .gt) = t := ⟨_, rfl⟩
     have ht2 : Hid ((FloatKind.f64.format.order (frung x) v == some .gt) = t2) := ht2'
     have HX : Hid (x < 18446744073709551616 ∧ Fin64 x ∧ floatBits .mul .f64 4386506037058863104 z3 = some v ∧ (t2 = true → sgq (fval x) = z)) := ⟨wx', fx, ev, by rw [← ht2', ← HZ.out]; exact hs⟩
     obtain ⟨sg, hsg'⟩ : ∃ k, sgq (tw ax ay bx by' cx cy) = k := ⟨_, rfl⟩
     have hsg : Hid (sgq (tw ax ay bx by' cx cy) = sg) := hsg'
     obtain ⟨bn, hbn'⟩ : ∃ b, decide (sg < 0) = b := ⟨_, rfl⟩
     have hbn : Hid (decide (sg < 0) = bn) := hbn'
     have sgn : decide (sg < 0) = true → tw ax ay bx by' cx cy < 0 := fun h => by
       have h := of_decide_eq_true h
       rw [← hsg'] at h
       unfold sgq at h
       split at h
       · assumption
       · split at h <;> omega
     have sgp : decide (sg < 0) = false → 0 ≤ tw ax ay bx by' cx cy := fun h => by
       have h := of_decide_eq_false h
       rw [← hsg'] at h
       unfold sgq at h
       split at h
       · omega
       · grind
     have HZn : Hid (decide (sg < 0) = true → sgq (-tw ax ay bx by' cx cy - 2 * fval g) = z) := fun h => by
       rw [← HZ.out, show ab (tw ax ay bx by' cx cy) = -tw ax ay bx by' cx cy by rw [ab, if_pos (sgn h)]]
     have HZp : Hid (decide (sg < 0) = false → sgq (tw ax ay bx by' cx cy - 2 * fval g) = z) := fun h => by
       rw [← HZ.out, ab_pos' (sgp h)]
     clear wa wb wc e1 e2 e3 e4 W1 W2 W3 W4 Es Ps ea eh ex ez ev fx wx' hs ht2' HZ0 HTg hfx' hsg' hbn' sgn sgp
     obtain ⟨ha0, ha1, hb0, hb1, hc0, hc1, _⟩ := hB
     go_wp2_with fail
     refine wp_region_held_drew (S := (fun W => W.cell? ⟨w.heap.size, 0, none⟩ = some (.float .f64 ax) ∧ W.cell? ⟨w.heap.size, 1, none⟩ = some (.float .f64 ay) ∧ W.cell? ⟨w.heap.size + 1, 0, none⟩ = some (.float .f64 bx) ∧ W.cell? ⟨w.heap.size + 1, 1, none⟩ = some (.float .f64 by') ∧ W.cell? ⟨w.heap.size + 1 + 1, 0, none⟩ = some (.float .f64 cx) ∧ W.cell? ⟨w.heap.size + 1 + 1, 1, none⟩ = some (.float .f64 cy) ∧ Below w.heap.size w W)) (by kernel_rfl) ⟨ha0, ha1, hb0, hb1, hc0, hc1, HB1.out.drew⟩ (fun hS => ?_)
     refine takA (i := 0) (d := some 27) (v := .agg #[.float .f64 ax, .float .f64 ay]) hS ?_
     simp only [AP]
     refine takA (i := 1) (d := some 28) (v := .agg #[.float .f64 bx, .float .f64 by']) hS ?_
     simp only [AP]
     refine takA (i := 3) (d := some 30) (v := .agg #[.float .f64 ax, .float .f64 ay]) hS ?_
     simp only [AP]
     refine takA (i := 4) (d := some 31) (v := .agg #[.float .f64 cx, .float .f64 cy]) hS ?_
     simp only [AP]
     refine calA 2 fun KF hK => ?_
     go_simp
     refine (nearWay_is ax ay bx by' x1 y1 _ HE.out.1 HE.out.2.1).mono ?_
     rintro e wx ⟨rfl, hbx⟩
     go_wp2_with fail
     refine hK.out _ _ (kp6 hbx hS) ?_
     clear hS hbx
     intro hS
     clear hK KF
     try simp only [AP]
     refine calA 5 fun KF hK => ?_
     go_simp
     refine (nearWay_is ax ay cx cy x2 y2 _ HE.out.2.2.1 HE.out.2.2.2.1).mono ?_
     rintro e wx ⟨rfl, hbx⟩
     go_wp2_with fail
     refine hK.out _ _ (kp6 hbx hS) ?_
     clear hS hbx
     intro hS
     clear hK KF
     try simp only [AP]
     refine calA 6 fun KF hK => ?_
     go_simp
     have hc := nearAcross_is x2 y2 wx HE.out.2.2.2.2.1
     rw [hfx.out] at hc
     refine hc.mono ?_
     rintro e wx ⟨rfl, hbx⟩
     clear hc
     go_wp2_with fail
     refine hK.out _ _ (kp6 hbx hS) ?_
     clear hS hbx
     intro hS
     clear hK KF
     try simp only [AP]
     refine calA 7 fun KF hK => ?_
     go_simp
     refine (nearProduct_is x1 y1 y2 fx2 s zz _ HE.out.2.2.2.2.2).mono ?_
     rintro e wx ⟨rfl, hbx⟩
     go_wp2_with fail
     refine hK.out _ _ (kp6 hbx hS) ?_
     clear hS hbx
     intro hS
     clear hK KF
     try simp only [AP]
     refine takA (i := 8) (d := some 26) (v := .tuple #[.float .f64 s, .float .f64 zz]) hS ?_
     simp only [AP]
     refine takA (i := 9) (d := some 35) (v := .float .f64 s) hS ?_
     simp only [AP]
     refine takA (i := 10) (d := some 36) (v := .float .f64 zz) hS ?_
     simp only [AP]
     refine takA (i := 11) (d := some 9) (v := .float .f64 s) hS ?_
     simp only [AP]
     refine takA (i := 12) (d := some 10) (v := .float .f64 zz) hS ?_
     simp only [AP]
     refine wpAnyH_done (by kernel_rfl) ?_ _
     have HB5 : Hid (B3 w _ ax ay bx by' cx cy) := ⟨hS.1, hS.2.1, hS.2.2.1, hS.2.2.2.1, hS.2.2.2.2.1, hS.2.2.2.2.2.1, hS.2.2.2.2.2.2⟩
     clear hS ha0 ha1 hb0 hb1 hc0 hc1
     go_wp2_with fail
     refine (HAs.out _).mono ?_
     rintro e wx ⟨rfl, hbx⟩
     subst hbx
     go_wp2_with fail
     refine (HAg.out _).mono ?_
     rintro e wx ⟨rfl, hbx⟩
     subst hbx
     go_wp2_with fail
     cases t2
     · refine (told_no x z3 v _ HX.out.1 HX.out.2.2.1 ht2.out).mono ?_
       rintro e wx ⟨rfl, hbx⟩
       subst hbx
       clear q1 q2 q3 q4 HAs HAg
       go_wp2_with fail
       refine wp_region_held_drew (S := (fun W => W.cell? ⟨w.heap.size, 0, none⟩ = some (.float .f64 ax) ∧ W.cell? ⟨w.heap.size, 1, none⟩ = some (.float .f64 ay) ∧ W.cell? ⟨w.heap.size + 1, 0, none⟩ = some (.float .f64 bx) ∧ W.cell? ⟨w.heap.size + 1, 1, none⟩ = some (.float .f64 by') ∧ W.cell? ⟨w.heap.size + 1 + 1, 0, none⟩ = some (.float .f64 cx) ∧ W.cell? ⟨w.heap.size + 1 + 1, 1, none⟩ = some (.float .f64 cy) ∧ Below w.heap.size w W)) (by kernel_rfl) ⟨HB5.out.a0, HB5.out.a1, HB5.out.b0, HB5.out.b1, HB5.out.c0, HB5.out.c1, HB5.out.bel.drew⟩ (fun hS => ?_)
       refine takA (i := 0) (d := some 54) (v := .agg #[.float .f64 ax, .float .f64 ay]) hS ?_
       simp only [AP]
       refine takA (i := 1) (d := some 55) (v := .agg #[.float .f64 bx, .float .f64 by']) hS ?_
       simp only [AP]
       refine takA (i := 3) (d := some 57) (v := .agg #[.float .f64 ax, .float .f64 ay]) hS ?_
       simp only [AP]
       refine takA (i := 4) (d := some 58) (v := .agg #[.float .f64 cx, .float .f64 cy]) hS ?_
       simp only [AP]
       refine frame_named (fun A hA => ?_)
       refine draw1 (f := 1) (n := 4) (al := 8) (fun k => if k = 0 then 2 else if k = 1 then 5 else if k = 2 then 6 else 7) (fun (xb : Bool) (kb : Nat) => #[true, true, decide (1 ≤ kb), true, true, decide (2 ≤ kb), decide (3 ≤ kb), decide (4 ≤ kb), xb, false]) (fun (xb : Bool) (kb : Nat) (aa : Act) (W : World) => ∃ (ea e1 e2 e3 e4 : Value), aa = (((((A.put (some 14) ea).put (some 56) e1).put (some 59) e2).put (some 60) e3).put (some 61) e4) ∧ (W.cell? ⟨w.heap.size, 0, none⟩ = some (.float .f64 ax) ∧ W.cell? ⟨w.heap.size, 1, none⟩ = some (.float .f64 ay) ∧ W.cell? ⟨w.heap.size + 1, 0, none⟩ = some (.float .f64 bx) ∧ W.cell? ⟨w.heap.size + 1, 1, none⟩ = some (.float .f64 by') ∧ W.cell? ⟨w.heap.size + 1 + 1, 0, none⟩ = some (.float .f64 cx) ∧ W.cell? ⟨w.heap.size + 1 + 1, 1, none⟩ = some (.float .f64 cy) ∧ Below w.heap.size w W) ∧ (xb = true → ∃ bb, ea = .pointer (some ⟨bb, 0, none⟩) ∧ NB W bb 0 ∧ w.heap.size + 1 + 1 < bb) ∧ (1 ≤ kb → PF W e1 (fval bx - fval ax) (fval by' - fval ay)) ∧ (2 ≤ kb → PF W e2 (fval cx - fval ax) (fval cy - fval ay)) ∧ (3 ≤ kb → PF W e3 (fval cy - fval ay) (-(fval cx - fval ax))) ∧ (4 ≤ kb → NF W e4 ((fval bx - fval ax) * (fval cy - fval ay) + (fval by' - fval ay) * -(fval cx - fval ax)))) ?_ ?_ ?_ ?_ ?_ ?_ 5 false 0 _ _ (by omega) (by decide) ?_
       · intro xb kb hk hx
         have h5 : kb = 0 ∨ kb = 1 ∨ kb = 2 ∨ kb = 3 ∨ kb = 4 := by omega
         rcases h5 with rfl | rfl | rfl | rfl | rfl <;> cases xb <;> first | exact absurd (hx rfl) (by decide) | (show _ = _; kernel_rfl)
       · intro xb kb hk
         have h5 : kb = 0 ∨ kb = 1 ∨ kb = 2 ∨ kb = 3 := by omega
         rcases h5 with rfl | rfl | rfl | rfl <;> cases xb <;> rfl
       · intro kb hk
         have h5 : kb = 0 ∨ kb = 1 ∨ kb = 2 ∨ kb = 3 ∨ kb = 4 := by omega
         rcases h5 with rfl | rfl | rfl | rfl | rfl <;> rfl
       · intro xb kb hk
         have h5 : kb = 0 ∨ kb = 1 ∨ kb = 2 ∨ kb = 3 := by omega
         rcases h5 with rfl | rfl | rfl | rfl
         · refine ⟨_, rfl, ?_⟩
           intro aa W hI K' hK
           obtain ⟨ea, e1, e2, e3, e4, rfl, hS, hv, k1, k2, k3, k4⟩ := hI
           have HV : Hid (xb = true → ∃ bb, ea = .pointer (some ⟨bb, 0, none⟩) ∧ NB W bb 0 ∧ w.heap.size + 1 + 1 < bb) := hv
           clear hv k1 k2 k3 k4
           rw [hA]
           simp only [AP]
           go_simp
           go_wp2_with fail
           refine (way_any ax ay bx by' _ (HT.out.later hS.2.2.2.2.2.2) HF.out.1).mono ?_
           rintro e wx ⟨aZ, nZ, cZ, lZ, gZ, oZ, aY, nY, cY, lY, gY, oY, rfl, hnew, hnew', hbx⟩
           have hS2 : (fun W => W.cell? ⟨w.heap.size, 0, none⟩ = some (.float .f64 ax) ∧ W.cell? ⟨w.heap.size, 1, none⟩ = some (.float .f64 ay) ∧ W.cell? ⟨w.heap.size + 1, 0, none⟩ = some (.float .f64 bx) ∧ W.cell? ⟨w.heap.size + 1, 1, none⟩ = some (.float .f64 by') ∧ W.cell? ⟨w.heap.size + 1 + 1, 0, none⟩ = some (.float .f64 cx) ∧ W.cell? ⟨w.heap.size + 1 + 1, 1, none⟩ = some (.float .f64 cy) ∧ Below w.heap.size w W) wx := (kp6 hbx hS)
           go_wp2_with fail
           exact hK.out _ _ hS2 ⟨ea, _, e2, e3, e4, by rw [hA]; rfl, hS2, fun h => (by obtain ⟨bb, h1, h2, h3⟩ := (HV.out h); exact ⟨bb, h1, h2.later hbx, h3⟩), fun _ => ⟨aZ, nZ, cZ, lZ, gZ, oZ, aY, nY, cY, lY, gY, oY, rfl, hnew, hnew'⟩, fun h => by omega, fun h => by omega, fun h => by omega⟩
         · refine ⟨_, rfl, ?_⟩
           intro aa W hI K' hK
           obtain ⟨ea, e1, e2, e3, e4, rfl, hS, hv, k1, k2, k3, k4⟩ := hI
           have r1 := k1 (by omega)
           have HV : Hid (xb = true → ∃ bb, ea = .pointer (some ⟨bb, 0, none⟩) ∧ NB W bb 0 ∧ w.heap.size + 1 + 1 < bb) := hv
           clear hv k1 k2 k3 k4
           have R1 : Hid (PF W e1 (fval bx - fval ax) (fval by' - fval ay)) := r1
           clear r1
           rw [hA]
           simp only [AP]
           go_simp
           go_wp2_with fail
           refine (way_any ax ay cx cy _ (HT.out.later hS.2.2.2.2.2.2) HF.out.2).mono ?_
           rintro e wx ⟨aZ, nZ, cZ, lZ, gZ, oZ, aY, nY, cY, lY, gY, oY, rfl, hnew, hnew', hbx⟩
           have hS2 : (fun W => W.cell? ⟨w.heap.size, 0, none⟩ = some (.float .f64 ax) ∧ W.cell? ⟨w.heap.size, 1, none⟩ = some (.float .f64 ay) ∧ W.cell? ⟨w.heap.size + 1, 0, none⟩ = some (.float .f64 bx) ∧ W.cell? ⟨w.heap.size + 1, 1, none⟩ = some (.float .f64 by') ∧ W.cell? ⟨w.heap.size + 1 + 1, 0, none⟩ = some (.float .f64 cx) ∧ W.cell? ⟨w.heap.size + 1 + 1, 1, none⟩ = some (.float .f64 cy) ∧ Below w.heap.size w W) wx := (kp6 hbx hS)
           go_wp2_with fail
           exact hK.out _ _ hS2 ⟨ea, _, _, e3, e4, by rw [hA]; rfl, hS2, fun h => (by obtain ⟨bb, h1, h2, h3⟩ := (HV.out h); exact ⟨bb, h1, h2.later hbx, h3⟩), fun _ => R1.out.later hbx, fun _ => ⟨aZ, nZ, cZ, lZ, gZ, oZ, aY, nY, cY, lY, gY, oY, rfl, hnew, hnew'⟩, fun h => by omega, fun h => by omega⟩
         · refine ⟨_, rfl, ?_⟩
           intro aa W hI K' hK
           obtain ⟨ea, e1, e2, e3, e4, rfl, hS, hv, k1, k2, k3, k4⟩ := hI
           have r1 := k1 (by omega)
           have r2 := k2 (by omega)
           have HV : Hid (xb = true → ∃ bb, ea = .pointer (some ⟨bb, 0, none⟩) ∧ NB W bb 0 ∧ w.heap.size + 1 + 1 < bb) := hv
           clear hv k1 k2 k3 k4
           have R1 : Hid (PF W e1 (fval bx - fval ax) (fval by' - fval ay)) := r1
           clear r1
           have s2 := r2
           obtain ⟨aH, nH, cH, lH, gH, oH, aI, nI, cI, lI, gI, oI, rfl, hnH, hnI⟩ := s2
           rw [hA]
           simp only [AP]
           go_simp
           go_wp2_with fail
           refine (across_any _ _ _ _ _ _ _ _ _ _ _ _ _ hnH hnI).mono ?_
           rintro e wx ⟨aZ, nZ, cZ, lZ, gZ, oZ, aY, nY, cY, lY, gY, oY, rfl, hnew, hnew', hbx⟩
           have hS2 : (fun W => W.cell? ⟨w.heap.size, 0, none⟩ = some (.float .f64 ax) ∧ W.cell? ⟨w.heap.size, 1, none⟩ = some (.float .f64 ay) ∧ W.cell? ⟨w.heap.size + 1, 0, none⟩ = some (.float .f64 bx) ∧ W.cell? ⟨w.heap.size + 1, 1, none⟩ = some (.float .f64 by') ∧ W.cell? ⟨w.heap.size + 1 + 1, 0, none⟩ = some (.float .f64 cx) ∧ W.cell? ⟨w.heap.size + 1 + 1, 1, none⟩ = some (.float .f64 cy) ∧ Below w.heap.size w W) wx := (kp6 hbx hS)
           go_wp2_with fail
           exact hK.out _ _ hS2 ⟨ea, _, _, _, e4, by rw [hA]; rfl, hS2, fun h => (by obtain ⟨bb, h1, h2, h3⟩ := (HV.out h); exact ⟨bb, h1, h2.later hbx, h3⟩), fun _ => R1.out.later hbx, fun _ => r2.later hbx, fun _ => ⟨aZ, nZ, cZ, lZ, gZ, oZ, aY, nY, cY, lY, gY, oY, rfl, hnew, hnew'⟩, fun h => by omega⟩
         · refine ⟨_, rfl, ?_⟩
           intro aa W hI K' hK
           obtain ⟨ea, e1, e2, e3, e4, rfl, hS, hv, k1, k2, k3, k4⟩ := hI
           have r1 := k1 (by omega)
           have r2 := k2 (by omega)
           have r3 := k3 (by omega)
           have HV : Hid (xb = true → ∃ bb, ea = .pointer (some ⟨bb, 0, none⟩) ∧ NB W bb 0 ∧ w.heap.size + 1 + 1 < bb) := hv
           clear hv k1 k2 k3 k4
           have s1 := r1
           obtain ⟨aE, nE, cE, lE, gE, oE, aF, nF, cF, lF, gF, oF, rfl, hnE, hnF⟩ := s1
           have R2 : Hid (PF W e2 (fval cx - fval ax) (fval cy - fval ay)) := r2
           clear r2
           have s3 := r3
           obtain ⟨aJ, nJ, cJ, lJ, gJ, oJ, aK, nK, cK, lK, gK, oK, rfl, hnJ, hnK⟩ := s3
           rw [hA]
           simp only [AP]
           go_simp
           go_wp2_with fail
           refine (product_any _ _ _ _ _ _ _ _ _ _ _ _ _ _ _ _ _ _ _ _ _ _ _ _ _ (HT.out.later hS.2.2.2.2.2.2) hnE hnF hnJ hnK (HY.out.1.may HY.out.2.2.2) (HY.out.2.1.may HY.out.2.2.1) (HY.out.1.may2 HY.out.2.2.2 HY.out.2.1 HY.out.2.2.1)).mono ?_
           rintro e wx ⟨aZ, nZ, cZ, lZ, gZ, oZ, rfl, hnew, hbx⟩
           have hS2 : (fun W => W.cell? ⟨w.heap.size, 0, none⟩ = some (.float .f64 ax) ∧ W.cell? ⟨w.heap.size, 1, none⟩ = some (.float .f64 ay) ∧ W.cell? ⟨w.heap.size + 1, 0, none⟩ = some (.float .f64 bx) ∧ W.cell? ⟨w.heap.size + 1, 1, none⟩ = some (.float .f64 by') ∧ W.cell? ⟨w.heap.size + 1 + 1, 0, none⟩ = some (.float .f64 cx) ∧ W.cell? ⟨w.heap.size + 1 + 1, 1, none⟩ = some (.float .f64 cy) ∧ Below w.heap.size w W) wx := (kp6 hbx hS)
           go_wp2_with fail
           exact hK.out _ _ hS2 ⟨ea, _, _, _, _, by rw [hA]; rfl, hS2, fun h => (by obtain ⟨bb, h1, h2, h3⟩ := (HV.out h); exact ⟨bb, h1, h2.later hbx, h3⟩), fun _ => r1.later hbx, fun _ => R2.out.later hbx, fun _ => r3.later hbx, fun _ => ⟨aZ, nZ, cZ, lZ, gZ, oZ, rfl, hnew⟩⟩
       · intro kb hk
         refine ⟨_, rfl, ?_⟩
         intro aa W hI K' hK
         obtain ⟨ea, e1, e2, e3, e4, rfl, hS, hv, k1, k2, k3, k4⟩ := hI
         have HK : Hid ((1 ≤ kb → PF W e1 (fval bx - fval ax) (fval by' - fval ay)) ∧ (2 ≤ kb → PF W e2 (fval cx - fval ax) (fval cy - fval ay)) ∧ (3 ≤ kb → PF W e3 (fval cy - fval ay) (-(fval cx - fval ax))) ∧ (4 ≤ kb → NF W e4 ((fval bx - fval ax) * (fval cy - fval ay) + (fval by' - fval ay) * -(fval cx - fval ax)))) := ⟨k1, k2, k3, k4⟩
         clear hv k1 k2 k3 k4
         have hbx : Below W.heap.size W (W.alloc (.cells #[.slice none 0 0, .int .i64 0, .bool false, .bool false] 49)) := (Below.refl _ W).alloc (Nat.le_refl _) _
         have hlt2 : w.heap.size + 1 + 1 < W.heap.size := World.block_lt_of_cell? _ _ hS.2.2.2.2.1
         have hS2 : (fun W => W.cell? ⟨w.heap.size, 0, none⟩ = some (.float .f64 ax) ∧ W.cell? ⟨w.heap.size, 1, none⟩ = some (.float .f64 ay) ∧ W.cell? ⟨w.heap.size + 1, 0, none⟩ = some (.float .f64 bx) ∧ W.cell? ⟨w.heap.size + 1, 1, none⟩ = some (.float .f64 by') ∧ W.cell? ⟨w.heap.size + 1 + 1, 0, none⟩ = some (.float .f64 cx) ∧ W.cell? ⟨w.heap.size + 1 + 1, 1, none⟩ = some (.float .f64 cy) ∧ Below w.heap.size w W) (W.alloc (.cells #[.slice none 0 0, .int .i64 0, .bool false, .bool false] 49)) := (kp6 hbx hS)
         rw [hA]
         simp only [AP]
         go_simp
         go_wp2_with fail
         exact hK.out _ _ hS2 ⟨_, e1, e2, e3, e4, by rw [hA]; rfl, hS2, fun _ => ⟨W.heap.size, rfl, NB.zero W, hlt2⟩, fun h => (HK.out.1 h).later hbx, fun h => (HK.out.2.1 h).later hbx, fun h => (HK.out.2.2.1 h).later hbx, fun h => (HK.out.2.2.2 h).later hbx⟩
       · intro aa W hI
         obtain ⟨ea, e1, e2, e3, e4, rfl, hS, hv, k1, k2, k3, k4⟩ := hI
         replace hv := hv rfl
         have r1 := k1 (by omega)
         have r2 := k2 (by omega)
         have r3 := k3 (by omega)
         have r4 := k4 (by omega)
         clear k1 k2 k3 k4
         obtain ⟨bb, rfl, hNB, hlow⟩ := hv
         obtain ⟨aL, nL, cL, lL, gL, oL, rfl, hnL⟩ := r4
         clear r1 r2 r3
         subst hA
         simp only [AP]
         obtain ⟨_, _, _, _, _, _, ⟨k0, k1, k2, k3⟩, _, hfr⟩ := hNB.cells
         have f0 := hfr 0
         have f1 := hfr 1
         have f2 := hfr 2
         have f3 := hfr 3
         have hP : (fun W' => NB W' (bb) _ ∧ Kept W W' (bb) ∧ IsNum W' (.agg #[.slice aL nL cL, .int .i64 lL, .bool gL, .bool oL]) _ ∧ CB W' (bb) #[.slice aL nL cL, .int .i64 lL, .bool gL, .bool oL] 49) ((((W.setCell ⟨bb, 0, none⟩ (.slice aL nL cL)).setCell ⟨bb, 1, none⟩ (.int .i64 lL)).setCell ⟨bb, 2, none⟩ (.bool gL)).setCell ⟨bb, 3, none⟩ (.bool oL)) := hNB.put' hnL
         have hS2 : (fun W => W.cell? ⟨w.heap.size, 0, none⟩ = some (.float .f64 ax) ∧ W.cell? ⟨w.heap.size, 1, none⟩ = some (.float .f64 ay) ∧ W.cell? ⟨w.heap.size + 1, 0, none⟩ = some (.float .f64 bx) ∧ W.cell? ⟨w.heap.size + 1, 1, none⟩ = some (.float .f64 by') ∧ W.cell? ⟨w.heap.size + 1 + 1, 0, none⟩ = some (.float .f64 cx) ∧ W.cell? ⟨w.heap.size + 1 + 1, 1, none⟩ = some (.float .f64 cy) ∧ Below w.heap.size w W) ((((W.setCell ⟨bb, 0, none⟩ (.slice aL nL cL)).setCell ⟨bb, 1, none⟩ (.int .i64 lL)).setCell ⟨bb, 2, none⟩ (.bool gL)).setCell ⟨bb, 3, none⟩ (.bool oL)) := ⟨Sets.cell (by omega) [(0, .slice aL nL cL), (1, .int .i64 lL), (2, .bool gL), (3, .bool oL)] hS.1, Sets.cell (by omega) [(0, .slice aL nL cL), (1, .int .i64 lL), (2, .bool gL), (3, .bool oL)] hS.2.1, Sets.cell (by omega) [(0, .slice aL nL cL), (1, .int .i64 lL), (2, .bool gL), (3, .bool oL)] hS.2.2.1, Sets.cell (by omega) [(0, .slice aL nL cL), (1, .int .i64 lL), (2, .bool gL), (3, .bool oL)] hS.2.2.2.1, Sets.cell (by omega) [(0, .slice aL nL cL), (1, .int .i64 lL), (2, .bool gL), (3, .bool oL)] hS.2.2.2.2.1, Sets.cell (by omega) [(0, .slice aL nL cL), (1, .int .i64 lL), (2, .bool gL), (3, .bool oL)] hS.2.2.2.2.2.1, Sets.below (by omega) [(0, .slice aL nL cL), (1, .int .i64 lL), (2, .bool gL), (3, .bool oL)] hS.2.2.2.2.2.2⟩
         refine calA 9 fun KF hK => ?_
         go_simp
         go_wp2_with fail
         refine hK.out _ _ hS2 ?_
         clear hS
         intro hS
         clear hK KF k0 k1 k2 k3 f0 f1 f2 f3 hfr
         try simp only [Act.put]
         try simp only [List.setIfInBounds_toArray, List.set_cons_zero, List.set_cons_succ]
         refine wpAnyH_done (by kernel_rfl) ?_ _
         generalize ((((W.setCell ⟨bb, 0, none⟩ (.slice aL nL cL)).setCell ⟨bb, 1, none⟩ (.int .i64 lL)).setCell ⟨bb, 2, none⟩ (.bool gL)).setCell ⟨bb, 3, none⟩ (.bool oL)) = WL at *
         have HN1 : Hid (NB WL bb (tw ax ay bx by' cx cy)) := hP.1
         have HBL : Hid (Below w.heap.size w WL) := hS2.2.2.2.2.2.2
         clear hP hS2 hS hNB hnL
         obtain ⟨aV, nV, cV, lV, gV, oV, ⟨k0, k1, k2, k3⟩, hnV, _⟩ := HN1.out.cells
         have HV : Hid (IsNum WL (.agg #[.slice aV nV cV, .int .i64 lV, .bool gV, .bool oV]) (some (tw ax ay bx by' cx cy))) := hnV
         clear hnV
         go_wp2_with fail
         have hc := signQ HV.out
         rw [hsg.out] at hc
         refine hc.mono ?_
         rintro e w5 ⟨rfl, hb5⟩
         clear hc
         have HN5 : Hid (NB w5 bb (tw ax ay bx by' cx cy)) := HN1.out.later hb5
         have HV5 : Hid (IsNum w5 (.agg #[.slice aV nV cV, .int .i64 lV, .bool gV, .bool oV]) (some (tw ax ay bx by' cx cy))) := HV.out.later hb5
         replace HBL : Hid (Below w.heap.size w w5) := below_step HBL.out hb5
         clear hb5 k0 k1 k2 k3 HN1 HV
         obtain ⟨aV, nV, cV, lV, gV, oV, ⟨k0, k1, k2, k3⟩, hnV, _⟩ := HN5.out.cells
         have HV6 : Hid (IsNum w5 (.agg #[.slice aV nV cV, .int .i64 lV, .bool gV, .bool oV]) (some (tw ax ay bx by' cx cy))) := hnV
         clear hnV HV5
         cases bn
         · have hN : NB w5 bb (tw ax ay bx by' cx cy) := HN5.out
           have hneg := hbn.out
           clear k0 k1 k2 k3 HV6
           obtain ⟨aV, nV, cV, lV, gV, oV, ⟨k0, k1, k2, k3⟩, hnV, _⟩ := hN.cells
           clear hN
           go_wp2_with fail
           replace hnV := hnV.later (Below.refl _ _).drew
           refine wp_region_held_drew (S := (fun W => W.cell? ⟨bb, 0, none⟩ = some (.slice aV nV cV) ∧ W.cell? ⟨bb, 1, none⟩ = some (.int .i64 lV) ∧ W.cell? ⟨bb, 2, none⟩ = some (.bool gV) ∧ W.cell? ⟨bb, 3, none⟩ = some (.bool oV) ∧ Below w.heap.size w W)) (by kernel_rfl) ⟨k0, k1, k2, k3, HBL.out.drew⟩ (fun hS => ?_)
           refine takA (i := 0) (d := some 67) (v := .agg #[.slice aV nV cV, .int .i64 lV, .bool gV, .bool oV]) hS ?_
           simp only [AP]
           refine takA (i := 1) (d := some 68) (v := .float .f64 g) hS ?_
           simp only [AP]
           refine calA 2 fun KF hK => ?_
           go_simp
           refine (ofQ HG.out.1 HG.out.2 (HT.out.later hS.2.2.2.2)).mono ?_
           rintro e wx ⟨aM, nM, cM, lM, gM, oM, rfl, hnM, hbx⟩
           replace hnV := hnV.later hbx
           go_wp2_with fail
           refine hK.out _ _ (kp4 hbx hS) ?_
           clear hS hbx
           intro hS
           clear hK KF
           try simp only [AP]
           refine calA 3 fun KF hK => ?_
           go_simp
           refine (shiftQ hnM HMg.out).mono ?_
           rintro e wx ⟨aO, nO, cO, lO, gO, oO, rfl, hnO, hbx⟩
           replace hnV := hnV.later hbx
           go_wp2_with fail
           refine hK.out _ _ (kp4 hbx hS) ?_
           clear hS hbx
           intro hS
           clear hK KF
           try simp only [AP]
           refine calA 4 fun KF hK => ?_
           go_simp
           have hc := cmpQ hnV hnO
           rw [HZp.out hneg] at hc
           refine hc.mono ?_
           rintro e wx ⟨rfl, hbx⟩
           clear hc
           go_wp2_with fail
           refine hK.out _ _ (kp4 hbx hS) ?_
           clear hS hbx
           intro hS
           clear hK KF
           try simp only [AP]
           refine takA (i := 5) (d := some 8) (v := .int .i64 z) hS ?_
           simp only [AP]
           refine wpAnyH_done (by kernel_rfl) ?_ _
           have HBE : Hid (Below w.heap.size w _) := hS.2.2.2.2
           clear hS hnV hnM hnO
           go_wp2
           go_ret
           exact ⟨rfl, HBE.out⟩
         · have hneg := hbn.out
           go_wp2_with fail
           refine (negQ HV6.out).mono ?_
           rintro e w6 ⟨aX, nX, cX, lX, gX, oX, rfl, hnX, hb6⟩
           have HN6 := HN5.out.later hb6
           replace HBL : Hid (Below w.heap.size w w6) := below_step HBL.out hb6
           clear hb6 k0 k1 k2 k3 HV6 HN5
           obtain ⟨_, _, _, _, _, _, ⟨k0, k1, k2, k3⟩, _, hfr⟩ := HN6.cells
           have f0 := hfr 0
           have f1 := hfr 1
           have f2 := hfr 2
           have f3 := hfr 3
           have hP : (fun W' => NB W' bb _ ∧ Kept w6 W' bb ∧ IsNum W' (.agg #[.slice aX nX cX, .int .i64 lX, .bool gX, .bool oX]) _ ∧ CB W' bb #[.slice aX nX cX, .int .i64 lX, .bool gX, .bool oX] 49) ((((w6.setCell ⟨bb, 0, none⟩ (.slice aX nX cX)).setCell ⟨bb, 1, none⟩ (.int .i64 lX)).setCell ⟨bb, 2, none⟩ (.bool gX)).setCell ⟨bb, 3, none⟩ (.bool oX)) := HN6.put' hnX
           have HPP : Hid ((fun W' => NB W' bb (-(tw ax ay bx by' cx cy)) ∧ Below w.heap.size w W') ((((w6.setCell ⟨bb, 0, none⟩ (.slice aX nX cX)).setCell ⟨bb, 1, none⟩ (.int .i64 lX)).setCell ⟨bb, 2, none⟩ (.bool gX)).setCell ⟨bb, 3, none⟩ (.bool oX))) := ⟨hP.1, hP.2.1.bel _ _ (by omega) HBL.out.size HBL.out⟩
           clear hP HBL
           go_wp2_with fail
           clear k0 k1 k2 k3 f0 f1 f2 f3 hfr HN6 hnX
           generalize ((((w6.setCell ⟨bb, 0, none⟩ (.slice aX nX cX)).setCell ⟨bb, 1, none⟩ (.int .i64 lX)).setCell ⟨bb, 2, none⟩ (.bool gX)).setCell ⟨bb, 3, none⟩ (.bool oX)) = WL at *
           have hN := HPP.out.1
           have HBL : Hid (Below w.heap.size w WL) := HPP.out.2
           clear HPP
           obtain ⟨aV, nV, cV, lV, gV, oV, ⟨k0, k1, k2, k3⟩, hnV, _⟩ := hN.cells
           clear hN
           replace hnV := hnV.later (Below.refl _ _).drew
           refine wp_region_held_drew (S := (fun W => W.cell? ⟨bb, 0, none⟩ = some (.slice aV nV cV) ∧ W.cell? ⟨bb, 1, none⟩ = some (.int .i64 lV) ∧ W.cell? ⟨bb, 2, none⟩ = some (.bool gV) ∧ W.cell? ⟨bb, 3, none⟩ = some (.bool oV) ∧ Below w.heap.size w W)) (by kernel_rfl) ⟨k0, k1, k2, k3, HBL.out.drew⟩ (fun hS => ?_)
           refine takA (i := 0) (d := some 67) (v := .agg #[.slice aV nV cV, .int .i64 lV, .bool gV, .bool oV]) hS ?_
           simp only [AP]
           refine takA (i := 1) (d := some 68) (v := .float .f64 g) hS ?_
           simp only [AP]
           refine calA 2 fun KF hK => ?_
           go_simp
           refine (ofQ HG.out.1 HG.out.2 (HT.out.later hS.2.2.2.2)).mono ?_
           rintro e wx ⟨aM, nM, cM, lM, gM, oM, rfl, hnM, hbx⟩
           replace hnV := hnV.later hbx
           go_wp2_with fail
           refine hK.out _ _ (kp4 hbx hS) ?_
           clear hS hbx
           intro hS
           clear hK KF
           try simp only [AP]
           refine calA 3 fun KF hK => ?_
           go_simp
           refine (shiftQ hnM HMg.out).mono ?_
           rintro e wx ⟨aO, nO, cO, lO, gO, oO, rfl, hnO, hbx⟩
           replace hnV := hnV.later hbx
           go_wp2_with fail
           refine hK.out _ _ (kp4 hbx hS) ?_
           clear hS hbx
           intro hS
           clear hK KF
           try simp only [AP]
           refine calA 4 fun KF hK => ?_
           go_simp
           have hc := cmpQ hnV hnO
           rw [HZn.out hneg] at hc
           refine hc.mono ?_
           rintro e wx ⟨rfl, hbx⟩
           clear hc
           go_wp2_with fail
           refine hK.out _ _ (kp4 hbx hS) ?_
           clear hS hbx
           intro hS
           clear hK KF
           try simp only [AP]
           refine takA (i := 5) (d := some 8) (v := .int .i64 z) hS ?_
           simp only [AP]
           refine wpAnyH_done (by kernel_rfl) ?_ _
           have HBE : Hid (Below w.heap.size w _) := hS.2.2.2.2
           clear hS hnV hnM hnO
           go_wp2
           go_ret
           exact ⟨rfl, HBE.out⟩
       · exact ⟨undef, undef, undef, undef, undef, by rw [hA]; rfl, hS, fun h => Bool.noConfusion h, fun h => by omega, fun h => by omega, fun h => by omega, fun h => by omega⟩
     · refine (told_yes x z3 v _ HX.out.1 HX.out.2.1 HX.out.2.2.1 ht2.out).mono ?_
       rintro e wx ⟨rfl, hbx⟩
       subst hbx
       go_wp2
       go_ret
       exact ⟨by rw [HX.out.2.2.2 (by simp)]; rfl, HB5.out.bel⟩
end

/- Cosines: cosineAbove. -/
section
open Go.RowKit Go.Shelf
attribute [local go_sem ↓] Go.wp_at_zero Go.wp_at_succ
attribute [local go_sem] run_store_float
def cosE (ax ay bx by' cx cy g : Nat) : Rat := ((fval bx - fval ax) * (fval cx - fval ax) + (fval by' - fval ay) * (fval cy - fval ay)) * ((fval bx - fval ax) * (fval cx - fval ax) + (fval by' - fval ay) * (fval cy - fval ay)) - fval g * ((fval bx - fval ax) * (fval bx - fval ax) + (fval by' - fval ay) * (fval by' - fval ay)) * ((fval cx - fval ax) * (fval cx - fval ax) + (fval cy - fval ay) * (fval cy - fval ay))
set_option maxRecDepth 100000 in
set_option maxHeartbeats 4000000 in
theorem cosine_any (ax ay bx by' cx cy g : Nat) (w : World) (tb : Bool) (hT : Tab w) (hw : W6 ax ay bx by' cx cy) (hp : P3 ax ay bx by' cx cy) (hg : g < 18446744073709551616) (fg : Fin64 g) (hne : (fval bx - fval ax) * (fval cx - fval ax) + (fval by' - fval ay) * (fval cy - fval ay) ≠ 0) (hb : decide (0 < sgq (cosE ax ay bx by' cx cy g)) = tb) :
   Calls Tryz.prog 52 #[pv ax ay, pv bx by', pv cx cy, .float .f64 g] w fun e w' => e = .returned (.bool tb) ∧ Below w.heap.size w w' := by
 have HT : Hid (Tab w) := hT
 have HW : Hid (W6 ax ay bx by' cx cy) := hw
 have HP : Hid (P3 ax ay bx by' cx cy) := hp
 have HG : Hid (g < 18446744073709551616 ∧ Fin64 g) := ⟨hg, fg⟩
 obtain ⟨z, hz⟩ : ∃ z, sgq (cosE ax ay bx by' cx cy g) = z := ⟨_, rfl⟩
 have HZ : Hid (sgq (cosE ax ay bx by' cx cy g) = z) := hz
 have HZ2 : Hid (sgq (((fval bx - fval ax) * (fval cx - fval ax) + (fval by' - fval ay) * (fval cy - fval ay)) * ((fval bx - fval ax) * (fval cx - fval ax) + (fval by' - fval ay) * (fval cy - fval ay)) - fval g * ((fval bx - fval ax) * (fval bx - fval ax) + (fval by' - fval ay) * (fval by' - fval ay)) * ((fval cx - fval ax) * (fval cx - fval ax) + (fval cy - fval ay) * (fval cy - fval ay))) = z) := hz
 rw [hz] at hb
 have HNE : Hid ((fval bx - fval ax) * (fval cx - fval ax) + (fval by' - fval ay) * (fval cy - fval ay) ≠ 0) := hne
 have wa := HP.out.1.w HW.out.1
 have wb := HP.out.2.1.w HW.out.2.1
 have wc := HP.out.2.2.w HW.out.2.2
 have HF : Hid ((Wfl ax ∧ Wfl ay ∧ Wfl bx ∧ Wfl by') ∧ Wfl ax ∧ Wfl ay ∧ Wfl cx ∧ Wfl cy) := ⟨⟨wa.1, wa.2, wb.1, wb.2⟩, wa.1, wa.2, wc.1, wc.2⟩
 have HY : Hid (Wy (fval bx - fval ax) ∧ Wy (fval by' - fval ay) ∧ Wy (fval cx - fval ax) ∧ Wy (fval cy - fval ay)) := ⟨wy_of wa.1.2 wb.1.2, wy_of wa.2.2 wb.2.2, wy_of wa.1.2 wc.1.2, wy_of wa.2.2 wc.2.2⟩
 have HMM : Hid (May (((fval bx - fval ax) * (fval cx - fval ax) + (fval by' - fval ay) * (fval cy - fval ay)) * ((fval bx - fval ax) * (fval cx - fval ax) + (fval by' - fval ay) * (fval cy - fval ay))) ∧ May (fval g * ((fval bx - fval ax) * (fval bx - fval ax) + (fval by' - fval ay) * (fval by' - fval ay))) ∧ May (fval g * ((fval bx - fval ax) * (fval bx - fval ax) + (fval by' - fval ay) * (fval by' - fval ay)) * ((fval cx - fval ax) * (fval cx - fval ax) + (fval cy - fval ay) * (fval cy - fval ay)))) := by
   have b1 := HY.out.1.sum HY.out.2.2.1 HY.out.2.1 HY.out.2.2.2
   have b2 := HY.out.1.sum HY.out.1 HY.out.2.1 HY.out.2.1
   have b3 := HY.out.2.2.1.sum HY.out.2.2.1 HY.out.2.2.2 HY.out.2.2.2
   exact ⟨(b1.mul b1).may (by omega) (by omega), ((fval_bd fg).mul b2).may (by omega) (by omega), (((fval_bd fg).mul b2).mul b3).may (by omega) (by omega)⟩
 obtain ⟨x1, e1, W1⟩ := way_word HP.out.1.1 HP.out.2.1.1
 obtain ⟨y1, e2, W2⟩ := way_word HP.out.1.2 HP.out.2.1.2
 obtain ⟨x2, e3, W3⟩ := way_word HP.out.1.1 HP.out.2.2.1
 obtain ⟨y2, e4, W4⟩ := way_word HP.out.1.2 HP.out.2.2.2
 obtain ⟨s, zz, Es, Ps, _⟩ := prod2_word W1 W2 W3 W4
 obtain ⟨l1, z1, El1, Pl1, Sl1⟩ := prod2_word W1 W2 W1 W2
 obtain ⟨l2, z2, El2, Pl2, Sl2⟩ := prod2_word W3 W4 W3 W4
 obtain ⟨p1, k1⟩ := Sl1 rfl rfl rfl rfl
 obtain ⟨p2, k2⟩ := Sl2 rfl rfl rfl rfl
 obtain ⟨f, b, ss, x, zq, wq, v, q1, q2, q3, q4, q5, q6, ev, wb', wx', hs⟩ := cosine_word Ps Pl1 Pl2 p1 p2 k1 k2 fg hne
 have HE : Hid (floatBits .sub .f64 bx ax = some x1 ∧ floatBits .sub .f64 by' ay = some y1 ∧ floatBits .sub .f64 cx ax = some x2 ∧ floatBits .sub .f64 cy ay = some y2 ∧ ProdE x1 y1 x2 y2 s zz ∧ ProdE x1 y1 x1 y1 l1 z1 ∧ ProdE x2 y2 x2 y2 l2 z2) := ⟨e1, e2, e3, e4, Es, El1, El2⟩
 have HAb : Hid (∀ w, Calls Tryz.prog 42 #[.float .f64 b] w fun e w' => e = .returned (.float .f64 (frung b)) ∧ w' = w) := fun w => abs_any b w wb'
 have u1 : ∀ w, (binOp .mul 22 (.float .f64 l1) (.float .f64 l2)).run Tryz.prog w = .ok (.float .f64 f) w := fun w => run_float_arith w .mul _ .f64 _ _ _ q1
 have u2 : ∀ w, (binOp .mul 22 (.float .f64 g) (.float .f64 f)).run Tryz.prog w = .ok (.float .f64 b) w := fun w => run_float_arith w .mul _ .f64 _ _ _ q2
 have u3 : ∀ w, (binOp .mul 22 (.float .f64 s) (.float .f64 s)).run Tryz.prog w = .ok (.float .f64 ss) w := fun w => run_float_arith w .mul _ .f64 _ _ _ q3
 have u4 : ∀ w, (binOp .sub 22 (.float .f64 ss) (.float .f64 b)).run Tryz.prog w = .ok (.float .f64 x) w := fun w => run_float_arith w .sub _ .f64 _ _ _ q4
 have u5 : ∀ w, (binOp .mul 22 (.float .f64 zz) (.float .f64 zz)).run Tryz.prog w = .ok (.float .f64 zq) w := fun w => run_float_arith w .mul _ .f64 _ _ _ q5
 have u6 : ∀ w, (binOp .add 22 (.float .f64 zq) (.float .f64 (frung b))).run Tryz.prog w = .ok (.float .f64 wq) w := fun w => run_float_arith w .add _ .f64 _ _ _ q6
 obtain ⟨fb, hfb⟩ : ∃ k, frung b = k := ⟨_, rfl⟩
 rw [hfb] at u6
 have HAb' : Hid (∀ w, Calls Tryz.prog 42 #[.float .f64 b] w fun e w' => e = .returned (.float .f64 fb) ∧ w' = w) := by rw [← hfb]; exact HAb.out
 obtain ⟨t2, ht2'⟩ : ∃ t, (FloatKind.f64.format.order (frung x) v == some .gt) = t := ⟨_, rfl⟩
 have ht2 : Hid ((FloatKind.f64.format.order (frung x) v == some .gt) = t2) := ht2'
 have HX : Hid (x < 18446744073709551616 ∧ (t2 = true → Fin64 x) ∧ floatBits .mul .f64 4386506037058863104 wq = some v ∧ (t2 = true → sgq (fval x) = z)) := ⟨wx', fun h => (hs (by rw [ht2']; exact h)).1, ev, fun h => by rw [← HZ2.out]; exact (hs (by rw [ht2']; exact h)).2⟩
 clear wa wb wc e1 e2 e3 e4 W1 W2 W3 W4 Es Ps El1 Pl1 Sl1 El2 Pl2 Sl2 p1 k1 p2 k2 q1 q2 q3 q4 q5 q6 ev wb' wx' hs ht2' hT hw hp hg fg hne hz hfb HAb
 go_enter Tryz.func52, Tryz.ntmps52
 go_wp2_with fail
 obtain ⟨W0, hW0⟩ : ∃ W0, W0 = ((w.alloc (.cells #[.float .f64 ax, .float .f64 ay] 24)).alloc (.cells #[.float .f64 bx, .float .f64 by'] 24)).alloc (.cells #[.float .f64 cx, .float .f64 cy] 24) := ⟨_, rfl⟩
 have z0 : W0.drew.cell? ⟨w.heap.size, 0, none⟩ = some (.float .f64 ax) := by rw [hW0]; go_simp
 have z1 : W0.drew.cell? ⟨w.heap.size, 1, none⟩ = some (.float .f64 ay) := by rw [hW0]; go_simp
 have z2 : W0.drew.cell? ⟨w.heap.size + 1, 0, none⟩ = some (.float .f64 bx) := by rw [hW0]; go_simp
 have z3 : W0.drew.cell? ⟨w.heap.size + 1, 1, none⟩ = some (.float .f64 by') := by rw [hW0]; go_simp
 have z4 : W0.drew.cell? ⟨w.heap.size + 1 + 1, 0, none⟩ = some (.float .f64 cx) := by rw [hW0]; go_simp
 have z5 : W0.drew.cell? ⟨w.heap.size + 1 + 1, 1, none⟩ = some (.float .f64 cy) := by rw [hW0]; go_simp
 have HB1 : Hid (Below w.heap.size w W0) := by
   rw [hW0]
   exact (((Below.refl _ w).alloc (Nat.le_refl _) _).alloc (by simp) _).alloc (by simp; omega) _
 rw [← hW0]
 clear hW0
 refine wp_region_held_drew (S := (fun W => W.cell? ⟨w.heap.size, 0, none⟩ = some (.float .f64 ax) ∧ W.cell? ⟨w.heap.size, 1, none⟩ = some (.float .f64 ay) ∧ W.cell? ⟨w.heap.size + 1, 0, none⟩ = some (.float .f64 bx) ∧ W.cell? ⟨w.heap.size + 1, 1, none⟩ = some (.float .f64 by') ∧ W.cell? ⟨w.heap.size + 1 + 1, 0, none⟩ = some (.float .f64 cx) ∧ W.cell? ⟨w.heap.size + 1 + 1, 1, none⟩ = some (.float .f64 cy) ∧ Below w.heap.size w W)) (by kernel_rfl) ⟨z0, z1, z2, z3, z4, z5, HB1.out.drew⟩ (fun hS => ?_)
 refine takA (i := 0) (d := some 19) (v := .agg #[.float .f64 ax, .float .f64 ay]) hS ?_
 simp only [AP]
 refine takA (i := 1) (d := some 20) (v := .agg #[.float .f64 bx, .float .f64 by']) hS ?_
 simp only [AP]
 refine takA (i := 3) (d := some 22) (v := .agg #[.float .f64 ax, .float .f64 ay]) hS ?_
 simp only [AP]
 refine takA (i := 4) (d := some 23) (v := .agg #[.float .f64 cx, .float .f64 cy]) hS ?_
 simp only [AP]
 refine calA 2 fun KF hK => ?_
 go_simp
 refine (nearWay_is ax ay bx by' x1 y1 _ HE.out.1 HE.out.2.1).mono ?_
 rintro e wx ⟨rfl, hbx⟩
 go_wp2_with fail
 refine hK.out _ _ (kp6 hbx hS) ?_
 clear hS hbx
 intro hS
 clear hK KF
 try simp only [AP]
 refine calA 5 fun KF hK => ?_
 go_simp
 refine (nearWay_is ax ay cx cy x2 y2 _ HE.out.2.2.1 HE.out.2.2.2.1).mono ?_
 rintro e wx ⟨rfl, hbx⟩
 go_wp2_with fail
 refine hK.out _ _ (kp6 hbx hS) ?_
 clear hS hbx
 intro hS
 clear hK KF
 try simp only [AP]
 refine calA 6 fun KF hK => ?_
 go_simp
 refine (nearProduct_is x1 y1 x2 y2 s zz _ HE.out.2.2.2.2.1).mono ?_
 rintro e wx ⟨rfl, hbx⟩
 go_wp2_with fail
 refine hK.out _ _ (kp6 hbx hS) ?_
 clear hS hbx
 intro hS
 clear hK KF
 try simp only [AP]
 refine takA (i := 7) (d := some 18) (v := .tuple #[.float .f64 s, .float .f64 zz]) hS ?_
 simp only [AP]
 refine takA (i := 8) (d := some 26) (v := .float .f64 s) hS ?_
 simp only [AP]
 refine takA (i := 9) (d := some 27) (v := .float .f64 zz) hS ?_
 simp only [AP]
 refine takA (i := 10) (d := some 9) (v := .float .f64 s) hS ?_
 simp only [AP]
 refine takA (i := 11) (d := some 10) (v := .float .f64 zz) hS ?_
 simp only [AP]
 refine wpAnyH_done (by kernel_rfl) ?_ _
 clear z0 z1 z2 z3 z4 z5 HB1
 have HB5 : Hid (B3 w _ ax ay bx by' cx cy) := ⟨hS.1, hS.2.1, hS.2.2.1, hS.2.2.2.1, hS.2.2.2.2.1, hS.2.2.2.2.2.1, hS.2.2.2.2.2.2⟩
 clear hS
 go_wp2_with fail
 refine wp_region_held_drew (S := (fun W => W.cell? ⟨w.heap.size, 0, none⟩ = some (.float .f64 ax) ∧ W.cell? ⟨w.heap.size, 1, none⟩ = some (.float .f64 ay) ∧ W.cell? ⟨w.heap.size + 1, 0, none⟩ = some (.float .f64 bx) ∧ W.cell? ⟨w.heap.size + 1, 1, none⟩ = some (.float .f64 by') ∧ W.cell? ⟨w.heap.size + 1 + 1, 0, none⟩ = some (.float .f64 cx) ∧ W.cell? ⟨w.heap.size + 1 + 1, 1, none⟩ = some (.float .f64 cy) ∧ Below w.heap.size w W)) (by kernel_rfl) ⟨HB5.out.a0, HB5.out.a1, HB5.out.b0, HB5.out.b1, HB5.out.c0, HB5.out.c1, HB5.out.bel.drew⟩ (fun hS => ?_)
 refine takA (i := 0) (d := some 28) (v := .float .f64 g) hS ?_
 simp only [AP]
 refine takA (i := 1) (d := some 29) (v := .agg #[.float .f64 ax, .float .f64 ay]) hS ?_
 simp only [AP]
 refine takA (i := 2) (d := some 30) (v := .agg #[.float .f64 bx, .float .f64 by']) hS ?_
 simp only [AP]
 refine takA (i := 4) (d := some 32) (v := .agg #[.float .f64 ax, .float .f64 ay]) hS ?_
 simp only [AP]
 refine takA (i := 5) (d := some 33) (v := .agg #[.float .f64 cx, .float .f64 cy]) hS ?_
 simp only [AP]
 refine calA 3 fun KF hK => ?_
 go_simp
 refine (nearSquare_is ax ay bx by' x1 y1 l1 z1 _ HE.out.1 HE.out.2.1 HE.out.2.2.2.2.2.1).mono ?_
 rintro e wx ⟨rfl, hbx⟩
 go_wp2_with fail
 refine hK.out _ _ (kp6 hbx hS) ?_
 clear hS hbx
 intro hS
 clear hK KF
 try simp only [AP]
 refine calA 6 fun KF hK => ?_
 go_simp
 refine (nearSquare_is ax ay cx cy x2 y2 l2 z2 _ HE.out.2.2.1 HE.out.2.2.2.1 HE.out.2.2.2.2.2.2).mono ?_
 rintro e wx ⟨rfl, hbx⟩
 go_wp2_with fail
 refine hK.out _ _ (kp6 hbx hS) ?_
 clear hS hbx
 intro hS
 clear hK KF
 try simp only [AP]
 refine takA (i := 7) (d := some 35) (v := .float .f64 f) hS ?_
 simp only [AP]
 refine takA (i := 8) (d := some 36) (v := .float .f64 b) hS ?_
 simp only [AP]
 refine takA (i := 9) (d := some 11) (v := .float .f64 b) hS ?_
 simp only [AP]
 refine wpAnyH_done (by kernel_rfl) ?_ _
 have HB5 : Hid (B3 w _ ax ay bx by' cx cy) := ⟨hS.1, hS.2.1, hS.2.2.1, hS.2.2.2.1, hS.2.2.2.2.1, hS.2.2.2.2.2.1, hS.2.2.2.2.2.2⟩
 clear hS
 go_wp2_with fail
 refine (HAb'.out _).mono ?_
 rintro e wx ⟨rfl, hbx⟩
 subst hbx
 go_wp2_with fail
 cases t2
 · refine (told_no x wq v _ HX.out.1 HX.out.2.2.1 ht2.out).mono ?_
   rintro e wx ⟨rfl, hbx⟩
   subst hbx
   clear u1 u2 u3 u4 u5 u6 HAb'
   go_wp2_with fail
   refine wp_region_held_drew (S := (fun W => W.cell? ⟨w.heap.size, 0, none⟩ = some (.float .f64 ax) ∧ W.cell? ⟨w.heap.size, 1, none⟩ = some (.float .f64 ay) ∧ W.cell? ⟨w.heap.size + 1, 0, none⟩ = some (.float .f64 bx) ∧ W.cell? ⟨w.heap.size + 1, 1, none⟩ = some (.float .f64 by') ∧ W.cell? ⟨w.heap.size + 1 + 1, 0, none⟩ = some (.float .f64 cx) ∧ W.cell? ⟨w.heap.size + 1 + 1, 1, none⟩ = some (.float .f64 cy) ∧ Below w.heap.size w W)) (by kernel_rfl) ⟨HB5.out.a0, HB5.out.a1, HB5.out.b0, HB5.out.b1, HB5.out.c0, HB5.out.c1, HB5.out.bel.drew⟩ (fun hS => ?_)
   refine takA (i := 0) (d := some 56) (v := .agg #[.float .f64 ax, .float .f64 ay]) hS ?_
   simp only [AP]
   refine takA (i := 1) (d := some 57) (v := .agg #[.float .f64 bx, .float .f64 by']) hS ?_
   simp only [AP]
   refine takA (i := 3) (d := some 59) (v := .agg #[.float .f64 ax, .float .f64 ay]) hS ?_
   simp only [AP]
   refine takA (i := 4) (d := some 60) (v := .agg #[.float .f64 cx, .float .f64 cy]) hS ?_
   simp only [AP]
   refine frame_named (fun A hA => ?_)
   refine draw2 (f := 2) (n := 2) (al := 6) (be := 7) (fun k => if k = 0 then 2 else 5) (fun (xb yb : Bool) (kb : Nat) => #[true, true, decide (1 ≤ kb), true, true, decide (2 ≤ kb), xb, yb, false, false]) (fun (xb yb : Bool) (kb : Nat) (aa : Act) (W : World) => ∃ (ea eb e1 e2 : Value), aa = ((((A.put (some 15) ea).put (some 16) eb).put (some 58) e1).put (some 61) e2) ∧ (W.cell? ⟨w.heap.size, 0, none⟩ = some (.float .f64 ax) ∧ W.cell? ⟨w.heap.size, 1, none⟩ = some (.float .f64 ay) ∧ W.cell? ⟨w.heap.size + 1, 0, none⟩ = some (.float .f64 bx) ∧ W.cell? ⟨w.heap.size + 1, 1, none⟩ = some (.float .f64 by') ∧ W.cell? ⟨w.heap.size + 1 + 1, 0, none⟩ = some (.float .f64 cx) ∧ W.cell? ⟨w.heap.size + 1 + 1, 1, none⟩ = some (.float .f64 cy) ∧ Below w.heap.size w W) ∧ (xb = true → ∃ bb, ea = .pointer (some ⟨bb, 0, none⟩) ∧ PB W bb 0 0 ∧ w.heap.size + 1 + 1 < bb) ∧ (yb = true → ∃ bb, eb = .pointer (some ⟨bb, 0, none⟩) ∧ PB W bb 0 0 ∧ w.heap.size + 1 + 1 < bb) ∧ (xb = true → yb = true → ea ≠ eb) ∧ (1 ≤ kb → PF W e1 ((fval bx - fval ax)) ((fval by' - fval ay))) ∧ (2 ≤ kb → PF W e2 ((fval cx - fval ax)) ((fval cy - fval ay)))) ?_ ?_ ?_ ?_ ?_ ?_ ?_ ?_ 4 false false 0 _ _ (by omega) (by decide) ?_
   · intro xb yb kb hk hx
     have h5 : kb = 0 ∨ kb = 1 ∨ kb = 2 := by omega
     rcases h5 with rfl | rfl | rfl <;> cases xb <;> cases yb <;> first | exact absurd (hx rfl rfl) (by decide) | (show _ = _; kernel_rfl)
   · intro xb yb kb hk
     have h5 : kb = 0 ∨ kb = 1 := by omega
     rcases h5 with rfl | rfl <;> cases xb <;> cases yb <;> rfl
   · intro yb kb hk
     have h5 : kb = 0 ∨ kb = 1 ∨ kb = 2 := by omega
     rcases h5 with rfl | rfl | rfl <;> cases yb <;> rfl
   · intro xb kb hk
     have h5 : kb = 0 ∨ kb = 1 ∨ kb = 2 := by omega
     rcases h5 with rfl | rfl | rfl <;> cases xb <;> rfl
   · intro xb yb kb hk
     have h5 : kb = 0 ∨ kb = 1 := by omega
     rcases h5 with rfl | rfl
     · refine ⟨_, rfl, ?_⟩
       intro aa W hI K' hK
       obtain ⟨ea, eb, e1, e2, rfl, hS, hv, hu, hne, k1, k2⟩ := hI
       have HV : Hid ((xb = true → ∃ bb, ea = .pointer (some ⟨bb, 0, none⟩) ∧ PB W bb 0 0 ∧ w.heap.size + 1 + 1 < bb) ∧ (yb = true → ∃ bb, eb = .pointer (some ⟨bb, 0, none⟩) ∧ PB W bb 0 0 ∧ w.heap.size + 1 + 1 < bb) ∧ (xb = true → yb = true → ea ≠ eb)) := ⟨hv, hu, hne⟩
       clear hv hu hne k1 k2
       rw [hA]
       simp only [AP]
       go_simp
       go_wp2_with fail
       refine (way_any ax ay bx by' _ (HT.out.later hS.2.2.2.2.2.2) HF.out.1).mono ?_
       rintro e wx ⟨aZ, nZ, cZ, lZ, gZ, oZ, aY, nY, cY, lY, gY, oY, rfl, hnew, hnew', hbx⟩
       have hS2 : (fun W => W.cell? ⟨w.heap.size, 0, none⟩ = some (.float .f64 ax) ∧ W.cell? ⟨w.heap.size, 1, none⟩ = some (.float .f64 ay) ∧ W.cell? ⟨w.heap.size + 1, 0, none⟩ = some (.float .f64 bx) ∧ W.cell? ⟨w.heap.size + 1, 1, none⟩ = some (.float .f64 by') ∧ W.cell? ⟨w.heap.size + 1 + 1, 0, none⟩ = some (.float .f64 cx) ∧ W.cell? ⟨w.heap.size + 1 + 1, 1, none⟩ = some (.float .f64 cy) ∧ Below w.heap.size w W) wx := (kp6 hbx hS)
       go_wp2_with fail
       exact hK.out _ _ hS2 ⟨ea, eb, _, e2, by rw [hA]; rfl, hS2, fun h => (by obtain ⟨bb, h1, h2, h3⟩ := (HV.out.1 h); exact ⟨bb, h1, h2.later hbx, h3⟩), fun h => (by obtain ⟨bb, h1, h2, h3⟩ := (HV.out.2.1 h); exact ⟨bb, h1, h2.later hbx, h3⟩), HV.out.2.2, fun _ => ⟨aZ, nZ, cZ, lZ, gZ, oZ, aY, nY, cY, lY, gY, oY, rfl, hnew, hnew'⟩, fun h => by omega⟩
     · refine ⟨_, rfl, ?_⟩
       intro aa W hI K' hK
       obtain ⟨ea, eb, e1, e2, rfl, hS, hv, hu, hne, k1, k2⟩ := hI
       have r1 := k1 (by omega)
       have HV : Hid ((xb = true → ∃ bb, ea = .pointer (some ⟨bb, 0, none⟩) ∧ PB W bb 0 0 ∧ w.heap.size + 1 + 1 < bb) ∧ (yb = true → ∃ bb, eb = .pointer (some ⟨bb, 0, none⟩) ∧ PB W bb 0 0 ∧ w.heap.size + 1 + 1 < bb) ∧ (xb = true → yb = true → ea ≠ eb)) := ⟨hv, hu, hne⟩
       clear hv hu hne k1 k2
       have R1 : Hid (PF W e1 ((fval bx - fval ax)) ((fval by' - fval ay))) := r1
       clear r1
       rw [hA]
       simp only [AP]
       go_simp
       go_wp2_with fail
       refine (way_any ax ay cx cy _ (HT.out.later hS.2.2.2.2.2.2) HF.out.2).mono ?_
       rintro e wx ⟨aZ, nZ, cZ, lZ, gZ, oZ, aY, nY, cY, lY, gY, oY, rfl, hnew, hnew', hbx⟩
       have hS2 : (fun W => W.cell? ⟨w.heap.size, 0, none⟩ = some (.float .f64 ax) ∧ W.cell? ⟨w.heap.size, 1, none⟩ = some (.float .f64 ay) ∧ W.cell? ⟨w.heap.size + 1, 0, none⟩ = some (.float .f64 bx) ∧ W.cell? ⟨w.heap.size + 1, 1, none⟩ = some (.float .f64 by') ∧ W.cell? ⟨w.heap.size + 1 + 1, 0, none⟩ = some (.float .f64 cx) ∧ W.cell? ⟨w.heap.size + 1 + 1, 1, none⟩ = some (.float .f64 cy) ∧ Below w.heap.size w W) wx := (kp6 hbx hS)
       go_wp2_with fail
       exact hK.out _ _ hS2 ⟨ea, eb, _, _, by rw [hA]; rfl, hS2, fun h => (by obtain ⟨bb, h1, h2, h3⟩ := (HV.out.1 h); exact ⟨bb, h1, h2.later hbx, h3⟩), fun h => (by obtain ⟨bb, h1, h2, h3⟩ := (HV.out.2.1 h); exact ⟨bb, h1, h2.later hbx, h3⟩), HV.out.2.2, fun _ => R1.out.later hbx, fun _ => ⟨aZ, nZ, cZ, lZ, gZ, oZ, aY, nY, cY, lY, gY, oY, rfl, hnew, hnew'⟩⟩
   · intro yb kb hk
     refine ⟨_, rfl, ?_⟩
     intro aa W hI K' hK
     obtain ⟨ea, eb, e1, e2, rfl, hS, hv, hu, hne, k1, k2⟩ := hI
     have HK : Hid ((1 ≤ kb → PF W e1 ((fval bx - fval ax)) ((fval by' - fval ay))) ∧ (2 ≤ kb → PF W e2 ((fval cx - fval ax)) ((fval cy - fval ay)))) := ⟨k1, k2⟩
     have HV : Hid (yb = true → ∃ bb, eb = .pointer (some ⟨bb, 0, none⟩) ∧ PB W bb 0 0 ∧ w.heap.size + 1 + 1 < bb) := hu
     clear hv hu hne k1 k2
     have hbx : Below W.heap.size W (W.alloc (.cells #[.slice none 0 0, .int .i64 0, .bool false, .bool false, .slice none 0 0, .int .i64 0, .bool false, .bool false] 52)) := (Below.refl _ W).alloc (Nat.le_refl _) _
     have hlt2 : w.heap.size + 1 + 1 < W.heap.size := World.block_lt_of_cell? _ _ hS.2.2.2.2.1
     have hS2 : (fun W => W.cell? ⟨w.heap.size, 0, none⟩ = some (.float .f64 ax) ∧ W.cell? ⟨w.heap.size, 1, none⟩ = some (.float .f64 ay) ∧ W.cell? ⟨w.heap.size + 1, 0, none⟩ = some (.float .f64 bx) ∧ W.cell? ⟨w.heap.size + 1, 1, none⟩ = some (.float .f64 by') ∧ W.cell? ⟨w.heap.size + 1 + 1, 0, none⟩ = some (.float .f64 cx) ∧ W.cell? ⟨w.heap.size + 1 + 1, 1, none⟩ = some (.float .f64 cy) ∧ Below w.heap.size w W) (W.alloc (.cells #[.slice none 0 0, .int .i64 0, .bool false, .bool false, .slice none 0 0, .int .i64 0, .bool false, .bool false] 52)) := (kp6 hbx hS)
     rw [hA]
     simp only [AP]
     go_simp
     go_wp2_with fail
     exact hK.out _ _ hS2 ⟨_, eb, e1, e2, by rw [hA]; rfl, hS2, fun _ => ⟨W.heap.size, rfl, PB.zero W, hlt2⟩, fun h => (by obtain ⟨bb, h1, h2, h3⟩ := (HV.out h); exact ⟨bb, h1, h2.later hbx, h3⟩), fun _ h e => by obtain ⟨b2, h1, h2, h3⟩ := HV.out h; have := h2.lt; rw [h1] at e; cases e; omega, fun h => (HK.out.1 h).later hbx, fun h => (HK.out.2 h).later hbx⟩
   · intro xb kb hk
     refine ⟨_, rfl, ?_⟩
     intro aa W hI K' hK
     obtain ⟨ea, eb, e1, e2, rfl, hS, hv, hu, hne, k1, k2⟩ := hI
     have HK : Hid ((1 ≤ kb → PF W e1 ((fval bx - fval ax)) ((fval by' - fval ay))) ∧ (2 ≤ kb → PF W e2 ((fval cx - fval ax)) ((fval cy - fval ay)))) := ⟨k1, k2⟩
     have HV : Hid (xb = true → ∃ bb, ea = .pointer (some ⟨bb, 0, none⟩) ∧ PB W bb 0 0 ∧ w.heap.size + 1 + 1 < bb) := hv
     clear hv hu hne k1 k2
     have hbx : Below W.heap.size W (W.alloc (.cells #[.slice none 0 0, .int .i64 0, .bool false, .bool false, .slice none 0 0, .int .i64 0, .bool false, .bool false] 52)) := (Below.refl _ W).alloc (Nat.le_refl _) _
     have hlt2 : w.heap.size + 1 + 1 < W.heap.size := World.block_lt_of_cell? _ _ hS.2.2.2.2.1
     have hS2 : (fun W => W.cell? ⟨w.heap.size, 0, none⟩ = some (.float .f64 ax) ∧ W.cell? ⟨w.heap.size, 1, none⟩ = some (.float .f64 ay) ∧ W.cell? ⟨w.heap.size + 1, 0, none⟩ = some (.float .f64 bx) ∧ W.cell? ⟨w.heap.size + 1, 1, none⟩ = some (.float .f64 by') ∧ W.cell? ⟨w.heap.size + 1 + 1, 0, none⟩ = some (.float .f64 cx) ∧ W.cell? ⟨w.heap.size + 1 + 1, 1, none⟩ = some (.float .f64 cy) ∧ Below w.heap.size w W) (W.alloc (.cells #[.slice none 0 0, .int .i64 0, .bool false, .bool false, .slice none 0 0, .int .i64 0, .bool false, .bool false] 52)) := (kp6 hbx hS)
     rw [hA]
     simp only [AP]
     go_simp
     go_wp2_with fail
     exact hK.out _ _ hS2 ⟨ea, _, e1, e2, by rw [hA]; rfl, hS2, fun h => (by obtain ⟨bb, h1, h2, h3⟩ := (HV.out h); exact ⟨bb, h1, h2.later hbx, h3⟩), fun _ => ⟨W.heap.size, rfl, PB.zero W, hlt2⟩, fun h _ e => by obtain ⟨b2, h1, h2, h3⟩ := HV.out h; have := h2.lt; rw [h1] at e; cases e; omega, fun h => (HK.out.1 h).later hbx, fun h => (HK.out.2 h).later hbx⟩
   · intro aa W hI
     obtain ⟨ea, eb, e1, e2, rfl, hS, hv, hu, hne, k1, k2⟩ := hI
     replace hv := hv rfl
     replace hu := hu rfl
     replace hne := hne rfl rfl
     have r1 := k1 (by omega)
     have r2 := k2 (by omega)
     clear k1 k2
     obtain ⟨bb, rfl, hNB, hlow⟩ := hv
     obtain ⟨bc, rfl, hNC, hlow2⟩ := hu
     have hbc : bb ≠ bc := fun e => hne (by rw [e])
     obtain ⟨aE, nE, cE, lE, gE, oE, aF, nF, cF, lF, gF, oF, rfl, hnE, hnF⟩ := r1
     obtain ⟨aH, nH, cH, lH, gH, oH, aI, nI, cI, lI, gI, oI, rfl, hnH, hnI⟩ := r2
     clear hne
     subst hA
     simp only [AP]
     obtain ⟨_, _, _, _, _, _, _, _, _, _, _, _, ⟨k0, k1, k2, k3, k4, k5, k6, k7⟩, _, _, hfr⟩ := hNB.cells
     have f0 := hfr 0
     have f1 := hfr 1
     have f2 := hfr 2
     have f3 := hfr 3
     have f4 := hfr 4
     have f5 := hfr 5
     have f6 := hfr 6
     have f7 := hfr 7
     have hP : (fun W' => PB W' bb _ _ ∧ Kept W W' bb) ((((((((W.setCell ⟨bb, 0, none⟩ (.slice aE nE cE)).setCell ⟨bb, 1, none⟩ (.int .i64 lE)).setCell ⟨bb, 2, none⟩ (.bool gE)).setCell ⟨bb, 3, none⟩ (.bool oE)).setCell ⟨bb, 4, none⟩ (.slice aF nF cF)).setCell ⟨bb, 5, none⟩ (.int .i64 lF)).setCell ⟨bb, 6, none⟩ (.bool gF)).setCell ⟨bb, 7, none⟩ (.bool oF)) := (fun h => ⟨h.1, h.2.1⟩) (hNB.put hnE hnF)
     have hS2 : (fun W => W.cell? ⟨w.heap.size, 0, none⟩ = some (.float .f64 ax) ∧ W.cell? ⟨w.heap.size, 1, none⟩ = some (.float .f64 ay) ∧ W.cell? ⟨w.heap.size + 1, 0, none⟩ = some (.float .f64 bx) ∧ W.cell? ⟨w.heap.size + 1, 1, none⟩ = some (.float .f64 by') ∧ W.cell? ⟨w.heap.size + 1 + 1, 0, none⟩ = some (.float .f64 cx) ∧ W.cell? ⟨w.heap.size + 1 + 1, 1, none⟩ = some (.float .f64 cy) ∧ Below w.heap.size w W) ((((((((W.setCell ⟨bb, 0, none⟩ (.slice aE nE cE)).setCell ⟨bb, 1, none⟩ (.int .i64 lE)).setCell ⟨bb, 2, none⟩ (.bool gE)).setCell ⟨bb, 3, none⟩ (.bool oE)).setCell ⟨bb, 4, none⟩ (.slice aF nF cF)).setCell ⟨bb, 5, none⟩ (.int .i64 lF)).setCell ⟨bb, 6, none⟩ (.bool gF)).setCell ⟨bb, 7, none⟩ (.bool oF)) := ⟨Sets.cell (by omega) [(0, .slice aE nE cE), (1, .int .i64 lE), (2, .bool gE), (3, .bool oE), (4, .slice aF nF cF), (5, .int .i64 lF), (6, .bool gF), (7, .bool oF)] hS.1, Sets.cell (by omega) [(0, .slice aE nE cE), (1, .int .i64 lE), (2, .bool gE), (3, .bool oE), (4, .slice aF nF cF), (5, .int .i64 lF), (6, .bool gF), (7, .bool oF)] hS.2.1, Sets.cell (by omega) [(0, .slice aE nE cE), (1, .int .i64 lE), (2, .bool gE), (3, .bool oE), (4, .slice aF nF cF), (5, .int .i64 lF), (6, .bool gF), (7, .bool oF)] hS.2.2.1, Sets.cell (by omega) [(0, .slice aE nE cE), (1, .int .i64 lE), (2, .bool gE), (3, .bool oE), (4, .slice aF nF cF), (5, .int .i64 lF), (6, .bool gF), (7, .bool oF)] hS.2.2.2.1, Sets.cell (by omega) [(0, .slice aE nE cE), (1, .int .i64 lE), (2, .bool gE), (3, .bool oE), (4, .slice aF nF cF), (5, .int .i64 lF), (6, .bool gF), (7, .bool oF)] hS.2.2.2.2.1, Sets.cell (by omega) [(0, .slice aE nE cE), (1, .int .i64 lE), (2, .bool gE), (3, .bool oE), (4, .slice aF nF cF), (5, .int .i64 lF), (6, .bool gF), (7, .bool oF)] hS.2.2.2.2.2.1, Sets.below (by omega) [(0, .slice aE nE cE), (1, .int .i64 lE), (2, .bool gE), (3, .bool oE), (4, .slice aF nF cF), (5, .int .i64 lF), (6, .bool gF), (7, .bool oF)] hS.2.2.2.2.2.2⟩
     refine calA 8 fun KF hK => ?_
     go_simp
     go_wp2_with fail
     refine hK.out _ _ hS2 ?_
     clear hS
     intro hS
     clear hK KF k0 k1 k2 k3 k4 k5 k6 k7 f0 f1 f2 f3 f4 f5 f6 f7 hfr
     try simp only [Act.put]
     try simp only [List.setIfInBounds_toArray, List.set_cons_zero, List.set_cons_succ]
     clear hS2
     generalize ((((((((W.setCell ⟨bb, 0, none⟩ (.slice aE nE cE)).setCell ⟨bb, 1, none⟩ (.int .i64 lE)).setCell ⟨bb, 2, none⟩ (.bool gE)).setCell ⟨bb, 3, none⟩ (.bool oE)).setCell ⟨bb, 4, none⟩ (.slice aF nF cF)).setCell ⟨bb, 5, none⟩ (.int .i64 lF)).setCell ⟨bb, 6, none⟩ (.bool gF)).setCell ⟨bb, 7, none⟩ (.bool oF)) = Wa at *
     have hPB := hP.1
     replace hNC := hP.2.pb hNC (Ne.symm hbc)
     replace hnH := hP.2.num _ _ hnH
     replace hnI := hP.2.num _ _ hnI
     clear hP hNB hnE hnF
     obtain ⟨_, _, _, _, _, _, _, _, _, _, _, _, ⟨k0, k1, k2, k3, k4, k5, k6, k7⟩, _, _, hfr⟩ := hNC.cells
     have f0 := hfr 0
     have f1 := hfr 1
     have f2 := hfr 2
     have f3 := hfr 3
     have f4 := hfr 4
     have f5 := hfr 5
     have f6 := hfr 6
     have f7 := hfr 7
     have hP : (fun W' => PB W' bc _ _ ∧ Kept Wa W' bc) ((((((((Wa.setCell ⟨bc, 0, none⟩ (.slice aH nH cH)).setCell ⟨bc, 1, none⟩ (.int .i64 lH)).setCell ⟨bc, 2, none⟩ (.bool gH)).setCell ⟨bc, 3, none⟩ (.bool oH)).setCell ⟨bc, 4, none⟩ (.slice aI nI cI)).setCell ⟨bc, 5, none⟩ (.int .i64 lI)).setCell ⟨bc, 6, none⟩ (.bool gI)).setCell ⟨bc, 7, none⟩ (.bool oI)) := (fun h => ⟨h.1, h.2.1⟩) (hNC.put hnH hnI)
     have hS2 : (fun W => W.cell? ⟨w.heap.size, 0, none⟩ = some (.float .f64 ax) ∧ W.cell? ⟨w.heap.size, 1, none⟩ = some (.float .f64 ay) ∧ W.cell? ⟨w.heap.size + 1, 0, none⟩ = some (.float .f64 bx) ∧ W.cell? ⟨w.heap.size + 1, 1, none⟩ = some (.float .f64 by') ∧ W.cell? ⟨w.heap.size + 1 + 1, 0, none⟩ = some (.float .f64 cx) ∧ W.cell? ⟨w.heap.size + 1 + 1, 1, none⟩ = some (.float .f64 cy) ∧ Below w.heap.size w W) ((((((((Wa.setCell ⟨bc, 0, none⟩ (.slice aH nH cH)).setCell ⟨bc, 1, none⟩ (.int .i64 lH)).setCell ⟨bc, 2, none⟩ (.bool gH)).setCell ⟨bc, 3, none⟩ (.bool oH)).setCell ⟨bc, 4, none⟩ (.slice aI nI cI)).setCell ⟨bc, 5, none⟩ (.int .i64 lI)).setCell ⟨bc, 6, none⟩ (.bool gI)).setCell ⟨bc, 7, none⟩ (.bool oI)) := ⟨Sets.cell (by omega) [(0, .slice aH nH cH), (1, .int .i64 lH), (2, .bool gH), (3, .bool oH), (4, .slice aI nI cI), (5, .int .i64 lI), (6, .bool gI), (7, .bool oI)] hS.1, Sets.cell (by omega) [(0, .slice aH nH cH), (1, .int .i64 lH), (2, .bool gH), (3, .bool oH), (4, .slice aI nI cI), (5, .int .i64 lI), (6, .bool gI), (7, .bool oI)] hS.2.1, Sets.cell (by omega) [(0, .slice aH nH cH), (1, .int .i64 lH), (2, .bool gH), (3, .bool oH), (4, .slice aI nI cI), (5, .int .i64 lI), (6, .bool gI), (7, .bool oI)] hS.2.2.1, Sets.cell (by omega) [(0, .slice aH nH cH), (1, .int .i64 lH), (2, .bool gH), (3, .bool oH), (4, .slice aI nI cI), (5, .int .i64 lI), (6, .bool gI), (7, .bool oI)] hS.2.2.2.1, Sets.cell (by omega) [(0, .slice aH nH cH), (1, .int .i64 lH), (2, .bool gH), (3, .bool oH), (4, .slice aI nI cI), (5, .int .i64 lI), (6, .bool gI), (7, .bool oI)] hS.2.2.2.2.1, Sets.cell (by omega) [(0, .slice aH nH cH), (1, .int .i64 lH), (2, .bool gH), (3, .bool oH), (4, .slice aI nI cI), (5, .int .i64 lI), (6, .bool gI), (7, .bool oI)] hS.2.2.2.2.2.1, Sets.below (by omega) [(0, .slice aH nH cH), (1, .int .i64 lH), (2, .bool gH), (3, .bool oH), (4, .slice aI nI cI), (5, .int .i64 lI), (6, .bool gI), (7, .bool oI)] hS.2.2.2.2.2.2⟩
     refine calA 9 fun KF hK => ?_
     go_simp
     go_wp2_with fail
     refine hK.out _ _ hS2 ?_
     clear hS
     intro hS
     clear hK KF k0 k1 k2 k3 k4 k5 k6 k7 f0 f1 f2 f3 f4 f5 f6 f7 hfr
     try simp only [Act.put]
     try simp only [List.setIfInBounds_toArray, List.set_cons_zero, List.set_cons_succ]
     clear hS2
     generalize ((((((((Wa.setCell ⟨bc, 0, none⟩ (.slice aH nH cH)).setCell ⟨bc, 1, none⟩ (.int .i64 lH)).setCell ⟨bc, 2, none⟩ (.bool gH)).setCell ⟨bc, 3, none⟩ (.bool oH)).setCell ⟨bc, 4, none⟩ (.slice aI nI cI)).setCell ⟨bc, 5, none⟩ (.int .i64 lI)).setCell ⟨bc, 6, none⟩ (.bool gI)).setCell ⟨bc, 7, none⟩ (.bool oI)) = Wb at *
     have hPC := hP.1
     replace hPB := hP.2.pb hPB hbc
     clear hP hNC hnH hnI
     refine wpAnyH_done (by kernel_rfl) ?_ _
     have HBL : Hid (Below w.heap.size w Wb) := hS.2.2.2.2.2.2
     clear hS
     have HQ : Hid (PB Wb bb (fval bx - fval ax) (fval by' - fval ay) ∧ PB Wb bc (fval cx - fval ax) (fval cy - fval ay)) := ⟨hPB, hPC⟩
     obtain ⟨aE, nE, cE, lE, gE, oE, aF, nF, cF, lF, gF, oF, ⟨k0, k1, k2, k3, k4, k5, k6, k7⟩, hnE, hnF, _⟩ := hPB.cells
     obtain ⟨aH, nH, cH, lH, gH, oH, aI, nI, cI, lI, gI, oI, ⟨m0, m1, m2, m3, m4, m5, m6, m7⟩, hnH, hnI, _⟩ := hPC.cells
     have HN : Hid (IsNum Wb (.agg #[.slice aE nE cE, .int .i64 lE, .bool gE, .bool oE]) (some (fval bx - fval ax)) ∧ IsNum Wb (.agg #[.slice aF nF cF, .int .i64 lF, .bool gF, .bool oF]) (some (fval by' - fval ay)) ∧ IsNum Wb (.agg #[.slice aH nH cH, .int .i64 lH, .bool gH, .bool oH]) (some (fval cx - fval ax)) ∧ IsNum Wb (.agg #[.slice aI nI cI, .int .i64 lI, .bool gI, .bool oI]) (some (fval cy - fval ay))) := ⟨hnE, hnF, hnH, hnI⟩
     clear hnE hnF hnH hnI hPB hPC
     go_wp2_with fail
     refine (product_any _ _ _ _ _ _ _ _ _ _ _ _ _ _ _ _ _ _ _ _ _ _ _ _ _ (HT.out.later HBL.out) HN.out.1 HN.out.2.1 HN.out.2.2.1 HN.out.2.2.2 (HY.out.1.may HY.out.2.2.1) (HY.out.2.1.may HY.out.2.2.2) (HY.out.1.may2 HY.out.2.2.1 HY.out.2.1 HY.out.2.2.2)).mono ?_
     rintro e w8 ⟨aM, nM, cM, lM, gM, oM, rfl, hnM, hb8⟩
     have hQ8 := HQ.out.1.later hb8
     have hR8 := HQ.out.2.later hb8
     have HB8 : Hid (Below w.heap.size w w8) := below_step HBL.out hb8
     clear hb8 k0 k1 k2 k3 k4 k5 k6 k7 m0 m1 m2 m3 m4 m5 m6 m7 HN HQ HBL
     obtain ⟨W9, hW9⟩ : ∃ W9, W9 = w8.alloc (.cells #[.slice aM nM cM, .int .i64 lM, .bool gM, .bool oM] 49) := ⟨_, rfl⟩
     have hb9 : Below w8.heap.size w8 W9.drew := by rw [hW9]; exact ((Below.refl _ w8).alloc (Nat.le_refl _) _).drew
     have z0 : W9.drew.cell? ⟨w8.heap.size, 0, none⟩ = some (.slice aM nM cM) := by rw [hW9]; go_simp
     have z1 : W9.drew.cell? ⟨w8.heap.size, 1, none⟩ = some (.int .i64 lM) := by rw [hW9]; go_simp
     have z2 : W9.drew.cell? ⟨w8.heap.size, 2, none⟩ = some (.bool gM) := by rw [hW9]; go_simp
     have z3 : W9.drew.cell? ⟨w8.heap.size, 3, none⟩ = some (.bool oM) := by rw [hW9]; go_simp
     replace hQ8 := hQ8.later hb9
     replace hR8 := hR8.later hb9
     replace hnM := hnM.later hb9
     have HB9 : Hid (Below w.heap.size w W9.drew) := below_step HB8.out hb9
     obtain ⟨aE, nE, cE, lE, gE, oE, aF, nF, cF, lF, gF, oF, ⟨k0, k1, k2, k3, k4, k5, k6, k7⟩, hnE, hnF, _⟩ := hQ8.cells
     obtain ⟨aH, nH, cH, lH, gH, oH, aI, nI, cI, lI, gI, oI, ⟨m0, m1, m2, m3, m4, m5, m6, m7⟩, hnH, hnI, _⟩ := hR8.cells
     go_wp2_with fail
     rw [← hW9]
     clear hW9 hb9 hQ8 hR8 HB8
     refine wp_region_held_drew (S := (fun W => W.cell? ⟨w8.heap.size, 0, none⟩ = some (.slice aM nM cM) ∧ W.cell? ⟨w8.heap.size, 1, none⟩ = some (.int .i64 lM) ∧ W.cell? ⟨w8.heap.size, 2, none⟩ = some (.bool gM) ∧ W.cell? ⟨w8.heap.size, 3, none⟩ = some (.bool oM) ∧ W.cell? ⟨bb, 0, none⟩ = some (.slice aE nE cE) ∧ W.cell? ⟨bb, 1, none⟩ = some (.int .i64 lE) ∧ W.cell? ⟨bb, 2, none⟩ = some (.bool gE) ∧ W.cell? ⟨bb, 3, none⟩ = some (.bool oE) ∧ W.cell? ⟨bb, 4, none⟩ = some (.slice aF nF cF) ∧ W.cell? ⟨bb, 5, none⟩ = some (.int .i64 lF) ∧ W.cell? ⟨bb, 6, none⟩ = some (.bool gF) ∧ W.cell? ⟨bb, 7, none⟩ = some (.bool oF) ∧ W.cell? ⟨bc, 0, none⟩ = some (.slice aH nH cH) ∧ W.cell? ⟨bc, 1, none⟩ = some (.int .i64 lH) ∧ W.cell? ⟨bc, 2, none⟩ = some (.bool gH) ∧ W.cell? ⟨bc, 3, none⟩ = some (.bool oH) ∧ W.cell? ⟨bc, 4, none⟩ = some (.slice aI nI cI) ∧ W.cell? ⟨bc, 5, none⟩ = some (.int .i64 lI) ∧ W.cell? ⟨bc, 6, none⟩ = some (.bool gI) ∧ W.cell? ⟨bc, 7, none⟩ = some (.bool oI) ∧ Below w.heap.size w W)) (by kernel_rfl) ⟨z0, z1, z2, z3, k0, k1, k2, k3, k4, k5, k6, k7, m0, m1, m2, m3, m4, m5, m6, m7, HB9.out⟩ (fun hS => ?_)
     refine takA (i := 0) (d := some 65) (v := .agg #[.slice aM nM cM, .int .i64 lM, .bool gM, .bool oM]) hS ?_
     simp only [AP]
     refine takA (i := 1) (d := some 66) (v := .agg #[.slice aM nM cM, .int .i64 lM, .bool gM, .bool oM]) hS ?_
     simp only [AP]
     refine takA (i := 3) (d := some 68) (v := .float .f64 g) hS ?_
     simp only [AP]
     refine takA (i := 5) (d := some 70) (v := .agg #[.slice aE nE cE, .int .i64 lE, .bool gE, .bool oE, .slice aF nF cF, .int .i64 lF, .bool gF, .bool oF]) hS ?_
     simp only [AP]
     refine takA (i := 8) (d := some 73) (v := .agg #[.slice aH nH cH, .int .i64 lH, .bool gH, .bool oH, .slice aI nI cI, .int .i64 lI, .bool gI, .bool oI]) hS ?_
     simp only [AP]
     refine calA 2 fun KF hK => ?_
     go_simp
     refine (mulQ hnM hnM (HT.out.later hS.2.2.2.2.2.2.2.2.2.2.2.2.2.2.2.2.2.2.2.2) HMM.out.1).mono ?_
     rintro e wx ⟨aA, nA, cA, lA, gA, oA, rfl, hnA, hbx⟩
     replace hnE := hnE.later hbx
     replace hnF := hnF.later hbx
     replace hnH := hnH.later hbx
     replace hnI := hnI.later hbx
     go_wp2_with fail
     refine hK.out _ _ (kp20 hbx hS) ?_
     clear hS hbx
     intro hS
     clear hK KF
     try simp only [AP]
     refine calA 4 fun KF hK => ?_
     go_simp
     refine (ofQ HG.out.1 HG.out.2 (HT.out.later hS.2.2.2.2.2.2.2.2.2.2.2.2.2.2.2.2.2.2.2.2)).mono ?_
     rintro e wx ⟨aG, nG, cG, lG, gG, oG, rfl, hnG, hbx⟩
     replace hnE := hnE.later hbx
     replace hnF := hnF.later hbx
     replace hnH := hnH.later hbx
     replace hnI := hnI.later hbx
     replace hnA := hnA.later hbx
     go_wp2_with fail
     refine hK.out _ _ (kp20 hbx hS) ?_
     clear hS hbx
     intro hS
     clear hK KF
     try simp only [AP]
     refine calA 6 fun KF hK => ?_
     go_simp
     refine (square_any _ _ _ _ _ _ _ _ _ _ _ _ _ (HT.out.later hS.2.2.2.2.2.2.2.2.2.2.2.2.2.2.2.2.2.2.2.2) hnE hnF HY.out.1 HY.out.2.1).mono ?_
     rintro e wx ⟨aJ, nJ, cJ, lJ, gJ, oJ, rfl, hnJ, hbx⟩
     replace hnH := hnH.later hbx
     replace hnI := hnI.later hbx
     replace hnA := hnA.later hbx
     replace hnG := hnG.later hbx
     go_wp2_with fail
     refine hK.out _ _ (kp20 hbx hS) ?_
     clear hS hbx
     intro hS
     clear hK KF
     try simp only [AP]
     refine calA 7 fun KF hK => ?_
     go_simp
     refine (mulQ hnG hnJ (HT.out.later hS.2.2.2.2.2.2.2.2.2.2.2.2.2.2.2.2.2.2.2.2) HMM.out.2.1).mono ?_
     rintro e wx ⟨aK, nK, cK, lK, gK, oK, rfl, hnK, hbx⟩
     replace hnH := hnH.later hbx
     replace hnI := hnI.later hbx
     replace hnA := hnA.later hbx
     go_wp2_with fail
     refine hK.out _ _ (kp20 hbx hS) ?_
     clear hS hbx
     intro hS
     clear hK KF
     try simp only [AP]
     refine calA 9 fun KF hK => ?_
     go_simp
     refine (square_any _ _ _ _ _ _ _ _ _ _ _ _ _ (HT.out.later hS.2.2.2.2.2.2.2.2.2.2.2.2.2.2.2.2.2.2.2.2) hnH hnI HY.out.2.2.1 HY.out.2.2.2).mono ?_
     rintro e wx ⟨aL, nL, cL, lL, gL, oL, rfl, hnL, hbx⟩
     replace hnA := hnA.later hbx
     replace hnK := hnK.later hbx
     go_wp2_with fail
     refine hK.out _ _ (kp20 hbx hS) ?_
     clear hS hbx
     intro hS
     clear hK KF
     try simp only [AP]
     refine calA 10 fun KF hK => ?_
     go_simp
     refine (mulQ hnK hnL (HT.out.later hS.2.2.2.2.2.2.2.2.2.2.2.2.2.2.2.2.2.2.2.2) HMM.out.2.2).mono ?_
     rintro e wx ⟨aN, nN, cN, lN, gN, oN, rfl, hnN, hbx⟩
     replace hnA := hnA.later hbx
     go_wp2_with fail
     refine hK.out _ _ (kp20 hbx hS) ?_
     clear hS hbx
     intro hS
     clear hK KF
     try simp only [AP]
     refine calA 11 fun KF hK => ?_
     go_simp
     have hc := cmpQ hnA hnN
     rw [HZ2.out] at hc
     refine hc.mono ?_
     rintro e wx ⟨rfl, hbx⟩
     clear hc
     go_wp2_with fail
     refine hK.out _ _ (kp20 hbx hS) ?_
     clear hS hbx
     intro hS
     clear hK KF
     try simp only [AP]
     refine takA (i := 12) (d := some 77) (v := .bool tb) hS ?_
     simp only [AP]
     refine takA (i := 13) (d := some 8) (v := .bool tb) hS ?_
     simp only [AP]
     refine wpAnyH_done (by kernel_rfl) ?_ _
     have HBE : Hid (Below w.heap.size w _) := hS.2.2.2.2.2.2.2.2.2.2.2.2.2.2.2.2.2.2.2.2
     clear hS z0 z1 z2 z3 k0 k1 k2 k3 k4 k5 k6 k7 m0 m1 m2 m3 m4 m5 m6 m7 hnM hnE hnF hnH hnI hnA hnG hnJ hnK hnL hnN
     go_wp2
     go_ret
     exact ⟨rfl, HBE.out⟩
   · exact ⟨undef, undef, undef, undef, by rw [hA]; rfl, hS, fun h => Bool.noConfusion h, fun h => Bool.noConfusion h, fun h => Bool.noConfusion h, fun h => by omega, fun h => by omega⟩
 · refine (told_yes x wq v _ HX.out.1 (HX.out.2.1 rfl) HX.out.2.2.1 ht2.out).mono ?_
   rintro e wx ⟨rfl, hbx⟩
   subst hbx
   have hsx := HX.out.2.2.2 (by simp)
   rw [hsx]
   go_wp2
   go_ret
   exact ⟨rfl, HB5.out.bel⟩
end
end Go.Proofs.YtocnkgfoffpbfaaGreatDoor
