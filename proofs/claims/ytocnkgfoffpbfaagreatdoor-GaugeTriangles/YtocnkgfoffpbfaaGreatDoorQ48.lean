/- Own texts, put together: Gq Gr. -/
import Derived.Test.YtocnkgfoffpbfaaGreatDoorQ3
import Derived.Test.YtocnkgfoffpbfaaGreatDoorQ39
import Derived.Test.YtocnkgfoffpbfaaGreatDoorQ46
/- Cosines: cosineAbove. -/
namespace Go.Proofs.YtocnkgfoffpbfaaGreatDoor
open Go.RowKit Go.Shelf
attribute [local go_sem ↓] Go.wp_at_zero Go.wp_at_succ
attribute [local go_sem] run_store_float

def cosE (ax ay bx by' cx cy g : Nat) : Rat := ((fval bx - fval ax) * (fval cx - fval ax) + (fval by' - fval ay) * (fval cy - fval ay)) * ((fval bx - fval ax) * (fval cx - fval ax) + (fval by' - fval ay) * (fval cy - fval ay)) - fval g * ((fval bx - fval ax) * (fval bx - fval ax) + (fval by' - fval ay) * (fval by' - fval ay)) * ((fval cx - fval ax) * (fval cx - fval ax) + (fval cy - fval ay) * (fval cy - fval ay))

set_option maxRecDepth 100000 in
set_option maxHeartbeats 4000000 in
theorem cosine_any (ax ay bx by' cx cy g : Nat) (w : World) (tb : Bool) (hT : Tab w) (hw : W6 ax ay bx by' cx cy) (hp : P3 ax ay bx by' cx cy) (hg : g < 18446744073709551616) (fg : Fin64 g) (hne : (fval bx - fval ax) * (fval cx - fval ax) + (fval by' - fval ay) * (fval cy - fval ay) ≠ 0) (hb : decide (0 < sgq (cosE ax ay bx by' cx cy g)) = tb) :
   Calls Tryz.prog 52 #[pv ax ay, pv bx by', pv cx cy, .float .f64 g] w fun e w' => e = .returned (.bool tb) ∧ Below w.heap.size w w' := by
 have HT : Hid (Tab w) := hT
 have HW : Hid (W6 ax ay bx by' cx cy) := hw
 have HP : Hid (P3 ax ay bx by' cx cy) := hp
 have HG : Hid (g < 18446744073709551616 ∧ Fin64 g) := ⟨hg, fg⟩
 obtain ⟨z, hz⟩ : ∃ z, sgq (cosE ax ay bx by' cx cy g) = z := ⟨_, rfl⟩
 have HZ : Hid (sgq (cosE ax ay bx by' cx cy g) = z) := hz
 have HZ2 : Hid (sgq (((fval bx - fval ax) * (fval cx - fval ax) + (fval by' - fval ay) * (fval cy - fval ay)) * ((fval bx - fval ax) * (fval cx - fval ax) + (fval by' - fval ay) * (fval cy - fval ay)) - fval g * ((fval bx - fval ax) * (fval bx - fval ax) + (fval by' - fval ay) * (fval by' - fval ay)) * ((fval cx - fval ax) * (fval cx - fval ax) + (fval cy - fval ay) * (fval cy - fval ay))) = z) := hz
 rw [hz] at hb
 have HNE : Hid ((fval bx - fval ax) * (fval cx - fval ax) + (fval by' - fval ay) * (fval cy - fval ay) ≠ 0) := hne
 have wa := HP.out.1.w HW.out.1
 have wb := HP.out.2.1.w HW.out.2.1
 have wc := HP.out.2.2.w HW.out.2.2
 have HF : Hid ((Wfl ax ∧ Wfl ay ∧ Wfl bx ∧ Wfl by') ∧ Wfl ax ∧ Wfl ay ∧ Wfl cx ∧ Wfl cy) := ⟨⟨wa.1, wa.2, wb.1, wb.2⟩, wa.1, wa.2, wc.1, wc.2⟩
 have HY : Hid (Wy (fval bx - fval ax) ∧ Wy (fval by' - fval ay) ∧ Wy (fval cx - fval ax) ∧ Wy (fval cy - fval ay)) := ⟨wy_of wa.1.2 wb.1.2, wy_of wa.2.2 wb.2.2, wy_of wa.1.2 wc.1.2, wy_of wa.2.2 wc.2.2⟩
 have HMM : Hid (May (((fval bx - fval ax) * (fval cx - fval ax) + (fval by' - fval ay) * (fval cy - fval ay)) * ((fval bx - fval ax) * (fval cx - fval ax) + (fval by' - fval ay) * (fval cy - fval ay))) ∧ May (fval g * ((fval bx - fval ax) * (fval bx - fval ax) + (fval by' - fval ay) * (fval by' - fval ay))) ∧ May (fval g * ((fval bx - fval ax) * (fval bx - fval ax) + (fval by' - fval ay) * (fval by' - fval ay)) * ((fval cx - fval ax) * (fval cx - fval ax) + (fval cy - fval ay) * (fval cy - fval ay)))) := by
   have b1 := HY.out.1.sum HY.out.2.2.1 HY.out.2.1 HY.out.2.2.2
   have b2 := HY.out.1.sum HY.out.1 HY.out.2.1 HY.out.2.1
   have b3 := HY.out.2.2.1.sum HY.out.2.2.1 HY.out.2.2.2 HY.out.2.2.2
   exact ⟨(b1.mul b1).may (by omega) (by omega), ((fval_bd fg).mul b2).may (by omega) (by omega), (((fval_bd fg).mul b2).mul b3).may (by omega) (by omega)⟩
 obtain ⟨x1, e1, W1⟩ := way_word HP.out.1.1 HP.out.2.1.1
 obtain ⟨y1, e2, W2⟩ := way_word HP.out.1.2 HP.out.2.1.2
 obtain ⟨x2, e3, W3⟩ := way_word HP.out.1.1 HP.out.2.2.1
 obtain ⟨y2, e4, W4⟩ := way_word HP.out.1.2 HP.out.2.2.2
 obtain ⟨s, zz, Es, Ps, _⟩ := prod2_word W1 W2 W3 W4
 obtain ⟨l1, z1, El1, Pl1, Sl1⟩ := prod2_word W1 W2 W1 W2
 obtain ⟨l2, z2, El2, Pl2, Sl2⟩ := prod2_word W3 W4 W3 W4
 obtain ⟨p1, k1⟩ := Sl1 rfl rfl rfl rfl
 obtain ⟨p2, k2⟩ := Sl2 rfl rfl rfl rfl
 obtain ⟨f, b, ss, x, zq, wq, v, q1, q2, q3, q4, q5, q6, ev, wb', wx', hs⟩ := cosine_word Ps Pl1 Pl2 p1 p2 k1 k2 fg hne
 have HE : Hid (floatBits .sub .f64 bx ax = some x1 ∧ floatBits .sub .f64 by' ay = some y1 ∧ floatBits .sub .f64 cx ax = some x2 ∧ floatBits .sub .f64 cy ay = some y2 ∧ ProdE x1 y1 x2 y2 s zz ∧ ProdE x1 y1 x1 y1 l1 z1 ∧ ProdE x2 y2 x2 y2 l2 z2) := ⟨e1, e2, e3, e4, Es, El1, El2⟩
 have HAb : Hid (∀ w, Calls Tryz.prog 42 #[.float .f64 b] w fun e w' => e = .returned (.float .f64 (frung b)) ∧ w' = w) := fun w => abs_any b w wb'
 have u1 : ∀ w, (binOp .mul 22 (.float .f64 l1) (.float .f64 l2)).run Tryz.prog w = .ok (.float .f64 f) w := fun w => run_float_arith w .mul _ .f64 _ _ _ q1
 have u2 : ∀ w, (binOp .mul 22 (.float .f64 g) (.float .f64 f)).run Tryz.prog w = .ok (.float .f64 b) w := fun w => run_float_arith w .mul _ .f64 _ _ _ q2
 have u3 : ∀ w, (binOp .mul 22 (.float .f64 s) (.float .f64 s)).run Tryz.prog w = .ok (.float .f64 ss) w := fun w => run_float_arith w .mul _ .f64 _ _ _ q3
 have u4 : ∀ w, (binOp .sub 22 (.float .f64 ss) (.float .f64 b)).run Tryz.prog w = .ok (.float .f64 x) w := fun w => run_float_arith w .sub _ .f64 _ _ _ q4
 have u5 : ∀ w, (binOp .mul 22 (.float .f64 zz) (.float .f64 zz)).run Tryz.prog w = .ok (.float .f64 zq) w := fun w => run_float_arith w .mul _ .f64 _ _ _ q5
 have u6 : ∀ w, (binOp .add 22 (.float .f64 zq) (.float .f64 (frung b))).run Tryz.prog w = .ok (.float .f64 wq) w := fun w => run_float_arith w .add _ .f64 _ _ _ q6
 obtain ⟨fb, hfb⟩ : ∃ k, frung b = k := ⟨_, rfl⟩
 rw [hfb] at u6
 have HAb' : Hid (∀ w, Calls Tryz.prog 42 #[.float .f64 b] w fun e w' => e = .returned (.float .f64 fb) ∧ w' = w) := by rw [← hfb]; exact HAb.out
 obtain ⟨t2, ht2'⟩ : ∃ t, (FloatKind.f64.format.order (frung x) v == some .gt) = t := ⟨_, rfl⟩
 have ht2 : Hid ((FloatKind.f64.format.order (frung x) v == some .gt) = t2) := ht2'
 have HX : Hid (x < 18446744073709551616 ∧ (t2 = true → Fin64 x) ∧ floatBits .mul .f64 4386506037058863104 wq = some v ∧ (t2 = true → sgq (fval x) = z)) := ⟨wx', fun h => (hs (by rw [ht2']; exact h)).1, ev, fun h => by rw [← HZ2.out]; exact (hs (by rw [ht2']; exact h)).2⟩
 clear wa wb wc e1 e2 e3 e4 W1 W2 W3 W4 Es Ps El1 Pl1 Sl1 El2 Pl2 Sl2 p1 k1 p2 k2 q1 q2 q3 q4 q5 q6 ev wb' wx' hs ht2' hT hw hp hg fg hne hz hfb HAb
 go_enter Tryz.func52, Tryz.ntmps52
 go_wp2_with fail
 obtain ⟨W0, hW0⟩ : ∃ W0, W0 = ((w.alloc (.cells #[.float .f64 ax, .float .f64 ay] 24)).alloc (.cells #[.float .f64 bx, .float .f64 by'] 24)).alloc (.cells #[.float .f64 cx, .float .f64 cy] 24) := ⟨_, rfl⟩
 have z0 : W0.drew.cell? ⟨w.heap.size, 0, none⟩ = some (.float .f64 ax) := by rw [hW0]; go_simp
 have z1 : W0.drew.cell? ⟨w.heap.size, 1, none⟩ = some (.float .f64 ay) := by rw [hW0]; go_simp
 have z2 : W0.drew.cell? ⟨w.heap.size + 1, 0, none⟩ = some (.float .f64 bx) := by rw [hW0]; go_simp
 have z3 : W0.drew.cell? ⟨w.heap.size + 1, 1, none⟩ = some (.float .f64 by') := by rw [hW0]; go_simp
 have z4 : W0.drew.cell? ⟨w.heap.size + 1 + 1, 0, none⟩ = some (.float .f64 cx) := by rw [hW0]; go_simp
 have z5 : W0.drew.cell? ⟨w.heap.size + 1 + 1, 1, none⟩ = some (.float .f64 cy) := by rw [hW0]; go_simp
 have HB1 : Hid (Below w.heap.size w W0) := by
   rw [hW0]
   exact (((Below.refl _ w).alloc (Nat.le_refl _) _).alloc (by simp) _).alloc (by simp; omega) _
 rw [← hW0]
 clear hW0
 refine wp_region_held_drew (S := (fun W => W.cell? ⟨w.heap.size, 0, none⟩ = some (.float .f64 ax) ∧ W.cell? ⟨w.heap.size, 1, none⟩ = some (.float .f64 ay) ∧ W.cell? ⟨w.heap.size + 1, 0, none⟩ = some (.float .f64 bx) ∧ W.cell? ⟨w.heap.size + 1, 1, none⟩ = some (.float .f64 by') ∧ W.cell? ⟨w.heap.size + 1 + 1, 0, none⟩ = some (.float .f64 cx) ∧ W.cell? ⟨w.heap.size + 1 + 1, 1, none⟩ = some (.float .f64 cy) ∧ Below w.heap.size w W)) (by kernel_rfl) ⟨z0, z1, z2, z3, z4, z5, HB1.out.drew⟩ (fun hS => ?_)
 refine takA (i := 0) (d := some 19) (v := .agg #[.float .f64 ax, .float .f64 ay]) hS ?_
 simp only [AP]
 refine takA (i := 1) (d := some 20) (v := .agg #[.float .f64 bx, .float .f64 by']) hS ?_
 simp only [AP]
 refine takA (i := 3) (d := some 22) (v := .agg #[.float .f64 ax, .float .f64 ay]) hS ?_
 simp only [AP]
 refine takA (i := 4) (d := some 23) (v := .agg #[.float .f64 cx, .float .f64 cy]) hS ?_
 simp only [AP]
 refine calA 2 fun KF hK => ?_
 go_simp
 refine (nearWay_is ax ay bx by' x1 y1 _ HE.out.1 HE.out.2.1).mono ?_
 rintro e wx ⟨rfl, hbx⟩

 go_wp2_with fail
 refine hK.out _ _ ⟨box_cell hbx hS.1, box_cell hbx hS.2.1, box_cell hbx hS.2.2.1, box_cell hbx hS.2.2.2.1, box_cell hbx hS.2.2.2.2.1, box_cell hbx hS.2.2.2.2.2.1, below_step hS.2.2.2.2.2.2 hbx⟩ ?_
 clear hS hbx
 intro hS
 clear hK KF
 try simp only [AP]
 refine calA 5 fun KF hK => ?_
 go_simp
 refine (nearWay_is ax ay cx cy x2 y2 _ HE.out.2.2.1 HE.out.2.2.2.1).mono ?_
 rintro e wx ⟨rfl, hbx⟩

 go_wp2_with fail
 refine hK.out _ _ ⟨box_cell hbx hS.1, box_cell hbx hS.2.1, box_cell hbx hS.2.2.1, box_cell hbx hS.2.2.2.1, box_cell hbx hS.2.2.2.2.1, box_cell hbx hS.2.2.2.2.2.1, below_step hS.2.2.2.2.2.2 hbx⟩ ?_
 clear hS hbx
 intro hS
 clear hK KF
 try simp only [AP]
 refine calA 6 fun KF hK => ?_
 go_simp
 refine (nearProduct_is x1 y1 x2 y2 s zz _ HE.out.2.2.2.2.1).mono ?_
 rintro e wx ⟨rfl, hbx⟩

 go_wp2_with fail
 refine hK.out _ _ ⟨box_cell hbx hS.1, box_cell hbx hS.2.1, box_cell hbx hS.2.2.1, box_cell hbx hS.2.2.2.1, box_cell hbx hS.2.2.2.2.1, box_cell hbx hS.2.2.2.2.2.1, below_step hS.2.2.2.2.2.2 hbx⟩ ?_
 clear hS hbx
 intro hS
 clear hK KF
 try simp only [AP]
 refine takA (i := 7) (d := some 18) (v := .tuple #[.float .f64 s, .float .f64 zz]) hS ?_
 simp only [AP]
 refine takA (i := 8) (d := some 26) (v := .float .f64 s) hS ?_
 simp only [AP]
 refine takA (i := 9) (d := some 27) (v := .float .f64 zz) hS ?_
 simp only [AP]
 refine takA (i := 10) (d := some 9) (v := .float .f64 s) hS ?_
 simp only [AP]
 refine takA (i := 11) (d := some 10) (v := .float .f64 zz) hS ?_
 simp only [AP]
 refine wpAnyH_done (by kernel_rfl) ?_ _
 clear z0 z1 z2 z3 z4 z5 HB1
 have HB5 : Hid (B3 w _ ax ay bx by' cx cy) := ⟨hS.1, hS.2.1, hS.2.2.1, hS.2.2.2.1, hS.2.2.2.2.1, hS.2.2.2.2.2.1, hS.2.2.2.2.2.2⟩
 clear hS
 go_wp2_with fail
 refine wp_region_held_drew (S := (fun W => W.cell? ⟨w.heap.size, 0, none⟩ = some (.float .f64 ax) ∧ W.cell? ⟨w.heap.size, 1, none⟩ = some (.float .f64 ay) ∧ W.cell? ⟨w.heap.size + 1, 0, none⟩ = some (.float .f64 bx) ∧ W.cell? ⟨w.heap.size + 1, 1, none⟩ = some (.float .f64 by') ∧ W.cell? ⟨w.heap.size + 1 + 1, 0, none⟩ = some (.float .f64 cx) ∧ W.cell? ⟨w.heap.size + 1 + 1, 1, none⟩ = some (.float .f64 cy) ∧ Below w.heap.size w W)) (by kernel_rfl) ⟨HB5.out.a0, HB5.out.a1, HB5.out.b0, HB5.out.b1, HB5.out.c0, HB5.out.c1, HB5.out.bel.drew⟩ (fun hS => ?_)
 refine takA (i := 0) (d := some 28) (v := .float .f64 g) hS ?_
 simp only [AP]
 refine takA (i := 1) (d := some 29) (v := .agg #[.float .f64 ax, .float .f64 ay]) hS ?_
 simp only [AP]
 refine takA (i := 2) (d := some 30) (v := .agg #[.float .f64 bx, .float .f64 by']) hS ?_
 simp only [AP]
 refine takA (i := 4) (d := some 32) (v := .agg #[.float .f64 ax, .float .f64 ay]) hS ?_
 simp only [AP]
 refine takA (i := 5) (d := some 33) (v := .agg #[.float .f64 cx, .float .f64 cy]) hS ?_
 simp only [AP]
 refine calA 3 fun KF hK => ?_
 go_simp
 refine (nearSquare_is ax ay bx by' x1 y1 l1 z1 _ HE.out.1 HE.out.2.1 HE.out.2.2.2.2.2.1).mono ?_
 rintro e wx ⟨rfl, hbx⟩

 go_wp2_with fail
 refine hK.out _ _ ⟨box_cell hbx hS.1, box_cell hbx hS.2.1, box_cell hbx hS.2.2.1, box_cell hbx hS.2.2.2.1, box_cell hbx hS.2.2.2.2.1, box_cell hbx hS.2.2.2.2.2.1, below_step hS.2.2.2.2.2.2 hbx⟩ ?_
 clear hS hbx
 intro hS
 clear hK KF
 try simp only [AP]
 refine calA 6 fun KF hK => ?_
 go_simp
 refine (nearSquare_is ax ay cx cy x2 y2 l2 z2 _ HE.out.2.2.1 HE.out.2.2.2.1 HE.out.2.2.2.2.2.2).mono ?_
 rintro e wx ⟨rfl, hbx⟩

 go_wp2_with fail
 refine hK.out _ _ ⟨box_cell hbx hS.1, box_cell hbx hS.2.1, box_cell hbx hS.2.2.1, box_cell hbx hS.2.2.2.1, box_cell hbx hS.2.2.2.2.1, box_cell hbx hS.2.2.2.2.2.1, below_step hS.2.2.2.2.2.2 hbx⟩ ?_
 clear hS hbx
 intro hS
 clear hK KF
 try simp only [AP]
 refine takA (i := 7) (d := some 35) (v := .float .f64 f) hS ?_
 simp only [AP]
 refine takA (i := 8) (d := some 36) (v := .float .f64 b) hS ?_
 simp only [AP]
 refine takA (i := 9) (d := some 11) (v := .float .f64 b) hS ?_
 simp only [AP]
 refine wpAnyH_done (by kernel_rfl) ?_ _
 have HB5 : Hid (B3 w _ ax ay bx by' cx cy) := ⟨hS.1, hS.2.1, hS.2.2.1, hS.2.2.2.1, hS.2.2.2.2.1, hS.2.2.2.2.2.1, hS.2.2.2.2.2.2⟩
 clear hS
 go_wp2_with fail
 refine (HAb'.out _).mono ?_
 rintro e wx ⟨rfl, hbx⟩
 subst hbx
 go_wp2_with fail
 cases t2
 · refine (told_no x wq v _ HX.out.1 HX.out.2.2.1 ht2.out).mono ?_
   rintro e wx ⟨rfl, hbx⟩
   subst hbx
   clear u1 u2 u3 u4 u5 u6 HAb'
   go_wp2_with fail
   refine wp_region_held_drew (S := (fun W => W.cell? ⟨w.heap.size, 0, none⟩ = some (.float .f64 ax) ∧ W.cell? ⟨w.heap.size, 1, none⟩ = some (.float .f64 ay) ∧ W.cell? ⟨w.heap.size + 1, 0, none⟩ = some (.float .f64 bx) ∧ W.cell? ⟨w.heap.size + 1, 1, none⟩ = some (.float .f64 by') ∧ W.cell? ⟨w.heap.size + 1 + 1, 0, none⟩ = some (.float .f64 cx) ∧ W.cell? ⟨w.heap.size + 1 + 1, 1, none⟩ = some (.float .f64 cy) ∧ Below w.heap.size w W)) (by kernel_rfl) ⟨HB5.out.a0, HB5.out.a1, HB5.out.b0, HB5.out.b1, HB5.out.c0, HB5.out.c1, HB5.out.bel.drew⟩ (fun hS => ?_)
   refine takA (i := 0) (d := some 56) (v := .agg #[.float .f64 ax, .float .f64 ay]) hS ?_
   simp only [AP]
   refine takA (i := 1) (d := some 57) (v := .agg #[.float .f64 bx, .float .f64 by']) hS ?_
   simp only [AP]
   refine takA (i := 3) (d := some 59) (v := .agg #[.float .f64 ax, .float .f64 ay]) hS ?_
   simp only [AP]
   refine takA (i := 4) (d := some 60) (v := .agg #[.float .f64 cx, .float .f64 cy]) hS ?_
   simp only [AP]
   refine frame_named (fun A hA => ?_)
   refine draw2 (f := 2) (n := 2) (al := 6) (be := 7) (fun k => if k = 0 then 2 else 5) (fun (xb yb : Bool) (kb : Nat) => #[true, true, decide (1 ≤ kb), true, true, decide (2 ≤ kb), xb, yb, false, false]) (fun (xb yb : Bool) (kb : Nat) (aa : Act) (W : World) => ∃ (ea eb e1 e2 : Value), aa = ((((A.put (some 15) ea).put (some 16) eb).put (some 58) e1).put (some 61) e2) ∧ (W.cell? ⟨w.heap.size, 0, none⟩ = some (.float .f64 ax) ∧ W.cell? ⟨w.heap.size, 1, none⟩ = some (.float .f64 ay) ∧ W.cell? ⟨w.heap.size + 1, 0, none⟩ = some (.float .f64 bx) ∧ W.cell? ⟨w.heap.size + 1, 1, none⟩ = some (.float .f64 by') ∧ W.cell? ⟨w.heap.size + 1 + 1, 0, none⟩ = some (.float .f64 cx) ∧ W.cell? ⟨w.heap.size + 1 + 1, 1, none⟩ = some (.float .f64 cy) ∧ Below w.heap.size w W) ∧ (xb = true → ∃ bb, ea = .pointer (some ⟨bb, 0, none⟩) ∧ PB W bb 0 0 ∧ w.heap.size + 1 + 1 < bb) ∧ (yb = true → ∃ bb, eb = .pointer (some ⟨bb, 0, none⟩) ∧ PB W bb 0 0 ∧ w.heap.size + 1 + 1 < bb) ∧ (xb = true → yb = true → ea ≠ eb) ∧ (1 ≤ kb → PF W e1 ((fval bx - fval ax)) ((fval by' - fval ay))) ∧ (2 ≤ kb → PF W e2 ((fval cx - fval ax)) ((fval cy - fval ay)))) ?_ ?_ ?_ ?_ ?_ ?_ ?_ ?_ 4 false false 0 _ _ (by omega) (by decide) ?_
   · intro xb yb kb hk hx
     have h5 : kb = 0 ∨ kb = 1 ∨ kb = 2 := by omega
     rcases h5 with rfl | rfl | rfl <;> cases xb <;> cases yb <;> first | exact absurd (hx rfl rfl) (by decide) | (show _ = _; kernel_rfl)
   · intro xb yb kb hk
     have h5 : kb = 0 ∨ kb = 1 := by omega
     rcases h5 with rfl | rfl <;> cases xb <;> cases yb <;> rfl
   · intro yb kb hk
     have h5 : kb = 0 ∨ kb = 1 ∨ kb = 2 := by omega
     rcases h5 with rfl | rfl | rfl <;> cases yb <;> rfl
   · intro xb kb hk
     have h5 : kb = 0 ∨ kb = 1 ∨ kb = 2 := by omega
     rcases h5 with rfl | rfl | rfl <;> cases xb <;> rfl
   · intro xb yb kb hk
     have h5 : kb = 0 ∨ kb = 1 := by omega
     rcases h5 with rfl | rfl
     · refine ⟨_, rfl, ?_⟩
       intro aa W hI K' hK
       obtain ⟨ea, eb, e1, e2, rfl, hS, hv, hu, hne, k1, k2⟩ := hI
       have HV : Hid ((xb = true → ∃ bb, ea = .pointer (some ⟨bb, 0, none⟩) ∧ PB W bb 0 0 ∧ w.heap.size + 1 + 1 < bb) ∧ (yb = true → ∃ bb, eb = .pointer (some ⟨bb, 0, none⟩) ∧ PB W bb 0 0 ∧ w.heap.size + 1 + 1 < bb) ∧ (xb = true → yb = true → ea ≠ eb)) := ⟨hv, hu, hne⟩
       clear hv hu hne k1 k2
       rw [hA]
       simp only [AP]
       go_simp
       go_wp2_with fail
       refine (way_any ax ay bx by' _ (HT.out.later hS.2.2.2.2.2.2) HF.out.1).mono ?_
       rintro e wx ⟨aZ, nZ, cZ, lZ, gZ, oZ, aY, nY, cY, lY, gY, oY, rfl, hnew, hnew', hbx⟩
       have hS2 : (fun W => W.cell? ⟨w.heap.size, 0, none⟩ = some (.float .f64 ax) ∧ W.cell? ⟨w.heap.size, 1, none⟩ = some (.float .f64 ay) ∧ W.cell? ⟨w.heap.size + 1, 0, none⟩ = some (.float .f64 bx) ∧ W.cell? ⟨w.heap.size + 1, 1, none⟩ = some (.float .f64 by') ∧ W.cell? ⟨w.heap.size + 1 + 1, 0, none⟩ = some (.float .f64 cx) ∧ W.cell? ⟨w.heap.size + 1 + 1, 1, none⟩ = some (.float .f64 cy) ∧ Below w.heap.size w W) wx := ⟨box_cell hbx hS.1, box_cell hbx hS.2.1, box_cell hbx hS.2.2.1, box_cell hbx hS.2.2.2.1, box_cell hbx hS.2.2.2.2.1, box_cell hbx hS.2.2.2.2.2.1, below_step hS.2.2.2.2.2.2 hbx⟩
       go_wp2_with fail
       exact hK.out _ _ hS2 ⟨ea, eb, _, e2, by rw [hA]; rfl, hS2, fun h => (by obtain ⟨bb, h1, h2, h3⟩ := (HV.out.1 h); exact ⟨bb, h1, h2.later hbx, h3⟩), fun h => (by obtain ⟨bb, h1, h2, h3⟩ := (HV.out.2.1 h); exact ⟨bb, h1, h2.later hbx, h3⟩), HV.out.2.2, fun _ => ⟨aZ, nZ, cZ, lZ, gZ, oZ, aY, nY, cY, lY, gY, oY, rfl, hnew, hnew'⟩, fun h => by omega⟩
     · refine ⟨_, rfl, ?_⟩
       intro aa W hI K' hK
       obtain ⟨ea, eb, e1, e2, rfl, hS, hv, hu, hne, k1, k2⟩ := hI
       have r1 := k1 (by omega)
       have HV : Hid ((xb = true → ∃ bb, ea = .pointer (some ⟨bb, 0, none⟩) ∧ PB W bb 0 0 ∧ w.heap.size + 1 + 1 < bb) ∧ (yb = true → ∃ bb, eb = .pointer (some ⟨bb, 0, none⟩) ∧ PB W bb 0 0 ∧ w.heap.size + 1 + 1 < bb) ∧ (xb = true → yb = true → ea ≠ eb)) := ⟨hv, hu, hne⟩
       clear hv hu hne k1 k2
       have R1 : Hid (PF W e1 ((fval bx - fval ax)) ((fval by' - fval ay))) := r1
       clear r1
       rw [hA]
       simp only [AP]
       go_simp
       go_wp2_with fail
       refine (way_any ax ay cx cy _ (HT.out.later hS.2.2.2.2.2.2) HF.out.2).mono ?_
       rintro e wx ⟨aZ, nZ, cZ, lZ, gZ, oZ, aY, nY, cY, lY, gY, oY, rfl, hnew, hnew', hbx⟩
       have hS2 : (fun W => W.cell? ⟨w.heap.size, 0, none⟩ = some (.float .f64 ax) ∧ W.cell? ⟨w.heap.size, 1, none⟩ = some (.float .f64 ay) ∧ W.cell? ⟨w.heap.size + 1, 0, none⟩ = some (.float .f64 bx) ∧ W.cell? ⟨w.heap.size + 1, 1, none⟩ = some (.float .f64 by') ∧ W.cell? ⟨w.heap.size + 1 + 1, 0, none⟩ = some (.float .f64 cx) ∧ W.cell? ⟨w.heap.size + 1 + 1, 1, none⟩ = some (.float .f64 cy) ∧ Below w.heap.size w W) wx := ⟨box_cell hbx hS.1, box_cell hbx hS.2.1, box_cell hbx hS.2.2.1, box_cell hbx hS.2.2.2.1, box_cell hbx hS.2.2.2.2.1, box_cell hbx hS.2.2.2.2.2.1, below_step hS.2.2.2.2.2.2 hbx⟩
       go_wp2_with fail
       exact hK.out _ _ hS2 ⟨ea, eb, _, _, by rw [hA]; rfl, hS2, fun h => (by obtain ⟨bb, h1, h2, h3⟩ := (HV.out.1 h); exact ⟨bb, h1, h2.later hbx, h3⟩), fun h => (by obtain ⟨bb, h1, h2, h3⟩ := (HV.out.2.1 h); exact ⟨bb, h1, h2.later hbx, h3⟩), HV.out.2.2, fun _ => R1.out.later hbx, fun _ => ⟨aZ, nZ, cZ, lZ, gZ, oZ, aY, nY, cY, lY, gY, oY, rfl, hnew, hnew'⟩⟩
   · intro yb kb hk
     refine ⟨_, rfl, ?_⟩
     intro aa W hI K' hK
     obtain ⟨ea, eb, e1, e2, rfl, hS, hv, hu, hne, k1, k2⟩ := hI
     have HK : Hid ((1 ≤ kb → PF W e1 ((fval bx - fval ax)) ((fval by' - fval ay))) ∧ (2 ≤ kb → PF W e2 ((fval cx - fval ax)) ((fval cy - fval ay)))) := ⟨k1, k2⟩
     have HV : Hid (yb = true → ∃ bb, eb = .pointer (some ⟨bb, 0, none⟩) ∧ PB W bb 0 0 ∧ w.heap.size + 1 + 1 < bb) := hu
     clear hv hu hne k1 k2
     have hbx : Below W.heap.size W (W.alloc (.cells #[.slice none 0 0, .int .i64 0, .bool false, .bool false, .slice none 0 0, .int .i64 0, .bool false, .bool false] 52)) := (Below.refl _ W).alloc (Nat.le_refl _) _
     have hlt2 : w.heap.size + 1 + 1 < W.heap.size := World.block_lt_of_cell? _ _ hS.2.2.2.2.1
     have hS2 : (fun W => W.cell? ⟨w.heap.size, 0, none⟩ = some (.float .f64 ax) ∧ W.cell? ⟨w.heap.size, 1, none⟩ = some (.float .f64 ay) ∧ W.cell? ⟨w.heap.size + 1, 0, none⟩ = some (.float .f64 bx) ∧ W.cell? ⟨w.heap.size + 1, 1, none⟩ = some (.float .f64 by') ∧ W.cell? ⟨w.heap.size + 1 + 1, 0, none⟩ = some (.float .f64 cx) ∧ W.cell? ⟨w.heap.size + 1 + 1, 1, none⟩ = some (.float .f64 cy) ∧ Below w.heap.size w W) (W.alloc (.cells #[.slice none 0 0, .int .i64 0, .bool false, .bool false, .slice none 0 0, .int .i64 0, .bool false, .bool false] 52)) := ⟨box_cell hbx hS.1, box_cell hbx hS.2.1, box_cell hbx hS.2.2.1, box_cell hbx hS.2.2.2.1, box_cell hbx hS.2.2.2.2.1, box_cell hbx hS.2.2.2.2.2.1, below_step hS.2.2.2.2.2.2 hbx⟩
     rw [hA]
     simp only [AP]
     go_simp
     go_wp2_with fail
     exact hK.out _ _ hS2 ⟨_, eb, e1, e2, by rw [hA]; rfl, hS2, fun _ => ⟨W.heap.size, rfl, PB.zero W, hlt2⟩, fun h => (by obtain ⟨bb, h1, h2, h3⟩ := (HV.out h); exact ⟨bb, h1, h2.later hbx, h3⟩), fun _ h e => by obtain ⟨b2, h1, h2, h3⟩ := HV.out h; have := h2.lt; rw [h1] at e; cases e; omega, fun h => (HK.out.1 h).later hbx, fun h => (HK.out.2 h).later hbx⟩
   · intro xb kb hk
     refine ⟨_, rfl, ?_⟩
     intro aa W hI K' hK
     obtain ⟨ea, eb, e1, e2, rfl, hS, hv, hu, hne, k1, k2⟩ := hI
     have HK : Hid ((1 ≤ kb → PF W e1 ((fval bx - fval ax)) ((fval by' - fval ay))) ∧ (2 ≤ kb → PF W e2 ((fval cx - fval ax)) ((fval cy - fval ay)))) := ⟨k1, k2⟩
     have HV : Hid (xb = true → ∃ bb, ea = .pointer (some ⟨bb, 0, none⟩) ∧ PB W bb 0 0 ∧ w.heap.size + 1 + 1 < bb) := hv
     clear hv hu hne k1 k2
     have hbx : Below W.heap.size W (W.alloc (.cells #[.slice none 0 0, .int .i64 0, .bool false, .bool false, .slice none 0 0, .int .i64 0, .bool false, .bool false] 52)) := (Below.refl _ W).alloc (Nat.le_refl _) _
     have hlt2 : w.heap.size + 1 + 1 < W.heap.size := World.block_lt_of_cell? _ _ hS.2.2.2.2.1
     have hS2 : (fun W => W.cell? ⟨w.heap.size, 0, none⟩ = some (.float .f64 ax) ∧ W.cell? ⟨w.heap.size, 1, none⟩ = some (.float .f64 ay) ∧ W.cell? ⟨w.heap.size + 1, 0, none⟩ = some (.float .f64 bx) ∧ W.cell? ⟨w.heap.size + 1, 1, none⟩ = some (.float .f64 by') ∧ W.cell? ⟨w.heap.size + 1 + 1, 0, none⟩ = some (.float .f64 cx) ∧ W.cell? ⟨w.heap.size + 1 + 1, 1, none⟩ = some (.float .f64 cy) ∧ Below w.heap.size w W) (W.alloc (.cells #[.slice none 0 0, .int .i64 0, .bool false, .bool false, .slice none 0 0, .int .i64 0, .bool false, .bool false] 52)) := ⟨box_cell hbx hS.1, box_cell hbx hS.2.1, box_cell hbx hS.2.2.1, box_cell hbx hS.2.2.2.1, box_cell hbx hS.2.2.2.2.1, box_cell hbx hS.2.2.2.2.2.1, below_step hS.2.2.2.2.2.2 hbx⟩
     rw [hA]
     simp only [AP]
     go_simp
     go_wp2_with fail
     exact hK.out _ _ hS2 ⟨ea, _, e1, e2, by rw [hA]; rfl, hS2, fun h => (by obtain ⟨bb, h1, h2, h3⟩ := (HV.out h); exact ⟨bb, h1, h2.later hbx, h3⟩), fun _ => ⟨W.heap.size, rfl, PB.zero W, hlt2⟩, fun h _ e => by obtain ⟨b2, h1, h2, h3⟩ := HV.out h; have := h2.lt; rw [h1] at e; cases e; omega, fun h => (HK.out.1 h).later hbx, fun h => (HK.out.2 h).later hbx⟩
   · intro aa W hI
     obtain ⟨ea, eb, e1, e2, rfl, hS, hv, hu, hne, k1, k2⟩ := hI
     replace hv := hv rfl
     replace hu := hu rfl
     replace hne := hne rfl rfl
     have r1 := k1 (by omega)
     have r2 := k2 (by omega)
     clear k1 k2
     obtain ⟨bb, rfl, hNB, hlow⟩ := hv
     obtain ⟨bc, rfl, hNC, hlow2⟩ := hu
     have hbc : bb ≠ bc := fun e => hne (by rw [e])
     obtain ⟨aE, nE, cE, lE, gE, oE, aF, nF, cF, lF, gF, oF, rfl, hnE, hnF⟩ := r1
     obtain ⟨aH, nH, cH, lH, gH, oH, aI, nI, cI, lI, gI, oI, rfl, hnH, hnI⟩ := r2
     clear hne
     subst hA
     simp only [AP]
     obtain ⟨_, _, _, _, _, _, _, _, _, _, _, _, ⟨k0, k1, k2, k3, k4, k5, k6, k7⟩, _, _, hfr⟩ := hNB.cells
     have f0 := hfr 0
     have f1 := hfr 1
     have f2 := hfr 2
     have f3 := hfr 3
     have f4 := hfr 4
     have f5 := hfr 5
     have f6 := hfr 6
     have f7 := hfr 7
     have hP : (fun W' => PB W' bb _ _ ∧ Kept W W' bb) ((((((((W.setCell ⟨bb, 0, none⟩ (.slice aE nE cE)).setCell ⟨bb, 1, none⟩ (.int .i64 lE)).setCell ⟨bb, 2, none⟩ (.bool gE)).setCell ⟨bb, 3, none⟩ (.bool oE)).setCell ⟨bb, 4, none⟩ (.slice aF nF cF)).setCell ⟨bb, 5, none⟩ (.int .i64 lF)).setCell ⟨bb, 6, none⟩ (.bool gF)).setCell ⟨bb, 7, none⟩ (.bool oF)) := (fun h => ⟨h.1, h.2.1⟩) (hNB.put hnE hnF)
     have hS2 : (fun W => W.cell? ⟨w.heap.size, 0, none⟩ = some (.float .f64 ax) ∧ W.cell? ⟨w.heap.size, 1, none⟩ = some (.float .f64 ay) ∧ W.cell? ⟨w.heap.size + 1, 0, none⟩ = some (.float .f64 bx) ∧ W.cell? ⟨w.heap.size + 1, 1, none⟩ = some (.float .f64 by') ∧ W.cell? ⟨w.heap.size + 1 + 1, 0, none⟩ = some (.float .f64 cx) ∧ W.cell? ⟨w.heap.size + 1 + 1, 1, none⟩ = some (.float .f64 cy) ∧ Below w.heap.size w W) ((((((((W.setCell ⟨bb, 0, none⟩ (.slice aE nE cE)).setCell ⟨bb, 1, none⟩ (.int .i64 lE)).setCell ⟨bb, 2, none⟩ (.bool gE)).setCell ⟨bb, 3, none⟩ (.bool oE)).setCell ⟨bb, 4, none⟩ (.slice aF nF cF)).setCell ⟨bb, 5, none⟩ (.int .i64 lF)).setCell ⟨bb, 6, none⟩ (.bool gF)).setCell ⟨bb, 7, none⟩ (.bool oF)) := ⟨Sets.cell (by omega) [(0, .slice aE nE cE), (1, .int .i64 lE), (2, .bool gE), (3, .bool oE), (4, .slice aF nF cF), (5, .int .i64 lF), (6, .bool gF), (7, .bool oF)] hS.1, Sets.cell (by omega) [(0, .slice aE nE cE), (1, .int .i64 lE), (2, .bool gE), (3, .bool oE), (4, .slice aF nF cF), (5, .int .i64 lF), (6, .bool gF), (7, .bool oF)] hS.2.1, Sets.cell (by omega) [(0, .slice aE nE cE), (1, .int .i64 lE), (2, .bool gE), (3, .bool oE), (4, .slice aF nF cF), (5, .int .i64 lF), (6, .bool gF), (7, .bool oF)] hS.2.2.1, Sets.cell (by omega) [(0, .slice aE nE cE), (1, .int .i64 lE), (2, .bool gE), (3, .bool oE), (4, .slice aF nF cF), (5, .int .i64 lF), (6, .bool gF), (7, .bool oF)] hS.2.2.2.1, Sets.cell (by omega) [(0, .slice aE nE cE), (1, .int .i64 lE), (2, .bool gE), (3, .bool oE), (4, .slice aF nF cF), (5, .int .i64 lF), (6, .bool gF), (7, .bool oF)] hS.2.2.2.2.1, Sets.cell (by omega) [(0, .slice aE nE cE), (1, .int .i64 lE), (2, .bool gE), (3, .bool oE), (4, .slice aF nF cF), (5, .int .i64 lF), (6, .bool gF), (7, .bool oF)] hS.2.2.2.2.2.1, Sets.below (by omega) [(0, .slice aE nE cE), (1, .int .i64 lE), (2, .bool gE), (3, .bool oE), (4, .slice aF nF cF), (5, .int .i64 lF), (6, .bool gF), (7, .bool oF)] hS.2.2.2.2.2.2⟩
     refine calA 8 fun KF hK => ?_
     go_simp
     go_wp2_with fail
     refine hK.out _ _ hS2 ?_
     clear hS
     intro hS
     clear hK KF k0 k1 k2 k3 k4 k5 k6 k7 f0 f1 f2 f3 f4 f5 f6 f7 hfr
     try simp only [Act.put]
     try simp only [List.setIfInBounds_toArray, List.set_cons_zero, List.set_cons_succ]
     clear hS2
     generalize ((((((((W.setCell ⟨bb, 0, none⟩ (.slice aE nE cE)).setCell ⟨bb, 1, none⟩ (.int .i64 lE)).setCell ⟨bb, 2, none⟩ (.bool gE)).setCell ⟨bb, 3, none⟩ (.bool oE)).setCell ⟨bb, 4, none⟩ (.slice aF nF cF)).setCell ⟨bb, 5, none⟩ (.int .i64 lF)).setCell ⟨bb, 6, none⟩ (.bool gF)).setCell ⟨bb, 7, none⟩ (.bool oF)) = Wa at *
     have hPB := hP.1
     replace hNC := hP.2.pb hNC (Ne.symm hbc)
     replace hnH := hP.2.num _ _ hnH
     replace hnI := hP.2.num _ _ hnI
     clear hP hNB hnE hnF
     obtain ⟨_, _, _, _, _, _, _, _, _, _, _, _, ⟨k0, k1, k2, k3, k4, k5, k6, k7⟩, _, _, hfr⟩ := hNC.cells
     have f0 := hfr 0
     have f1 := hfr 1
     have f2 := hfr 2
     have f3 := hfr 3
     have f4 := hfr 4
     have f5 := hfr 5
     have f6 := hfr 6
     have f7 := hfr 7
     have hP : (fun W' => PB W' bc _ _ ∧ Kept Wa W' bc) ((((((((Wa.setCell ⟨bc, 0, none⟩ (.slice aH nH cH)).setCell ⟨bc, 1, none⟩ (.int .i64 lH)).setCell ⟨bc, 2, none⟩ (.bool gH)).setCell ⟨bc, 3, none⟩ (.bool oH)).setCell ⟨bc, 4, none⟩ (.slice aI nI cI)).setCell ⟨bc, 5, none⟩ (.int .i64 lI)).setCell ⟨bc, 6, none⟩ (.bool gI)).setCell ⟨bc, 7, none⟩ (.bool oI)) := (fun h => ⟨h.1, h.2.1⟩) (hNC.put hnH hnI)
     have hS2 : (fun W => W.cell? ⟨w.heap.size, 0, none⟩ = some (.float .f64 ax) ∧ W.cell? ⟨w.heap.size, 1, none⟩ = some (.float .f64 ay) ∧ W.cell? ⟨w.heap.size + 1, 0, none⟩ = some (.float .f64 bx) ∧ W.cell? ⟨w.heap.size + 1, 1, none⟩ = some (.float .f64 by') ∧ W.cell? ⟨w.heap.size + 1 + 1, 0, none⟩ = some (.float .f64 cx) ∧ W.cell? ⟨w.heap.size + 1 + 1, 1, none⟩ = some (.float .f64 cy) ∧ Below w.heap.size w W) ((((((((Wa.setCell ⟨bc, 0, none⟩ (.slice aH nH cH)).setCell ⟨bc, 1, none⟩ (.int .i64 lH)).setCell ⟨bc, 2, none⟩ (.bool gH)).setCell ⟨bc, 3, none⟩ (.bool oH)).setCell ⟨bc, 4, none⟩ (.slice aI nI cI)).setCell ⟨bc, 5, none⟩ (.int .i64 lI)).setCell ⟨bc, 6, none⟩ (.bool gI)).setCell ⟨bc, 7, none⟩ (.bool oI)) := ⟨Sets.cell (by omega) [(0, .slice aH nH cH), (1, .int .i64 lH), (2, .bool gH), (3, .bool oH), (4, .slice aI nI cI), (5, .int .i64 lI), (6, .bool gI), (7, .bool oI)] hS.1, Sets.cell (by omega) [(0, .slice aH nH cH), (1, .int .i64 lH), (2, .bool gH), (3, .bool oH), (4, .slice aI nI cI), (5, .int .i64 lI), (6, .bool gI), (7, .bool oI)] hS.2.1, Sets.cell (by omega) [(0, .slice aH nH cH), (1, .int .i64 lH), (2, .bool gH), (3, .bool oH), (4, .slice aI nI cI), (5, .int .i64 lI), (6, .bool gI), (7, .bool oI)] hS.2.2.1, Sets.cell (by omega) [(0, .slice aH nH cH), (1, .int .i64 lH), (2, .bool gH), (3, .bool oH), (4, .slice aI nI cI), (5, .int .i64 lI), (6, .bool gI), (7, .bool oI)] hS.2.2.2.1, Sets.cell (by omega) [(0, .slice aH nH cH), (1, .int .i64 lH), (2, .bool gH), (3, .bool oH), (4, .slice aI nI cI), (5, .int .i64 lI), (6, .bool gI), (7, .bool oI)] hS.2.2.2.2.1, Sets.cell (by omega) [(0, .slice aH nH cH), (1, .int .i64 lH), (2, .bool gH), (3, .bool oH), (4, .slice aI nI cI), (5, .int .i64 lI), (6, .bool gI), (7, .bool oI)] hS.2.2.2.2.2.1, Sets.below (by omega) [(0, .slice aH nH cH), (1, .int .i64 lH), (2, .bool gH), (3, .bool oH), (4, .slice aI nI cI), (5, .int .i64 lI), (6, .bool gI), (7, .bool oI)] hS.2.2.2.2.2.2⟩
     refine calA 9 fun KF hK => ?_
     go_simp
     go_wp2_with fail
     refine hK.out _ _ hS2 ?_
     clear hS
     intro hS
     clear hK KF k0 k1 k2 k3 k4 k5 k6 k7 f0 f1 f2 f3 f4 f5 f6 f7 hfr
     try simp only [Act.put]
     try simp only [List.setIfInBounds_toArray, List.set_cons_zero, List.set_cons_succ]
     clear hS2
     generalize ((((((((Wa.setCell ⟨bc, 0, none⟩ (.slice aH nH cH)).setCell ⟨bc, 1, none⟩ (.int .i64 lH)).setCell ⟨bc, 2, none⟩ (.bool gH)).setCell ⟨bc, 3, none⟩ (.bool oH)).setCell ⟨bc, 4, none⟩ (.slice aI nI cI)).setCell ⟨bc, 5, none⟩ (.int .i64 lI)).setCell ⟨bc, 6, none⟩ (.bool gI)).setCell ⟨bc, 7, none⟩ (.bool oI)) = Wb at *
     have hPC := hP.1
     replace hPB := hP.2.pb hPB hbc
     clear hP hNC hnH hnI
     refine wpAnyH_done (by kernel_rfl) ?_ _
     have HBL : Hid (Below w.heap.size w Wb) := hS.2.2.2.2.2.2
     clear hS
     have HQ : Hid (PB Wb bb (fval bx - fval ax) (fval by' - fval ay) ∧ PB Wb bc (fval cx - fval ax) (fval cy - fval ay)) := ⟨hPB, hPC⟩
     obtain ⟨aE, nE, cE, lE, gE, oE, aF, nF, cF, lF, gF, oF, ⟨k0, k1, k2, k3, k4, k5, k6, k7⟩, hnE, hnF, _⟩ := hPB.cells
     obtain ⟨aH, nH, cH, lH, gH, oH, aI, nI, cI, lI, gI, oI, ⟨m0, m1, m2, m3, m4, m5, m6, m7⟩, hnH, hnI, _⟩ := hPC.cells
     have HN : Hid (IsNum Wb (.agg #[.slice aE nE cE, .int .i64 lE, .bool gE, .bool oE]) (some (fval bx - fval ax)) ∧ IsNum Wb (.agg #[.slice aF nF cF, .int .i64 lF, .bool gF, .bool oF]) (some (fval by' - fval ay)) ∧ IsNum Wb (.agg #[.slice aH nH cH, .int .i64 lH, .bool gH, .bool oH]) (some (fval cx - fval ax)) ∧ IsNum Wb (.agg #[.slice aI nI cI, .int .i64 lI, .bool gI, .bool oI]) (some (fval cy - fval ay))) := ⟨hnE, hnF, hnH, hnI⟩
     clear hnE hnF hnH hnI hPB hPC
     go_wp2_with fail
     refine (product_any _ _ _ _ _ _ _ _ _ _ _ _ _ _ _ _ _ _ _ _ _ _ _ _ _ (HT.out.later HBL.out) HN.out.1 HN.out.2.1 HN.out.2.2.1 HN.out.2.2.2 (HY.out.1.may HY.out.2.2.1) (HY.out.2.1.may HY.out.2.2.2) (HY.out.1.may2 HY.out.2.2.1 HY.out.2.1 HY.out.2.2.2)).mono ?_
     rintro e w8 ⟨aM, nM, cM, lM, gM, oM, rfl, hnM, hb8⟩
     have hQ8 := HQ.out.1.later hb8
     have hR8 := HQ.out.2.later hb8
     have HB8 : Hid (Below w.heap.size w w8) := below_step HBL.out hb8
     clear hb8 k0 k1 k2 k3 k4 k5 k6 k7 m0 m1 m2 m3 m4 m5 m6 m7 HN HQ HBL
     obtain ⟨W9, hW9⟩ : ∃ W9, W9 = w8.alloc (.cells #[.slice aM nM cM, .int .i64 lM, .bool gM, .bool oM] 49) := ⟨_, rfl⟩
     have hb9 : Below w8.heap.size w8 W9.drew := by rw [hW9]; exact ((Below.refl _ w8).alloc (Nat.le_refl _) _).drew
     have z0 : W9.drew.cell? ⟨w8.heap.size, 0, none⟩ = some (.slice aM nM cM) := by rw [hW9]; go_simp
     have z1 : W9.drew.cell? ⟨w8.heap.size, 1, none⟩ = some (.int .i64 lM) := by rw [hW9]; go_simp
     have z2 : W9.drew.cell? ⟨w8.heap.size, 2, none⟩ = some (.bool gM) := by rw [hW9]; go_simp
     have z3 : W9.drew.cell? ⟨w8.heap.size, 3, none⟩ = some (.bool oM) := by rw [hW9]; go_simp
     replace hQ8 := hQ8.later hb9
     replace hR8 := hR8.later hb9
     replace hnM := hnM.later hb9
     have HB9 : Hid (Below w.heap.size w W9.drew) := below_step HB8.out hb9
     obtain ⟨aE, nE, cE, lE, gE, oE, aF, nF, cF, lF, gF, oF, ⟨k0, k1, k2, k3, k4, k5, k6, k7⟩, hnE, hnF, _⟩ := hQ8.cells
     obtain ⟨aH, nH, cH, lH, gH, oH, aI, nI, cI, lI, gI, oI, ⟨m0, m1, m2, m3, m4, m5, m6, m7⟩, hnH, hnI, _⟩ := hR8.cells
     go_wp2_with fail
     rw [← hW9]
     clear hW9 hb9 hQ8 hR8 HB8
     refine wp_region_held_drew (S := (fun W => W.cell? ⟨w8.heap.size, 0, none⟩ = some (.slice aM nM cM) ∧ W.cell? ⟨w8.heap.size, 1, none⟩ = some (.int .i64 lM) ∧ W.cell? ⟨w8.heap.size, 2, none⟩ = some (.bool gM) ∧ W.cell? ⟨w8.heap.size, 3, none⟩ = some (.bool oM) ∧ W.cell? ⟨bb, 0, none⟩ = some (.slice aE nE cE) ∧ W.cell? ⟨bb, 1, none⟩ = some (.int .i64 lE) ∧ W.cell? ⟨bb, 2, none⟩ = some (.bool gE) ∧ W.cell? ⟨bb, 3, none⟩ = some (.bool oE) ∧ W.cell? ⟨bb, 4, none⟩ = some (.slice aF nF cF) ∧ W.cell? ⟨bb, 5, none⟩ = some (.int .i64 lF) ∧ W.cell? ⟨bb, 6, none⟩ = some (.bool gF) ∧ W.cell? ⟨bb, 7, none⟩ = some (.bool oF) ∧ W.cell? ⟨bc, 0, none⟩ = some (.slice aH nH cH) ∧ W.cell? ⟨bc, 1, none⟩ = some (.int .i64 lH) ∧ W.cell? ⟨bc, 2, none⟩ = some (.bool gH) ∧ W.cell? ⟨bc, 3, none⟩ = some (.bool oH) ∧ W.cell? ⟨bc, 4, none⟩ = some (.slice aI nI cI) ∧ W.cell? ⟨bc, 5, none⟩ = some (.int .i64 lI) ∧ W.cell? ⟨bc, 6, none⟩ = some (.bool gI) ∧ W.cell? ⟨bc, 7, none⟩ = some (.bool oI) ∧ Below w.heap.size w W)) (by kernel_rfl) ⟨z0, z1, z2, z3, k0, k1, k2, k3, k4, k5, k6, k7, m0, m1, m2, m3, m4, m5, m6, m7, HB9.out⟩ (fun hS => ?_)
     refine takA (i := 0) (d := some 65) (v := .agg #[.slice aM nM cM, .int .i64 lM, .bool gM, .bool oM]) hS ?_
     simp only [AP]
     refine takA (i := 1) (d := some 66) (v := .agg #[.slice aM nM cM, .int .i64 lM, .bool gM, .bool oM]) hS ?_
     simp only [AP]
     refine takA (i := 3) (d := some 68) (v := .float .f64 g) hS ?_
     simp only [AP]
     refine takA (i := 5) (d := some 70) (v := .agg #[.slice aE nE cE, .int .i64 lE, .bool gE, .bool oE, .slice aF nF cF, .int .i64 lF, .bool gF, .bool oF]) hS ?_
     simp only [AP]
     refine takA (i := 8) (d := some 73) (v := .agg #[.slice aH nH cH, .int .i64 lH, .bool gH, .bool oH, .slice aI nI cI, .int .i64 lI, .bool gI, .bool oI]) hS ?_
     simp only [AP]
     refine calA 2 fun KF hK => ?_
     go_simp
     refine (mulQ hnM hnM (HT.out.later hS.2.2.2.2.2.2.2.2.2.2.2.2.2.2.2.2.2.2.2.2) HMM.out.1).mono ?_
     rintro e wx ⟨aA, nA, cA, lA, gA, oA, rfl, hnA, hbx⟩
     replace hnE := hnE.later hbx
     replace hnF := hnF.later hbx
     replace hnH := hnH.later hbx
     replace hnI := hnI.later hbx
     go_wp2_with fail
     refine hK.out _ _ ⟨box_cell hbx hS.1, box_cell hbx hS.2.1, box_cell hbx hS.2.2.1, box_cell hbx hS.2.2.2.1, box_cell hbx hS.2.2.2.2.1, box_cell hbx hS.2.2.2.2.2.1, box_cell hbx hS.2.2.2.2.2.2.1, box_cell hbx hS.2.2.2.2.2.2.2.1, box_cell hbx hS.2.2.2.2.2.2.2.2.1, box_cell hbx hS.2.2.2.2.2.2.2.2.2.1, box_cell hbx hS.2.2.2.2.2.2.2.2.2.2.1, box_cell hbx hS.2.2.2.2.2.2.2.2.2.2.2.1, box_cell hbx hS.2.2.2.2.2.2.2.2.2.2.2.2.1, box_cell hbx hS.2.2.2.2.2.2.2.2.2.2.2.2.2.1, box_cell hbx hS.2.2.2.2.2.2.2.2.2.2.2.2.2.2.1, box_cell hbx hS.2.2.2.2.2.2.2.2.2.2.2.2.2.2.2.1, box_cell hbx hS.2.2.2.2.2.2.2.2.2.2.2.2.2.2.2.2.1, box_cell hbx hS.2.2.2.2.2.2.2.2.2.2.2.2.2.2.2.2.2.1, box_cell hbx hS.2.2.2.2.2.2.2.2.2.2.2.2.2.2.2.2.2.2.1, box_cell hbx hS.2.2.2.2.2.2.2.2.2.2.2.2.2.2.2.2.2.2.2.1, below_step hS.2.2.2.2.2.2.2.2.2.2.2.2.2.2.2.2.2.2.2.2 hbx⟩ ?_
     clear hS hbx
     intro hS
     clear hK KF
     try simp only [AP]
     refine calA 4 fun KF hK => ?_
     go_simp
     refine (ofQ HG.out.1 HG.out.2 (HT.out.later hS.2.2.2.2.2.2.2.2.2.2.2.2.2.2.2.2.2.2.2.2)).mono ?_
     rintro e wx ⟨aG, nG, cG, lG, gG, oG, rfl, hnG, hbx⟩
     replace hnE := hnE.later hbx
     replace hnF := hnF.later hbx
     replace hnH := hnH.later hbx
     replace hnI := hnI.later hbx
     replace hnA := hnA.later hbx
     go_wp2_with fail
     refine hK.out _ _ ⟨box_cell hbx hS.1, box_cell hbx hS.2.1, box_cell hbx hS.2.2.1, box_cell hbx hS.2.2.2.1, box_cell hbx hS.2.2.2.2.1, box_cell hbx hS.2.2.2.2.2.1, box_cell hbx hS.2.2.2.2.2.2.1, box_cell hbx hS.2.2.2.2.2.2.2.1, box_cell hbx hS.2.2.2.2.2.2.2.2.1, box_cell hbx hS.2.2.2.2.2.2.2.2.2.1, box_cell hbx hS.2.2.2.2.2.2.2.2.2.2.1, box_cell hbx hS.2.2.2.2.2.2.2.2.2.2.2.1, box_cell hbx hS.2.2.2.2.2.2.2.2.2.2.2.2.1, box_cell hbx hS.2.2.2.2.2.2.2.2.2.2.2.2.2.1, box_cell hbx hS.2.2.2.2.2.2.2.2.2.2.2.2.2.2.1, box_cell hbx hS.2.2.2.2.2.2.2.2.2.2.2.2.2.2.2.1, box_cell hbx hS.2.2.2.2.2.2.2.2.2.2.2.2.2.2.2.2.1, box_cell hbx hS.2.2.2.2.2.2.2.2.2.2.2.2.2.2.2.2.2.1, box_cell hbx hS.2.2.2.2.2.2.2.2.2.2.2.2.2.2.2.2.2.2.1, box_cell hbx hS.2.2.2.2.2.2.2.2.2.2.2.2.2.2.2.2.2.2.2.1, below_step hS.2.2.2.2.2.2.2.2.2.2.2.2.2.2.2.2.2.2.2.2 hbx⟩ ?_
     clear hS hbx
     intro hS
     clear hK KF
     try simp only [AP]
     refine calA 6 fun KF hK => ?_
     go_simp
     refine (square_any _ _ _ _ _ _ _ _ _ _ _ _ _ (HT.out.later hS.2.2.2.2.2.2.2.2.2.2.2.2.2.2.2.2.2.2.2.2) hnE hnF HY.out.1 HY.out.2.1).mono ?_
     rintro e wx ⟨aJ, nJ, cJ, lJ, gJ, oJ, rfl, hnJ, hbx⟩
     replace hnH := hnH.later hbx
     replace hnI := hnI.later hbx
     replace hnA := hnA.later hbx
     replace hnG := hnG.later hbx
     go_wp2_with fail
     refine hK.out _ _ ⟨box_cell hbx hS.1, box_cell hbx hS.2.1, box_cell hbx hS.2.2.1, box_cell hbx hS.2.2.2.1, box_cell hbx hS.2.2.2.2.1, box_cell hbx hS.2.2.2.2.2.1, box_cell hbx hS.2.2.2.2.2.2.1, box_cell hbx hS.2.2.2.2.2.2.2.1, box_cell hbx hS.2.2.2.2.2.2.2.2.1, box_cell hbx hS.2.2.2.2.2.2.2.2.2.1, box_cell hbx hS.2.2.2.2.2.2.2.2.2.2.1, box_cell hbx hS.2.2.2.2.2.2.2.2.2.2.2.1, box_cell hbx hS.2.2.2.2.2.2.2.2.2.2.2.2.1, box_cell hbx hS.2.2.2.2.2.2.2.2.2.2.2.2.2.1, box_cell hbx hS.2.2.2.2.2.2.2.2.2.2.2.2.2.2.1, box_cell hbx hS.2.2.2.2.2.2.2.2.2.2.2.2.2.2.2.1, box_cell hbx hS.2.2.2.2.2.2.2.2.2.2.2.2.2.2.2.2.1, box_cell hbx hS.2.2.2.2.2.2.2.2.2.2.2.2.2.2.2.2.2.1, box_cell hbx hS.2.2.2.2.2.2.2.2.2.2.2.2.2.2.2.2.2.2.1, box_cell hbx hS.2.2.2.2.2.2.2.2.2.2.2.2.2.2.2.2.2.2.2.1, below_step hS.2.2.2.2.2.2.2.2.2.2.2.2.2.2.2.2.2.2.2.2 hbx⟩ ?_
     clear hS hbx
     intro hS
     clear hK KF
     try simp only [AP]
     refine calA 7 fun KF hK => ?_
     go_simp
     refine (mulQ hnG hnJ (HT.out.later hS.2.2.2.2.2.2.2.2.2.2.2.2.2.2.2.2.2.2.2.2) HMM.out.2.1).mono ?_
     rintro e wx ⟨aK, nK, cK, lK, gK, oK, rfl, hnK, hbx⟩
     replace hnH := hnH.later hbx
     replace hnI := hnI.later hbx
     replace hnA := hnA.later hbx
     go_wp2_with fail
     refine hK.out _ _ ⟨box_cell hbx hS.1, box_cell hbx hS.2.1, box_cell hbx hS.2.2.1, box_cell hbx hS.2.2.2.1, box_cell hbx hS.2.2.2.2.1, box_cell hbx hS.2.2.2.2.2.1, box_cell hbx hS.2.2.2.2.2.2.1, box_cell hbx hS.2.2.2.2.2.2.2.1, box_cell hbx hS.2.2.2.2.2.2.2.2.1, box_cell hbx hS.2.2.2.2.2.2.2.2.2.1, box_cell hbx hS.2.2.2.2.2.2.2.2.2.2.1, box_cell hbx hS.2.2.2.2.2.2.2.2.2.2.2.1, box_cell hbx hS.2.2.2.2.2.2.2.2.2.2.2.2.1, box_cell hbx hS.2.2.2.2.2.2.2.2.2.2.2.2.2.1, box_cell hbx hS.2.2.2.2.2.2.2.2.2.2.2.2.2.2.1, box_cell hbx hS.2.2.2.2.2.2.2.2.2.2.2.2.2.2.2.1, box_cell hbx hS.2.2.2.2.2.2.2.2.2.2.2.2.2.2.2.2.1, box_cell hbx hS.2.2.2.2.2.2.2.2.2.2.2.2.2.2.2.2.2.1, box_cell hbx hS.2.2.2.2.2.2.2.2.2.2.2.2.2.2.2.2.2.2.1, box_cell hbx hS.2.2.2.2.2.2.2.2.2.2.2.2.2.2.2.2.2.2.2.1, below_step hS.2.2.2.2.2.2.2.2.2.2.2.2.2.2.2.2.2.2.2.2 hbx⟩ ?_
     clear hS hbx
     intro hS
     clear hK KF
     try simp only [AP]
     refine calA 9 fun KF hK => ?_
     go_simp
     refine (square_any _ _ _ _ _ _ _ _ _ _ _ _ _ (HT.out.later hS.2.2.2.2.2.2.2.2.2.2.2.2.2.2.2.2.2.2.2.2) hnH hnI HY.out.2.2.1 HY.out.2.2.2).mono ?_
     rintro e wx ⟨aL, nL, cL, lL, gL, oL, rfl, hnL, hbx⟩
     replace hnA := hnA.later hbx
     replace hnK := hnK.later hbx
     go_wp2_with fail
     refine hK.out _ _ ⟨box_cell hbx hS.1, box_cell hbx hS.2.1, box_cell hbx hS.2.2.1, box_cell hbx hS.2.2.2.1, box_cell hbx hS.2.2.2.2.1, box_cell hbx hS.2.2.2.2.2.1, box_cell hbx hS.2.2.2.2.2.2.1, box_cell hbx hS.2.2.2.2.2.2.2.1, box_cell hbx hS.2.2.2.2.2.2.2.2.1, box_cell hbx hS.2.2.2.2.2.2.2.2.2.1, box_cell hbx hS.2.2.2.2.2.2.2.2.2.2.1, box_cell hbx hS.2.2.2.2.2.2.2.2.2.2.2.1, box_cell hbx hS.2.2.2.2.2.2.2.2.2.2.2.2.1, box_cell hbx hS.2.2.2.2.2.2.2.2.2.2.2.2.2.1, box_cell hbx hS.2.2.2.2.2.2.2.2.2.2.2.2.2.2.1, box_cell hbx hS.2.2.2.2.2.2.2.2.2.2.2.2.2.2.2.1, box_cell hbx hS.2.2.2.2.2.2.2.2.2.2.2.2.2.2.2.2.1, box_cell hbx hS.2.2.2.2.2.2.2.2.2.2.2.2.2.2.2.2.2.1, box_cell hbx hS.2.2.2.2.2.2.2.2.2.2.2.2.2.2.2.2.2.2.1, box_cell hbx hS.2.2.2.2.2.2.2.2.2.2.2.2.2.2.2.2.2.2.2.1, below_step hS.2.2.2.2.2.2.2.2.2.2.2.2.2.2.2.2.2.2.2.2 hbx⟩ ?_
     clear hS hbx
     intro hS
     clear hK KF
     try simp only [AP]
     refine calA 10 fun KF hK => ?_
     go_simp
     refine (mulQ hnK hnL (HT.out.later hS.2.2.2.2.2.2.2.2.2.2.2.2.2.2.2.2.2.2.2.2) HMM.out.2.2).mono ?_
     rintro e wx ⟨aN, nN, cN, lN, gN, oN, rfl, hnN, hbx⟩
     replace hnA := hnA.later hbx
     go_wp2_with fail
     refine hK.out _ _ ⟨box_cell hbx hS.1, box_cell hbx hS.2.1, box_cell hbx hS.2.2.1, box_cell hbx hS.2.2.2.1, box_cell hbx hS.2.2.2.2.1, box_cell hbx hS.2.2.2.2.2.1, box_cell hbx hS.2.2.2.2.2.2.1, box_cell hbx hS.2.2.2.2.2.2.2.1, box_cell hbx hS.2.2.2.2.2.2.2.2.1, box_cell hbx hS.2.2.2.2.2.2.2.2.2.1, box_cell hbx hS.2.2.2.2.2.2.2.2.2.2.1, box_cell hbx hS.2.2.2.2.2.2.2.2.2.2.2.1, box_cell hbx hS.2.2.2.2.2.2.2.2.2.2.2.2.1, box_cell hbx hS.2.2.2.2.2.2.2.2.2.2.2.2.2.1, box_cell hbx hS.2.2.2.2.2.2.2.2.2.2.2.2.2.2.1, box_cell hbx hS.2.2.2.2.2.2.2.2.2.2.2.2.2.2.2.1, box_cell hbx hS.2.2.2.2.2.2.2.2.2.2.2.2.2.2.2.2.1, box_cell hbx hS.2.2.2.2.2.2.2.2.2.2.2.2.2.2.2.2.2.1, box_cell hbx hS.2.2.2.2.2.2.2.2.2.2.2.2.2.2.2.2.2.2.1, box_cell hbx hS.2.2.2.2.2.2.2.2.2.2.2.2.2.2.2.2.2.2.2.1, below_step hS.2.2.2.2.2.2.2.2.2.2.2.2.2.2.2.2.2.2.2.2 hbx⟩ ?_
     clear hS hbx
     intro hS
     clear hK KF
     try simp only [AP]
     refine calA 11 fun KF hK => ?_
     go_simp
     have hc := cmpQ hnA hnN
     rw [HZ2.out] at hc
     refine hc.mono ?_
     rintro e wx ⟨rfl, hbx⟩
     clear hc
     go_wp2_with fail
     refine hK.out _ _ ⟨box_cell hbx hS.1, box_cell hbx hS.2.1, box_cell hbx hS.2.2.1, box_cell hbx hS.2.2.2.1, box_cell hbx hS.2.2.2.2.1, box_cell hbx hS.2.2.2.2.2.1, box_cell hbx hS.2.2.2.2.2.2.1, box_cell hbx hS.2.2.2.2.2.2.2.1, box_cell hbx hS.2.2.2.2.2.2.2.2.1, box_cell hbx hS.2.2.2.2.2.2.2.2.2.1, box_cell hbx hS.2.2.2.2.2.2.2.2.2.2.1, box_cell hbx hS.2.2.2.2.2.2.2.2.2.2.2.1, box_cell hbx hS.2.2.2.2.2.2.2.2.2.2.2.2.1, box_cell hbx hS.2.2.2.2.2.2.2.2.2.2.2.2.2.1, box_cell hbx hS.2.2.2.2.2.2.2.2.2.2.2.2.2.2.1, box_cell hbx hS.2.2.2.2.2.2.2.2.2.2.2.2.2.2.2.1, box_cell hbx hS.2.2.2.2.2.2.2.2.2.2.2.2.2.2.2.2.1, box_cell hbx hS.2.2.2.2.2.2.2.2.2.2.2.2.2.2.2.2.2.1, box_cell hbx hS.2.2.2.2.2.2.2.2.2.2.2.2.2.2.2.2.2.2.1, box_cell hbx hS.2.2.2.2.2.2.2.2.2.2.2.2.2.2.2.2.2.2.2.1, below_step hS.2.2.2.2.2.2.2.2.2.2.2.2.2.2.2.2.2.2.2.2 hbx⟩ ?_
     clear hS hbx
     intro hS
     clear hK KF
     try simp only [AP]
     refine takA (i := 12) (d := some 77) (v := .bool tb) hS ?_
     simp only [AP]
     refine takA (i := 13) (d := some 8) (v := .bool tb) hS ?_
     simp only [AP]
     refine wpAnyH_done (by kernel_rfl) ?_ _
     have HBE : Hid (Below w.heap.size w _) := hS.2.2.2.2.2.2.2.2.2.2.2.2.2.2.2.2.2.2.2.2
     clear hS z0 z1 z2 z3 k0 k1 k2 k3 k4 k5 k6 k7 m0 m1 m2 m3 m4 m5 m6 m7 hnM hnE hnF hnH hnI hnA hnG hnJ hnK hnL hnN
     go_wp2
     go_ret
     exact ⟨rfl, HBE.out⟩
   · exact ⟨undef, undef, undef, undef, by rw [hA]; rfl, hS, fun h => Bool.noConfusion h, fun h => Bool.noConfusion h, fun h => Bool.noConfusion h, fun h => by omega, fun h => by omega⟩
 · refine (told_yes x wq v _ HX.out.1 (HX.out.2.1 rfl) HX.out.2.2.1 ht2.out).mono ?_
   rintro e wx ⟨rfl, hbx⟩
   subst hbx
   have hsx := HX.out.2.2.2 (by simp)
   rw [hsx]
   go_wp2
   go_ret
   exact ⟨rfl, HB5.out.bel⟩

end Go.Proofs.YtocnkgfoffpbfaaGreatDoor

/- Angles that are small: Sharp. -/
namespace Go.Proofs.YtocnkgfoffpbfaaGreatDoor
open Go.RowKit Go.Shelf
attribute [local go_sem ↓] Go.wp_at_zero Go.wp_at_succ
attribute [local go_sem] run_store_float

def GS (ax ay bx by' cx cy g : Nat) : Prop := (P3 ax ay bx by' cx cy ∧ Fin64 g) ∧ 0 < dotR (fval bx) (fval by') (fval cx) (fval cy) (fval ax) (fval ay) ∧ 0 < cosE ax ay bx by' cx cy g
theorem sgq_pos {q : Rat} : 0 < sgq q ↔ 0 < q := by
 unfold sgq
 split
 · constructor
   · intro h; omega
   · intro h; grind
 · split
   · constructor
     · intro h; omega
     · intro h; grind
   · constructor
     · intro h; grind
     · intro h; omega

set_option maxRecDepth 100000 in
set_option maxHeartbeats 4000000 in
theorem gsharp_any (ax ay bx by' cx cy g : Nat) (w : World) (tb : Bool) (hT : Tab w) (hw : W6 ax ay bx by' cx cy) (hg : g < 18446744073709551616) (hb : tb = true ↔ GS ax ay bx by' cx cy g) :
   Calls Tryz.prog 16 #[pv ax ay, pv bx by', pv cx cy, .float .f64 g] w fun e w' => e = .returned (.bool tb) ∧ Below w.heap.size w w' := by
 have HT : Hid (Tab w) := hT
 have HW : Hid (W6 ax ay bx by' cx cy ∧ g < 18446744073709551616) := ⟨hw, hg⟩
 have HTB : Hid (tb = true ↔ GS ax ay bx by' cx cy g) := hb
 have HB0 : Hid (Below w.heap.size w (((w.alloc (.cells #[.float .f64 ax, .float .f64 ay] 24)).alloc (.cells #[.float .f64 bx, .float .f64 by'] 24)).alloc (.cells #[.float .f64 cx, .float .f64 cy] 24))) := (((Below.refl _ w).alloc (Nat.le_refl _) _).alloc (by simp) _).alloc (by simp; omega) _
 clear hT hw hg hb
 go_enter Tryz.func16, Tryz.ntmps16
 go_wp2_with fail
 refine (finite_any g _ HW.out.2).mono ?_
 rintro e wx ⟨⟨tg, rfl, htg⟩, hbx⟩
 subst hbx
 have HTg : Hid (tg = true ↔ Fin64 g) := htg
 clear htg
 cases tg
 · go_wp2
   go_ret
   have e0 : tb = false := by
     cases tb
     · rfl
     · exact absurd (HTg.out.2 (HTB.out.1 rfl).1.2) (by decide)
   exact ⟨by rw [e0]; rfl, HB0.out⟩
 · have HFg : Hid (Fin64 g) := HTg.out.1 rfl
   obtain ⟨z, hz⟩ : ∃ z, gdot bx by' cx cy ax ay = z := ⟨_, rfl⟩
   have HZ : Hid (gdot bx by' cx cy ax ay = z) := hz
   clear hz
   go_wp2_with fail
   refine (gdot_any bx by' cx cy ax ay _ z (HT.out.later HB0.out) ⟨HW.out.1.2.1, HW.out.1.2.2, HW.out.1.1⟩ HZ.out).mono ?_
   rintro e w1 ⟨rfl, hb1⟩
   have HB1 : Hid (Below w.heap.size w w1) := below_step HB0.out hb1
   have z0 : w1.cell? ⟨w.heap.size, 0, none⟩ = some (.float .f64 ax) := box_cell hb1 (by go_simp)
   have z1 : w1.cell? ⟨w.heap.size, 1, none⟩ = some (.float .f64 ay) := box_cell hb1 (by go_simp)
   have z2 : w1.cell? ⟨w.heap.size + 1, 0, none⟩ = some (.float .f64 bx) := box_cell hb1 (by go_simp)
   have z3 : w1.cell? ⟨w.heap.size + 1, 1, none⟩ = some (.float .f64 by') := box_cell hb1 (by go_simp)
   have z4 : w1.cell? ⟨w.heap.size + 1 + 1, 0, none⟩ = some (.float .f64 cx) := box_cell hb1 (by go_simp)
   have z5 : w1.cell? ⟨w.heap.size + 1 + 1, 1, none⟩ = some (.float .f64 cy) := box_cell hb1 (by go_simp)
   clear hb1 HB0
   obtain ⟨td, htd⟩ : ∃ t, decide (0 < z) = t := ⟨_, rfl⟩
   cases td
   · go_wp2
     go_ret
     have e0 : tb = false := by
       cases tb
       · rfl
       · have h := HTB.out.1 rfl
         have hz := gdot_yes (ax := bx) (ay := by') (bx := cx) (by' := cy) (cx := ax) (cy := ay) ⟨h.1.1.2.1, h.1.1.2.2, h.1.1.1⟩
         rw [HZ.out] at hz
         have : 0 < z := by rw [hz]; exact sgq_pos.2 h.2.1
         exact absurd this (of_decide_eq_false htd)
     exact ⟨by rw [e0]; rfl, HB1.out⟩
   · have hzp := of_decide_eq_true htd
     have HPD : Hid (P3 ax ay bx by' cx cy ∧ 0 < dotR (fval bx) (fval by') (fval cx) (fval cy) (fval ax) (fval ay)) := by
       by_cases hp : P3 bx by' cx cy ax ay
       · have := gdot_yes hp
         rw [HZ.out] at this
         rw [this] at hzp
         exact ⟨⟨hp.2.2, hp.1, hp.2.1⟩, sgq_pos.1 hzp⟩
       · have := gdot_no hp
         rw [HZ.out] at this
         omega
     have HCB : Hid (decide (0 < sgq (cosE ax ay bx by' cx cy g)) = tb) := by
       cases tb
       · refine decide_eq_false (fun h => ?_)
         have := HTB.out.2 ⟨⟨HPD.out.1, HFg.out⟩, HPD.out.2, sgq_pos.1 h⟩
         cases this
       · exact decide_eq_true (sgq_pos.2 (HTB.out.1 rfl).2.2)
     clear hzp
     go_wp2_with fail
     refine (cosine_any ax ay bx by' cx cy g _ tb (HT.out.later HB1.out) HW.out.1 HPD.out.1 HW.out.2 HFg.out (fun h => by
       have h2 := HPD.out.2
       unfold dotR at h2
       grind) HCB.out).mono ?_
     rintro e w2 ⟨rfl, hb2⟩
     have HB2 : Hid (Below w.heap.size w w2) := below_step HB1.out hb2
     clear hb2
     go_wp2
     go_ret
     exact ⟨rfl, HB2.out⟩

end Go.Proofs.YtocnkgfoffpbfaaGreatDoor
