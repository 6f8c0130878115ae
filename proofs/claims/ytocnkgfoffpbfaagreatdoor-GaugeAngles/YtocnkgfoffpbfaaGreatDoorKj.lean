import Derived.Test.YtocnkgfoffpbfaaGreatDoorQ4
import Derived.Test.YtocnkgfoffpbfaaGreatDoorQ24
import Derived.Test.YtocnkgfoffpbfaaGreatDoorQ38
import Derived.Test.YtocnkgfoffpbfaaGreatDoorKi
/- Areas and cosines are told exactly: the law. -/
namespace Go.Proofs.YtocnkgfoffpbfaaGreatDoor
open Go.RowKit Go.Shelf
attribute [local go_sem ↓] Go.wp_at_zero Go.wp_at_succ
attribute [local go_sem] run_store_float
set_option maxRecDepth 100000 in
set_option maxHeartbeats 4000000 in
theorem angles_law (ax ay bx by' cx cy m g : Nat) (w : World) (hT : Tab w) (hw : W6 ax ay bx by' cx cy ∧ m < 18446744073709551616 ∧ g < 18446744073709551616) :
   Calls Tryz.prog 4 #[pv ax ay, pv bx by', pv cx cy, .float .f64 m, .float .f64 g] w fun e w' => e = .returned (.bool true) ∧ Below w.heap.size w w' := by
 have HT : Hid (Tab w) := hT
 have HW : Hid (W6 ax ay bx by' cx cy) := hw.1
 have HG : Hid (m < 18446744073709551616 ∧ g < 18446744073709551616) := hw.2
 obtain ⟨z, hz⟩ : ∃ z, garea ax ay bx by' cx cy m = z := ⟨_, rfl⟩
 obtain ⟨tb, hb⟩ : ∃ s : Bool, s = true ↔ GS ax ay bx by' cx cy g := ⟨_, @decide_eq_true_iff _ (Classical.propDecidable _)⟩
 have HZ : Hid (garea ax ay bx by' cx cy m = z ∧ (tb = true ↔ GS ax ay bx by' cx cy g)) := ⟨hz, hb⟩
 clear hT hw hz hb
 go_enter Tryz.func4, Tryz.ntmps4
 go_wp2_with fail
 obtain ⟨W0, hW0⟩ : ∃ W0, W0 = (((w.alloc (.cells #[.float .f64 ax, .float .f64 ay] 24)).alloc (.cells #[.float .f64 bx, .float .f64 by'] 24)).alloc (.cells #[.float .f64 cx, .float .f64 cy] 24)) := ⟨_, rfl⟩
 have u0 : W0.drew.cell? ⟨w.heap.size, 0, none⟩ = some (.float .f64 ax) := by rw [hW0]; go_simp
 have u1 : W0.drew.cell? ⟨w.heap.size, 1, none⟩ = some (.float .f64 ay) := by rw [hW0]; go_simp
 have u2 : W0.drew.cell? ⟨w.heap.size + 1, 0, none⟩ = some (.float .f64 bx) := by rw [hW0]; go_simp
 have u3 : W0.drew.cell? ⟨w.heap.size + 1, 1, none⟩ = some (.float .f64 by') := by rw [hW0]; go_simp
 have u4 : W0.drew.cell? ⟨w.heap.size + 1 + 1, 0, none⟩ = some (.float .f64 cx) := by rw [hW0]; go_simp
 have u5 : W0.drew.cell? ⟨w.heap.size + 1 + 1, 1, none⟩ = some (.float .f64 cy) := by rw [hW0]; go_simp
 have HB0 : Hid (Below w.heap.size w W0) := by
   rw [hW0]
   exact ((((Below.refl _ w).alloc (Nat.le_refl _) _).alloc (by simp) _).alloc (by simp; omega) _)
 rw [← hW0]
 clear hW0
 refine wp_region_held_drew (S := (fun W => W.cell? ⟨w.heap.size, 0, none⟩ = some (.float .f64 ax) ∧ W.cell? ⟨w.heap.size, 1, none⟩ = some (.float .f64 ay) ∧ W.cell? ⟨w.heap.size + 1, 0, none⟩ = some (.float .f64 bx) ∧ W.cell? ⟨w.heap.size + 1, 1, none⟩ = some (.float .f64 by') ∧ W.cell? ⟨w.heap.size + 1 + 1, 0, none⟩ = some (.float .f64 cx) ∧ W.cell? ⟨w.heap.size + 1 + 1, 1, none⟩ = some (.float .f64 cy) ∧ Below w.heap.size w W)) (by kernel_rfl) ⟨u0, u1, u2, u3, u4, u5, HB0.out.drew⟩ (fun hS => ?_)
 refine takA (i := 0) (d := some 11) (v := .agg #[.float .f64 ax, .float .f64 ay]) hS ?_
 simp only [AP]
 refine takA (i := 1) (d := some 12) (v := .agg #[.float .f64 bx, .float .f64 by']) hS ?_
 simp only [AP]
 refine takA (i := 2) (d := some 13) (v := .agg #[.float .f64 cx, .float .f64 cy]) hS ?_
 simp only [AP]
 refine takA (i := 3) (d := some 14) (v := .float .f64 m) hS ?_
 simp only [AP]
 refine takA (i := 5) (d := some 16) (v := .agg #[.float .f64 ax, .float .f64 ay]) hS ?_
 simp only [AP]
 refine takA (i := 6) (d := some 17) (v := .agg #[.float .f64 bx, .float .f64 by']) hS ?_
 simp only [AP]
 refine takA (i := 7) (d := some 18) (v := .agg #[.float .f64 cx, .float .f64 cy]) hS ?_
 simp only [AP]
 refine takA (i := 8) (d := some 19) (v := .float .f64 m) hS ?_
 simp only [AP]
 refine calA 4 fun KF hK => ?_
 go_simp
 refine (garea_any ax ay bx by' cx cy m _ z (HT.out.later hS.2.2.2.2.2.2) HW.out HG.out.1 HZ.out.1).mono ?_
 rintro e wx ⟨rfl, hbx⟩
 go_wp2_with fail
 refine hK.out _ _ (kp6 hbx hS) ?_
 clear hS hbx
 intro hS
 clear hK KF
 try simp only [AP]
 refine calA 9 fun KF hK => ?_
 go_simp
 refine (area6_ref ax ay bx by' cx cy m _ z HZ.out.1 HW.out HG.out.1).mono ?_
 rintro e wx ⟨rfl, hbx⟩
 go_wp2_with fail
 refine hK.out _ _ (kp6 hbx hS) ?_
 clear hS hbx
 intro hS
 clear hK KF
 try simp only [AP]
 refine takA (i := 10) (d := some 21) (v := .bool true) hS ?_
 simp only [AP]
 refine takA (i := 11) (d := some 22) (v := .bool true) hS ?_
 simp only [AP]
 refine takA (i := 12) (d := some 23) (v := .agg #[.float .f64 ax, .float .f64 ay]) hS ?_
 simp only [AP]
 refine takA (i := 13) (d := some 24) (v := .agg #[.float .f64 bx, .float .f64 by']) hS ?_
 simp only [AP]
 refine takA (i := 14) (d := some 25) (v := .agg #[.float .f64 cx, .float .f64 cy]) hS ?_
 simp only [AP]
 refine takA (i := 15) (d := some 26) (v := .float .f64 g) hS ?_
 simp only [AP]
 refine takA (i := 17) (d := some 28) (v := .agg #[.float .f64 ax, .float .f64 ay]) hS ?_
 simp only [AP]
 refine takA (i := 18) (d := some 29) (v := .agg #[.float .f64 bx, .float .f64 by']) hS ?_
 simp only [AP]
 refine takA (i := 19) (d := some 30) (v := .agg #[.float .f64 cx, .float .f64 cy]) hS ?_
 simp only [AP]
 refine takA (i := 20) (d := some 31) (v := .float .f64 g) hS ?_
 simp only [AP]
 refine calA 16 fun KF hK => ?_
 go_simp
 refine (gsharp_any ax ay bx by' cx cy g _ tb (HT.out.later hS.2.2.2.2.2.2) HW.out HG.out.2 HZ.out.2).mono ?_
 rintro e wx ⟨rfl, hbx⟩
 go_wp2_with fail
 refine hK.out _ _ (kp6 hbx hS) ?_
 clear hS hbx
 intro hS
 clear hK KF
 try simp only [AP]
 refine calA 21 fun KF hK => ?_
 go_simp
 refine (sharp6_ref ax ay bx by' cx cy g _ tb HZ.out.2 HW.out HG.out.2).mono ?_
 rintro e wx ⟨rfl, hbx⟩
 go_wp2_with fail
 refine hK.out _ _ (kp6 hbx hS) ?_
 clear hS hbx
 intro hS
 clear hK KF
 try simp only [AP]
 refine takA (i := 22) (d := some 33) (v := .bool true) hS ?_
 simp only [AP]
 refine takA (i := 23) (d := some 34) (v := .bool true) hS ?_
 simp only [AP]
 refine takA (i := 24) (d := some 35) (v := .bool true) hS ?_
 simp only [AP]
 refine calA 25 fun KF hK => ?_
 go_simp
 refine (awake6_any _ (HT.out.later hS.2.2.2.2.2.2)).mono ?_
 rintro e wx ⟨rfl, hbx⟩
 go_wp2_with fail
 refine hK.out _ _ (kp6 hbx hS) ?_
 clear hS hbx
 intro hS
 clear hK KF
 try simp only [AP]
 refine takA (i := 26) (d := some 37) (v := .bool true) hS ?_
 simp only [AP]
 refine takA (i := 27) (d := some 10) (v := .bool true) hS ?_
 simp only [AP]
 refine wpAnyH_done (by kernel_rfl) ?_ _
 have HBE : Hid (Below w.heap.size w _) := hS.2.2.2.2.2.2
 clear hS
 go_wp2
 go_ret
 exact ⟨rfl, HBE.out⟩
end Go.Proofs.YtocnkgfoffpbfaaGreatDoor
