import Derived.Test.YtocnkgfoffpbfaaGreatDoorQ4
import Derived.Test.YtocnkgfoffpbfaaGreatDoorQ24
import Derived.Test.YtocnkgfoffpbfaaGreatDoorQ37
import Derived.Test.YtocnkgfoffpbfaaGreatDoorQ38
/- Lengths are told exactly: the law. -/
namespace Go.Proofs.YtocnkgfoffpbfaaGreatDoor
open Go.RowKit Go.Shelf
attribute [local go_sem ↓] Go.wp_at_zero Go.wp_at_succ
attribute [local go_sem] run_store_float
set_option maxRecDepth 100000 in
set_option maxHeartbeats 4000000 in
theorem lengths_law (ax ay bx by' cx cy dx dy : Nat) (w : World) (hT : Tab w) (hw : W8 ax ay bx by' cx cy dx dy) :
   Calls Tryz.prog 3 #[pv ax ay, pv bx by', pv cx cy, pv dx dy] w fun e w' => e = .returned (.bool true) ∧ Below w.heap.size w w' := by
 have HT : Hid (Tab w) := hT
 have HW : Hid (W8 ax ay bx by' cx cy dx dy) := hw
 obtain ⟨z, hz⟩ : ∃ z, gcmp ax ay bx by' cx cy dx dy = z := ⟨_, rfl⟩
 obtain ⟨y, hy⟩ : ∃ y, gdot ax ay bx by' cx cy = y := ⟨_, rfl⟩
 have HZ : Hid (gcmp ax ay bx by' cx cy dx dy = z ∧ gdot ax ay bx by' cx cy = y) := ⟨hz, hy⟩
 clear hT hw hz hy
 go_enter Tryz.func3, Tryz.ntmps3
 go_wp2_with fail
 obtain ⟨W0, hW0⟩ : ∃ W0, W0 = ((((w.alloc (.cells #[.float .f64 ax, .float .f64 ay] 24)).alloc (.cells #[.float .f64 bx, .float .f64 by'] 24)).alloc (.cells #[.float .f64 cx, .float .f64 cy] 24)).alloc (.cells #[.float .f64 dx, .float .f64 dy] 24)) := ⟨_, rfl⟩
 have u0 : W0.drew.cell? ⟨w.heap.size, 0, none⟩ = some (.float .f64 ax) := by rw [hW0]; go_simp
 have u1 : W0.drew.cell? ⟨w.heap.size, 1, none⟩ = some (.float .f64 ay) := by rw [hW0]; go_simp
 have u2 : W0.drew.cell? ⟨w.heap.size + 1, 0, none⟩ = some (.float .f64 bx) := by rw [hW0]; go_simp
 have u3 : W0.drew.cell? ⟨w.heap.size + 1, 1, none⟩ = some (.float .f64 by') := by rw [hW0]; go_simp
 have u4 : W0.drew.cell? ⟨w.heap.size + 1 + 1, 0, none⟩ = some (.float .f64 cx) := by rw [hW0]; go_simp
 have u5 : W0.drew.cell? ⟨w.heap.size + 1 + 1, 1, none⟩ = some (.float .f64 cy) := by rw [hW0]; go_simp
 have u6 : W0.drew.cell? ⟨w.heap.size + 1 + 1 + 1, 0, none⟩ = some (.float .f64 dx) := by rw [hW0]; go_simp
 have u7 : W0.drew.cell? ⟨w.heap.size + 1 + 1 + 1, 1, none⟩ = some (.float .f64 dy) := by rw [hW0]; go_simp
 have HB0 : Hid (Below w.heap.size w W0) := by
   rw [hW0]
   exact (((((Below.refl _ w).alloc (Nat.le_refl _) _).alloc (by simp) _).alloc (by simp; omega) _).alloc (by simp; omega) _)
 rw [← hW0]
 clear hW0
 refine wp_region_held_drew (S := (fun W => W.cell? ⟨w.heap.size, 0, none⟩ = some (.float .f64 ax) ∧ W.cell? ⟨w.heap.size, 1, none⟩ = some (.float .f64 ay) ∧ W.cell? ⟨w.heap.size + 1, 0, none⟩ = some (.float .f64 bx) ∧ W.cell? ⟨w.heap.size + 1, 1, none⟩ = some (.float .f64 by') ∧ W.cell? ⟨w.heap.size + 1 + 1, 0, none⟩ = some (.float .f64 cx) ∧ W.cell? ⟨w.heap.size + 1 + 1, 1, none⟩ = some (.float .f64 cy) ∧ W.cell? ⟨w.heap.size + 1 + 1 + 1, 0, none⟩ = some (.float .f64 dx) ∧ W.cell? ⟨w.heap.size + 1 + 1 + 1, 1, none⟩ = some (.float .f64 dy) ∧ Below w.heap.size w W)) (by kernel_rfl) ⟨u0, u1, u2, u3, u4, u5, u6, u7, HB0.out.drew⟩ (fun hS => ?_)
 refine takA (i := 0) (d := some 9) (v := .agg #[.float .f64 ax, .float .f64 ay]) hS ?_
 simp only [AP]
 refine takA (i := 1) (d := some 10) (v := .agg #[.float .f64 bx, .float .f64 by']) hS ?_
 simp only [AP]
 refine takA (i := 2) (d := some 11) (v := .agg #[.float .f64 cx, .float .f64 cy]) hS ?_
 simp only [AP]
 refine takA (i := 3) (d := some 12) (v := .agg #[.float .f64 dx, .float .f64 dy]) hS ?_
 simp only [AP]
 refine takA (i := 5) (d := some 14) (v := .agg #[.float .f64 ax, .float .f64 ay]) hS ?_
 simp only [AP]
 refine takA (i := 6) (d := some 15) (v := .agg #[.float .f64 bx, .float .f64 by']) hS ?_
 simp only [AP]
 refine takA (i := 7) (d := some 16) (v := .agg #[.float .f64 cx, .float .f64 cy]) hS ?_
 simp only [AP]
 refine takA (i := 8) (d := some 17) (v := .agg #[.float .f64 dx, .float .f64 dy]) hS ?_
 simp only [AP]
 refine calA 4 fun KF hK => ?_
 go_simp
 refine (gcmp_any ax ay bx by' cx cy dx dy _ z (HT.out.later hS.2.2.2.2.2.2.2.2) HW.out HZ.out.1).mono ?_
 rintro e wx ⟨rfl, hbx⟩
 go_wp2_with fail
 refine hK.out _ _ (kp8 hbx hS) ?_
 clear hS hbx
 intro hS
 clear hK KF
 try simp only [AP]
 refine calA 9 fun KF hK => ?_
 go_simp
 refine (cmp6_ref ax ay bx by' cx cy dx dy _ z HW.out HZ.out.1).mono ?_
 rintro e wx ⟨rfl, hbx⟩
 go_wp2_with fail
 refine hK.out _ _ (kp8 hbx hS) ?_
 clear hS hbx
 intro hS
 clear hK KF
 try simp only [AP]
 refine takA (i := 10) (d := some 19) (v := .bool true) hS ?_
 simp only [AP]
 refine takA (i := 11) (d := some 20) (v := .bool true) hS ?_
 simp only [AP]
 refine takA (i := 12) (d := some 21) (v := .agg #[.float .f64 ax, .float .f64 ay]) hS ?_
 simp only [AP]
 refine takA (i := 13) (d := some 22) (v := .agg #[.float .f64 bx, .float .f64 by']) hS ?_
 simp only [AP]
 refine takA (i := 14) (d := some 23) (v := .agg #[.float .f64 cx, .float .f64 cy]) hS ?_
 simp only [AP]
 refine takA (i := 16) (d := some 25) (v := .agg #[.float .f64 ax, .float .f64 ay]) hS ?_
 simp only [AP]
 refine takA (i := 17) (d := some 26) (v := .agg #[.float .f64 bx, .float .f64 by']) hS ?_
 simp only [AP]
 refine takA (i := 18) (d := some 27) (v := .agg #[.float .f64 cx, .float .f64 cy]) hS ?_
 simp only [AP]
 refine calA 15 fun KF hK => ?_
 go_simp
 refine (gdot_any ax ay bx by' cx cy _ y (HT.out.later hS.2.2.2.2.2.2.2.2) HW.out.1 HZ.out.2).mono ?_
 rintro e wx ⟨rfl, hbx⟩
 go_wp2_with fail
 refine hK.out _ _ (kp8 hbx hS) ?_
 clear hS hbx
 intro hS
 clear hK KF
 try simp only [AP]
 refine calA 19 fun KF hK => ?_
 go_simp
 refine (dot6_ref ax ay bx by' cx cy _ y HW.out.1 HZ.out.2).mono ?_
 rintro e wx ⟨rfl, hbx⟩
 go_wp2_with fail
 refine hK.out _ _ (kp8 hbx hS) ?_
 clear hS hbx
 intro hS
 clear hK KF
 try simp only [AP]
 refine takA (i := 20) (d := some 29) (v := .bool true) hS ?_
 simp only [AP]
 refine takA (i := 21) (d := some 30) (v := .bool true) hS ?_
 simp only [AP]
 refine takA (i := 22) (d := some 31) (v := .bool true) hS ?_
 simp only [AP]
 refine calA 23 fun KF hK => ?_
 go_simp
 refine (awake6_any _ (HT.out.later hS.2.2.2.2.2.2.2.2)).mono ?_
 rintro e wx ⟨rfl, hbx⟩
 go_wp2_with fail
 refine hK.out _ _ (kp8 hbx hS) ?_
 clear hS hbx
 intro hS
 clear hK KF
 try simp only [AP]
 refine takA (i := 24) (d := some 33) (v := .bool true) hS ?_
 simp only [AP]
 refine takA (i := 25) (d := some 8) (v := .bool true) hS ?_
 simp only [AP]
 refine wpAnyH_done (by kernel_rfl) ?_ _
 have HBE : Hid (Below w.heap.size w _) := hS.2.2.2.2.2.2.2.2
 clear hS
 go_wp2
 go_ret
 exact ⟨rfl, HBE.out⟩
end Go.Proofs.YtocnkgfoffpbfaaGreatDoor
