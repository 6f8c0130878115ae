/- Own texts, put together: Ke. -/
import Derived.Test.YtocnkgfoffpbfaaGreatDoorQ4
import Derived.Test.YtocnkgfoffpbfaaGreatDoorQ30
/- The document's side of layer 6: Product. -/
namespace Go.Proofs.YtocnkgfoffpbfaaGreatDoor
open Go.RowKit Go.Shelf
attribute [local go_sem] run_store_float
set_option maxRecDepth 100000 in
set_option maxHeartbeats 4000000 in
theorem product_ref (ax ay bx by' cx cy : Nat) (w : World) (hw : (ax < 18446744073709551616 ∧ ay < 18446744073709551616 ∧ bx < 18446744073709551616 ∧ by' < 18446744073709551616 ∧ cx < 18446744073709551616 ∧ cy < 18446744073709551616)) (hf : (Fin64 ax ∧ Fin64 ay ∧ Fin64 bx ∧ Fin64 by' ∧ Fin64 cx ∧ Fin64 cy)) :
   Calls Tryz.prog 39 #[pv ax ay, pv bx by', pv cx cy] w fun e w' => RfR w w' ((fval ax - fval cx) * (fval bx - fval cx) + (fval ay - fval cy) * (fval by' - fval cy)) e := by
 have HW : Hid (ax < 18446744073709551616 ∧ ay < 18446744073709551616 ∧ bx < 18446744073709551616 ∧ by' < 18446744073709551616 ∧ cx < 18446744073709551616 ∧ cy < 18446744073709551616) := hw
 have HF : Hid (Fin64 ax ∧ Fin64 ay ∧ Fin64 bx ∧ Fin64 by' ∧ Fin64 cx ∧ Fin64 cy) := hf
 clear hw hf
 go_enter Tryz.func39, Tryz.ntmps39
 go_wp2_with fail
 obtain ⟨W0, hW0⟩ : ∃ W0, W0 = (((w.alloc (.cells #[.float .f64 ax, .float .f64 ay] 24)).alloc (.cells #[.float .f64 bx, .float .f64 by'] 24)).alloc (.cells #[.float .f64 cx, .float .f64 cy] 24)).alloc (.cells #[.int .i64 0, .slice none 0 0, .int .i64 0] 58) := ⟨_, rfl⟩
 have z0 : W0.drew.cell? ⟨w.heap.size, 0, none⟩ = some (.float .f64 ax) := by rw [hW0]; go_simp
 have z1 : W0.drew.cell? ⟨w.heap.size, 1, none⟩ = some (.float .f64 ay) := by rw [hW0]; go_simp
 have z2 : W0.drew.cell? ⟨w.heap.size + 1, 0, none⟩ = some (.float .f64 bx) := by rw [hW0]; go_simp
 have z3 : W0.drew.cell? ⟨w.heap.size + 1, 1, none⟩ = some (.float .f64 by') := by rw [hW0]; go_simp
 have z4 : W0.drew.cell? ⟨w.heap.size + 1 + 1, 0, none⟩ = some (.float .f64 cx) := by rw [hW0]; go_simp
 have z5 : W0.drew.cell? ⟨w.heap.size + 1 + 1, 1, none⟩ = some (.float .f64 cy) := by rw [hW0]; go_simp
 have HB1 : Hid (Below w.heap.size w W0) := by
   rw [hW0]
   exact ((((Below.refl _ w).alloc (Nat.le_refl _) _).alloc (by simp) _).alloc (by simp; omega) _).alloc (by simp; omega) _
 have HX0 : Hid (XBox W0.drew (w.heap.size + 1 + 1 + 1)) := by
   rw [hW0]
   refine ⟨0, 0, .slice none 0 0, ?_⟩
   have := BoxN.new (((w.alloc (.cells #[.float .f64 ax, .float .f64 ay] 24)).alloc (.cells #[.float .f64 bx, .float .f64 by'] 24)).alloc (.cells #[.float .f64 cx, .float .f64 cy] 24)) 0 0 (.slice none 0 0)
   have h2 : BoxN ((((w.alloc (.cells #[.float .f64 ax, .float .f64 ay] 24)).alloc (.cells #[.float .f64 bx, .float .f64 by'] 24)).alloc (.cells #[.float .f64 cx, .float .f64 cy] 24)).alloc (.cells #[.int .i64 0, .slice none 0 0, .int .i64 0] 58)) (w.heap.size + 1 + 1 + 1) 0 (.slice none 0 0) 0 := by simpa using this
   exact h2
 rw [← hW0]
 clear hW0
 refine wp_region_held_drew (S := (fun W => W.cell? ⟨w.heap.size, 0, none⟩ = some (.float .f64 ax) ∧ W.cell? ⟨w.heap.size, 1, none⟩ = some (.float .f64 ay) ∧ W.cell? ⟨w.heap.size + 1, 0, none⟩ = some (.float .f64 bx) ∧ W.cell? ⟨w.heap.size + 1, 1, none⟩ = some (.float .f64 by') ∧ W.cell? ⟨w.heap.size + 1 + 1, 0, none⟩ = some (.float .f64 cx) ∧ W.cell? ⟨w.heap.size + 1 + 1, 1, none⟩ = some (.float .f64 cy) ∧ XBox W (w.heap.size + 1 + 1 + 1) ∧ Below w.heap.size w W)) (by kernel_rfl) ⟨z0, z1, z2, z3, z4, z5, HX0.out, HB1.out.drew⟩ (fun hS => ?_)
 refine takA (i := 0) (d := some 9) (v := .pointer (some ⟨w.heap.size, 0, none⟩)) hS ?_
 simp only [AP]
 refine takA (i := 1) (d := some 10) (v := .float .f64 ax) hS ?_
 simp only [AP]
 refine takA (i := 2) (d := some 11) (v := .pointer (some ⟨w.heap.size + 1 + 1, 0, none⟩)) hS ?_
 simp only [AP]
 refine takA (i := 3) (d := some 12) (v := .float .f64 cx) hS ?_
 simp only [AP]
 refine takA (i := 5) (d := some 14) (v := .pointer (some ⟨w.heap.size + 1, 0, none⟩)) hS ?_
 simp only [AP]
 refine takA (i := 6) (d := some 15) (v := .float .f64 bx) hS ?_
 simp only [AP]
 refine takA (i := 7) (d := some 16) (v := .pointer (some ⟨w.heap.size + 1 + 1, 0, none⟩)) hS ?_
 simp only [AP]
 refine takA (i := 8) (d := some 17) (v := .float .f64 cx) hS ?_
 simp only [AP]
 refine frame_named (fun A hA => ?_)
 refine draw1 (f := 1) (n := 3) (al := 11) (fun k => if k = 0 then 4 else if k = 1 then 9 else 10) (fun (xb : Bool) (kb : Nat) => #[true, true, true, true, decide (1 ≤ kb), true, true, true, true, decide (2 ≤ kb), decide (3 ≤ kb), xb, false]) (fun (xb : Bool) (kb : Nat) (aa : Act) (W : World) => ∃ (ea e1 e2 e3 : Value), aa = ((((A.put (some 7) ea).put (some 13) e1).put (some 18) e2).put (some 19) e3) ∧ (W.cell? ⟨w.heap.size, 0, none⟩ = some (.float .f64 ax) ∧ W.cell? ⟨w.heap.size, 1, none⟩ = some (.float .f64 ay) ∧ W.cell? ⟨w.heap.size + 1, 0, none⟩ = some (.float .f64 bx) ∧ W.cell? ⟨w.heap.size + 1, 1, none⟩ = some (.float .f64 by') ∧ W.cell? ⟨w.heap.size + 1 + 1, 0, none⟩ = some (.float .f64 cx) ∧ W.cell? ⟨w.heap.size + 1 + 1, 1, none⟩ = some (.float .f64 cy) ∧ XBox W (w.heap.size + 1 + 1 + 1) ∧ Below w.heap.size w W) ∧ (xb = true → ∃ bb, ea = .pointer (some ⟨bb, 0, none⟩) ∧ BoxN W bb 0 (.slice none 0 0) 0 ∧ w.heap.size + 1 + 1 + 1 < bb) ∧ (1 ≤ kb → Rf W e1 (fval ax - fval cx)) ∧ (2 ≤ kb → Rf W e2 (fval bx - fval cx)) ∧ (3 ≤ kb → Rf W e3 ((fval ax - fval cx) * (fval bx - fval cx)))) ?_ ?_ ?_ ?_ ?_ ?_ 4 false 0 _ _ (by omega) (by decide) ?_
 · intro xb kb hk hx
   have h5 : kb = 0 ∨ kb = 1 ∨ kb = 2 ∨ kb = 3 := by omega
   rcases h5 with rfl | rfl | rfl | rfl <;> cases xb <;> first | exact absurd (hx rfl) (by decide) | (show _ = _; kernel_rfl)
 · intro xb kb hk
   have h5 : kb = 0 ∨ kb = 1 ∨ kb = 2 := by omega
   rcases h5 with rfl | rfl | rfl <;> cases xb <;> rfl
 · intro kb hk
   have h5 : kb = 0 ∨ kb = 1 ∨ kb = 2 ∨ kb = 3 := by omega
   rcases h5 with rfl | rfl | rfl | rfl <;> rfl
 · intro xb kb hk
   have h5 : kb = 0 ∨ kb = 1 ∨ kb = 2 := by omega
   rcases h5 with rfl | rfl | rfl
   · refine ⟨_, rfl, ?_⟩
     intro aa W hI K' hK
     obtain ⟨ea, e1, e2, e3, rfl, hS, hv, k1, k2, k3⟩ := hI
     have HV : Hid (xb = true → ∃ bb, ea = .pointer (some ⟨bb, 0, none⟩) ∧ BoxN W bb 0 (.slice none 0 0) 0 ∧ w.heap.size + 1 + 1 + 1 < bb) := hv
     clear hv k1 k2 k3
     rw [hA]
     simp only [AP]
     go_simp
     go_wp2_with fail
     refine (lessR ax cx _ HW.out.1 HW.out.2.2.2.2.1 HF.out.1 HF.out.2.2.2.2.1).mono ?_
     rintro e wx ⟨v9, rfl, hnew, hbx⟩
     have hS2 : (fun W => W.cell? ⟨w.heap.size, 0, none⟩ = some (.float .f64 ax) ∧ W.cell? ⟨w.heap.size, 1, none⟩ = some (.float .f64 ay) ∧ W.cell? ⟨w.heap.size + 1, 0, none⟩ = some (.float .f64 bx) ∧ W.cell? ⟨w.heap.size + 1, 1, none⟩ = some (.float .f64 by') ∧ W.cell? ⟨w.heap.size + 1 + 1, 0, none⟩ = some (.float .f64 cx) ∧ W.cell? ⟨w.heap.size + 1 + 1, 1, none⟩ = some (.float .f64 cy) ∧ XBox W (w.heap.size + 1 + 1 + 1) ∧ Below w.heap.size w W) wx := ⟨box_cell hbx hS.1, box_cell hbx hS.2.1, box_cell hbx hS.2.2.1, box_cell hbx hS.2.2.2.1, box_cell hbx hS.2.2.2.2.1, box_cell hbx hS.2.2.2.2.2.1, hS.2.2.2.2.2.2.1.later hbx, below_step hS.2.2.2.2.2.2.2 hbx⟩
     go_wp2_with fail
     exact hK.out _ _ hS2 ⟨ea, _, e2, e3, by rw [hA]; rfl, hS2, fun h => (by obtain ⟨bb, h1, h2, h3⟩ := (HV.out h); exact ⟨bb, h1, h2.later hbx, h3⟩), fun _ => hnew, fun h => by omega, fun h => by omega⟩
   · refine ⟨_, rfl, ?_⟩
     intro aa W hI K' hK
     obtain ⟨ea, e1, e2, e3, rfl, hS, hv, k1, k2, k3⟩ := hI
     have r1 := k1 (by omega)
     have HV : Hid (xb = true → ∃ bb, ea = .pointer (some ⟨bb, 0, none⟩) ∧ BoxN W bb 0 (.slice none 0 0) 0 ∧ w.heap.size + 1 + 1 + 1 < bb) := hv
     clear hv k1 k2 k3
     have R1 : Hid (Rf W e1 (fval ax - fval cx)) := r1
     clear r1
     rw [hA]
     simp only [AP]
     go_simp
     go_wp2_with fail
     refine (lessR bx cx _ HW.out.2.2.1 HW.out.2.2.2.2.1 HF.out.2.2.1 HF.out.2.2.2.2.1).mono ?_
     rintro e wx ⟨v9, rfl, hnew, hbx⟩
     have hS2 : (fun W => W.cell? ⟨w.heap.size, 0, none⟩ = some (.float .f64 ax) ∧ W.cell? ⟨w.heap.size, 1, none⟩ = some (.float .f64 ay) ∧ W.cell? ⟨w.heap.size + 1, 0, none⟩ = some (.float .f64 bx) ∧ W.cell? ⟨w.heap.size + 1, 1, none⟩ = some (.float .f64 by') ∧ W.cell? ⟨w.heap.size + 1 + 1, 0, none⟩ = some (.float .f64 cx) ∧ W.cell? ⟨w.heap.size + 1 + 1, 1, none⟩ = some (.float .f64 cy) ∧ XBox W (w.heap.size + 1 + 1 + 1) ∧ Below w.heap.size w W) wx := ⟨box_cell hbx hS.1, box_cell hbx hS.2.1, box_cell hbx hS.2.2.1, box_cell hbx hS.2.2.2.1, box_cell hbx hS.2.2.2.2.1, box_cell hbx hS.2.2.2.2.2.1, hS.2.2.2.2.2.2.1.later hbx, below_step hS.2.2.2.2.2.2.2 hbx⟩
     go_wp2_with fail
     exact hK.out _ _ hS2 ⟨ea, _, _, e3, by rw [hA]; rfl, hS2, fun h => (by obtain ⟨bb, h1, h2, h3⟩ := (HV.out h); exact ⟨bb, h1, h2.later hbx, h3⟩), fun _ => R1.out.later hbx, fun _ => hnew, fun h => by omega⟩
   · refine ⟨_, rfl, ?_⟩
     intro aa W hI K' hK
     obtain ⟨ea, e1, e2, e3, rfl, hS, hv, k1, k2, k3⟩ := hI
     have r1 := k1 (by omega)
     have r2 := k2 (by omega)
     have HV : Hid (xb = true → ∃ bb, ea = .pointer (some ⟨bb, 0, none⟩) ∧ BoxN W bb 0 (.slice none 0 0) 0 ∧ w.heap.size + 1 + 1 + 1 < bb) := hv
     clear hv k1 k2 k3
     have s1 := r1
     obtain ⟨S1, a1, n1, c1, E1, rfl⟩ := s1.agg
     have s2 := r2
     obtain ⟨S2, a2, n2, c2, E2, rfl⟩ := s2.agg
     rw [hA]
     simp only [AP]
     go_simp
     go_wp2_with fail
     refine (mul_rf _ _ (fval ax - fval cx) (fval bx - fval cx) _ r1 r2 (fit_diff HF.out.1 HF.out.2.2.2.2.1) (fit_diff HF.out.2.2.1 HF.out.2.2.2.2.1)).mono ?_
     rintro e wx ⟨v9, rfl, hnew, hbx⟩
     have hS2 : (fun W => W.cell? ⟨w.heap.size, 0, none⟩ = some (.float .f64 ax) ∧ W.cell? ⟨w.heap.size, 1, none⟩ = some (.float .f64 ay) ∧ W.cell? ⟨w.heap.size + 1, 0, none⟩ = some (.float .f64 bx) ∧ W.cell? ⟨w.heap.size + 1, 1, none⟩ = some (.float .f64 by') ∧ W.cell? ⟨w.heap.size + 1 + 1, 0, none⟩ = some (.float .f64 cx) ∧ W.cell? ⟨w.heap.size + 1 + 1, 1, none⟩ = some (.float .f64 cy) ∧ XBox W (w.heap.size + 1 + 1 + 1) ∧ Below w.heap.size w W) wx := ⟨box_cell hbx hS.1, box_cell hbx hS.2.1, box_cell hbx hS.2.2.1, box_cell hbx hS.2.2.2.1, box_cell hbx hS.2.2.2.2.1, box_cell hbx hS.2.2.2.2.2.1, hS.2.2.2.2.2.2.1.later hbx, below_step hS.2.2.2.2.2.2.2 hbx⟩
     go_wp2_with fail
     exact hK.out _ _ hS2 ⟨ea, _, _, _, by rw [hA]; rfl, hS2, fun h => (by obtain ⟨bb, h1, h2, h3⟩ := (HV.out h); exact ⟨bb, h1, h2.later hbx, h3⟩), fun _ => r1.later hbx, fun _ => r2.later hbx, fun _ => hnew⟩
 · intro kb hk
   refine ⟨_, rfl, ?_⟩
   intro aa W hI K' hK
   obtain ⟨ea, e1, e2, e3, rfl, hS, hv, k1, k2, k3⟩ := hI
   have HK : Hid ((1 ≤ kb → Rf W e1 (fval ax - fval cx)) ∧ (2 ≤ kb → Rf W e2 (fval bx - fval cx)) ∧ (3 ≤ kb → Rf W e3 ((fval ax - fval cx) * (fval bx - fval cx)))) := ⟨k1, k2, k3⟩
   clear hv k1 k2 k3
   have hbx : Below W.heap.size W (W.alloc (.cells #[.int .i64 0, .slice none 0 0, .int .i64 0] 58)) := (Below.refl _ W).alloc (Nat.le_refl _) _
   have hlt2 : w.heap.size + 1 + 1 + 1 < W.heap.size := hS.2.2.2.2.2.2.1.lt
   have hS2 : (fun W => W.cell? ⟨w.heap.size, 0, none⟩ = some (.float .f64 ax) ∧ W.cell? ⟨w.heap.size, 1, none⟩ = some (.float .f64 ay) ∧ W.cell? ⟨w.heap.size + 1, 0, none⟩ = some (.float .f64 bx) ∧ W.cell? ⟨w.heap.size + 1, 1, none⟩ = some (.float .f64 by') ∧ W.cell? ⟨w.heap.size + 1 + 1, 0, none⟩ = some (.float .f64 cx) ∧ W.cell? ⟨w.heap.size + 1 + 1, 1, none⟩ = some (.float .f64 cy) ∧ XBox W (w.heap.size + 1 + 1 + 1) ∧ Below w.heap.size w W) (W.alloc (.cells #[.int .i64 0, .slice none 0 0, .int .i64 0] 58)) := ⟨box_cell hbx hS.1, box_cell hbx hS.2.1, box_cell hbx hS.2.2.1, box_cell hbx hS.2.2.2.1, box_cell hbx hS.2.2.2.2.1, box_cell hbx hS.2.2.2.2.2.1, hS.2.2.2.2.2.2.1.later hbx, below_step hS.2.2.2.2.2.2.2 hbx⟩
   rw [hA]
   simp only [AP]
   go_simp
   go_wp2_with fail
   exact hK.out _ _ hS2 ⟨_, e1, e2, e3, by rw [hA]; rfl, hS2, fun _ => ⟨W.heap.size, rfl, BoxN.new W 0 0 _, hlt2⟩, fun h => (HK.out.1 h).later hbx, fun h => (HK.out.2.1 h).later hbx, fun h => (HK.out.2.2 h).later hbx⟩
 · clear z0 z1 z2 z3 z4 z5
   intro aa W hI
   obtain ⟨ea, e1, e2, e3, rfl, hS, hv, k1, k2, k3⟩ := hI
   replace hv := hv rfl
   have r1 := k1 (by omega)
   have r2 := k2 (by omega)
   have r3 := k3 (by omega)
   clear k1 k2 k3
   obtain ⟨ba, rfl, hNB, hlow⟩ := hv
   clear r1 r2
   obtain ⟨S3, a3, n3, c3, E3, rfl⟩ := r3.agg
   subst hA
   simp only [AP]
   obtain ⟨t0, t1, t2, tf, _⟩ := hNB.cells
   have tf0 := tf 0
   have tf1 := tf 1
   have tf2 := tf 2
   clear tf
   have hP : (fun W' => BoxN W' ba S3 (.slice a3 n3 c3) E3 ∧ Rf W' (.agg #[.int .i64 S3, .slice a3 n3 c3, .int .i64 E3]) ((fval ax - fval cx) * (fval bx - fval cx))) (((W.setCell ⟨ba, 0, none⟩ (.int .i64 S3)).setCell ⟨ba, 1, none⟩ (.slice a3 n3 c3)).setCell ⟨ba, 2, none⟩ (.int .i64 E3)) := ⟨hNB.set3, r3.boxed (other_box hNB) _ _ _⟩
   have hS2 : (fun W => W.cell? ⟨w.heap.size, 0, none⟩ = some (.float .f64 ax) ∧ W.cell? ⟨w.heap.size, 1, none⟩ = some (.float .f64 ay) ∧ W.cell? ⟨w.heap.size + 1, 0, none⟩ = some (.float .f64 bx) ∧ W.cell? ⟨w.heap.size + 1, 1, none⟩ = some (.float .f64 by') ∧ W.cell? ⟨w.heap.size + 1 + 1, 0, none⟩ = some (.float .f64 cx) ∧ W.cell? ⟨w.heap.size + 1 + 1, 1, none⟩ = some (.float .f64 cy) ∧ XBox W (w.heap.size + 1 + 1 + 1) ∧ Below w.heap.size w W) (((W.setCell ⟨ba, 0, none⟩ (.int .i64 S3)).setCell ⟨ba, 1, none⟩ (.slice a3 n3 c3)).setCell ⟨ba, 2, none⟩ (.int .i64 E3)) := ⟨Sets.cell (by omega) [(0, .int .i64 S3), (1, .slice a3 n3 c3), (2, .int .i64 E3)] hS.1, Sets.cell (by omega) [(0, .int .i64 S3), (1, .slice a3 n3 c3), (2, .int .i64 E3)] hS.2.1, Sets.cell (by omega) [(0, .int .i64 S3), (1, .slice a3 n3 c3), (2, .int .i64 E3)] hS.2.2.1, Sets.cell (by omega) [(0, .int .i64 S3), (1, .slice a3 n3 c3), (2, .int .i64 E3)] hS.2.2.2.1, Sets.cell (by omega) [(0, .int .i64 S3), (1, .slice a3 n3 c3), (2, .int .i64 E3)] hS.2.2.2.2.1, Sets.cell (by omega) [(0, .int .i64 S3), (1, .slice a3 n3 c3), (2, .int .i64 E3)] hS.2.2.2.2.2.1, hS.2.2.2.2.2.2.1.other3 (by omega) _ _ _, Sets.below (by omega) [(0, .int .i64 S3), (1, .slice a3 n3 c3), (2, .int .i64 E3)] hS.2.2.2.2.2.2.2⟩
   refine calA 12 fun KF hK => ?_
   go_simp
   go_wp2_with fail
   refine hK.out _ _ hS2 ?_
   clear hS
   intro hS
   clear hK KF t0 t1 t2 tf0 tf1 tf2
   try simp only [Act.put]
   try simp only [List.setIfInBounds_toArray, List.set_cons_zero, List.set_cons_succ]
   clear hS2 hNB r3
   generalize (((W.setCell ⟨ba, 0, none⟩ (.int .i64 S3)).setCell ⟨ba, 1, none⟩ (.slice a3 n3 c3)).setCell ⟨ba, 2, none⟩ (.int .i64 E3)) = Wa at *
   obtain ⟨hNB, r3⟩ := hP
   refine wpAnyH_done (by kernel_rfl) ?_ _
   have z0 := hS.1
   have z1 := hS.2.1
   have z2 := hS.2.2.1
   have z3 := hS.2.2.2.1
   have z4 := hS.2.2.2.2.1
   have z5 := hS.2.2.2.2.2.1
   have HS : Hid (XBox Wa (w.heap.size + 1 + 1 + 1) ∧ Below w.heap.size w Wa) := hS.2.2.2.2.2.2
   clear hS
   obtain ⟨m0, m1, m2, _, _⟩ := hNB.cells
   clear hNB
   have HR : Hid (Rf Wa (.agg #[.int .i64 S3, .slice a3 n3 c3, .int .i64 E3]) ((fval ax - fval cx) * (fval bx - fval cx))) := r3
   clear r3
   go_wp2_with fail
   have hX : Rf Wa.drew (.agg #[.int .i64 S3, .slice a3 n3 c3, .int .i64 E3]) ((fval ax - fval cx) * (fval bx - fval cx)) := HR.out.later (Below.refl _ Wa).drew
   refine wp_region_held_drew (S := (fun W => W.cell? ⟨w.heap.size, 0, none⟩ = some (.float .f64 ax) ∧ W.cell? ⟨w.heap.size, 1, none⟩ = some (.float .f64 ay) ∧ W.cell? ⟨w.heap.size + 1, 0, none⟩ = some (.float .f64 bx) ∧ W.cell? ⟨w.heap.size + 1, 1, none⟩ = some (.float .f64 by') ∧ W.cell? ⟨w.heap.size + 1 + 1, 0, none⟩ = some (.float .f64 cx) ∧ W.cell? ⟨w.heap.size + 1 + 1, 1, none⟩ = some (.float .f64 cy) ∧ W.cell? ⟨ba, 0, none⟩ = some (.int .i64 S3) ∧ W.cell? ⟨ba, 1, none⟩ = some (.slice a3 n3 c3) ∧ W.cell? ⟨ba, 2, none⟩ = some (.int .i64 E3) ∧ XBox W (w.heap.size + 1 + 1 + 1) ∧ Below w.heap.size w W)) (by kernel_rfl) ⟨z0, z1, z2, z3, z4, z5, m0, m1, m2, HS.out.1, HS.out.2.drew⟩ (fun hS => ?_)
   refine takA (i := 0) (d := some 20) (v := .pointer (some ⟨w.heap.size, 1, none⟩)) hS ?_
   simp only [AP]
   refine takA (i := 1) (d := some 21) (v := .float .f64 ay) hS ?_
   simp only [AP]
   refine takA (i := 2) (d := some 22) (v := .pointer (some ⟨w.heap.size + 1 + 1, 1, none⟩)) hS ?_
   simp only [AP]
   refine takA (i := 3) (d := some 23) (v := .float .f64 cy) hS ?_
   simp only [AP]
   refine takA (i := 5) (d := some 25) (v := .pointer (some ⟨w.heap.size + 1, 1, none⟩)) hS ?_
   simp only [AP]
   refine takA (i := 6) (d := some 26) (v := .float .f64 by') hS ?_
   simp only [AP]
   refine takA (i := 7) (d := some 27) (v := .pointer (some ⟨w.heap.size + 1 + 1, 1, none⟩)) hS ?_
   simp only [AP]
   refine takA (i := 8) (d := some 28) (v := .float .f64 cy) hS ?_
   simp only [AP]
   refine frame_named (fun A hA => ?_)
   refine draw1 (f := 1) (n := 3) (al := 11) (fun k => if k = 0 then 4 else if k = 1 then 9 else 10) (fun (xb : Bool) (kb : Nat) => #[true, true, true, true, decide (1 ≤ kb), true, true, true, true, decide (2 ≤ kb), decide (3 ≤ kb), xb, false]) (fun (xb : Bool) (kb : Nat) (aa : Act) (W : World) => ∃ (ea e1 e2 e3 : Value), aa = ((((A.put (some 8) ea).put (some 24) e1).put (some 29) e2).put (some 30) e3) ∧ (W.cell? ⟨w.heap.size, 0, none⟩ = some (.float .f64 ax) ∧ W.cell? ⟨w.heap.size, 1, none⟩ = some (.float .f64 ay) ∧ W.cell? ⟨w.heap.size + 1, 0, none⟩ = some (.float .f64 bx) ∧ W.cell? ⟨w.heap.size + 1, 1, none⟩ = some (.float .f64 by') ∧ W.cell? ⟨w.heap.size + 1 + 1, 0, none⟩ = some (.float .f64 cx) ∧ W.cell? ⟨w.heap.size + 1 + 1, 1, none⟩ = some (.float .f64 cy) ∧ W.cell? ⟨ba, 0, none⟩ = some (.int .i64 S3) ∧ W.cell? ⟨ba, 1, none⟩ = some (.slice a3 n3 c3) ∧ W.cell? ⟨ba, 2, none⟩ = some (.int .i64 E3) ∧ XBox W (w.heap.size + 1 + 1 + 1) ∧ Below w.heap.size w W) ∧ Rf W (.agg #[.int .i64 S3, .slice a3 n3 c3, .int .i64 E3]) ((fval ax - fval cx) * (fval bx - fval cx)) ∧ (xb = true → ∃ bb, ea = .pointer (some ⟨bb, 0, none⟩) ∧ BoxN W bb 0 (.slice none 0 0) 0 ∧ ba < bb) ∧ (1 ≤ kb → Rf W e1 (fval ay - fval cy)) ∧ (2 ≤ kb → Rf W e2 (fval by' - fval cy)) ∧ (3 ≤ kb → Rf W e3 ((fval ay - fval cy) * (fval by' - fval cy)))) ?_ ?_ ?_ ?_ ?_ ?_ 4 false 0 _ _ (by omega) (by decide) ?_
   · intro xb kb hk hx
     have h5 : kb = 0 ∨ kb = 1 ∨ kb = 2 ∨ kb = 3 := by omega
     rcases h5 with rfl | rfl | rfl | rfl <;> cases xb <;> first | exact absurd (hx rfl) (by decide) | (show _ = _; kernel_rfl)
   · intro xb kb hk
     have h5 : kb = 0 ∨ kb = 1 ∨ kb = 2 := by omega
     rcases h5 with rfl | rfl | rfl <;> cases xb <;> rfl
   · intro kb hk
     have h5 : kb = 0 ∨ kb = 1 ∨ kb = 2 ∨ kb = 3 := by omega
     rcases h5 with rfl | rfl | rfl | rfl <;> rfl
   · intro xb kb hk
     have h5 : kb = 0 ∨ kb = 1 ∨ kb = 2 := by omega
     rcases h5 with rfl | rfl | rfl
     · refine ⟨_, rfl, ?_⟩
       intro aa W hI K' hK
       obtain ⟨ea, e1, e2, e3, rfl, hS, hX, hv, k1, k2, k3⟩ := hI
       have HV : Hid (xb = true → ∃ bb, ea = .pointer (some ⟨bb, 0, none⟩) ∧ BoxN W bb 0 (.slice none 0 0) 0 ∧ ba < bb) := hv
       clear hv k1 k2 k3
       rw [hA]
       simp only [AP]
       go_simp
       go_wp2_with fail
       refine (lessR ay cy _ HW.out.2.1 HW.out.2.2.2.2.2 HF.out.2.1 HF.out.2.2.2.2.2).mono ?_
       rintro e wx ⟨v9, rfl, hnew, hbx⟩
       have hS2 : (fun W => W.cell? ⟨w.heap.size, 0, none⟩ = some (.float .f64 ax) ∧ W.cell? ⟨w.heap.size, 1, none⟩ = some (.float .f64 ay) ∧ W.cell? ⟨w.heap.size + 1, 0, none⟩ = some (.float .f64 bx) ∧ W.cell? ⟨w.heap.size + 1, 1, none⟩ = some (.float .f64 by') ∧ W.cell? ⟨w.heap.size + 1 + 1, 0, none⟩ = some (.float .f64 cx) ∧ W.cell? ⟨w.heap.size + 1 + 1, 1, none⟩ = some (.float .f64 cy) ∧ W.cell? ⟨ba, 0, none⟩ = some (.int .i64 S3) ∧ W.cell? ⟨ba, 1, none⟩ = some (.slice a3 n3 c3) ∧ W.cell? ⟨ba, 2, none⟩ = some (.int .i64 E3) ∧ XBox W (w.heap.size + 1 + 1 + 1) ∧ Below w.heap.size w W) wx := ⟨box_cell hbx hS.1, box_cell hbx hS.2.1, box_cell hbx hS.2.2.1, box_cell hbx hS.2.2.2.1, box_cell hbx hS.2.2.2.2.1, box_cell hbx hS.2.2.2.2.2.1, box_cell hbx hS.2.2.2.2.2.2.1, box_cell hbx hS.2.2.2.2.2.2.2.1, box_cell hbx hS.2.2.2.2.2.2.2.2.1, hS.2.2.2.2.2.2.2.2.2.1.later hbx, below_step hS.2.2.2.2.2.2.2.2.2.2 hbx⟩
       go_wp2_with fail
       exact hK.out _ _ hS2 ⟨ea, _, e2, e3, by rw [hA]; rfl, hS2, hX.later hbx, fun h => (by obtain ⟨bb, h1, h2, h3⟩ := (HV.out h); exact ⟨bb, h1, h2.later hbx, h3⟩), fun _ => hnew, fun h => by omega, fun h => by omega⟩
     · refine ⟨_, rfl, ?_⟩
       intro aa W hI K' hK
       obtain ⟨ea, e1, e2, e3, rfl, hS, hX, hv, k1, k2, k3⟩ := hI
       have r1 := k1 (by omega)
       have HV : Hid (xb = true → ∃ bb, ea = .pointer (some ⟨bb, 0, none⟩) ∧ BoxN W bb 0 (.slice none 0 0) 0 ∧ ba < bb) := hv
       clear hv k1 k2 k3
       have R1 : Hid (Rf W e1 (fval ay - fval cy)) := r1
       clear r1
       rw [hA]
       simp only [AP]
       go_simp
       go_wp2_with fail
       refine (lessR by' cy _ HW.out.2.2.2.1 HW.out.2.2.2.2.2 HF.out.2.2.2.1 HF.out.2.2.2.2.2).mono ?_
       rintro e wx ⟨v9, rfl, hnew, hbx⟩
       have hS2 : (fun W => W.cell? ⟨w.heap.size, 0, none⟩ = some (.float .f64 ax) ∧ W.cell? ⟨w.heap.size, 1, none⟩ = some (.float .f64 ay) ∧ W.cell? ⟨w.heap.size + 1, 0, none⟩ = some (.float .f64 bx) ∧ W.cell? ⟨w.heap.size + 1, 1, none⟩ = some (.float .f64 by') ∧ W.cell? ⟨w.heap.size + 1 + 1, 0, none⟩ = some (.float .f64 cx) ∧ W.cell? ⟨w.heap.size + 1 + 1, 1, none⟩ = some (.float .f64 cy) ∧ W.cell? ⟨ba, 0, none⟩ = some (.int .i64 S3) ∧ W.cell? ⟨ba, 1, none⟩ = some (.slice a3 n3 c3) ∧ W.cell? ⟨ba, 2, none⟩ = some (.int .i64 E3) ∧ XBox W (w.heap.size + 1 + 1 + 1) ∧ Below w.heap.size w W) wx := ⟨box_cell hbx hS.1, box_cell hbx hS.2.1, box_cell hbx hS.2.2.1, box_cell hbx hS.2.2.2.1, box_cell hbx hS.2.2.2.2.1, box_cell hbx hS.2.2.2.2.2.1, box_cell hbx hS.2.2.2.2.2.2.1, box_cell hbx hS.2.2.2.2.2.2.2.1, box_cell hbx hS.2.2.2.2.2.2.2.2.1, hS.2.2.2.2.2.2.2.2.2.1.later hbx, below_step hS.2.2.2.2.2.2.2.2.2.2 hbx⟩
       go_wp2_with fail
       exact hK.out _ _ hS2 ⟨ea, _, _, e3, by rw [hA]; rfl, hS2, hX.later hbx, fun h => (by obtain ⟨bb, h1, h2, h3⟩ := (HV.out h); exact ⟨bb, h1, h2.later hbx, h3⟩), fun _ => R1.out.later hbx, fun _ => hnew, fun h => by omega⟩
     · refine ⟨_, rfl, ?_⟩
       intro aa W hI K' hK
       obtain ⟨ea, e1, e2, e3, rfl, hS, hX, hv, k1, k2, k3⟩ := hI
       have r1 := k1 (by omega)
       have r2 := k2 (by omega)
       have HV : Hid (xb = true → ∃ bb, ea = .pointer (some ⟨bb, 0, none⟩) ∧ BoxN W bb 0 (.slice none 0 0) 0 ∧ ba < bb) := hv
       clear hv k1 k2 k3
       have s1 := r1
       obtain ⟨S4, a4, n4, c4, E4, rfl⟩ := s1.agg
       have s2 := r2
       obtain ⟨S5, a5, n5, c5, E5, rfl⟩ := s2.agg
       rw [hA]
       simp only [AP]
       go_simp
       go_wp2_with fail
       refine (mul_rf _ _ (fval ay - fval cy) (fval by' - fval cy) _ r1 r2 (fit_diff HF.out.2.1 HF.out.2.2.2.2.2) (fit_diff HF.out.2.2.2.1 HF.out.2.2.2.2.2)).mono ?_
       rintro e wx ⟨v9, rfl, hnew, hbx⟩
       have hS2 : (fun W => W.cell? ⟨w.heap.size, 0, none⟩ = some (.float .f64 ax) ∧ W.cell? ⟨w.heap.size, 1, none⟩ = some (.float .f64 ay) ∧ W.cell? ⟨w.heap.size + 1, 0, none⟩ = some (.float .f64 bx) ∧ W.cell? ⟨w.heap.size + 1, 1, none⟩ = some (.float .f64 by') ∧ W.cell? ⟨w.heap.size + 1 + 1, 0, none⟩ = some (.float .f64 cx) ∧ W.cell? ⟨w.heap.size + 1 + 1, 1, none⟩ = some (.float .f64 cy) ∧ W.cell? ⟨ba, 0, none⟩ = some (.int .i64 S3) ∧ W.cell? ⟨ba, 1, none⟩ = some (.slice a3 n3 c3) ∧ W.cell? ⟨ba, 2, none⟩ = some (.int .i64 E3) ∧ XBox W (w.heap.size + 1 + 1 + 1) ∧ Below w.heap.size w W) wx := ⟨box_cell hbx hS.1, box_cell hbx hS.2.1, box_cell hbx hS.2.2.1, box_cell hbx hS.2.2.2.1, box_cell hbx hS.2.2.2.2.1, box_cell hbx hS.2.2.2.2.2.1, box_cell hbx hS.2.2.2.2.2.2.1, box_cell hbx hS.2.2.2.2.2.2.2.1, box_cell hbx hS.2.2.2.2.2.2.2.2.1, hS.2.2.2.2.2.2.2.2.2.1.later hbx, below_step hS.2.2.2.2.2.2.2.2.2.2 hbx⟩
       go_wp2_with fail
       exact hK.out _ _ hS2 ⟨ea, _, _, _, by rw [hA]; rfl, hS2, hX.later hbx, fun h => (by obtain ⟨bb, h1, h2, h3⟩ := (HV.out h); exact ⟨bb, h1, h2.later hbx, h3⟩), fun _ => r1.later hbx, fun _ => r2.later hbx, fun _ => hnew⟩
   · intro kb hk
     refine ⟨_, rfl, ?_⟩
     intro aa W hI K' hK
     obtain ⟨ea, e1, e2, e3, rfl, hS, hX, hv, k1, k2, k3⟩ := hI
     have HK : Hid ((1 ≤ kb → Rf W e1 (fval ay - fval cy)) ∧ (2 ≤ kb → Rf W e2 (fval by' - fval cy)) ∧ (3 ≤ kb → Rf W e3 ((fval ay - fval cy) * (fval by' - fval cy)))) := ⟨k1, k2, k3⟩
     clear hv k1 k2 k3
     have hbx : Below W.heap.size W (W.alloc (.cells #[.int .i64 0, .slice none 0 0, .int .i64 0] 58)) := (Below.refl _ W).alloc (Nat.le_refl _) _
     have hlt2 : ba < W.heap.size := World.block_lt_of_cell? _ _ hS.2.2.2.2.2.2.1
     have hS2 : (fun W => W.cell? ⟨w.heap.size, 0, none⟩ = some (.float .f64 ax) ∧ W.cell? ⟨w.heap.size, 1, none⟩ = some (.float .f64 ay) ∧ W.cell? ⟨w.heap.size + 1, 0, none⟩ = some (.float .f64 bx) ∧ W.cell? ⟨w.heap.size + 1, 1, none⟩ = some (.float .f64 by') ∧ W.cell? ⟨w.heap.size + 1 + 1, 0, none⟩ = some (.float .f64 cx) ∧ W.cell? ⟨w.heap.size + 1 + 1, 1, none⟩ = some (.float .f64 cy) ∧ W.cell? ⟨ba, 0, none⟩ = some (.int .i64 S3) ∧ W.cell? ⟨ba, 1, none⟩ = some (.slice a3 n3 c3) ∧ W.cell? ⟨ba, 2, none⟩ = some (.int .i64 E3) ∧ XBox W (w.heap.size + 1 + 1 + 1) ∧ Below w.heap.size w W) (W.alloc (.cells #[.int .i64 0, .slice none 0 0, .int .i64 0] 58)) := ⟨box_cell hbx hS.1, box_cell hbx hS.2.1, box_cell hbx hS.2.2.1, box_cell hbx hS.2.2.2.1, box_cell hbx hS.2.2.2.2.1, box_cell hbx hS.2.2.2.2.2.1, box_cell hbx hS.2.2.2.2.2.2.1, box_cell hbx hS.2.2.2.2.2.2.2.1, box_cell hbx hS.2.2.2.2.2.2.2.2.1, hS.2.2.2.2.2.2.2.2.2.1.later hbx, below_step hS.2.2.2.2.2.2.2.2.2.2 hbx⟩
     rw [hA]
     simp only [AP]
     go_simp
     go_wp2_with fail
     exact hK.out _ _ hS2 ⟨_, e1, e2, e3, by rw [hA]; rfl, hS2, hX.later hbx, fun _ => ⟨W.heap.size, rfl, BoxN.new W 0 0 _, hlt2⟩, fun h => (HK.out.1 h).later hbx, fun h => (HK.out.2.1 h).later hbx, fun h => (HK.out.2.2 h).later hbx⟩
   · intro aa W hI
     obtain ⟨ea, e1, e2, e3, rfl, hS, hX, hv, k1, k2, k3⟩ := hI
     replace hv := hv rfl
     have r1 := k1 (by omega)
     have r2 := k2 (by omega)
     have r3 := k3 (by omega)
     clear k1 k2 k3
     obtain ⟨bb, rfl, hNB, hlow2⟩ := hv
     clear r1 r2
     obtain ⟨S6, a6, n6, c6, E6, rfl⟩ := r3.agg
     subst hA
     simp only [AP]
     obtain ⟨t0, t1, t2, tf, _⟩ := hNB.cells
     have tf0 := tf 0
     have tf1 := tf 1
     have tf2 := tf 2
     clear tf
     have hP : (fun W' => BoxN W' bb S6 (.slice a6 n6 c6) E6 ∧ Rf W' (.agg #[.int .i64 S6, .slice a6 n6 c6, .int .i64 E6]) ((fval ay - fval cy) * (fval by' - fval cy)) ∧ Rf W' (.agg #[.int .i64 S3, .slice a3 n3 c3, .int .i64 E3]) ((fval ax - fval cx) * (fval bx - fval cx))) (((W.setCell ⟨bb, 0, none⟩ (.int .i64 S6)).setCell ⟨bb, 1, none⟩ (.slice a6 n6 c6)).setCell ⟨bb, 2, none⟩ (.int .i64 E6)) := ⟨hNB.set3, r3.boxed (other_box hNB) _ _ _, hX.boxed (other_box hNB) _ _ _⟩
     have hS2 : (fun W => W.cell? ⟨w.heap.size, 0, none⟩ = some (.float .f64 ax) ∧ W.cell? ⟨w.heap.size, 1, none⟩ = some (.float .f64 ay) ∧ W.cell? ⟨w.heap.size + 1, 0, none⟩ = some (.float .f64 bx) ∧ W.cell? ⟨w.heap.size + 1, 1, none⟩ = some (.float .f64 by') ∧ W.cell? ⟨w.heap.size + 1 + 1, 0, none⟩ = some (.float .f64 cx) ∧ W.cell? ⟨w.heap.size + 1 + 1, 1, none⟩ = some (.float .f64 cy) ∧ W.cell? ⟨ba, 0, none⟩ = some (.int .i64 S3) ∧ W.cell? ⟨ba, 1, none⟩ = some (.slice a3 n3 c3) ∧ W.cell? ⟨ba, 2, none⟩ = some (.int .i64 E3) ∧ XBox W (w.heap.size + 1 + 1 + 1) ∧ Below w.heap.size w W) (((W.setCell ⟨bb, 0, none⟩ (.int .i64 S6)).setCell ⟨bb, 1, none⟩ (.slice a6 n6 c6)).setCell ⟨bb, 2, none⟩ (.int .i64 E6)) := ⟨Sets.cell (by omega) [(0, .int .i64 S6), (1, .slice a6 n6 c6), (2, .int .i64 E6)] hS.1, Sets.cell (by omega) [(0, .int .i64 S6), (1, .slice a6 n6 c6), (2, .int .i64 E6)] hS.2.1, Sets.cell (by omega) [(0, .int .i64 S6), (1, .slice a6 n6 c6), (2, .int .i64 E6)] hS.2.2.1, Sets.cell (by omega) [(0, .int .i64 S6), (1, .slice a6 n6 c6), (2, .int .i64 E6)] hS.2.2.2.1, Sets.cell (by omega) [(0, .int .i64 S6), (1, .slice a6 n6 c6), (2, .int .i64 E6)] hS.2.2.2.2.1, Sets.cell (by omega) [(0, .int .i64 S6), (1, .slice a6 n6 c6), (2, .int .i64 E6)] hS.2.2.2.2.2.1, Sets.cell (by omega) [(0, .int .i64 S6), (1, .slice a6 n6 c6), (2, .int .i64 E6)] hS.2.2.2.2.2.2.1, Sets.cell (by omega) [(0, .int .i64 S6), (1, .slice a6 n6 c6), (2, .int .i64 E6)] hS.2.2.2.2.2.2.2.1, Sets.cell (by omega) [(0, .int .i64 S6), (1, .slice a6 n6 c6), (2, .int .i64 E6)] hS.2.2.2.2.2.2.2.2.1, hS.2.2.2.2.2.2.2.2.2.1.other3 (by omega) _ _ _, Sets.below (by omega) [(0, .int .i64 S6), (1, .slice a6 n6 c6), (2, .int .i64 E6)] hS.2.2.2.2.2.2.2.2.2.2⟩
     refine calA 12 fun KF hK => ?_
     go_simp
     go_wp2_with fail
     refine hK.out _ _ hS2 ?_
     clear hS
     intro hS
     clear hK KF t0 t1 t2 tf0 tf1 tf2
     try simp only [Act.put]
     try simp only [List.setIfInBounds_toArray, List.set_cons_zero, List.set_cons_succ]
     clear hS2 hNB r3 hX
     generalize (((W.setCell ⟨bb, 0, none⟩ (.int .i64 S6)).setCell ⟨bb, 1, none⟩ (.slice a6 n6 c6)).setCell ⟨bb, 2, none⟩ (.int .i64 E6)) = Wb at *
     obtain ⟨hNB, r3, hX⟩ := hP
     refine wpAnyH_done (by kernel_rfl) ?_ _
     have HS2 : Hid (XBox Wb (w.heap.size + 1 + 1 + 1) ∧ Below w.heap.size w Wb) := hS.2.2.2.2.2.2.2.2.2
     have k0 := hS.2.2.2.2.2.2.1
     have k1 := hS.2.2.2.2.2.2.2.1
     have k2 := hS.2.2.2.2.2.2.2.2.1
     clear hS HS z0 z1 z2 z3 z4 z5 m0 m1 m2
     obtain ⟨p0, p1, p2, _, _⟩ := hNB.cells
     clear hNB
     have HR2 : Hid (Rf Wb (.agg #[.int .i64 S3, .slice a3 n3 c3, .int .i64 E3]) ((fval ax - fval cx) * (fval bx - fval cx)) ∧ Rf Wb (.agg #[.int .i64 S6, .slice a6 n6 c6, .int .i64 E6]) ((fval ay - fval cy) * (fval by' - fval cy))) := ⟨hX, r3⟩
     clear r3 hX HR
     go_wp2_with fail
     refine (refAdd_any _ _ ((fval ax - fval cx) * (fval bx - fval cx)) ((fval ay - fval cy) * (fval by' - fval cy)) _ HR2.out.1 HR2.out.2 (fit_prod HF.out.1 HF.out.2.2.2.2.1 HF.out.2.2.1 HF.out.2.2.2.2.1) (fit_prod HF.out.2.1 HF.out.2.2.2.2.2 HF.out.2.2.2.1 HF.out.2.2.2.2.2)).mono ?_
     rintro e wx ⟨v7, rfl, r7, hbx⟩
     obtain ⟨S7, a7, n7, c7, E7, rfl⟩ := r7.agg
     obtain ⟨S0, E0, v0, hXB⟩ := HS2.out.1.later hbx
     have HB9 : Hid (Below w.heap.size w wx) := below_step HS2.out.2 hbx
     clear hbx HS2 k0 k1 k2 p0 p1 p2
     have HX9 : Hid (BoxN wx (w.heap.size + 1 + 1 + 1) S0 v0 E0) := hXB
     have HR7 : Hid (Rf wx (.agg #[.int .i64 S7, .slice a7 n7 c7, .int .i64 E7]) ((fval ax - fval cx) * (fval bx - fval cx) + (fval ay - fval cy) * (fval by' - fval cy))) := r7
     obtain ⟨t0, t1, t2, tf, _⟩ := hXB.cells
     have tf0 := tf 0
     have tf1 := tf 1
     have tf2 := tf 2
     clear tf
     clear r7 hXB
     go_wp2
     have Y := (HX9.out.set3 (S' := S7) (sv' := .slice a7 n7 c7) (E' := E7)).cells
     refine bodyPost_ret (v := (.agg #[.int .i64 S7, .slice a7 n7 c7, .int .i64 E7])) (by simp [results, Tryz.results39, go_sem, Y.1, Y.2.1, Y.2.2.1]) rfl ?_
     exact ⟨_, rfl, HR7.out.boxed (other_box HX9.out) _ _ _, ((HB9.out.setCell (by show w.heap.size ≤ w.heap.size + 1 + 1 + 1; omega) _).setCell (by show w.heap.size ≤ w.heap.size + 1 + 1 + 1; omega) _).setCell (by show w.heap.size ≤ w.heap.size + 1 + 1 + 1; omega) _⟩
   · exact ⟨_, _, _, _, by rw [hA]; rfl, hS, hX, fun h => Bool.noConfusion h, fun h => by omega, fun h => by omega, fun h => by omega⟩
 · exact ⟨_, _, _, _, by rw [hA]; rfl, hS, fun h => Bool.noConfusion h, fun h => by omega, fun h => by omega, fun h => by omega⟩
end Go.Proofs.YtocnkgfoffpbfaaGreatDoor
