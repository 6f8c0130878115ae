import Derived.Test.YtocnkgfoffpbfaaGreatDoorQ3
import Derived.Test.YtocnkgfoffpbfaaGreatDoorQ50
/- Angles of a triangle: the law. -/
namespace Go.Proofs.YtocnkgfoffpbfaaGreatDoor
open Go.RowKit Go.Shelf
attribute [local go_sem ↓] Go.wp_at_zero Go.wp_at_succ
attribute [local go_sem] run_store_float

theorem GS.swap {ax ay bx by' cx cy g : Nat} (h : GS ax ay bx by' cx cy g) : GS ax ay cx cy bx by' g := by
 obtain ⟨⟨h1, h2⟩, h3, h4⟩ := h
 refine ⟨⟨⟨h1.1, h1.2.2, h1.2.1⟩, h2⟩, ?_, ?_⟩
 · unfold dotR at *; grind
 · unfold cosE at *; grind
theorem GS.less {ax ay bx by' cx cy g h : Nat} (k : GS ax ay bx by' cx cy h) (fg : Fin64 g) (hle : fval g ≤ fval h) : GS ax ay bx by' cx cy g := by
 obtain ⟨⟨h1, h2⟩, h3, h4⟩ := k
 refine ⟨⟨h1, fg⟩, h3, ?_⟩
 unfold cosE at *
 have a := sq_nonneg (fval bx - fval ax)
 have b := sq_nonneg (fval by' - fval ay)
 have c := sq_nonneg (fval cx - fval ax)
 have d := sq_nonneg (fval cy - fval ay)
 have e : 0 ≤ ((fval bx - fval ax) * (fval bx - fval ax) + (fval by' - fval ay) * (fval by' - fval ay)) * ((fval cx - fval ax) * (fval cx - fval ax) + (fval cy - fval ay) * (fval cy - fval ay)) := Rat.mul_nonneg (by grind) (by grind)
 have m := Rat.mul_le_mul_of_nonneg_right hle e
 grind
theorem quarter : fval 4598175219545276416 = 1 / 4 := by decide +kernel
theorem GS.of {ax ay bx by' cx cy : Nat} (hp : P3 ax ay bx by' cx cy) (h : Sh (dotR (fval bx) (fval by') (fval cx) (fval cy) (fval ax) (fval ay)) (lenR (fval ax) (fval ay) (fval bx) (fval by')) (lenR (fval ax) (fval ay) (fval cx) (fval cy))) : GS ax ay bx by' cx cy 4598175219545276416 := by
 obtain ⟨h1, h2⟩ := h
 refine ⟨⟨hp, by decide⟩, h1, ?_⟩
 unfold cosE
 rw [quarter]
 unfold dotR lenR at *
 grind
theorem leq_nan {g h : Nat} (hg : ¬ Fin64 g) (hle : (FloatKind.f64.format.order g h == some .lt || FloatKind.f64.format.order g h == some .eq) = true) : frung g = 9218868437227405312 := by
 apply Classical.byContradiction
 intro hn
 have : 9218868437227405312 < frung g := by unfold Fin64 at hg; omega
 rw [show FloatKind.f64.format.order g h = none from order_nan_left this] at hle
 simp at hle
theorem lenR_fl (a b c d : Rat) : lenR a b c d = lenR c d a b := by unfold lenR; grind

set_option maxRecDepth 100000 in
set_option maxHeartbeats 4000000 in
theorem triangles_law (ax ay bx by' cx cy g h : Nat) (w : World) (hT : Tab w) (hw : (ax < 18446744073709551616 ∧ ay < 18446744073709551616) ∧ (bx < 18446744073709551616 ∧ by' < 18446744073709551616) ∧ (cx < 18446744073709551616 ∧ cy < 18446744073709551616) ∧ g < 18446744073709551616 ∧ h < 18446744073709551616) :
   Calls Tryz.prog 7 #[pv ax ay, pv bx by', pv cx cy, .float .f64 g, .float .f64 h] w fun e w' => e = .returned (.bool true) ∧ Below w.heap.size w w' := by
 have HT : Hid (Tab w) := hT
 have HW : Hid (W6 ax ay bx by' cx cy) := ⟨hw.1, hw.2.1, hw.2.2.1⟩
 have HGw : Hid (g < 18446744073709551616 ∧ h < 18446744073709551616) := hw.2.2.2
 obtain ⟨z, hz⟩ : ∃ z, sg3 ax ay bx by' cx cy = z := ⟨_, rfl⟩
 have HZ : Hid (sg3 ax ay bx by' cx cy = z) := hz
 have HB0 : Hid (Below w.heap.size w (((w.alloc (.cells #[.float .f64 ax, .float .f64 ay] 24)).alloc (.cells #[.float .f64 bx, .float .f64 by'] 24)).alloc (.cells #[.float .f64 cx, .float .f64 cy] 24))) := (((Below.refl _ w).alloc (Nat.le_refl _) _).alloc (by simp) _).alloc (by simp; omega) _
 obtain ⟨sg, hsg⟩ : ∃ s : Bool, s = true ↔ GS ax ay bx by' cx cy g := ⟨_, @decide_eq_true_iff _ (Classical.propDecidable _)⟩
 have HSg : Hid (sg = true ↔ GS ax ay bx by' cx cy g) := hsg
 have HSg2 : Hid (sg = true ↔ GS ax ay cx cy bx by' g) := ⟨fun k => (hsg.1 k).swap, fun k => hsg.2 k.swap⟩
 obtain ⟨shh, hsh⟩ : ∃ s : Bool, s = true ↔ GS ax ay bx by' cx cy h := ⟨_, @decide_eq_true_iff _ (Classical.propDecidable _)⟩
 have HSh : Hid (shh = true ↔ GS ax ay bx by' cx cy h) := hsh
 obtain ⟨b1, hb1⟩ : ∃ b, (FloatKind.f64.format.order g h == some .lt || FloatKind.f64.format.order g h == some .eq) = b := ⟨_, rfl⟩
 have HB1' : Hid ((FloatKind.f64.format.order g h == some .lt || FloatKind.f64.format.order g h == some .eq) = b1) := hb1
 clear hT hw hz hsg hsh
 go_enter Tryz.func7, Tryz.ntmps7
 go_wp2_with fail
 refine (awake6_any _ (HT.out.later HB0.out)).mono ?_
 rintro e w1 ⟨rfl, hb2⟩
 have c0 : w1.cell? ⟨w.heap.size, 0, none⟩ = some (.float .f64 ax) := box_cell hb2 (by go_simp)
 have c1 : w1.cell? ⟨w.heap.size, 1, none⟩ = some (.float .f64 ay) := box_cell hb2 (by go_simp)
 have c2 : w1.cell? ⟨w.heap.size + 1, 0, none⟩ = some (.float .f64 bx) := box_cell hb2 (by go_simp)
 have c3 : w1.cell? ⟨w.heap.size + 1, 1, none⟩ = some (.float .f64 by') := box_cell hb2 (by go_simp)
 have c4 : w1.cell? ⟨w.heap.size + 1 + 1, 0, none⟩ = some (.float .f64 cx) := box_cell hb2 (by go_simp)
 have c5 : w1.cell? ⟨w.heap.size + 1 + 1, 1, none⟩ = some (.float .f64 cy) := box_cell hb2 (by go_simp)
 have HB1 : Hid (Below w.heap.size w w1) := below_step HB0.out hb2
 clear hb2 HB0
 go_wp2_with fail
 cases b1
 · refine wp_region_held_drew (S := (fun W => W.cell? ⟨w.heap.size, 0, none⟩ = some (.float .f64 ax) ∧ W.cell? ⟨w.heap.size, 1, none⟩ = some (.float .f64 ay) ∧ W.cell? ⟨w.heap.size + 1, 0, none⟩ = some (.float .f64 bx) ∧ W.cell? ⟨w.heap.size + 1, 1, none⟩ = some (.float .f64 by') ∧ W.cell? ⟨w.heap.size + 1 + 1, 0, none⟩ = some (.float .f64 cx) ∧ W.cell? ⟨w.heap.size + 1 + 1, 1, none⟩ = some (.float .f64 cy) ∧ Below w.heap.size w W)) (by kernel_rfl) ⟨c0, c1, c2, c3, c4, c5, HB1.out.drew⟩ (fun hS => ?_)
   refine takA (i := 0) (d := some 14) (v := .float .f64 g) hS ?_
   simp only [AP]
   refine takA (i := 1) (d := some 15) (v := .float .f64 h) hS ?_
   simp only [AP]
   refine takA (i := 2) (d := some 16) (v := .bool false) hS ?_
   simp only [AP]
   refine takA (i := 3) (d := some 17) (v := .bool false) hS ?_
   simp only [AP]
   refine skip_at 4 (d := some 18) (by kernel_rfl) (by kernel_rfl) (by kernel_rfl) (by kernel_rfl) (fun _ _ _ h => h) (by rfl) hS ?_
   simp only [AP]
   refine skip_at 5 (d := some 19) (by kernel_rfl) (by kernel_rfl) (by kernel_rfl) (by kernel_rfl) (fun _ _ _ h => h) (by rfl) hS ?_
   simp only [AP]
   refine skip_at 6 (d := some 20) (by kernel_rfl) (by kernel_rfl) (by kernel_rfl) (by kernel_rfl) (fun _ _ _ h => h) (by rfl) hS ?_
   simp only [AP]
   refine skip_at 7 (d := some 21) (by kernel_rfl) (by kernel_rfl) (by kernel_rfl) (by kernel_rfl) (fun _ _ _ h => h) (by rfl) hS ?_
   simp only [AP]
   refine skip_at 8 (d := some 22) (by kernel_rfl) (by kernel_rfl) (by kernel_rfl) (by kernel_rfl) (fun _ _ _ h => h) (by rfl) hS ?_
   simp only [AP]
   refine takA (i := 9) (d := some 23) (v := .bool false) hS ?_
   simp only [AP]
   refine takA (i := 10) (d := some 24) (v := .bool false) hS ?_
   simp only [AP]
   refine skip_at 11 (d := some 25) (by kernel_rfl) (by kernel_rfl) (by kernel_rfl) (by kernel_rfl) (fun _ _ _ h => h) (by rfl) hS ?_
   simp only [AP]
   refine skip_at 12 (d := some 26) (by kernel_rfl) (by kernel_rfl) (by kernel_rfl) (by kernel_rfl) (fun _ _ _ h => h) (by rfl) hS ?_
   simp only [AP]
   refine skip_at 13 (d := some 27) (by kernel_rfl) (by kernel_rfl) (by kernel_rfl) (by kernel_rfl) (fun _ _ _ h => h) (by rfl) hS ?_
   simp only [AP]
   refine skip_at 14 (d := some 28) (by kernel_rfl) (by kernel_rfl) (by kernel_rfl) (by kernel_rfl) (fun _ _ _ h => h) (by rfl) hS ?_
   simp only [AP]
   refine takA (i := 15) (d := some 29) (v := .bool false) hS ?_
   simp only [AP]
   refine takA (i := 16) (d := some 30) (v := .bool false) hS ?_
   simp only [AP]
   refine skip_at 17 (d := some 31) (by kernel_rfl) (by kernel_rfl) (by kernel_rfl) (by kernel_rfl) (fun _ _ _ h => h) (by rfl) hS ?_
   simp only [AP]
   refine skip_at 18 (d := some 32) (by kernel_rfl) (by kernel_rfl) (by kernel_rfl) (by kernel_rfl) (fun _ _ _ h => h) (by rfl) hS ?_
   simp only [AP]
   refine skip_at 19 (d := some 33) (by kernel_rfl) (by kernel_rfl) (by kernel_rfl) (by kernel_rfl) (fun _ _ _ h => h) (by rfl) hS ?_
   simp only [AP]
   refine skip_at 20 (d := some 34) (by kernel_rfl) (by kernel_rfl) (by kernel_rfl) (by kernel_rfl) (fun _ _ _ h => h) (by rfl) hS ?_
   simp only [AP]
   refine skip_at 21 (d := some 35) (by kernel_rfl) (by kernel_rfl) (by kernel_rfl) (by kernel_rfl) (fun _ _ _ h => h) (by rfl) hS ?_
   simp only [AP]
   refine skip_at 22 (d := some 36) (by kernel_rfl) (by kernel_rfl) (by kernel_rfl) (by kernel_rfl) (fun _ _ _ h => h) (by rfl) hS ?_
   simp only [AP]
   refine takA (i := 23) (d := some 37) (v := .bool false) hS ?_
   simp only [AP]
   refine takA (i := 24) (d := some 38) (v := .bool false) hS ?_
   simp only [AP]
   refine takA (i := 25) (d := some 39) (v := .agg #[.float .f64 ax, .float .f64 ay]) hS ?_
   simp only [AP]
   refine takA (i := 26) (d := some 40) (v := .agg #[.float .f64 bx, .float .f64 by']) hS ?_
   simp only [AP]
   refine takA (i := 27) (d := some 41) (v := .agg #[.float .f64 cx, .float .f64 cy]) hS ?_
   simp only [AP]
   refine takA (i := 28) (d := some 42) (v := .float .f64 g) hS ?_
   simp only [AP]
   refine takA (i := 30) (d := some 44) (v := .agg #[.float .f64 ax, .float .f64 ay]) hS ?_
   simp only [AP]
   refine takA (i := 31) (d := some 45) (v := .agg #[.float .f64 cx, .float .f64 cy]) hS ?_
   simp only [AP]
   refine takA (i := 32) (d := some 46) (v := .agg #[.float .f64 bx, .float .f64 by']) hS ?_
   simp only [AP]
   refine takA (i := 33) (d := some 47) (v := .float .f64 g) hS ?_
   simp only [AP]
   refine calA 29 fun KF hK => ?_
   go_simp
   refine (gsharp_any ax ay bx by' cx cy g _ sg (HT.out.later hS.2.2.2.2.2.2) ⟨HW.out.1, HW.out.2.1, HW.out.2.2⟩ HGw.out.1 HSg.out).mono ?_
   rintro e wx ⟨rfl, hbx⟩
   go_wp2_with fail
   refine hK.out _ _ ⟨box_cell hbx hS.1, box_cell hbx hS.2.1, box_cell hbx hS.2.2.1, box_cell hbx hS.2.2.2.1, box_cell hbx hS.2.2.2.2.1, box_cell hbx hS.2.2.2.2.2.1, below_step hS.2.2.2.2.2.2 hbx⟩ ?_
   clear hS hbx
   intro hS
   clear hK KF
   try simp only [AP]
   refine calA 34 fun KF hK => ?_
   go_simp
   refine (gsharp_any ax ay cx cy bx by' g _ sg (HT.out.later hS.2.2.2.2.2.2) ⟨HW.out.1, HW.out.2.2, HW.out.2.1⟩ HGw.out.1 HSg2.out).mono ?_
   rintro e wx ⟨rfl, hbx⟩
   go_wp2_with fail
   refine hK.out _ _ ⟨box_cell hbx hS.1, box_cell hbx hS.2.1, box_cell hbx hS.2.2.1, box_cell hbx hS.2.2.2.1, box_cell hbx hS.2.2.2.2.1, box_cell hbx hS.2.2.2.2.2.1, below_step hS.2.2.2.2.2.2 hbx⟩ ?_
   clear hS hbx
   intro hS
   clear hK KF
   try simp only [AP]
   refine takA (i := 35) (d := some 49) (v := .bool false) hS ?_
   simp only [AP]
   refine takA (i := 36) (d := some 50) (v := .bool false) hS ?_
   simp only [AP]
   refine wpAnyH_done (by kernel_rfl) ?_ _
   clear c0 c1 c2 c3 c4 c5
   have c0 := hS.1
   have c1 := hS.2.1
   have c2 := hS.2.2.1
   have c3 := hS.2.2.2.1
   have c4 := hS.2.2.2.2.1
   have c5 := hS.2.2.2.2.2.1
   have HB2 : Hid (Below w.heap.size w _) := hS.2.2.2.2.2.2
   clear hS HB1
   go_wp2_with fail
   refine (sign_is ax ay bx by' cx cy _ z ⟨HW.out.1, HW.out.2.1, HW.out.2.2⟩ HZ.out).mono ?_
   rintro e w3 ⟨rfl, hb3⟩
   replace c0 := box_cell hb3 c0
   replace c1 := box_cell hb3 c1
   replace c2 := box_cell hb3 c2
   replace c3 := box_cell hb3 c3
   replace c4 := box_cell hb3 c4
   replace c5 := box_cell hb3 c5
   replace HB2 : Hid (Below w.heap.size w w3) := below_step HB2.out hb3
   clear hb3
   by_cases hz0 : z = 0
   · subst hz0
     go_wp2
     go_ret
     exact ⟨rfl, HB2.out⟩
   · have hzd : (z == 0) = false := by simpa using hz0
     have HP : Hid (P3 ax ay bx by' cx cy ∧ turnR (fval ax) (fval ay) (fval bx) (fval by') (fval cx) (fval cy) ≠ 0) := by
       have hz := HZ.out
       by_cases hp : P3 ax ay bx by' cx cy
       · rw [sg3_yes hp] at hz
         exact ⟨hp, fun e => hz0 (by rw [← hz]; exact sgq_zero.2 e)⟩
       · rw [sg3_no hp] at hz
         exact absurd hz.symm hz0
     obtain ⟨z1, hz1⟩ : ∃ z, Hid (gdot bx by' cx cy ax ay = z) := ⟨_, rfl⟩
     obtain ⟨z2, hz2⟩ : ∃ z, Hid (gdot ax ay cx cy bx by' = z) := ⟨_, rfl⟩
     obtain ⟨z3, hz3⟩ : ∃ z, Hid (gdot ax ay bx by' cx cy = z) := ⟨_, rfl⟩
     have p1 := gdot_yes (ax := bx) (ay := by') (bx := cx) (by' := cy) (cx := ax) (cy := ay) ⟨HP.out.1.2.1, HP.out.1.2.2, HP.out.1.1⟩
     have p2 := gdot_yes (ax := ax) (ay := ay) (bx := cx) (by' := cy) (cx := bx) (cy := by') ⟨HP.out.1.1, HP.out.1.2.2, HP.out.1.2.1⟩
     have p3 := gdot_yes HP.out.1
     rw [hz1.out] at p1
     rw [hz2.out] at p2
     rw [hz3.out] at p3
     have two : (0 < z1 ∧ 0 < z2) ∨ (0 < z1 ∧ 0 < z3) ∨ (0 < z2 ∧ 0 < z3) := by
       rw [p1, p2, p3]
       rcases two_sharp HP.out.2 with h | h | h
       · exact Or.inl ⟨sgq_pos.2 h.1, sgq_pos.2 h.2⟩
       · exact Or.inr (Or.inl ⟨sgq_pos.2 h.1, sgq_pos.2 h.2⟩)
       · exact Or.inr (Or.inr ⟨sgq_pos.2 h.1, sgq_pos.2 h.2⟩)
     have cnt : ∃ d1 d2 d3 : Bool, decide (0 < z1) = d1 ∧ decide (0 < z2) = d2 ∧ decide (0 < z3) = d3 ∧ 2 ≤ d1.toNat + d2.toNat + d3.toNat := by
       refine ⟨_, _, _, rfl, rfl, rfl, ?_⟩
       rcases two with h | h | h <;> simp [h.1, h.2] <;> omega
     have HO : Hid (GS ax ay bx by' cx cy 4598175219545276416 ∨ GS bx by' ax ay cx cy 4598175219545276416 ∨ GS cx cy ax ay bx by' 4598175219545276416) := by
       rcases one_sharp HP.out.2 with h | h | h
       · exact Or.inl (GS.of HP.out.1 h)
       · refine Or.inr (Or.inl (GS.of ⟨HP.out.1.2.1, HP.out.1.1, HP.out.1.2.2⟩ ?_))
         rwa [lenR_fl (fval bx)]
       · refine Or.inr (Or.inr (GS.of ⟨HP.out.1.2.2, HP.out.1.1, HP.out.1.2.1⟩ ?_))
         rwa [lenR_fl (fval cx) (fval cy) (fval ax), lenR_fl (fval cx) (fval cy) (fval bx)]
     obtain ⟨d1, d2, d3, q1, q2, q3, q4⟩ := cnt
     clear p1 p2 p3 two hz0
     obtain ⟨s1, hs1⟩ : ∃ s : Bool, Hid (s = true ↔ GS ax ay bx by' cx cy 4598175219545276416) := ⟨_, @decide_eq_true_iff _ (Classical.propDecidable _)⟩
     obtain ⟨s2, hs2⟩ : ∃ s : Bool, Hid (s = true ↔ GS bx by' ax ay cx cy 4598175219545276416) := ⟨_, @decide_eq_true_iff _ (Classical.propDecidable _)⟩
     obtain ⟨s3, hs3⟩ : ∃ s : Bool, Hid (s = true ↔ GS cx cy ax ay bx by' 4598175219545276416) := ⟨_, @decide_eq_true_iff _ (Classical.propDecidable _)⟩
     have H123 : Hid (s1 = true ∨ s2 = true ∨ s3 = true) := by
       rcases HO.out with h | h | h
       · exact Or.inl (hs1.out.2 h)
       · exact Or.inr (Or.inl (hs2.out.2 h))
       · exact Or.inr (Or.inr (hs3.out.2 h))
     clear HO
     have HQ4 : Hid (2 ≤ d1.toNat + d2.toNat + d3.toNat) := q4
     clear q4
     have h4 : (d1 = true ∧ d2 = true ∧ d3 = true) ∨ (d1 = true ∧ d2 = true ∧ d3 = false) ∨ (d1 = true ∧ d2 = false ∧ d3 = true) ∨ (d1 = false ∧ d2 = true ∧ d3 = true) := by
       have := HQ4.out
       cases d1 <;> cases d2 <;> cases d3 <;> simp at this ⊢
     clear HQ4
     rcases h4 with ⟨rfl, rfl, rfl⟩ | ⟨rfl, rfl, rfl⟩ | ⟨rfl, rfl, rfl⟩ | ⟨rfl, rfl, rfl⟩
     all_goals
       go_wp2_with fail
       refine (gdot_any bx by' cx cy ax ay _ z1 (HT.out.later HB2.out) ⟨HW.out.2.1, HW.out.2.2, HW.out.1⟩ hz1.out).mono ?_
       rintro e w4 ⟨rfl, hb4⟩
       replace c0 := box_cell hb4 c0
       replace c1 := box_cell hb4 c1
       replace c2 := box_cell hb4 c2
       replace c3 := box_cell hb4 c3
       replace c4 := box_cell hb4 c4
       replace c5 := box_cell hb4 c5
       replace HB2 : Hid (Below w.heap.size w w4) := below_step HB2.out hb4
       clear hb4
       go_wp2_with fail
       refine (gdot_any ax ay cx cy bx by' _ z2 (HT.out.later HB2.out) ⟨HW.out.1, HW.out.2.2, HW.out.2.1⟩ hz2.out).mono ?_
       rintro e w5 ⟨rfl, hb5⟩
       replace c0 := box_cell hb5 c0
       replace c1 := box_cell hb5 c1
       replace c2 := box_cell hb5 c2
       replace c3 := box_cell hb5 c3
       replace c4 := box_cell hb5 c4
       replace c5 := box_cell hb5 c5
       replace HB2 : Hid (Below w.heap.size w w5) := below_step HB2.out hb5
       clear hb5
       go_wp2_with fail
       refine (gdot_any ax ay bx by' cx cy _ z3 (HT.out.later HB2.out) ⟨HW.out.1, HW.out.2.1, HW.out.2.2⟩ hz3.out).mono ?_
       rintro e w6 ⟨rfl, hb6⟩
       replace c0 := box_cell hb6 c0
       replace c1 := box_cell hb6 c1
       replace c2 := box_cell hb6 c2
       replace c3 := box_cell hb6 c3
       replace c4 := box_cell hb6 c4
       replace c5 := box_cell hb6 c5
       replace HB2 : Hid (Below w.heap.size w w6) := below_step HB2.out hb6
       clear hb6
       cases s1
       · go_wp2_with fail
         refine (gsharp_any ax ay bx by' cx cy 4598175219545276416 _ false (HT.out.later HB2.out) ⟨HW.out.1, HW.out.2.1, HW.out.2.2⟩ (by omega) hs1.out).mono ?_
         rintro e w7 ⟨rfl, hb7⟩
         replace c0 := box_cell hb7 c0
         replace c1 := box_cell hb7 c1
         replace c2 := box_cell hb7 c2
         replace c3 := box_cell hb7 c3
         replace c4 := box_cell hb7 c4
         replace c5 := box_cell hb7 c5
         replace HB2 : Hid (Below w.heap.size w w7) := below_step HB2.out hb7
         clear hb7
         cases s2
         · go_wp2_with fail
           refine (gsharp_any bx by' ax ay cx cy 4598175219545276416 _ false (HT.out.later HB2.out) ⟨HW.out.2.1, HW.out.1, HW.out.2.2⟩ (by omega) hs2.out).mono ?_
           rintro e w8 ⟨rfl, hb8⟩
           replace c0 := box_cell hb8 c0
           replace c1 := box_cell hb8 c1
           replace c2 := box_cell hb8 c2
           replace c3 := box_cell hb8 c3
           replace c4 := box_cell hb8 c4
           replace c5 := box_cell hb8 c5
           replace HB2 : Hid (Below w.heap.size w w8) := below_step HB2.out hb8
           clear hb8
           cases s3
           · exfalso
             have := H123.out
             simp at this
           · go_wp2_with fail
             refine (gsharp_any cx cy ax ay bx by' 4598175219545276416 _ true (HT.out.later HB2.out) ⟨HW.out.2.2, HW.out.1, HW.out.2.1⟩ (by omega) ⟨fun _ => hs3.out.1 (by simp), fun _ => rfl⟩).mono ?_
             rintro e w9 ⟨rfl, hb9⟩
             replace c0 := box_cell hb9 c0
             replace c1 := box_cell hb9 c1
             replace c2 := box_cell hb9 c2
             replace c3 := box_cell hb9 c3
             replace c4 := box_cell hb9 c4
             replace c5 := box_cell hb9 c5
             replace HB2 : Hid (Below w.heap.size w w9) := below_step HB2.out hb9
             clear hb9
             go_wp2
             go_ret
             exact ⟨rfl, HB2.out⟩
         · go_wp2_with fail
           refine (gsharp_any bx by' ax ay cx cy 4598175219545276416 _ true (HT.out.later HB2.out) ⟨HW.out.2.1, HW.out.1, HW.out.2.2⟩ (by omega) ⟨fun _ => hs2.out.1 (by simp), fun _ => rfl⟩).mono ?_
           rintro e w8 ⟨rfl, hb8⟩
           replace c0 := box_cell hb8 c0
           replace c1 := box_cell hb8 c1
           replace c2 := box_cell hb8 c2
           replace c3 := box_cell hb8 c3
           replace c4 := box_cell hb8 c4
           replace c5 := box_cell hb8 c5
           replace HB2 : Hid (Below w.heap.size w w8) := below_step HB2.out hb8
           clear hb8
           go_wp2
           go_ret
           exact ⟨rfl, HB2.out⟩
       · go_wp2_with fail
         refine (gsharp_any ax ay bx by' cx cy 4598175219545276416 _ true (HT.out.later HB2.out) ⟨HW.out.1, HW.out.2.1, HW.out.2.2⟩ (by omega) ⟨fun _ => hs1.out.1 (by simp), fun _ => rfl⟩).mono ?_
         rintro e w7 ⟨rfl, hb7⟩
         replace c0 := box_cell hb7 c0
         replace c1 := box_cell hb7 c1
         replace c2 := box_cell hb7 c2
         replace c3 := box_cell hb7 c3
         replace c4 := box_cell hb7 c4
         replace c5 := box_cell hb7 c5
         replace HB2 : Hid (Below w.heap.size w w7) := below_step HB2.out hb7
         clear hb7
         go_wp2
         go_ret
         exact ⟨rfl, HB2.out⟩
 · cases shh
   · refine wp_region_held_drew (S := (fun W => W.cell? ⟨w.heap.size, 0, none⟩ = some (.float .f64 ax) ∧ W.cell? ⟨w.heap.size, 1, none⟩ = some (.float .f64 ay) ∧ W.cell? ⟨w.heap.size + 1, 0, none⟩ = some (.float .f64 bx) ∧ W.cell? ⟨w.heap.size + 1, 1, none⟩ = some (.float .f64 by') ∧ W.cell? ⟨w.heap.size + 1 + 1, 0, none⟩ = some (.float .f64 cx) ∧ W.cell? ⟨w.heap.size + 1 + 1, 1, none⟩ = some (.float .f64 cy) ∧ Below w.heap.size w W)) (by kernel_rfl) ⟨c0, c1, c2, c3, c4, c5, HB1.out.drew⟩ (fun hS => ?_)
     refine takA (i := 0) (d := some 14) (v := .float .f64 g) hS ?_
     simp only [AP]
     refine takA (i := 1) (d := some 15) (v := .float .f64 h) hS ?_
     simp only [AP]
     refine takA (i := 2) (d := some 16) (v := .bool true) hS ?_
     simp only [AP]
     refine takA (i := 3) (d := some 17) (v := .bool true) hS ?_
     simp only [AP]
     refine takA (i := 4) (d := some 18) (v := .agg #[.float .f64 ax, .float .f64 ay]) hS ?_
     simp only [AP]
     refine takA (i := 5) (d := some 19) (v := .agg #[.float .f64 bx, .float .f64 by']) hS ?_
     simp only [AP]
     refine takA (i := 6) (d := some 20) (v := .agg #[.float .f64 cx, .float .f64 cy]) hS ?_
     simp only [AP]
     refine takA (i := 7) (d := some 21) (v := .float .f64 h) hS ?_
     simp only [AP]
     refine calA 8 fun KF hK => ?_
     go_simp
     refine (gsharp_any ax ay bx by' cx cy h _ false (HT.out.later hS.2.2.2.2.2.2) ⟨HW.out.1, HW.out.2.1, HW.out.2.2⟩ HGw.out.2 HSh.out).mono ?_
     rintro e wx ⟨rfl, hbx⟩
     go_wp2_with fail
     refine hK.out _ _ ⟨box_cell hbx hS.1, box_cell hbx hS.2.1, box_cell hbx hS.2.2.1, box_cell hbx hS.2.2.2.1, box_cell hbx hS.2.2.2.2.1, box_cell hbx hS.2.2.2.2.2.1, below_step hS.2.2.2.2.2.2 hbx⟩ ?_
     clear hS hbx
     intro hS
     clear hK KF
     try simp only [AP]
     refine takA (i := 9) (d := some 23) (v := .bool false) hS ?_
     simp only [AP]
     refine takA (i := 10) (d := some 24) (v := .bool false) hS ?_
     simp only [AP]
     refine skip_at 11 (d := some 25) (by kernel_rfl) (by kernel_rfl) (by kernel_rfl) (by kernel_rfl) (fun _ _ _ h => h) (by rfl) hS ?_
     simp only [AP]
     refine skip_at 12 (d := some 26) (by kernel_rfl) (by kernel_rfl) (by kernel_rfl) (by kernel_rfl) (fun _ _ _ h => h) (by rfl) hS ?_
     simp only [AP]
     refine skip_at 13 (d := some 27) (by kernel_rfl) (by kernel_rfl) (by kernel_rfl) (by kernel_rfl) (fun _ _ _ h => h) (by rfl) hS ?_
     simp only [AP]
     refine skip_at 14 (d := some 28) (by kernel_rfl) (by kernel_rfl) (by kernel_rfl) (by kernel_rfl) (fun _ _ _ h => h) (by rfl) hS ?_
     simp only [AP]
     refine takA (i := 15) (d := some 29) (v := .bool false) hS ?_
     simp only [AP]
     refine takA (i := 16) (d := some 30) (v := .bool false) hS ?_
     simp only [AP]
     refine skip_at 17 (d := some 31) (by kernel_rfl) (by kernel_rfl) (by kernel_rfl) (by kernel_rfl) (fun _ _ _ h => h) (by rfl) hS ?_
     simp only [AP]
     refine skip_at 18 (d := some 32) (by kernel_rfl) (by kernel_rfl) (by kernel_rfl) (by kernel_rfl) (fun _ _ _ h => h) (by rfl) hS ?_
     simp only [AP]
     refine skip_at 19 (d := some 33) (by kernel_rfl) (by kernel_rfl) (by kernel_rfl) (by kernel_rfl) (fun _ _ _ h => h) (by rfl) hS ?_
     simp only [AP]
     refine skip_at 20 (d := some 34) (by kernel_rfl) (by kernel_rfl) (by kernel_rfl) (by kernel_rfl) (fun _ _ _ h => h) (by rfl) hS ?_
     simp only [AP]
     refine skip_at 21 (d := some 35) (by kernel_rfl) (by kernel_rfl) (by kernel_rfl) (by kernel_rfl) (fun _ _ _ h => h) (by rfl) hS ?_
     simp only [AP]
     refine skip_at 22 (d := some 36) (by kernel_rfl) (by kernel_rfl) (by kernel_rfl) (by kernel_rfl) (fun _ _ _ h => h) (by rfl) hS ?_
     simp only [AP]
     refine takA (i := 23) (d := some 37) (v := .bool false) hS ?_
     simp only [AP]
     refine takA (i := 24) (d := some 38) (v := .bool false) hS ?_
     simp only [AP]
     refine takA (i := 25) (d := some 39) (v := .agg #[.float .f64 ax, .float .f64 ay]) hS ?_
     simp only [AP]
     refine takA (i := 26) (d := some 40) (v := .agg #[.float .f64 bx, .float .f64 by']) hS ?_
     simp only [AP]
     refine takA (i := 27) (d := some 41) (v := .agg #[.float .f64 cx, .float .f64 cy]) hS ?_
     simp only [AP]
     refine takA (i := 28) (d := some 42) (v := .float .f64 g) hS ?_
     simp only [AP]
     refine takA (i := 30) (d := some 44) (v := .agg #[.float .f64 ax, .float .f64 ay]) hS ?_
     simp only [AP]
     refine takA (i := 31) (d := some 45) (v := .agg #[.float .f64 cx, .float .f64 cy]) hS ?_
     simp only [AP]
     refine takA (i := 32) (d := some 46) (v := .agg #[.float .f64 bx, .float .f64 by']) hS ?_
     simp only [AP]
     refine takA (i := 33) (d := some 47) (v := .float .f64 g) hS ?_
     simp only [AP]
     refine calA 29 fun KF hK => ?_
     go_simp
     refine (gsharp_any ax ay bx by' cx cy g _ sg (HT.out.later hS.2.2.2.2.2.2) ⟨HW.out.1, HW.out.2.1, HW.out.2.2⟩ HGw.out.1 HSg.out).mono ?_
     rintro e wx ⟨rfl, hbx⟩
     go_wp2_with fail
     refine hK.out _ _ ⟨box_cell hbx hS.1, box_cell hbx hS.2.1, box_cell hbx hS.2.2.1, box_cell hbx hS.2.2.2.1, box_cell hbx hS.2.2.2.2.1, box_cell hbx hS.2.2.2.2.2.1, below_step hS.2.2.2.2.2.2 hbx⟩ ?_
     clear hS hbx
     intro hS
     clear hK KF
     try simp only [AP]
     refine calA 34 fun KF hK => ?_
     go_simp
     refine (gsharp_any ax ay cx cy bx by' g _ sg (HT.out.later hS.2.2.2.2.2.2) ⟨HW.out.1, HW.out.2.2, HW.out.2.1⟩ HGw.out.1 HSg2.out).mono ?_
     rintro e wx ⟨rfl, hbx⟩
     go_wp2_with fail
     refine hK.out _ _ ⟨box_cell hbx hS.1, box_cell hbx hS.2.1, box_cell hbx hS.2.2.1, box_cell hbx hS.2.2.2.1, box_cell hbx hS.2.2.2.2.1, box_cell hbx hS.2.2.2.2.2.1, below_step hS.2.2.2.2.2.2 hbx⟩ ?_
     clear hS hbx
     intro hS
     clear hK KF
     try simp only [AP]
     refine takA (i := 35) (d := some 49) (v := .bool false) hS ?_
     simp only [AP]
     refine takA (i := 36) (d := some 50) (v := .bool false) hS ?_
     simp only [AP]
     refine wpAnyH_done (by kernel_rfl) ?_ _
     clear c0 c1 c2 c3 c4 c5
     have c0 := hS.1
     have c1 := hS.2.1
     have c2 := hS.2.2.1
     have c3 := hS.2.2.2.1
     have c4 := hS.2.2.2.2.1
     have c5 := hS.2.2.2.2.2.1
     have HB2 : Hid (Below w.heap.size w _) := hS.2.2.2.2.2.2
     clear hS HB1
     go_wp2_with fail
     refine (sign_is ax ay bx by' cx cy _ z ⟨HW.out.1, HW.out.2.1, HW.out.2.2⟩ HZ.out).mono ?_
     rintro e w3 ⟨rfl, hb3⟩
     replace c0 := box_cell hb3 c0
     replace c1 := box_cell hb3 c1
     replace c2 := box_cell hb3 c2
     replace c3 := box_cell hb3 c3
     replace c4 := box_cell hb3 c4
     replace c5 := box_cell hb3 c5
     replace HB2 : Hid (Below w.heap.size w w3) := below_step HB2.out hb3
     clear hb3
     by_cases hz0 : z = 0
     · subst hz0
       go_wp2
       go_ret
       exact ⟨rfl, HB2.out⟩
     · have hzd : (z == 0) = false := by simpa using hz0
       have HP : Hid (P3 ax ay bx by' cx cy ∧ turnR (fval ax) (fval ay) (fval bx) (fval by') (fval cx) (fval cy) ≠ 0) := by
         have hz := HZ.out
         by_cases hp : P3 ax ay bx by' cx cy
         · rw [sg3_yes hp] at hz
           exact ⟨hp, fun e => hz0 (by rw [← hz]; exact sgq_zero.2 e)⟩
         · rw [sg3_no hp] at hz
           exact absurd hz.symm hz0
       obtain ⟨z1, hz1⟩ : ∃ z, Hid (gdot bx by' cx cy ax ay = z) := ⟨_, rfl⟩
       obtain ⟨z2, hz2⟩ : ∃ z, Hid (gdot ax ay cx cy bx by' = z) := ⟨_, rfl⟩
       obtain ⟨z3, hz3⟩ : ∃ z, Hid (gdot ax ay bx by' cx cy = z) := ⟨_, rfl⟩
       have p1 := gdot_yes (ax := bx) (ay := by') (bx := cx) (by' := cy) (cx := ax) (cy := ay) ⟨HP.out.1.2.1, HP.out.1.2.2, HP.out.1.1⟩
       have p2 := gdot_yes (ax := ax) (ay := ay) (bx := cx) (by' := cy) (cx := bx) (cy := by') ⟨HP.out.1.1, HP.out.1.2.2, HP.out.1.2.1⟩
       have p3 := gdot_yes HP.out.1
       rw [hz1.out] at p1
       rw [hz2.out] at p2
       rw [hz3.out] at p3
       have two : (0 < z1 ∧ 0 < z2) ∨ (0 < z1 ∧ 0 < z3) ∨ (0 < z2 ∧ 0 < z3) := by
         rw [p1, p2, p3]
         rcases two_sharp HP.out.2 with h | h | h
         · exact Or.inl ⟨sgq_pos.2 h.1, sgq_pos.2 h.2⟩
         · exact Or.inr (Or.inl ⟨sgq_pos.2 h.1, sgq_pos.2 h.2⟩)
         · exact Or.inr (Or.inr ⟨sgq_pos.2 h.1, sgq_pos.2 h.2⟩)
       have cnt : ∃ d1 d2 d3 : Bool, decide (0 < z1) = d1 ∧ decide (0 < z2) = d2 ∧ decide (0 < z3) = d3 ∧ 2 ≤ d1.toNat + d2.toNat + d3.toNat := by
         refine ⟨_, _, _, rfl, rfl, rfl, ?_⟩
         rcases two with h | h | h <;> simp [h.1, h.2] <;> omega
       have HO : Hid (GS ax ay bx by' cx cy 4598175219545276416 ∨ GS bx by' ax ay cx cy 4598175219545276416 ∨ GS cx cy ax ay bx by' 4598175219545276416) := by
         rcases one_sharp HP.out.2 with h | h | h
         · exact Or.inl (GS.of HP.out.1 h)
         · refine Or.inr (Or.inl (GS.of ⟨HP.out.1.2.1, HP.out.1.1, HP.out.1.2.2⟩ ?_))
           rwa [lenR_fl (fval bx)]
         · refine Or.inr (Or.inr (GS.of ⟨HP.out.1.2.2, HP.out.1.1, HP.out.1.2.1⟩ ?_))
           rwa [lenR_fl (fval cx) (fval cy) (fval ax), lenR_fl (fval cx) (fval cy) (fval bx)]
       obtain ⟨d1, d2, d3, q1, q2, q3, q4⟩ := cnt
       clear p1 p2 p3 two hz0
       obtain ⟨s1, hs1⟩ : ∃ s : Bool, Hid (s = true ↔ GS ax ay bx by' cx cy 4598175219545276416) := ⟨_, @decide_eq_true_iff _ (Classical.propDecidable _)⟩
       obtain ⟨s2, hs2⟩ : ∃ s : Bool, Hid (s = true ↔ GS bx by' ax ay cx cy 4598175219545276416) := ⟨_, @decide_eq_true_iff _ (Classical.propDecidable _)⟩
       obtain ⟨s3, hs3⟩ : ∃ s : Bool, Hid (s = true ↔ GS cx cy ax ay bx by' 4598175219545276416) := ⟨_, @decide_eq_true_iff _ (Classical.propDecidable _)⟩
       have H123 : Hid (s1 = true ∨ s2 = true ∨ s3 = true) := by
         rcases HO.out with h | h | h
         · exact Or.inl (hs1.out.2 h)
         · exact Or.inr (Or.inl (hs2.out.2 h))
         · exact Or.inr (Or.inr (hs3.out.2 h))
       clear HO
       have HQ4 : Hid (2 ≤ d1.toNat + d2.toNat + d3.toNat) := q4
       clear q4
       have h4 : (d1 = true ∧ d2 = true ∧ d3 = true) ∨ (d1 = true ∧ d2 = true ∧ d3 = false) ∨ (d1 = true ∧ d2 = false ∧ d3 = true) ∨ (d1 = false ∧ d2 = true ∧ d3 = true) := by
         have := HQ4.out
         cases d1 <;> cases d2 <;> cases d3 <;> simp at this ⊢
       clear HQ4
       rcases h4 with ⟨rfl, rfl, rfl⟩ | ⟨rfl, rfl, rfl⟩ | ⟨rfl, rfl, rfl⟩ | ⟨rfl, rfl, rfl⟩
       all_goals
         go_wp2_with fail
         refine (gdot_any bx by' cx cy ax ay _ z1 (HT.out.later HB2.out) ⟨HW.out.2.1, HW.out.2.2, HW.out.1⟩ hz1.out).mono ?_
         rintro e w4 ⟨rfl, hb4⟩
         replace c0 := box_cell hb4 c0
         replace c1 := box_cell hb4 c1
         replace c2 := box_cell hb4 c2
         replace c3 := box_cell hb4 c3
         replace c4 := box_cell hb4 c4
         replace c5 := box_cell hb4 c5
         replace HB2 : Hid (Below w.heap.size w w4) := below_step HB2.out hb4
         clear hb4
         go_wp2_with fail
         refine (gdot_any ax ay cx cy bx by' _ z2 (HT.out.later HB2.out) ⟨HW.out.1, HW.out.2.2, HW.out.2.1⟩ hz2.out).mono ?_
         rintro e w5 ⟨rfl, hb5⟩
         replace c0 := box_cell hb5 c0
         replace c1 := box_cell hb5 c1
         replace c2 := box_cell hb5 c2
         replace c3 := box_cell hb5 c3
         replace c4 := box_cell hb5 c4
         replace c5 := box_cell hb5 c5
         replace HB2 : Hid (Below w.heap.size w w5) := below_step HB2.out hb5
         clear hb5
         go_wp2_with fail
         refine (gdot_any ax ay bx by' cx cy _ z3 (HT.out.later HB2.out) ⟨HW.out.1, HW.out.2.1, HW.out.2.2⟩ hz3.out).mono ?_
         rintro e w6 ⟨rfl, hb6⟩
         replace c0 := box_cell hb6 c0
         replace c1 := box_cell hb6 c1
         replace c2 := box_cell hb6 c2
         replace c3 := box_cell hb6 c3
         replace c4 := box_cell hb6 c4
         replace c5 := box_cell hb6 c5
         replace HB2 : Hid (Below w.heap.size w w6) := below_step HB2.out hb6
         clear hb6
         cases s1
         · go_wp2_with fail
           refine (gsharp_any ax ay bx by' cx cy 4598175219545276416 _ false (HT.out.later HB2.out) ⟨HW.out.1, HW.out.2.1, HW.out.2.2⟩ (by omega) hs1.out).mono ?_
           rintro e w7 ⟨rfl, hb7⟩
           replace c0 := box_cell hb7 c0
           replace c1 := box_cell hb7 c1
           replace c2 := box_cell hb7 c2
           replace c3 := box_cell hb7 c3
           replace c4 := box_cell hb7 c4
           replace c5 := box_cell hb7 c5
           replace HB2 : Hid (Below w.heap.size w w7) := below_step HB2.out hb7
           clear hb7
           cases s2
           · go_wp2_with fail
             refine (gsharp_any bx by' ax ay cx cy 4598175219545276416 _ false (HT.out.later HB2.out) ⟨HW.out.2.1, HW.out.1, HW.out.2.2⟩ (by omega) hs2.out).mono ?_
             rintro e w8 ⟨rfl, hb8⟩
             replace c0 := box_cell hb8 c0
             replace c1 := box_cell hb8 c1
             replace c2 := box_cell hb8 c2
             replace c3 := box_cell hb8 c3
             replace c4 := box_cell hb8 c4
             replace c5 := box_cell hb8 c5
             replace HB2 : Hid (Below w.heap.size w w8) := below_step HB2.out hb8
             clear hb8
             cases s3
             · exfalso
               have := H123.out
               simp at this
             · go_wp2_with fail
               refine (gsharp_any cx cy ax ay bx by' 4598175219545276416 _ true (HT.out.later HB2.out) ⟨HW.out.2.2, HW.out.1, HW.out.2.1⟩ (by omega) ⟨fun _ => hs3.out.1 (by simp), fun _ => rfl⟩).mono ?_
               rintro e w9 ⟨rfl, hb9⟩
               replace c0 := box_cell hb9 c0
               replace c1 := box_cell hb9 c1
               replace c2 := box_cell hb9 c2
               replace c3 := box_cell hb9 c3
               replace c4 := box_cell hb9 c4
               replace c5 := box_cell hb9 c5
               replace HB2 : Hid (Below w.heap.size w w9) := below_step HB2.out hb9
               clear hb9
               go_wp2
               go_ret
               exact ⟨rfl, HB2.out⟩
           · go_wp2_with fail
             refine (gsharp_any bx by' ax ay cx cy 4598175219545276416 _ true (HT.out.later HB2.out) ⟨HW.out.2.1, HW.out.1, HW.out.2.2⟩ (by omega) ⟨fun _ => hs2.out.1 (by simp), fun _ => rfl⟩).mono ?_
             rintro e w8 ⟨rfl, hb8⟩
             replace c0 := box_cell hb8 c0
             replace c1 := box_cell hb8 c1
             replace c2 := box_cell hb8 c2
             replace c3 := box_cell hb8 c3
             replace c4 := box_cell hb8 c4
             replace c5 := box_cell hb8 c5
             replace HB2 : Hid (Below w.heap.size w w8) := below_step HB2.out hb8
             clear hb8
             go_wp2
             go_ret
             exact ⟨rfl, HB2.out⟩
         · go_wp2_with fail
           refine (gsharp_any ax ay bx by' cx cy 4598175219545276416 _ true (HT.out.later HB2.out) ⟨HW.out.1, HW.out.2.1, HW.out.2.2⟩ (by omega) ⟨fun _ => hs1.out.1 (by simp), fun _ => rfl⟩).mono ?_
           rintro e w7 ⟨rfl, hb7⟩
           replace c0 := box_cell hb7 c0
           replace c1 := box_cell hb7 c1
           replace c2 := box_cell hb7 c2
           replace c3 := box_cell hb7 c3
           replace c4 := box_cell hb7 c4
           replace c5 := box_cell hb7 c5
           replace HB2 : Hid (Below w.heap.size w w7) := below_step HB2.out hb7
           clear hb7
           go_wp2
           go_ret
           exact ⟨rfl, HB2.out⟩
   · have fh : Fin64 h := (HSh.out.1 rfl).1.2
     by_cases fg : Fin64 g
     · have hle : fval g ≤ fval h := by
         have k := HB1'.out
         rw [leq_fin fg fh] at k
         exact of_decide_eq_true k
       obtain rfl : sg = true := HSg.out.2 ((HSh.out.1 rfl).less fg hle)
       obtain ⟨gg, eg, fgg, wgg, rgg⟩ := sub_bits fg fg (by rw [show fval g - fval g = 0 by grind]; exact ⟨p2_pos _, by have := p2_pos 1023; grind⟩)
       have rs : ∀ w, (binOp .sub 22 (.float .f64 g) (.float .f64 g)).run Tryz.prog w = .ok (.float .f64 gg) w := fun w => run_float_arith w .sub _ .f64 _ _ _ eg
       have hq0 : (FloatKind.f64.format.order gg 0 == some .eq) = true := by
         rw [eql_zero2]
         refine decide_eq_true (fval_zero_iff.1 ?_)
         rw [show fval g - fval g = 0 by grind] at rgg
         exact rv_zero rgg
       clear eg fgg wgg rgg hle fg fh
       refine wp_region_held_drew (S := (fun W => W.cell? ⟨w.heap.size, 0, none⟩ = some (.float .f64 ax) ∧ W.cell? ⟨w.heap.size, 1, none⟩ = some (.float .f64 ay) ∧ W.cell? ⟨w.heap.size + 1, 0, none⟩ = some (.float .f64 bx) ∧ W.cell? ⟨w.heap.size + 1, 1, none⟩ = some (.float .f64 by') ∧ W.cell? ⟨w.heap.size + 1 + 1, 0, none⟩ = some (.float .f64 cx) ∧ W.cell? ⟨w.heap.size + 1 + 1, 1, none⟩ = some (.float .f64 cy) ∧ Below w.heap.size w W)) (by kernel_rfl) ⟨c0, c1, c2, c3, c4, c5, HB1.out.drew⟩ (fun hS => ?_)
       refine takA (i := 0) (d := some 14) (v := .float .f64 g) hS ?_
       simp only [AP]
       refine takA (i := 1) (d := some 15) (v := .float .f64 h) hS ?_
       simp only [AP]
       refine takA (i := 2) (d := some 16) (v := .bool true) hS ?_
       simp only [AP]
       refine takA (i := 3) (d := some 17) (v := .bool true) hS ?_
       simp only [AP]
       refine takA (i := 4) (d := some 18) (v := .agg #[.float .f64 ax, .float .f64 ay]) hS ?_
       simp only [AP]
       refine takA (i := 5) (d := some 19) (v := .agg #[.float .f64 bx, .float .f64 by']) hS ?_
       simp only [AP]
       refine takA (i := 6) (d := some 20) (v := .agg #[.float .f64 cx, .float .f64 cy]) hS ?_
       simp only [AP]
       refine takA (i := 7) (d := some 21) (v := .float .f64 h) hS ?_
       simp only [AP]
       refine calA 8 fun KF hK => ?_
       go_simp
       refine (gsharp_any ax ay bx by' cx cy h _ true (HT.out.later hS.2.2.2.2.2.2) ⟨HW.out.1, HW.out.2.1, HW.out.2.2⟩ HGw.out.2 ⟨fun _ => HSh.out.1 (by simp), fun _ => rfl⟩).mono ?_
       rintro e wx ⟨rfl, hbx⟩
       go_wp2_with fail
       refine hK.out _ _ ⟨box_cell hbx hS.1, box_cell hbx hS.2.1, box_cell hbx hS.2.2.1, box_cell hbx hS.2.2.2.1, box_cell hbx hS.2.2.2.2.1, box_cell hbx hS.2.2.2.2.2.1, below_step hS.2.2.2.2.2.2 hbx⟩ ?_
       clear hS hbx
       intro hS
       clear hK KF
       try simp only [AP]
       refine takA (i := 9) (d := some 23) (v := .bool true) hS ?_
       simp only [AP]
       refine takA (i := 10) (d := some 24) (v := .bool true) hS ?_
       simp only [AP]
       refine takA (i := 11) (d := some 25) (v := .float .f64 g) hS ?_
       simp only [AP]
       refine takA (i := 12) (d := some 26) (v := .float .f64 g) hS ?_
       simp only [AP]
       refine takA (i := 13) (d := some 27) (v := .float .f64 gg) hS ?_
       simp only [AP]
       refine takA (i := 14) (d := some 28) (v := .bool true) hS ?_
       simp only [AP]
       refine takA (i := 15) (d := some 29) (v := .bool true) hS ?_
       simp only [AP]
       refine takA (i := 16) (d := some 30) (v := .bool true) hS ?_
       simp only [AP]
       refine takA (i := 17) (d := some 31) (v := .agg #[.float .f64 ax, .float .f64 ay]) hS ?_
       simp only [AP]
       refine takA (i := 18) (d := some 32) (v := .agg #[.float .f64 bx, .float .f64 by']) hS ?_
       simp only [AP]
       refine takA (i := 19) (d := some 33) (v := .agg #[.float .f64 cx, .float .f64 cy]) hS ?_
       simp only [AP]
       refine takA (i := 20) (d := some 34) (v := .float .f64 g) hS ?_
       simp only [AP]
       refine calA 21 fun KF hK => ?_
       go_simp
       refine (gsharp_any ax ay bx by' cx cy g _ true (HT.out.later hS.2.2.2.2.2.2) ⟨HW.out.1, HW.out.2.1, HW.out.2.2⟩ HGw.out.1 ⟨fun _ => HSg.out.1 (by simp), fun _ => rfl⟩).mono ?_
       rintro e wx ⟨rfl, hbx⟩
       go_wp2_with fail
       refine hK.out _ _ ⟨box_cell hbx hS.1, box_cell hbx hS.2.1, box_cell hbx hS.2.2.1, box_cell hbx hS.2.2.2.1, box_cell hbx hS.2.2.2.2.1, box_cell hbx hS.2.2.2.2.2.1, below_step hS.2.2.2.2.2.2 hbx⟩ ?_
       clear hS hbx
       intro hS
       clear hK KF
       try simp only [AP]
       refine takA (i := 22) (d := some 36) (v := .bool false) hS ?_
       simp only [AP]
       refine takA (i := 23) (d := some 37) (v := .bool false) hS ?_
       simp only [AP]
       refine takA (i := 24) (d := some 38) (v := .bool false) hS ?_
       simp only [AP]
       refine takA (i := 25) (d := some 39) (v := .agg #[.float .f64 ax, .float .f64 ay]) hS ?_
       simp only [AP]
       refine takA (i := 26) (d := some 40) (v := .agg #[.float .f64 bx, .float .f64 by']) hS ?_
       simp only [AP]
       refine takA (i := 27) (d := some 41) (v := .agg #[.float .f64 cx, .float .f64 cy]) hS ?_
       simp only [AP]
       refine takA (i := 28) (d := some 42) (v := .float .f64 g) hS ?_
       simp only [AP]
       refine takA (i := 30) (d := some 44) (v := .agg #[.float .f64 ax, .float .f64 ay]) hS ?_
       simp only [AP]
       refine takA (i := 31) (d := some 45) (v := .agg #[.float .f64 cx, .float .f64 cy]) hS ?_
       simp only [AP]
       refine takA (i := 32) (d := some 46) (v := .agg #[.float .f64 bx, .float .f64 by']) hS ?_
       simp only [AP]
       refine takA (i := 33) (d := some 47) (v := .float .f64 g) hS ?_
       simp only [AP]
       refine calA 29 fun KF hK => ?_
       go_simp
       refine (gsharp_any ax ay bx by' cx cy g _ true (HT.out.later hS.2.2.2.2.2.2) ⟨HW.out.1, HW.out.2.1, HW.out.2.2⟩ HGw.out.1 ⟨fun _ => HSg.out.1 (by simp), fun _ => rfl⟩).mono ?_
       rintro e wx ⟨rfl, hbx⟩
       go_wp2_with fail
       refine hK.out _ _ ⟨box_cell hbx hS.1, box_cell hbx hS.2.1, box_cell hbx hS.2.2.1, box_cell hbx hS.2.2.2.1, box_cell hbx hS.2.2.2.2.1, box_cell hbx hS.2.2.2.2.2.1, below_step hS.2.2.2.2.2.2 hbx⟩ ?_
       clear hS hbx
       intro hS
       clear hK KF
       try simp only [AP]
       refine calA 34 fun KF hK => ?_
       go_simp
       refine (gsharp_any ax ay cx cy bx by' g _ true (HT.out.later hS.2.2.2.2.2.2) ⟨HW.out.1, HW.out.2.2, HW.out.2.1⟩ HGw.out.1 ⟨fun _ => HSg2.out.1 (by simp), fun _ => rfl⟩).mono ?_
       rintro e wx ⟨rfl, hbx⟩
       go_wp2_with fail
       refine hK.out _ _ ⟨box_cell hbx hS.1, box_cell hbx hS.2.1, box_cell hbx hS.2.2.1, box_cell hbx hS.2.2.2.1, box_cell hbx hS.2.2.2.2.1, box_cell hbx hS.2.2.2.2.2.1, below_step hS.2.2.2.2.2.2 hbx⟩ ?_
       clear hS hbx
       intro hS
       clear hK KF
       try simp only [AP]
       refine takA (i := 35) (d := some 49) (v := .bool false) hS ?_
       simp only [AP]
       refine takA (i := 36) (d := some 50) (v := .bool false) hS ?_
       simp only [AP]
       refine wpAnyH_done (by kernel_rfl) ?_ _
       clear c0 c1 c2 c3 c4 c5
       clear rs hq0
       have c0 := hS.1
       have c1 := hS.2.1
       have c2 := hS.2.2.1
       have c3 := hS.2.2.2.1
       have c4 := hS.2.2.2.2.1
       have c5 := hS.2.2.2.2.2.1
       have HB2 : Hid (Below w.heap.size w _) := hS.2.2.2.2.2.2
       clear hS HB1
       go_wp2_with fail
       refine (sign_is ax ay bx by' cx cy _ z ⟨HW.out.1, HW.out.2.1, HW.out.2.2⟩ HZ.out).mono ?_
       rintro e w3 ⟨rfl, hb3⟩
       replace c0 := box_cell hb3 c0
       replace c1 := box_cell hb3 c1
       replace c2 := box_cell hb3 c2
       replace c3 := box_cell hb3 c3
       replace c4 := box_cell hb3 c4
       replace c5 := box_cell hb3 c5
       replace HB2 : Hid (Below w.heap.size w w3) := below_step HB2.out hb3
       clear hb3
       by_cases hz0 : z = 0
       · subst hz0
         go_wp2
         go_ret
         exact ⟨rfl, HB2.out⟩
       · have hzd : (z == 0) = false := by simpa using hz0
         have HP : Hid (P3 ax ay bx by' cx cy ∧ turnR (fval ax) (fval ay) (fval bx) (fval by') (fval cx) (fval cy) ≠ 0) := by
           have hz := HZ.out
           by_cases hp : P3 ax ay bx by' cx cy
           · rw [sg3_yes hp] at hz
             exact ⟨hp, fun e => hz0 (by rw [← hz]; exact sgq_zero.2 e)⟩
           · rw [sg3_no hp] at hz
             exact absurd hz.symm hz0
         obtain ⟨z1, hz1⟩ : ∃ z, Hid (gdot bx by' cx cy ax ay = z) := ⟨_, rfl⟩
         obtain ⟨z2, hz2⟩ : ∃ z, Hid (gdot ax ay cx cy bx by' = z) := ⟨_, rfl⟩
         obtain ⟨z3, hz3⟩ : ∃ z, Hid (gdot ax ay bx by' cx cy = z) := ⟨_, rfl⟩
         have p1 := gdot_yes (ax := bx) (ay := by') (bx := cx) (by' := cy) (cx := ax) (cy := ay) ⟨HP.out.1.2.1, HP.out.1.2.2, HP.out.1.1⟩
         have p2 := gdot_yes (ax := ax) (ay := ay) (bx := cx) (by' := cy) (cx := bx) (cy := by') ⟨HP.out.1.1, HP.out.1.2.2, HP.out.1.2.1⟩
         have p3 := gdot_yes HP.out.1
         rw [hz1.out] at p1
         rw [hz2.out] at p2
         rw [hz3.out] at p3
         have two : (0 < z1 ∧ 0 < z2) ∨ (0 < z1 ∧ 0 < z3) ∨ (0 < z2 ∧ 0 < z3) := by
           rw [p1, p2, p3]
           rcases two_sharp HP.out.2 with h | h | h
           · exact Or.inl ⟨sgq_pos.2 h.1, sgq_pos.2 h.2⟩
           · exact Or.inr (Or.inl ⟨sgq_pos.2 h.1, sgq_pos.2 h.2⟩)
           · exact Or.inr (Or.inr ⟨sgq_pos.2 h.1, sgq_pos.2 h.2⟩)
         have cnt : ∃ d1 d2 d3 : Bool, decide (0 < z1) = d1 ∧ decide (0 < z2) = d2 ∧ decide (0 < z3) = d3 ∧ 2 ≤ d1.toNat + d2.toNat + d3.toNat := by
           refine ⟨_, _, _, rfl, rfl, rfl, ?_⟩
           rcases two with h | h | h <;> simp [h.1, h.2] <;> omega
         have HO : Hid (GS ax ay bx by' cx cy 4598175219545276416 ∨ GS bx by' ax ay cx cy 4598175219545276416 ∨ GS cx cy ax ay bx by' 4598175219545276416) := by
           rcases one_sharp HP.out.2 with h | h | h
           · exact Or.inl (GS.of HP.out.1 h)
           · refine Or.inr (Or.inl (GS.of ⟨HP.out.1.2.1, HP.out.1.1, HP.out.1.2.2⟩ ?_))
             rwa [lenR_fl (fval bx)]
           · refine Or.inr (Or.inr (GS.of ⟨HP.out.1.2.2, HP.out.1.1, HP.out.1.2.1⟩ ?_))
             rwa [lenR_fl (fval cx) (fval cy) (fval ax), lenR_fl (fval cx) (fval cy) (fval bx)]
         obtain ⟨d1, d2, d3, q1, q2, q3, q4⟩ := cnt
         clear p1 p2 p3 two hz0
         obtain ⟨s1, hs1⟩ : ∃ s : Bool, Hid (s = true ↔ GS ax ay bx by' cx cy 4598175219545276416) := ⟨_, @decide_eq_true_iff _ (Classical.propDecidable _)⟩
         obtain ⟨s2, hs2⟩ : ∃ s : Bool, Hid (s = true ↔ GS bx by' ax ay cx cy 4598175219545276416) := ⟨_, @decide_eq_true_iff _ (Classical.propDecidable _)⟩
         obtain ⟨s3, hs3⟩ : ∃ s : Bool, Hid (s = true ↔ GS cx cy ax ay bx by' 4598175219545276416) := ⟨_, @decide_eq_true_iff _ (Classical.propDecidable _)⟩
         have H123 : Hid (s1 = true ∨ s2 = true ∨ s3 = true) := by
           rcases HO.out with h | h | h
           · exact Or.inl (hs1.out.2 h)
           · exact Or.inr (Or.inl (hs2.out.2 h))
           · exact Or.inr (Or.inr (hs3.out.2 h))
         clear HO
         have HQ4 : Hid (2 ≤ d1.toNat + d2.toNat + d3.toNat) := q4
         clear q4
         have h4 : (d1 = true ∧ d2 = true ∧ d3 = true) ∨ (d1 = true ∧ d2 = true ∧ d3 = false) ∨ (d1 = true ∧ d2 = false ∧ d3 = true) ∨ (d1 = false ∧ d2 = true ∧ d3 = true) := by
           have := HQ4.out
           cases d1 <;> cases d2 <;> cases d3 <;> simp at this ⊢
         clear HQ4
         rcases h4 with ⟨rfl, rfl, rfl⟩ | ⟨rfl, rfl, rfl⟩ | ⟨rfl, rfl, rfl⟩ | ⟨rfl, rfl, rfl⟩
         all_goals
           go_wp2_with fail
           refine (gdot_any bx by' cx cy ax ay _ z1 (HT.out.later HB2.out) ⟨HW.out.2.1, HW.out.2.2, HW.out.1⟩ hz1.out).mono ?_
           rintro e w4 ⟨rfl, hb4⟩
           replace c0 := box_cell hb4 c0
           replace c1 := box_cell hb4 c1
           replace c2 := box_cell hb4 c2
           replace c3 := box_cell hb4 c3
           replace c4 := box_cell hb4 c4
           replace c5 := box_cell hb4 c5
           replace HB2 : Hid (Below w.heap.size w w4) := below_step HB2.out hb4
           clear hb4
           go_wp2_with fail
           refine (gdot_any ax ay cx cy bx by' _ z2 (HT.out.later HB2.out) ⟨HW.out.1, HW.out.2.2, HW.out.2.1⟩ hz2.out).mono ?_
           rintro e w5 ⟨rfl, hb5⟩
           replace c0 := box_cell hb5 c0
           replace c1 := box_cell hb5 c1
           replace c2 := box_cell hb5 c2
           replace c3 := box_cell hb5 c3
           replace c4 := box_cell hb5 c4
           replace c5 := box_cell hb5 c5
           replace HB2 : Hid (Below w.heap.size w w5) := below_step HB2.out hb5
           clear hb5
           go_wp2_with fail
           refine (gdot_any ax ay bx by' cx cy _ z3 (HT.out.later HB2.out) ⟨HW.out.1, HW.out.2.1, HW.out.2.2⟩ hz3.out).mono ?_
           rintro e w6 ⟨rfl, hb6⟩
           replace c0 := box_cell hb6 c0
           replace c1 := box_cell hb6 c1
           replace c2 := box_cell hb6 c2
           replace c3 := box_cell hb6 c3
           replace c4 := box_cell hb6 c4
           replace c5 := box_cell hb6 c5
           replace HB2 : Hid (Below w.heap.size w w6) := below_step HB2.out hb6
           clear hb6
           cases s1
           · go_wp2_with fail
             refine (gsharp_any ax ay bx by' cx cy 4598175219545276416 _ false (HT.out.later HB2.out) ⟨HW.out.1, HW.out.2.1, HW.out.2.2⟩ (by omega) hs1.out).mono ?_
             rintro e w7 ⟨rfl, hb7⟩
             replace c0 := box_cell hb7 c0
             replace c1 := box_cell hb7 c1
             replace c2 := box_cell hb7 c2
             replace c3 := box_cell hb7 c3
             replace c4 := box_cell hb7 c4
             replace c5 := box_cell hb7 c5
             replace HB2 : Hid (Below w.heap.size w w7) := below_step HB2.out hb7
             clear hb7
             cases s2
             · go_wp2_with fail
               refine (gsharp_any bx by' ax ay cx cy 4598175219545276416 _ false (HT.out.later HB2.out) ⟨HW.out.2.1, HW.out.1, HW.out.2.2⟩ (by omega) hs2.out).mono ?_
               rintro e w8 ⟨rfl, hb8⟩
               replace c0 := box_cell hb8 c0
               replace c1 := box_cell hb8 c1
               replace c2 := box_cell hb8 c2
               replace c3 := box_cell hb8 c3
               replace c4 := box_cell hb8 c4
               replace c5 := box_cell hb8 c5
               replace HB2 : Hid (Below w.heap.size w w8) := below_step HB2.out hb8
               clear hb8
               cases s3
               · exfalso
                 have := H123.out
                 simp at this
               · go_wp2_with fail
                 refine (gsharp_any cx cy ax ay bx by' 4598175219545276416 _ true (HT.out.later HB2.out) ⟨HW.out.2.2, HW.out.1, HW.out.2.1⟩ (by omega) ⟨fun _ => hs3.out.1 (by simp), fun _ => rfl⟩).mono ?_
                 rintro e w9 ⟨rfl, hb9⟩
                 replace c0 := box_cell hb9 c0
                 replace c1 := box_cell hb9 c1
                 replace c2 := box_cell hb9 c2
                 replace c3 := box_cell hb9 c3
                 replace c4 := box_cell hb9 c4
                 replace c5 := box_cell hb9 c5
                 replace HB2 : Hid (Below w.heap.size w w9) := below_step HB2.out hb9
                 clear hb9
                 go_wp2
                 go_ret
                 exact ⟨rfl, HB2.out⟩
             · go_wp2_with fail
               refine (gsharp_any bx by' ax ay cx cy 4598175219545276416 _ true (HT.out.later HB2.out) ⟨HW.out.2.1, HW.out.1, HW.out.2.2⟩ (by omega) ⟨fun _ => hs2.out.1 (by simp), fun _ => rfl⟩).mono ?_
               rintro e w8 ⟨rfl, hb8⟩
               replace c0 := box_cell hb8 c0
               replace c1 := box_cell hb8 c1
               replace c2 := box_cell hb8 c2
               replace c3 := box_cell hb8 c3
               replace c4 := box_cell hb8 c4
               replace c5 := box_cell hb8 c5
               replace HB2 : Hid (Below w.heap.size w w8) := below_step HB2.out hb8
               clear hb8
               go_wp2
               go_ret
               exact ⟨rfl, HB2.out⟩
           · go_wp2_with fail
             refine (gsharp_any ax ay bx by' cx cy 4598175219545276416 _ true (HT.out.later HB2.out) ⟨HW.out.1, HW.out.2.1, HW.out.2.2⟩ (by omega) ⟨fun _ => hs1.out.1 (by simp), fun _ => rfl⟩).mono ?_
             rintro e w7 ⟨rfl, hb7⟩
             replace c0 := box_cell hb7 c0
             replace c1 := box_cell hb7 c1
             replace c2 := box_cell hb7 c2
             replace c3 := box_cell hb7 c3
             replace c4 := box_cell hb7 c4
             replace c5 := box_cell hb7 c5
             replace HB2 : Hid (Below w.heap.size w w7) := below_step HB2.out hb7
             clear hb7
             go_wp2
             go_ret
             exact ⟨rfl, HB2.out⟩
     · have hin := leq_nan fg HB1'.out
       have HNN : Hid (floatBits .sub .f64 g g = none) := by
         show ((Ieee.double.read g).sum (Ieee.double.read g).opposite).map Ieee.double.write = none
         rw [read_inf hin]
         cases fneg g <;> rfl
       clear fg fh hin
       have rnn := run_sub_nan g g HNN.out
       refine wp_region_held_drew (S := (fun W => W.cell? ⟨w.heap.size, 0, none⟩ = some (.float .f64 ax) ∧ W.cell? ⟨w.heap.size, 1, none⟩ = some (.float .f64 ay) ∧ W.cell? ⟨w.heap.size + 1, 0, none⟩ = some (.float .f64 bx) ∧ W.cell? ⟨w.heap.size + 1, 1, none⟩ = some (.float .f64 by') ∧ W.cell? ⟨w.heap.size + 1 + 1, 0, none⟩ = some (.float .f64 cx) ∧ W.cell? ⟨w.heap.size + 1 + 1, 1, none⟩ = some (.float .f64 cy) ∧ Below w.heap.size w W)) (by kernel_rfl) ⟨c0, c1, c2, c3, c4, c5, HB1.out.drew⟩ (fun hS => ?_)
       refine takA (i := 0) (d := some 14) (v := .float .f64 g) hS ?_
       simp only [AP]
       refine takA (i := 1) (d := some 15) (v := .float .f64 h) hS ?_
       simp only [AP]
       refine takA (i := 2) (d := some 16) (v := .bool true) hS ?_
       simp only [AP]
       refine takA (i := 3) (d := some 17) (v := .bool true) hS ?_
       simp only [AP]
       refine takA (i := 4) (d := some 18) (v := .agg #[.float .f64 ax, .float .f64 ay]) hS ?_
       simp only [AP]
       refine takA (i := 5) (d := some 19) (v := .agg #[.float .f64 bx, .float .f64 by']) hS ?_
       simp only [AP]
       refine takA (i := 6) (d := some 20) (v := .agg #[.float .f64 cx, .float .f64 cy]) hS ?_
       simp only [AP]
       refine takA (i := 7) (d := some 21) (v := .float .f64 h) hS ?_
       simp only [AP]
       refine calA 8 fun KF hK => ?_
       go_simp
       refine (gsharp_any ax ay bx by' cx cy h _ true (HT.out.later hS.2.2.2.2.2.2) ⟨HW.out.1, HW.out.2.1, HW.out.2.2⟩ HGw.out.2 ⟨fun _ => HSh.out.1 (by simp), fun _ => rfl⟩).mono ?_
       rintro e wx ⟨rfl, hbx⟩
       go_wp2_with fail
       refine hK.out _ _ ⟨box_cell hbx hS.1, box_cell hbx hS.2.1, box_cell hbx hS.2.2.1, box_cell hbx hS.2.2.2.1, box_cell hbx hS.2.2.2.2.1, box_cell hbx hS.2.2.2.2.2.1, below_step hS.2.2.2.2.2.2 hbx⟩ ?_
       clear hS hbx
       intro hS
       clear hK KF
       try simp only [AP]
       refine takA (i := 9) (d := some 23) (v := .bool true) hS ?_
       simp only [AP]
       refine takA (i := 10) (d := some 24) (v := .bool true) hS ?_
       simp only [AP]
       refine takA (i := 11) (d := some 25) (v := .float .f64 g) hS ?_
       simp only [AP]
       refine takA (i := 12) (d := some 26) (v := .float .f64 g) hS ?_
       simp only [AP]
       refine calA 13 fun KF hK => ?_
       go_simp
       have hbx : Below wx.heap.size wx wx.drew := (Below.refl _ wx).drew
       have hq0 : (FloatKind.f64.format.order (nanW g g wx) 0 == some .eq) = false := by rw [nan_order (nanW_nan g g wx).1 0]; rfl
       go_wp2_with fail
       generalize nanW g g wx = gg at *
       go_wp2_with fail
       refine hK.out _ _ ⟨box_cell hbx hS.1, box_cell hbx hS.2.1, box_cell hbx hS.2.2.1, box_cell hbx hS.2.2.2.1, box_cell hbx hS.2.2.2.2.1, box_cell hbx hS.2.2.2.2.2.1, below_step hS.2.2.2.2.2.2 hbx⟩ ?_
       clear hS hbx
       intro hS
       clear hK KF
       try simp only [AP]
       refine takA (i := 14) (d := some 28) (v := .bool false) hS ?_
       simp only [AP]
       refine takA (i := 15) (d := some 29) (v := .bool false) hS ?_
       simp only [AP]
       refine takA (i := 16) (d := some 30) (v := .bool false) hS ?_
       simp only [AP]
       refine skip_at 17 (d := some 31) (by kernel_rfl) (by kernel_rfl) (by kernel_rfl) (by kernel_rfl) (fun _ _ _ h => h) (by rfl) hS ?_
       simp only [AP]
       refine skip_at 18 (d := some 32) (by kernel_rfl) (by kernel_rfl) (by kernel_rfl) (by kernel_rfl) (fun _ _ _ h => h) (by rfl) hS ?_
       simp only [AP]
       refine skip_at 19 (d := some 33) (by kernel_rfl) (by kernel_rfl) (by kernel_rfl) (by kernel_rfl) (fun _ _ _ h => h) (by rfl) hS ?_
       simp only [AP]
       refine skip_at 20 (d := some 34) (by kernel_rfl) (by kernel_rfl) (by kernel_rfl) (by kernel_rfl) (fun _ _ _ h => h) (by rfl) hS ?_
       simp only [AP]
       refine skip_at 21 (d := some 35) (by kernel_rfl) (by kernel_rfl) (by kernel_rfl) (by kernel_rfl) (fun _ _ _ h => h) (by rfl) hS ?_
       simp only [AP]
       refine skip_at 22 (d := some 36) (by kernel_rfl) (by kernel_rfl) (by kernel_rfl) (by kernel_rfl) (fun _ _ _ h => h) (by rfl) hS ?_
       simp only [AP]
       refine takA (i := 23) (d := some 37) (v := .bool false) hS ?_
       simp only [AP]
       refine takA (i := 24) (d := some 38) (v := .bool false) hS ?_
       simp only [AP]
       refine takA (i := 25) (d := some 39) (v := .agg #[.float .f64 ax, .float .f64 ay]) hS ?_
       simp only [AP]
       refine takA (i := 26) (d := some 40) (v := .agg #[.float .f64 bx, .float .f64 by']) hS ?_
       simp only [AP]
       refine takA (i := 27) (d := some 41) (v := .agg #[.float .f64 cx, .float .f64 cy]) hS ?_
       simp only [AP]
       refine takA (i := 28) (d := some 42) (v := .float .f64 g) hS ?_
       simp only [AP]
       refine takA (i := 30) (d := some 44) (v := .agg #[.float .f64 ax, .float .f64 ay]) hS ?_
       simp only [AP]
       refine takA (i := 31) (d := some 45) (v := .agg #[.float .f64 cx, .float .f64 cy]) hS ?_
       simp only [AP]
       refine takA (i := 32) (d := some 46) (v := .agg #[.float .f64 bx, .float .f64 by']) hS ?_
       simp only [AP]
       refine takA (i := 33) (d := some 47) (v := .float .f64 g) hS ?_
       simp only [AP]
       refine calA 29 fun KF hK => ?_
       go_simp
       refine (gsharp_any ax ay bx by' cx cy g _ sg (HT.out.later hS.2.2.2.2.2.2) ⟨HW.out.1, HW.out.2.1, HW.out.2.2⟩ HGw.out.1 HSg.out).mono ?_
       rintro e wx ⟨rfl, hbx⟩
       go_wp2_with fail
       refine hK.out _ _ ⟨box_cell hbx hS.1, box_cell hbx hS.2.1, box_cell hbx hS.2.2.1, box_cell hbx hS.2.2.2.1, box_cell hbx hS.2.2.2.2.1, box_cell hbx hS.2.2.2.2.2.1, below_step hS.2.2.2.2.2.2 hbx⟩ ?_
       clear hS hbx
       intro hS
       clear hK KF
       try simp only [AP]
       refine calA 34 fun KF hK => ?_
       go_simp
       refine (gsharp_any ax ay cx cy bx by' g _ sg (HT.out.later hS.2.2.2.2.2.2) ⟨HW.out.1, HW.out.2.2, HW.out.2.1⟩ HGw.out.1 HSg2.out).mono ?_
       rintro e wx ⟨rfl, hbx⟩
       go_wp2_with fail
       refine hK.out _ _ ⟨box_cell hbx hS.1, box_cell hbx hS.2.1, box_cell hbx hS.2.2.1, box_cell hbx hS.2.2.2.1, box_cell hbx hS.2.2.2.2.1, box_cell hbx hS.2.2.2.2.2.1, below_step hS.2.2.2.2.2.2 hbx⟩ ?_
       clear hS hbx
       intro hS
       clear hK KF
       try simp only [AP]
       refine takA (i := 35) (d := some 49) (v := .bool false) hS ?_
       simp only [AP]
       refine takA (i := 36) (d := some 50) (v := .bool false) hS ?_
       simp only [AP]
       refine wpAnyH_done (by kernel_rfl) ?_ _
       clear c0 c1 c2 c3 c4 c5
       clear rnn hq0
       have c0 := hS.1
       have c1 := hS.2.1
       have c2 := hS.2.2.1
       have c3 := hS.2.2.2.1
       have c4 := hS.2.2.2.2.1
       have c5 := hS.2.2.2.2.2.1
       have HB2 : Hid (Below w.heap.size w _) := hS.2.2.2.2.2.2
       clear hS HB1
       go_wp2_with fail
       refine (sign_is ax ay bx by' cx cy _ z ⟨HW.out.1, HW.out.2.1, HW.out.2.2⟩ HZ.out).mono ?_
       rintro e w3 ⟨rfl, hb3⟩
       replace c0 := box_cell hb3 c0
       replace c1 := box_cell hb3 c1
       replace c2 := box_cell hb3 c2
       replace c3 := box_cell hb3 c3
       replace c4 := box_cell hb3 c4
       replace c5 := box_cell hb3 c5
       replace HB2 : Hid (Below w.heap.size w w3) := below_step HB2.out hb3
       clear hb3
       by_cases hz0 : z = 0
       · subst hz0
         go_wp2
         go_ret
         exact ⟨rfl, HB2.out⟩
       · have hzd : (z == 0) = false := by simpa using hz0
         have HP : Hid (P3 ax ay bx by' cx cy ∧ turnR (fval ax) (fval ay) (fval bx) (fval by') (fval cx) (fval cy) ≠ 0) := by
           have hz := HZ.out
           by_cases hp : P3 ax ay bx by' cx cy
           · rw [sg3_yes hp] at hz
             exact ⟨hp, fun e => hz0 (by rw [← hz]; exact sgq_zero.2 e)⟩
           · rw [sg3_no hp] at hz
             exact absurd hz.symm hz0
         obtain ⟨z1, hz1⟩ : ∃ z, Hid (gdot bx by' cx cy ax ay = z) := ⟨_, rfl⟩
         obtain ⟨z2, hz2⟩ : ∃ z, Hid (gdot ax ay cx cy bx by' = z) := ⟨_, rfl⟩
         obtain ⟨z3, hz3⟩ : ∃ z, Hid (gdot ax ay bx by' cx cy = z) := ⟨_, rfl⟩
         have p1 := gdot_yes (ax := bx) (ay := by') (bx := cx) (by' := cy) (cx := ax) (cy := ay) ⟨HP.out.1.2.1, HP.out.1.2.2, HP.out.1.1⟩
         have p2 := gdot_yes (ax := ax) (ay := ay) (bx := cx) (by' := cy) (cx := bx) (cy := by') ⟨HP.out.1.1, HP.out.1.2.2, HP.out.1.2.1⟩
         have p3 := gdot_yes HP.out.1
         rw [hz1.out] at p1
         rw [hz2.out] at p2
         rw [hz3.out] at p3
         have two : (0 < z1 ∧ 0 < z2) ∨ (0 < z1 ∧ 0 < z3) ∨ (0 < z2 ∧ 0 < z3) := by
           rw [p1, p2, p3]
           rcases two_sharp HP.out.2 with h | h | h
           · exact Or.inl ⟨sgq_pos.2 h.1, sgq_pos.2 h.2⟩
           · exact Or.inr (Or.inl ⟨sgq_pos.2 h.1, sgq_pos.2 h.2⟩)
           · exact Or.inr (Or.inr ⟨sgq_pos.2 h.1, sgq_pos.2 h.2⟩)
         have cnt : ∃ d1 d2 d3 : Bool, decide (0 < z1) = d1 ∧ decide (0 < z2) = d2 ∧ decide (0 < z3) = d3 ∧ 2 ≤ d1.toNat + d2.toNat + d3.toNat := by
           refine ⟨_, _, _, rfl, rfl, rfl, ?_⟩
           rcases two with h | h | h <;> simp [h.1, h.2] <;> omega
         have HO : Hid (GS ax ay bx by' cx cy 4598175219545276416 ∨ GS bx by' ax ay cx cy 4598175219545276416 ∨ GS cx cy ax ay bx by' 4598175219545276416) := by
           rcases one_sharp HP.out.2 with h | h | h
           · exact Or.inl (GS.of HP.out.1 h)
           · refine Or.inr (Or.inl (GS.of ⟨HP.out.1.2.1, HP.out.1.1, HP.out.1.2.2⟩ ?_))
             rwa [lenR_fl (fval bx)]
           · refine Or.inr (Or.inr (GS.of ⟨HP.out.1.2.2, HP.out.1.1, HP.out.1.2.1⟩ ?_))
             rwa [lenR_fl (fval cx) (fval cy) (fval ax), lenR_fl (fval cx) (fval cy) (fval bx)]
         obtain ⟨d1, d2, d3, q1, q2, q3, q4⟩ := cnt
         clear p1 p2 p3 two hz0
         obtain ⟨s1, hs1⟩ : ∃ s : Bool, Hid (s = true ↔ GS ax ay bx by' cx cy 4598175219545276416) := ⟨_, @decide_eq_true_iff _ (Classical.propDecidable _)⟩
         obtain ⟨s2, hs2⟩ : ∃ s : Bool, Hid (s = true ↔ GS bx by' ax ay cx cy 4598175219545276416) := ⟨_, @decide_eq_true_iff _ (Classical.propDecidable _)⟩
         obtain ⟨s3, hs3⟩ : ∃ s : Bool, Hid (s = true ↔ GS cx cy ax ay bx by' 4598175219545276416) := ⟨_, @decide_eq_true_iff _ (Classical.propDecidable _)⟩
         have H123 : Hid (s1 = true ∨ s2 = true ∨ s3 = true) := by
           rcases HO.out with h | h | h
           · exact Or.inl (hs1.out.2 h)
           · exact Or.inr (Or.inl (hs2.out.2 h))
           · exact Or.inr (Or.inr (hs3.out.2 h))
         clear HO
         have HQ4 : Hid (2 ≤ d1.toNat + d2.toNat + d3.toNat) := q4
         clear q4
         have h4 : (d1 = true ∧ d2 = true ∧ d3 = true) ∨ (d1 = true ∧ d2 = true ∧ d3 = false) ∨ (d1 = true ∧ d2 = false ∧ d3 = true) ∨ (d1 = false ∧ d2 = true ∧ d3 = true) := by
           have := HQ4.out
           cases d1 <;> cases d2 <;> cases d3 <;> simp at this ⊢
         clear HQ4
         rcases h4 with ⟨rfl, rfl, rfl⟩ | ⟨rfl, rfl, rfl⟩ | ⟨rfl, rfl, rfl⟩ | ⟨rfl, rfl, rfl⟩
         all_goals
           go_wp2_with fail
           refine (gdot_any bx by' cx cy ax ay _ z1 (HT.out.later HB2.out) ⟨HW.out.2.1, HW.out.2.2, HW.out.1⟩ hz1.out).mono ?_
           rintro e w4 ⟨rfl, hb4⟩
           replace c0 := box_cell hb4 c0
           replace c1 := box_cell hb4 c1
           replace c2 := box_cell hb4 c2
           replace c3 := box_cell hb4 c3
           replace c4 := box_cell hb4 c4
           replace c5 := box_cell hb4 c5
           replace HB2 : Hid (Below w.heap.size w w4) := below_step HB2.out hb4
           clear hb4
           go_wp2_with fail
           refine (gdot_any ax ay cx cy bx by' _ z2 (HT.out.later HB2.out) ⟨HW.out.1, HW.out.2.2, HW.out.2.1⟩ hz2.out).mono ?_
           rintro e w5 ⟨rfl, hb5⟩
           replace c0 := box_cell hb5 c0
           replace c1 := box_cell hb5 c1
           replace c2 := box_cell hb5 c2
           replace c3 := box_cell hb5 c3
           replace c4 := box_cell hb5 c4
           replace c5 := box_cell hb5 c5
           replace HB2 : Hid (Below w.heap.size w w5) := below_step HB2.out hb5
           clear hb5
           go_wp2_with fail
           refine (gdot_any ax ay bx by' cx cy _ z3 (HT.out.later HB2.out) ⟨HW.out.1, HW.out.2.1, HW.out.2.2⟩ hz3.out).mono ?_
           rintro e w6 ⟨rfl, hb6⟩
           replace c0 := box_cell hb6 c0
           replace c1 := box_cell hb6 c1
           replace c2 := box_cell hb6 c2
           replace c3 := box_cell hb6 c3
           replace c4 := box_cell hb6 c4
           replace c5 := box_cell hb6 c5
           replace HB2 : Hid (Below w.heap.size w w6) := below_step HB2.out hb6
           clear hb6
           cases s1
           · go_wp2_with fail
             refine (gsharp_any ax ay bx by' cx cy 4598175219545276416 _ false (HT.out.later HB2.out) ⟨HW.out.1, HW.out.2.1, HW.out.2.2⟩ (by omega) hs1.out).mono ?_
             rintro e w7 ⟨rfl, hb7⟩
             replace c0 := box_cell hb7 c0
             replace c1 := box_cell hb7 c1
             replace c2 := box_cell hb7 c2
             replace c3 := box_cell hb7 c3
             replace c4 := box_cell hb7 c4
             replace c5 := box_cell hb7 c5
             replace HB2 : Hid (Below w.heap.size w w7) := below_step HB2.out hb7
             clear hb7
             cases s2
             · go_wp2_with fail
               refine (gsharp_any bx by' ax ay cx cy 4598175219545276416 _ false (HT.out.later HB2.out) ⟨HW.out.2.1, HW.out.1, HW.out.2.2⟩ (by omega) hs2.out).mono ?_
               rintro e w8 ⟨rfl, hb8⟩
               replace c0 := box_cell hb8 c0
               replace c1 := box_cell hb8 c1
               replace c2 := box_cell hb8 c2
               replace c3 := box_cell hb8 c3
               replace c4 := box_cell hb8 c4
               replace c5 := box_cell hb8 c5
               replace HB2 : Hid (Below w.heap.size w w8) := below_step HB2.out hb8
               clear hb8
               cases s3
               · exfalso
                 have := H123.out
                 simp at this
               · go_wp2_with fail
                 refine (gsharp_any cx cy ax ay bx by' 4598175219545276416 _ true (HT.out.later HB2.out) ⟨HW.out.2.2, HW.out.1, HW.out.2.1⟩ (by omega) ⟨fun _ => hs3.out.1 (by simp), fun _ => rfl⟩).mono ?_
                 rintro e w9 ⟨rfl, hb9⟩
                 replace c0 := box_cell hb9 c0
                 replace c1 := box_cell hb9 c1
                 replace c2 := box_cell hb9 c2
                 replace c3 := box_cell hb9 c3
                 replace c4 := box_cell hb9 c4
                 replace c5 := box_cell hb9 c5
                 replace HB2 : Hid (Below w.heap.size w w9) := below_step HB2.out hb9
                 clear hb9
                 go_wp2
                 go_ret
                 exact ⟨rfl, HB2.out⟩
             · go_wp2_with fail
               refine (gsharp_any bx by' ax ay cx cy 4598175219545276416 _ true (HT.out.later HB2.out) ⟨HW.out.2.1, HW.out.1, HW.out.2.2⟩ (by omega) ⟨fun _ => hs2.out.1 (by simp), fun _ => rfl⟩).mono ?_
               rintro e w8 ⟨rfl, hb8⟩
               replace c0 := box_cell hb8 c0
               replace c1 := box_cell hb8 c1
               replace c2 := box_cell hb8 c2
               replace c3 := box_cell hb8 c3
               replace c4 := box_cell hb8 c4
               replace c5 := box_cell hb8 c5
               replace HB2 : Hid (Below w.heap.size w w8) := below_step HB2.out hb8
               clear hb8
               go_wp2
               go_ret
               exact ⟨rfl, HB2.out⟩
           · go_wp2_with fail
             refine (gsharp_any ax ay bx by' cx cy 4598175219545276416 _ true (HT.out.later HB2.out) ⟨HW.out.1, HW.out.2.1, HW.out.2.2⟩ (by omega) ⟨fun _ => hs1.out.1 (by simp), fun _ => rfl⟩).mono ?_
             rintro e w7 ⟨rfl, hb7⟩
             replace c0 := box_cell hb7 c0
             replace c1 := box_cell hb7 c1
             replace c2 := box_cell hb7 c2
             replace c3 := box_cell hb7 c3
             replace c4 := box_cell hb7 c4
             replace c5 := box_cell hb7 c5
             replace HB2 : Hid (Below w.heap.size w w7) := below_step HB2.out hb7
             clear hb7
             go_wp2
             go_ret
             exact ⟨rfl, HB2.out⟩

end Go.Proofs.YtocnkgfoffpbfaaGreatDoor
