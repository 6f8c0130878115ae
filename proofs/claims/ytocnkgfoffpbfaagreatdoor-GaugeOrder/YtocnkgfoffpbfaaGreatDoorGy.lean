import Derived.Test.YtocnkgfoffpbfaaGreatDoorQ3
import Derived.Test.YtocnkgfoffpbfaaGreatDoorQ50
/- Lengths are in one order: the law. -/
namespace Go.Proofs.YtocnkgfoffpbfaaGreatDoor
open Go.RowKit Go.Shelf
attribute [local go_sem ↓] Go.wp_at_zero Go.wp_at_succ
attribute [local go_sem] run_store_float

theorem sgq_neg (q : Rat) : sgq (-q) = -sgq q := by
 unfold sgq
 by_cases h1 : q < 0
 · rw [if_pos h1, if_neg (by grind), if_neg (by grind)]; rfl
 · by_cases h2 : q = 0
   · rw [if_neg h1, if_pos h2, if_neg (by grind), if_pos (by grind)]; rfl
   · rw [if_neg h1, if_neg h2, if_pos (by grind)]
theorem lenR_flip (a b c d : Rat) : lenR a b c d = lenR c d a b := by unfold lenR; grind
theorem gcmp_turn (ax ay bx by' cx cy dx dy : Nat) : gcmp cx cy dx dy ax ay bx by' = -gcmp ax ay bx by' cx cy dx dy := by
 by_cases h : P4 ax ay bx by' cx cy dx dy
 · rw [gcmp_yes h, gcmp_yes ⟨⟨h.1.2.2, h.2, h.1.1⟩, h.1.2.1⟩, ← sgq_neg]
   congr 1; grind
 · rw [gcmp_no h, gcmp_no (fun k => h ⟨⟨k.1.2.2, k.2, k.1.1⟩, k.1.2.1⟩)]; rfl
theorem gcmp_flip (ax ay bx by' cx cy dx dy : Nat) : gcmp bx by' ax ay cx cy dx dy = gcmp ax ay bx by' cx cy dx dy := by
 by_cases h : P4 ax ay bx by' cx cy dx dy
 · rw [gcmp_yes h, gcmp_yes ⟨⟨h.1.2.1, h.1.1, h.1.2.2⟩, h.2⟩, lenR_flip (fval bx)]
 · rw [gcmp_no h, gcmp_no (fun k => h ⟨⟨k.1.2.1, k.1.1, k.1.2.2⟩, k.2⟩)]
theorem gcmp_same (ax ay bx by' : Nat) : gcmp ax ay bx by' bx by' ax ay = 0 := by
 by_cases h : P4 ax ay bx by' bx by' ax ay
 · rw [gcmp_yes h, lenR_flip (fval bx)]
   exact sgq_zero.2 (by grind)
 · exact gcmp_no h
theorem sgq_le {q : Rat} : (sgq q ≤ 0 ↔ q ≤ 0) ∧ (0 ≤ sgq q ↔ 0 ≤ q) := by
 unfold sgq
 by_cases h1 : q < 0
 · rw [if_pos h1]; exact ⟨⟨fun _ => by grind, fun _ => by omega⟩, ⟨fun h => by omega, fun h => by grind⟩⟩
 · by_cases h2 : q = 0
   · rw [if_neg h1, if_pos h2]; exact ⟨⟨fun _ => by grind, fun _ => by omega⟩, ⟨fun h => by grind, fun h => by omega⟩⟩
   · rw [if_neg h1, if_neg h2]; exact ⟨⟨fun h => by omega, fun h => by grind⟩, ⟨fun h => by grind, fun _ => by omega⟩⟩
theorem sgq_three' (q : Rat) : sgq q = -1 ∨ sgq q = 0 ∨ sgq q = 1 := by
 unfold sgq
 split
 · exact Or.inl rfl
 · split
   · exact Or.inr (Or.inl rfl)
   · exact Or.inr (Or.inr rfl)
theorem gcmp_three (ax ay bx by' cx cy dx dy : Nat) : gcmp ax ay bx by' cx cy dx dy = -1 ∨ gcmp ax ay bx by' cx cy dx dy = 0 ∨ gcmp ax ay bx by' cx cy dx dy = 1 := by
 by_cases h : P4 ax ay bx by' cx cy dx dy
 · rw [gcmp_yes h]; exact sgq_three' _
 · rw [gcmp_no h]; exact Or.inr (Or.inl rfl)
theorem gcmp_trans {ax ay bx by' cx cy dx dy ex ey fx fy : Nat} (h : Pt ax ay ∧ Pt bx by' ∧ Pt cx cy ∧ Pt dx dy ∧ Pt ex ey ∧ Pt fx fy) : ¬ (gcmp ax ay bx by' cx cy dx dy ≤ 0 ∧ gcmp cx cy dx dy ex ey fx fy ≤ 0 ∧ 0 < gcmp ax ay bx by' ex ey fx fy) ∧ ¬ (0 ≤ gcmp ax ay bx by' cx cy dx dy ∧ 0 ≤ gcmp cx cy dx dy ex ey fx fy ∧ gcmp ax ay bx by' ex ey fx fy < 0) := by
 rw [gcmp_yes ⟨⟨h.1, h.2.1, h.2.2.1⟩, h.2.2.2.1⟩, gcmp_yes ⟨⟨h.2.2.1, h.2.2.2.1, h.2.2.2.2.1⟩, h.2.2.2.2.2⟩, gcmp_yes ⟨⟨h.1, h.2.1, h.2.2.2.2.1⟩, h.2.2.2.2.2⟩]
 constructor
 · rintro ⟨h1, h2, h3⟩
   have a := sgq_le.1.1 h1
   have b := sgq_le.1.1 h2
   have c := sgq_pos.1 h3
   grind
 · rintro ⟨h1, h2, h3⟩
   have a := sgq_le.2.1 h1
   have b := sgq_le.2.1 h2
   have c : sgq (lenR (fval ax) (fval ay) (fval bx) (fval by') - lenR (fval ex) (fval ey) (fval fx) (fval fy)) ≤ 0 := by omega
   have d := sgq_le.1.1 c
   have e : sgq (lenR (fval ax) (fval ay) (fval bx) (fval by') - lenR (fval ex) (fval ey) (fval fx) (fval fy)) = 0 := sgq_zero.2 (by grind)
   omega
theorem gcmp_pt {px py ax ay bx by' cx cy : Nat} (h : gcmp px py ax ay bx by' cx cy ≠ 0) : Pt px py := by
 apply Classical.byContradiction
 intro hn
 exact h (gcmp_no (fun k => hn k.1.1))

set_option maxRecDepth 100000 in
set_option maxHeartbeats 4000000 in
theorem order_law (ax ay bx by' cx cy dx dy ex ey fx fy : Nat) (w : World) (hT : Tab w) (hw : (ax < 18446744073709551616 ∧ ay < 18446744073709551616) ∧ (bx < 18446744073709551616 ∧ by' < 18446744073709551616) ∧ (cx < 18446744073709551616 ∧ cy < 18446744073709551616) ∧ (dx < 18446744073709551616 ∧ dy < 18446744073709551616) ∧ (ex < 18446744073709551616 ∧ ey < 18446744073709551616) ∧ (fx < 18446744073709551616 ∧ fy < 18446744073709551616)) :
   Calls Tryz.prog 8 #[pv ax ay, pv bx by', pv cx cy, pv dx dy, pv ex ey, pv fx fy] w fun e w' => e = .returned (.bool true) ∧ Below w.heap.size w w' := by
 have HT : Hid (Tab w) := hT
 have HW : Hid ((ax < 18446744073709551616 ∧ ay < 18446744073709551616) ∧ (bx < 18446744073709551616 ∧ by' < 18446744073709551616) ∧ (cx < 18446744073709551616 ∧ cy < 18446744073709551616) ∧ (dx < 18446744073709551616 ∧ dy < 18446744073709551616) ∧ (ex < 18446744073709551616 ∧ ey < 18446744073709551616) ∧ (fx < 18446744073709551616 ∧ fy < 18446744073709551616)) := hw
 obtain ⟨x, hx⟩ : ∃ x, gcmp ax ay bx by' cx cy dx dy = x := ⟨_, rfl⟩
 obtain ⟨y, hy⟩ : ∃ y, gcmp cx cy dx dy ex ey fx fy = y := ⟨_, rfl⟩
 obtain ⟨z, hz⟩ : ∃ z, gcmp ax ay bx by' ex ey fx fy = z := ⟨_, rfl⟩
 have HX : Hid (gcmp ax ay bx by' cx cy dx dy = x ∧ gcmp cx cy dx dy ex ey fx fy = y ∧ gcmp ax ay bx by' ex ey fx fy = z) := ⟨hx, hy, hz⟩
 have HY : Hid (gcmp cx cy dx dy ax ay bx by' = -x ∧ gcmp bx by' ax ay cx cy dx dy = x ∧ gcmp ax ay bx by' bx by' ax ay = 0) := ⟨by rw [gcmp_turn, hx], by rw [gcmp_flip, hx], gcmp_same _ _ _ _⟩
 have HS3 : Hid ((x = -1 ∨ x = 0 ∨ x = 1) ∧ (y = -1 ∨ y = 0 ∨ y = 1) ∧ (z = -1 ∨ z = 0 ∨ z = 1)) := by
   rw [← hx, ← hy, ← hz]
   exact ⟨gcmp_three _ _ _ _ _ _ _ _, gcmp_three _ _ _ _ _ _ _ _, gcmp_three _ _ _ _ _ _ _ _⟩
 have hxr : -1 ≤ x ∧ x ≤ 1 := by have := HS3.out.1; omega
 have hwx : IntKind.i64.wrap (-x) = -x := wrapE _ (by omega) (by omega)
 clear hxr
 clear hT hw hx hy hz
 go_enter Tryz.func8, Tryz.ntmps8
 go_wp2_with fail
 obtain ⟨W0, hW0⟩ : ∃ W0, W0 = ((((((w.alloc (.cells #[.float .f64 ax, .float .f64 ay] 24)).alloc (.cells #[.float .f64 bx, .float .f64 by'] 24)).alloc (.cells #[.float .f64 cx, .float .f64 cy] 24)).alloc (.cells #[.float .f64 dx, .float .f64 dy] 24)).alloc (.cells #[.float .f64 ex, .float .f64 ey] 24)).alloc (.cells #[.float .f64 fx, .float .f64 fy] 24)) := ⟨_, rfl⟩
 have c0 : W0.drew.cell? ⟨w.heap.size, 0, none⟩ = some (.float .f64 ax) := by rw [hW0]; go_simp
 have c1 : W0.drew.cell? ⟨w.heap.size, 1, none⟩ = some (.float .f64 ay) := by rw [hW0]; go_simp
 have c2 : W0.drew.cell? ⟨w.heap.size + 1, 0, none⟩ = some (.float .f64 bx) := by rw [hW0]; go_simp
 have c3 : W0.drew.cell? ⟨w.heap.size + 1, 1, none⟩ = some (.float .f64 by') := by rw [hW0]; go_simp
 have c4 : W0.drew.cell? ⟨w.heap.size + 1 + 1, 0, none⟩ = some (.float .f64 cx) := by rw [hW0]; go_simp
 have c5 : W0.drew.cell? ⟨w.heap.size + 1 + 1, 1, none⟩ = some (.float .f64 cy) := by rw [hW0]; go_simp
 have c6 : W0.drew.cell? ⟨w.heap.size + 1 + 1 + 1, 0, none⟩ = some (.float .f64 dx) := by rw [hW0]; go_simp
 have c7 : W0.drew.cell? ⟨w.heap.size + 1 + 1 + 1, 1, none⟩ = some (.float .f64 dy) := by rw [hW0]; go_simp
 have c8 : W0.drew.cell? ⟨w.heap.size + 1 + 1 + 1 + 1, 0, none⟩ = some (.float .f64 ex) := by rw [hW0]; go_simp
 have c9 : W0.drew.cell? ⟨w.heap.size + 1 + 1 + 1 + 1, 1, none⟩ = some (.float .f64 ey) := by rw [hW0]; go_simp
 have c10 : W0.drew.cell? ⟨w.heap.size + 1 + 1 + 1 + 1 + 1, 0, none⟩ = some (.float .f64 fx) := by rw [hW0]; go_simp
 have c11 : W0.drew.cell? ⟨w.heap.size + 1 + 1 + 1 + 1 + 1, 1, none⟩ = some (.float .f64 fy) := by rw [hW0]; go_simp
 have HB0 : Hid (Below w.heap.size w W0) := by
   rw [hW0]
   exact (((((((Below.refl _ w).alloc (Nat.le_refl _) _).alloc (by simp) _).alloc (by simp; omega) _).alloc (by simp; omega) _).alloc (by simp; omega) _).alloc (by simp; omega) _)
 rw [← hW0]
 clear hW0
 refine wp_region_held_drew (S := (fun W => W.cell? ⟨w.heap.size, 0, none⟩ = some (.float .f64 ax) ∧ W.cell? ⟨w.heap.size, 1, none⟩ = some (.float .f64 ay) ∧ W.cell? ⟨w.heap.size + 1, 0, none⟩ = some (.float .f64 bx) ∧ W.cell? ⟨w.heap.size + 1, 1, none⟩ = some (.float .f64 by') ∧ W.cell? ⟨w.heap.size + 1 + 1, 0, none⟩ = some (.float .f64 cx) ∧ W.cell? ⟨w.heap.size + 1 + 1, 1, none⟩ = some (.float .f64 cy) ∧ W.cell? ⟨w.heap.size + 1 + 1 + 1, 0, none⟩ = some (.float .f64 dx) ∧ W.cell? ⟨w.heap.size + 1 + 1 + 1, 1, none⟩ = some (.float .f64 dy) ∧ W.cell? ⟨w.heap.size + 1 + 1 + 1 + 1, 0, none⟩ = some (.float .f64 ex) ∧ W.cell? ⟨w.heap.size + 1 + 1 + 1 + 1, 1, none⟩ = some (.float .f64 ey) ∧ W.cell? ⟨w.heap.size + 1 + 1 + 1 + 1 + 1, 0, none⟩ = some (.float .f64 fx) ∧ W.cell? ⟨w.heap.size + 1 + 1 + 1 + 1 + 1, 1, none⟩ = some (.float .f64 fy) ∧ Below w.heap.size w W)) (by kernel_rfl) ⟨c0, c1, c2, c3, c4, c5, c6, c7, c8, c9, c10, c11, HB0.out.drew⟩ (fun hS => ?_)
 refine takA (i := 0) (d := some 19) (v := .agg #[.float .f64 ax, .float .f64 ay]) hS ?_
 simp only [AP]
 refine takA (i := 1) (d := some 20) (v := .agg #[.float .f64 bx, .float .f64 by']) hS ?_
 simp only [AP]
 refine takA (i := 2) (d := some 21) (v := .agg #[.float .f64 cx, .float .f64 cy]) hS ?_
 simp only [AP]
 refine takA (i := 3) (d := some 22) (v := .agg #[.float .f64 dx, .float .f64 dy]) hS ?_
 simp only [AP]
 refine takA (i := 5) (d := some 24) (v := .agg #[.float .f64 cx, .float .f64 cy]) hS ?_
 simp only [AP]
 refine takA (i := 6) (d := some 25) (v := .agg #[.float .f64 dx, .float .f64 dy]) hS ?_
 simp only [AP]
 refine takA (i := 7) (d := some 26) (v := .agg #[.float .f64 ex, .float .f64 ey]) hS ?_
 simp only [AP]
 refine takA (i := 8) (d := some 27) (v := .agg #[.float .f64 fx, .float .f64 fy]) hS ?_
 simp only [AP]
 refine takA (i := 10) (d := some 29) (v := .agg #[.float .f64 ax, .float .f64 ay]) hS ?_
 simp only [AP]
 refine takA (i := 11) (d := some 30) (v := .agg #[.float .f64 bx, .float .f64 by']) hS ?_
 simp only [AP]
 refine takA (i := 12) (d := some 31) (v := .agg #[.float .f64 ex, .float .f64 ey]) hS ?_
 simp only [AP]
 refine takA (i := 13) (d := some 32) (v := .agg #[.float .f64 fx, .float .f64 fy]) hS ?_
 simp only [AP]
 refine calA 4 fun KF hK => ?_
 go_simp
 refine (gcmp_any ax ay bx by' cx cy dx dy _ x (HT.out.later hS.2.2.2.2.2.2.2.2.2.2.2.2) ⟨⟨HW.out.1, HW.out.2.1, HW.out.2.2.1⟩, HW.out.2.2.2.1⟩ HX.out.1).mono ?_
 rintro e wx ⟨rfl, hbx⟩
 go_wp2_with fail
 refine hK.out _ _ ⟨box_cell hbx hS.1, box_cell hbx hS.2.1, box_cell hbx hS.2.2.1, box_cell hbx hS.2.2.2.1, box_cell hbx hS.2.2.2.2.1, box_cell hbx hS.2.2.2.2.2.1, box_cell hbx hS.2.2.2.2.2.2.1, box_cell hbx hS.2.2.2.2.2.2.2.1, box_cell hbx hS.2.2.2.2.2.2.2.2.1, box_cell hbx hS.2.2.2.2.2.2.2.2.2.1, box_cell hbx hS.2.2.2.2.2.2.2.2.2.2.1, box_cell hbx hS.2.2.2.2.2.2.2.2.2.2.2.1, below_step hS.2.2.2.2.2.2.2.2.2.2.2.2 hbx⟩ ?_
 clear hS hbx
 intro hS
 clear hK KF
 try simp only [AP]
 refine calA 9 fun KF hK => ?_
 go_simp
 refine (gcmp_any cx cy dx dy ex ey fx fy _ y (HT.out.later hS.2.2.2.2.2.2.2.2.2.2.2.2) ⟨⟨HW.out.2.2.1, HW.out.2.2.2.1, HW.out.2.2.2.2.1⟩, HW.out.2.2.2.2.2⟩ HX.out.2.1).mono ?_
 rintro e wx ⟨rfl, hbx⟩
 go_wp2_with fail
 refine hK.out _ _ ⟨box_cell hbx hS.1, box_cell hbx hS.2.1, box_cell hbx hS.2.2.1, box_cell hbx hS.2.2.2.1, box_cell hbx hS.2.2.2.2.1, box_cell hbx hS.2.2.2.2.2.1, box_cell hbx hS.2.2.2.2.2.2.1, box_cell hbx hS.2.2.2.2.2.2.2.1, box_cell hbx hS.2.2.2.2.2.2.2.2.1, box_cell hbx hS.2.2.2.2.2.2.2.2.2.1, box_cell hbx hS.2.2.2.2.2.2.2.2.2.2.1, box_cell hbx hS.2.2.2.2.2.2.2.2.2.2.2.1, below_step hS.2.2.2.2.2.2.2.2.2.2.2.2 hbx⟩ ?_
 clear hS hbx
 intro hS
 clear hK KF
 try simp only [AP]
 refine calA 14 fun KF hK => ?_
 go_simp
 refine (gcmp_any ax ay bx by' ex ey fx fy _ z (HT.out.later hS.2.2.2.2.2.2.2.2.2.2.2.2) ⟨⟨HW.out.1, HW.out.2.1, HW.out.2.2.2.2.1⟩, HW.out.2.2.2.2.2⟩ HX.out.2.2).mono ?_
 rintro e wx ⟨rfl, hbx⟩
 go_wp2_with fail
 refine hK.out _ _ ⟨box_cell hbx hS.1, box_cell hbx hS.2.1, box_cell hbx hS.2.2.1, box_cell hbx hS.2.2.2.1, box_cell hbx hS.2.2.2.2.1, box_cell hbx hS.2.2.2.2.2.1, box_cell hbx hS.2.2.2.2.2.2.1, box_cell hbx hS.2.2.2.2.2.2.2.1, box_cell hbx hS.2.2.2.2.2.2.2.2.1, box_cell hbx hS.2.2.2.2.2.2.2.2.2.1, box_cell hbx hS.2.2.2.2.2.2.2.2.2.2.1, box_cell hbx hS.2.2.2.2.2.2.2.2.2.2.2.1, below_step hS.2.2.2.2.2.2.2.2.2.2.2.2 hbx⟩ ?_
 clear hS hbx
 intro hS
 clear hK KF
 try simp only [AP]
 refine takA (i := 15) (d := some 13) (v := .int .i64 x) hS ?_
 simp only [AP]
 refine takA (i := 16) (d := some 14) (v := .int .i64 y) hS ?_
 simp only [AP]
 refine takA (i := 17) (d := some 15) (v := .int .i64 z) hS ?_
 simp only [AP]
 refine wpAnyH_done (by kernel_rfl) ?_ _
 clear c0 c1 c2 c3 c4 c5 c6 c7 c8 c9 c10 c11
 have c0 := hS.1
 have c1 := hS.2.1
 have c2 := hS.2.2.1
 have c3 := hS.2.2.2.1
 have c4 := hS.2.2.2.2.1
 have c5 := hS.2.2.2.2.2.1
 have c6 := hS.2.2.2.2.2.2.1
 have c7 := hS.2.2.2.2.2.2.2.1
 have c8 := hS.2.2.2.2.2.2.2.2.1
 have c9 := hS.2.2.2.2.2.2.2.2.2.1
 have c10 := hS.2.2.2.2.2.2.2.2.2.2.1
 have c11 := hS.2.2.2.2.2.2.2.2.2.2.2.1
 have HB1 : Hid (Below w.heap.size w _) := hS.2.2.2.2.2.2.2.2.2.2.2.2
 clear hS HB0
 go_wp2_with fail
 refine (gcmp_any cx cy dx dy ax ay bx by' _ (-x) (HT.out.later HB1.out) ⟨⟨HW.out.2.2.1, HW.out.2.2.2.1, HW.out.1⟩, HW.out.2.1⟩ HY.out.1).mono ?_
 rintro e w2 ⟨rfl, hb2⟩
 replace c0 := box_cell hb2 c0
 replace c1 := box_cell hb2 c1
 replace c2 := box_cell hb2 c2
 replace c3 := box_cell hb2 c3
 replace c4 := box_cell hb2 c4
 replace c5 := box_cell hb2 c5
 replace c6 := box_cell hb2 c6
 replace c7 := box_cell hb2 c7
 replace c8 := box_cell hb2 c8
 replace c9 := box_cell hb2 c9
 replace c10 := box_cell hb2 c10
 replace c11 := box_cell hb2 c11
 replace HB1 : Hid (Below w.heap.size w w2) := below_step HB1.out hb2
 clear hb2
 go_wp2_with fail
 refine (gcmp_any bx by' ax ay cx cy dx dy _ x (HT.out.later HB1.out) ⟨⟨HW.out.2.1, HW.out.1, HW.out.2.2.1⟩, HW.out.2.2.2.1⟩ HY.out.2.1).mono ?_
 rintro e w3 ⟨rfl, hb3⟩
 replace c0 := box_cell hb3 c0
 replace c1 := box_cell hb3 c1
 replace c2 := box_cell hb3 c2
 replace c3 := box_cell hb3 c3
 replace c4 := box_cell hb3 c4
 replace c5 := box_cell hb3 c5
 replace c6 := box_cell hb3 c6
 replace c7 := box_cell hb3 c7
 replace c8 := box_cell hb3 c8
 replace c9 := box_cell hb3 c9
 replace c10 := box_cell hb3 c10
 replace c11 := box_cell hb3 c11
 replace HB1 : Hid (Below w.heap.size w w3) := below_step HB1.out hb3
 clear hb3
 go_wp2_with fail
 refine (gcmp_any ax ay bx by' bx by' ax ay _ 0 (HT.out.later HB1.out) ⟨⟨HW.out.1, HW.out.2.1, HW.out.2.1⟩, HW.out.1⟩ HY.out.2.2).mono ?_
 rintro e w4 ⟨rfl, hb4⟩
 replace c0 := box_cell hb4 c0
 replace c1 := box_cell hb4 c1
 replace c2 := box_cell hb4 c2
 replace c3 := box_cell hb4 c3
 replace c4 := box_cell hb4 c4
 replace c5 := box_cell hb4 c5
 replace c6 := box_cell hb4 c6
 replace c7 := box_cell hb4 c7
 replace c8 := box_cell hb4 c8
 replace c9 := box_cell hb4 c9
 replace c10 := box_cell hb4 c10
 replace c11 := box_cell hb4 c11
 replace HB1 : Hid (Below w.heap.size w w4) := below_step HB1.out hb4
 clear hb4
 have hb5 : Below w4.heap.size w4 (w4.alloc (.cells #[.float .f64 0, .float .f64 0] 24)) := (Below.refl _ w4).alloc (Nat.le_refl _) _
 replace c0 := box_cell hb5 c0
 replace c1 := box_cell hb5 c1
 replace c2 := box_cell hb5 c2
 replace c3 := box_cell hb5 c3
 replace c4 := box_cell hb5 c4
 replace c5 := box_cell hb5 c5
 replace c6 := box_cell hb5 c6
 replace c7 := box_cell hb5 c7
 replace c8 := box_cell hb5 c8
 replace c9 := box_cell hb5 c9
 replace c10 := box_cell hb5 c10
 replace c11 := box_cell hb5 c11
 have HB5 : Hid (Below w.heap.size w (w4.alloc (.cells #[.float .f64 0, .float .f64 0] 24))) := below_step HB1.out hb5
 clear hb5 HB1
 go_wp2_with fail
 clear c0 c1 c2 c3 c4 c5 c6 c7 c8 c9 c10 c11
 have hcb : CB (w4.alloc (.cells #[.float .f64 0, .float .f64 0] 24)) w4.heap.size #[.float .f64 0, .float .f64 0] 24 := CB.new w4 _ _
 have d0 := hcb.cell 0 (by simp)
 have d1 := hcb.cell 1 (by simp)
 clear hcb
 generalize (w4.alloc (.cells #[.float .f64 0, .float .f64 0] 24)) = W5 at *
 generalize w4.heap.size = n0 at *
 have ix0 : ∀ w, (Instr.index 38 (.agg #[.float .f64 ax, .float .f64 ay, .float .f64 bx, .float .f64 by', .float .f64 cx, .float .f64 cy, .float .f64 dx, .float .f64 dy, .float .f64 ex, .float .f64 ey, .float .f64 fx, .float .f64 fy]) (.int .i64 0)).run Tryz.prog w = .ok (pv ax ay) w := fun _ => by kernel_rfl
 have ix1 : ∀ w, (Instr.index 38 (.agg #[.float .f64 ax, .float .f64 ay, .float .f64 bx, .float .f64 by', .float .f64 cx, .float .f64 cy, .float .f64 dx, .float .f64 dy, .float .f64 ex, .float .f64 ey, .float .f64 fx, .float .f64 fy]) (.int .i64 1)).run Tryz.prog w = .ok (pv bx by') w := fun _ => by kernel_rfl
 have ix2 : ∀ w, (Instr.index 38 (.agg #[.float .f64 ax, .float .f64 ay, .float .f64 bx, .float .f64 by', .float .f64 cx, .float .f64 cy, .float .f64 dx, .float .f64 dy, .float .f64 ex, .float .f64 ey, .float .f64 fx, .float .f64 fy]) (.int .i64 2)).run Tryz.prog w = .ok (pv cx cy) w := fun _ => by kernel_rfl
 have ix3 : ∀ w, (Instr.index 38 (.agg #[.float .f64 ax, .float .f64 ay, .float .f64 bx, .float .f64 by', .float .f64 cx, .float .f64 cy, .float .f64 dx, .float .f64 dy, .float .f64 ex, .float .f64 ey, .float .f64 fx, .float .f64 fy]) (.int .i64 3)).run Tryz.prog w = .ok (pv dx dy) w := fun _ => by kernel_rfl
 have ix4 : ∀ w, (Instr.index 38 (.agg #[.float .f64 ax, .float .f64 ay, .float .f64 bx, .float .f64 by', .float .f64 cx, .float .f64 cy, .float .f64 dx, .float .f64 dy, .float .f64 ex, .float .f64 ey, .float .f64 fx, .float .f64 fy]) (.int .i64 4)).run Tryz.prog w = .ok (pv ex ey) w := fun _ => by kernel_rfl
 have ix5 : ∀ w, (Instr.index 38 (.agg #[.float .f64 ax, .float .f64 ay, .float .f64 bx, .float .f64 by', .float .f64 cx, .float .f64 cy, .float .f64 dx, .float .f64 dy, .float .f64 ex, .float .f64 ey, .float .f64 fx, .float .f64 fy]) (.int .i64 5)).run Tryz.prog w = .ok (pv fx fy) w := fun _ => by kernel_rfl
 go_loopw [67] (fun i wr => ((i = .int .i64 0 ∧ Hid (True)) ∨ (i = .int .i64 1 ∧ Hid (Pt ax ay)) ∨ (i = .int .i64 2 ∧ Hid (Pt ax ay ∧ Pt bx by')) ∨ (i = .int .i64 3 ∧ Hid (Pt ax ay ∧ Pt bx by' ∧ Pt cx cy)) ∨ (i = .int .i64 4 ∧ Hid (Pt ax ay ∧ Pt bx by' ∧ Pt cx cy ∧ Pt dx dy)) ∨ (i = .int .i64 5 ∧ Hid (Pt ax ay ∧ Pt bx by' ∧ Pt cx cy ∧ Pt dx dy ∧ Pt ex ey)) ∨ (i = .int .i64 6 ∧ Hid (Pt ax ay ∧ Pt bx by' ∧ Pt cx cy ∧ Pt dx dy ∧ Pt ex ey ∧ Pt fx fy))) ∧ Hid (wr.cell? ⟨n0, 0, none⟩ = some (.float .f64 0) ∧ wr.cell? ⟨n0, 1, none⟩ = some (.float .f64 0) ∧ Below w.heap.size w wr)) (fun i _ => 6 - (intOf i).toNat)
 case atStart => exact ⟨Or.inl ⟨rfl, trivial⟩, d0, d1, HB5.out⟩
 case round =>
   obtain ⟨hcase, hB⟩ := hrel
   clear HB5 d0 d1
   rcases hcase with ⟨rfl, hp⟩ | ⟨rfl, hp⟩ | ⟨rfl, hp⟩ | ⟨rfl, hp⟩ | ⟨rfl, hp⟩ | ⟨rfl, hp⟩ | ⟨rfl, hp⟩
   · obtain ⟨v, hv'⟩ : ∃ v, gcmp ax ay 0 0 0 0 5057542381537067008 5057542381537067008 = v := ⟨_, rfl⟩
     have hv : Hid (gcmp ax ay 0 0 0 0 5057542381537067008 5057542381537067008 = v) := hv'
     clear hv'
     obtain ⟨W1, hW1⟩ : ∃ W1, W1 = wr.alloc (.cells #[.float .f64 ax, .float .f64 ay] 24) := ⟨_, rfl⟩
     have hb1 : Below wr.heap.size wr W1.drew := by rw [hW1]; exact ((Below.refl _ wr).alloc (Nat.le_refl _) _).drew
     have z0 : W1.drew.cell? ⟨wr.heap.size, 0, none⟩ = some (.float .f64 ax) := by rw [hW1]; go_simp
     have z1 : W1.drew.cell? ⟨wr.heap.size, 1, none⟩ = some (.float .f64 ay) := by rw [hW1]; go_simp
     have z2 := box_cell hb1 hB.out.1
     have z3 := box_cell hb1 hB.out.2.1
     have HB6 : Hid (Below w.heap.size w W1.drew) := below_step hB.out.2.2 hb1
     go_wp2_with fail
     rw [← hW1]
     clear hW1 hb1
     by_cases hv0 : v = 0
     · have hvd : (v == 0) = true := by simpa using hv0
       refine wp_region_held_drew (S := (fun W => W.cell? ⟨wr.heap.size, 0, none⟩ = some (.float .f64 ax) ∧ W.cell? ⟨wr.heap.size, 1, none⟩ = some (.float .f64 ay) ∧ W.cell? ⟨n0, 0, none⟩ = some (.float .f64 0) ∧ W.cell? ⟨n0, 1, none⟩ = some (.float .f64 0) ∧ Below w.heap.size w W)) (by kernel_rfl) ⟨z0, z1, z2, z3, HB6.out⟩ (fun hS => ?_)
       refine takA (i := 0) (d := some 70) (v := .agg #[.float .f64 ax, .float .f64 ay]) hS ?_
       simp only [AP]
       refine takA (i := 1) (d := some 71) (v := .agg #[.float .f64 0, .float .f64 0]) hS ?_
       simp only [AP]
       refine takA (i := 2) (d := some 72) (v := .agg #[.float .f64 0, .float .f64 0]) hS ?_
       simp only [AP]
       refine calA 3 fun KF hK => ?_
       go_simp
       refine (at6_any 5057542381537067008 5057542381537067008 _).mono ?_
       rintro e wx ⟨rfl, hbx⟩
       go_wp2_with fail
       refine hK.out _ _ ⟨box_cell hbx hS.1, box_cell hbx hS.2.1, box_cell hbx hS.2.2.1, box_cell hbx hS.2.2.2.1, below_step hS.2.2.2.2 hbx⟩ ?_
       clear hS hbx
       intro hS
       clear hK KF
       try simp only [AP]
       refine calA 4 fun KF hK => ?_
       go_simp
       refine (gcmp_any ax ay 0 0 0 0 5057542381537067008 5057542381537067008 _ v (HT.out.later hS.2.2.2.2) ⟨⟨HW.out.1, ⟨by omega, by omega⟩, by omega, by omega⟩, by omega, by omega⟩ hv.out).mono ?_
       rintro e wx ⟨rfl, hbx⟩
       go_wp2_with fail
       refine hK.out _ _ ⟨box_cell hbx hS.1, box_cell hbx hS.2.1, box_cell hbx hS.2.2.1, box_cell hbx hS.2.2.2.1, below_step hS.2.2.2.2 hbx⟩ ?_
       clear hS hbx
       intro hS
       clear hK KF
       try simp only [AP]
       refine takA (i := 5) (d := some 75) (v := .bool true) hS ?_
       simp only [AP]
       refine wpAnyH_done (by kernel_rfl) ?_ _
       have HBE : Hid (Below w.heap.size w _) := hS.2.2.2.2
       clear hS z0 z1 z2 z3 HB6
       go_wp2_with fail
       refine (awake6_any _ (HT.out.later HBE.out)).mono ?_
       rintro e wz ⟨rfl, hbz⟩
       have HBZ : Hid (Below w.heap.size w wz) := below_step HBE.out hbz
       clear hbz
       go_wp2
       go_ret
       exact ⟨rfl, HBZ.out⟩
     · have hvd : (v == 0) = false := by simpa using hv0
       refine wp_region_held_drew (S := (fun W => W.cell? ⟨wr.heap.size, 0, none⟩ = some (.float .f64 ax) ∧ W.cell? ⟨wr.heap.size, 1, none⟩ = some (.float .f64 ay) ∧ W.cell? ⟨n0, 0, none⟩ = some (.float .f64 0) ∧ W.cell? ⟨n0, 1, none⟩ = some (.float .f64 0) ∧ Below w.heap.size w W)) (by kernel_rfl) ⟨z0, z1, z2, z3, HB6.out⟩ (fun hS => ?_)
       refine takA (i := 0) (d := some 70) (v := .agg #[.float .f64 ax, .float .f64 ay]) hS ?_
       simp only [AP]
       refine takA (i := 1) (d := some 71) (v := .agg #[.float .f64 0, .float .f64 0]) hS ?_
       simp only [AP]
       refine takA (i := 2) (d := some 72) (v := .agg #[.float .f64 0, .float .f64 0]) hS ?_
       simp only [AP]
       refine calA 3 fun KF hK => ?_
       go_simp
       refine (at6_any 5057542381537067008 5057542381537067008 _).mono ?_
       rintro e wx ⟨rfl, hbx⟩
       go_wp2_with fail
       refine hK.out _ _ ⟨box_cell hbx hS.1, box_cell hbx hS.2.1, box_cell hbx hS.2.2.1, box_cell hbx hS.2.2.2.1, below_step hS.2.2.2.2 hbx⟩ ?_
       clear hS hbx
       intro hS
       clear hK KF
       try simp only [AP]
       refine calA 4 fun KF hK => ?_
       go_simp
       refine (gcmp_any ax ay 0 0 0 0 5057542381537067008 5057542381537067008 _ v (HT.out.later hS.2.2.2.2) ⟨⟨HW.out.1, ⟨by omega, by omega⟩, by omega, by omega⟩, by omega, by omega⟩ hv.out).mono ?_
       rintro e wx ⟨rfl, hbx⟩
       go_wp2_with fail
       refine hK.out _ _ ⟨box_cell hbx hS.1, box_cell hbx hS.2.1, box_cell hbx hS.2.2.1, box_cell hbx hS.2.2.2.1, below_step hS.2.2.2.2 hbx⟩ ?_
       clear hS hbx
       intro hS
       clear hK KF
       try simp only [AP]
       refine takA (i := 5) (d := some 75) (v := .bool false) hS ?_
       simp only [AP]
       refine wpAnyH_done (by kernel_rfl) ?_ _
       have HH : Hid (_ ∧ _ ∧ Below w.heap.size w _) := ⟨hS.2.2.1, hS.2.2.2.1, hS.2.2.2.2⟩
       have hpt : Pt ax ay := gcmp_pt (by rw [hv.out]; exact hv0)
       clear hS z0 z1 z2 z3 HB6
       go_wp2
       exact ⟨⟨Or.inr (Or.inl ⟨rfl, hpt⟩), HH.out⟩, by simp [intOf]⟩
   · obtain ⟨v, hv'⟩ : ∃ v, gcmp bx by' 0 0 0 0 5057542381537067008 5057542381537067008 = v := ⟨_, rfl⟩
     have hv : Hid (gcmp bx by' 0 0 0 0 5057542381537067008 5057542381537067008 = v) := hv'
     clear hv'
     obtain ⟨W1, hW1⟩ : ∃ W1, W1 = wr.alloc (.cells #[.float .f64 bx, .float .f64 by'] 24) := ⟨_, rfl⟩
     have hb1 : Below wr.heap.size wr W1.drew := by rw [hW1]; exact ((Below.refl _ wr).alloc (Nat.le_refl _) _).drew
     have z0 : W1.drew.cell? ⟨wr.heap.size, 0, none⟩ = some (.float .f64 bx) := by rw [hW1]; go_simp
     have z1 : W1.drew.cell? ⟨wr.heap.size, 1, none⟩ = some (.float .f64 by') := by rw [hW1]; go_simp
     have z2 := box_cell hb1 hB.out.1
     have z3 := box_cell hb1 hB.out.2.1
     have HB6 : Hid (Below w.heap.size w W1.drew) := below_step hB.out.2.2 hb1
     go_wp2_with fail
     rw [← hW1]
     clear hW1 hb1
     by_cases hv0 : v = 0
     · have hvd : (v == 0) = true := by simpa using hv0
       refine wp_region_held_drew (S := (fun W => W.cell? ⟨wr.heap.size, 0, none⟩ = some (.float .f64 bx) ∧ W.cell? ⟨wr.heap.size, 1, none⟩ = some (.float .f64 by') ∧ W.cell? ⟨n0, 0, none⟩ = some (.float .f64 0) ∧ W.cell? ⟨n0, 1, none⟩ = some (.float .f64 0) ∧ Below w.heap.size w W)) (by kernel_rfl) ⟨z0, z1, z2, z3, HB6.out⟩ (fun hS => ?_)
       refine takA (i := 0) (d := some 70) (v := .agg #[.float .f64 bx, .float .f64 by']) hS ?_
       simp only [AP]
       refine takA (i := 1) (d := some 71) (v := .agg #[.float .f64 0, .float .f64 0]) hS ?_
       simp only [AP]
       refine takA (i := 2) (d := some 72) (v := .agg #[.float .f64 0, .float .f64 0]) hS ?_
       simp only [AP]
       refine calA 3 fun KF hK => ?_
       go_simp
       refine (at6_any 5057542381537067008 5057542381537067008 _).mono ?_
       rintro e wx ⟨rfl, hbx⟩
       go_wp2_with fail
       refine hK.out _ _ ⟨box_cell hbx hS.1, box_cell hbx hS.2.1, box_cell hbx hS.2.2.1, box_cell hbx hS.2.2.2.1, below_step hS.2.2.2.2 hbx⟩ ?_
       clear hS hbx
       intro hS
       clear hK KF
       try simp only [AP]
       refine calA 4 fun KF hK => ?_
       go_simp
       refine (gcmp_any bx by' 0 0 0 0 5057542381537067008 5057542381537067008 _ v (HT.out.later hS.2.2.2.2) ⟨⟨HW.out.2.1, ⟨by omega, by omega⟩, by omega, by omega⟩, by omega, by omega⟩ hv.out).mono ?_
       rintro e wx ⟨rfl, hbx⟩
       go_wp2_with fail
       refine hK.out _ _ ⟨box_cell hbx hS.1, box_cell hbx hS.2.1, box_cell hbx hS.2.2.1, box_cell hbx hS.2.2.2.1, below_step hS.2.2.2.2 hbx⟩ ?_
       clear hS hbx
       intro hS
       clear hK KF
       try simp only [AP]
       refine takA (i := 5) (d := some 75) (v := .bool true) hS ?_
       simp only [AP]
       refine wpAnyH_done (by kernel_rfl) ?_ _
       have HBE : Hid (Below w.heap.size w _) := hS.2.2.2.2
       clear hS z0 z1 z2 z3 HB6
       go_wp2_with fail
       refine (awake6_any _ (HT.out.later HBE.out)).mono ?_
       rintro e wz ⟨rfl, hbz⟩
       have HBZ : Hid (Below w.heap.size w wz) := below_step HBE.out hbz
       clear hbz
       go_wp2
       go_ret
       exact ⟨rfl, HBZ.out⟩
     · have hvd : (v == 0) = false := by simpa using hv0
       refine wp_region_held_drew (S := (fun W => W.cell? ⟨wr.heap.size, 0, none⟩ = some (.float .f64 bx) ∧ W.cell? ⟨wr.heap.size, 1, none⟩ = some (.float .f64 by') ∧ W.cell? ⟨n0, 0, none⟩ = some (.float .f64 0) ∧ W.cell? ⟨n0, 1, none⟩ = some (.float .f64 0) ∧ Below w.heap.size w W)) (by kernel_rfl) ⟨z0, z1, z2, z3, HB6.out⟩ (fun hS => ?_)
       refine takA (i := 0) (d := some 70) (v := .agg #[.float .f64 bx, .float .f64 by']) hS ?_
       simp only [AP]
       refine takA (i := 1) (d := some 71) (v := .agg #[.float .f64 0, .float .f64 0]) hS ?_
       simp only [AP]
       refine takA (i := 2) (d := some 72) (v := .agg #[.float .f64 0, .float .f64 0]) hS ?_
       simp only [AP]
       refine calA 3 fun KF hK => ?_
       go_simp
       refine (at6_any 5057542381537067008 5057542381537067008 _).mono ?_
       rintro e wx ⟨rfl, hbx⟩
       go_wp2_with fail
       refine hK.out _ _ ⟨box_cell hbx hS.1, box_cell hbx hS.2.1, box_cell hbx hS.2.2.1, box_cell hbx hS.2.2.2.1, below_step hS.2.2.2.2 hbx⟩ ?_
       clear hS hbx
       intro hS
       clear hK KF
       try simp only [AP]
       refine calA 4 fun KF hK => ?_
       go_simp
       refine (gcmp_any bx by' 0 0 0 0 5057542381537067008 5057542381537067008 _ v (HT.out.later hS.2.2.2.2) ⟨⟨HW.out.2.1, ⟨by omega, by omega⟩, by omega, by omega⟩, by omega, by omega⟩ hv.out).mono ?_
       rintro e wx ⟨rfl, hbx⟩
       go_wp2_with fail
       refine hK.out _ _ ⟨box_cell hbx hS.1, box_cell hbx hS.2.1, box_cell hbx hS.2.2.1, box_cell hbx hS.2.2.2.1, below_step hS.2.2.2.2 hbx⟩ ?_
       clear hS hbx
       intro hS
       clear hK KF
       try simp only [AP]
       refine takA (i := 5) (d := some 75) (v := .bool false) hS ?_
       simp only [AP]
       refine wpAnyH_done (by kernel_rfl) ?_ _
       have HH : Hid (_ ∧ _ ∧ Below w.heap.size w _) := ⟨hS.2.2.1, hS.2.2.2.1, hS.2.2.2.2⟩
       have hpt : Pt bx by' := gcmp_pt (by rw [hv.out]; exact hv0)
       clear hS z0 z1 z2 z3 HB6
       go_wp2
       exact ⟨⟨Or.inr (Or.inr (Or.inl ⟨rfl, ⟨hp.out, hpt⟩⟩)), HH.out⟩, by simp [intOf]⟩
   · obtain ⟨v, hv'⟩ : ∃ v, gcmp cx cy 0 0 0 0 5057542381537067008 5057542381537067008 = v := ⟨_, rfl⟩
     have hv : Hid (gcmp cx cy 0 0 0 0 5057542381537067008 5057542381537067008 = v) := hv'
     clear hv'
     obtain ⟨W1, hW1⟩ : ∃ W1, W1 = wr.alloc (.cells #[.float .f64 cx, .float .f64 cy] 24) := ⟨_, rfl⟩
     have hb1 : Below wr.heap.size wr W1.drew := by rw [hW1]; exact ((Below.refl _ wr).alloc (Nat.le_refl _) _).drew
     have z0 : W1.drew.cell? ⟨wr.heap.size, 0, none⟩ = some (.float .f64 cx) := by rw [hW1]; go_simp
     have z1 : W1.drew.cell? ⟨wr.heap.size, 1, none⟩ = some (.float .f64 cy) := by rw [hW1]; go_simp
     have z2 := box_cell hb1 hB.out.1
     have z3 := box_cell hb1 hB.out.2.1
     have HB6 : Hid (Below w.heap.size w W1.drew) := below_step hB.out.2.2 hb1
     go_wp2_with fail
     rw [← hW1]
     clear hW1 hb1
     by_cases hv0 : v = 0
     · have hvd : (v == 0) = true := by simpa using hv0
       refine wp_region_held_drew (S := (fun W => W.cell? ⟨wr.heap.size, 0, none⟩ = some (.float .f64 cx) ∧ W.cell? ⟨wr.heap.size, 1, none⟩ = some (.float .f64 cy) ∧ W.cell? ⟨n0, 0, none⟩ = some (.float .f64 0) ∧ W.cell? ⟨n0, 1, none⟩ = some (.float .f64 0) ∧ Below w.heap.size w W)) (by kernel_rfl) ⟨z0, z1, z2, z3, HB6.out⟩ (fun hS => ?_)
       refine takA (i := 0) (d := some 70) (v := .agg #[.float .f64 cx, .float .f64 cy]) hS ?_
       simp only [AP]
       refine takA (i := 1) (d := some 71) (v := .agg #[.float .f64 0, .float .f64 0]) hS ?_
       simp only [AP]
       refine takA (i := 2) (d := some 72) (v := .agg #[.float .f64 0, .float .f64 0]) hS ?_
       simp only [AP]
       refine calA 3 fun KF hK => ?_
       go_simp
       refine (at6_any 5057542381537067008 5057542381537067008 _).mono ?_
       rintro e wx ⟨rfl, hbx⟩
       go_wp2_with fail
       refine hK.out _ _ ⟨box_cell hbx hS.1, box_cell hbx hS.2.1, box_cell hbx hS.2.2.1, box_cell hbx hS.2.2.2.1, below_step hS.2.2.2.2 hbx⟩ ?_
       clear hS hbx
       intro hS
       clear hK KF
       try simp only [AP]
       refine calA 4 fun KF hK => ?_
       go_simp
       refine (gcmp_any cx cy 0 0 0 0 5057542381537067008 5057542381537067008 _ v (HT.out.later hS.2.2.2.2) ⟨⟨HW.out.2.2.1, ⟨by omega, by omega⟩, by omega, by omega⟩, by omega, by omega⟩ hv.out).mono ?_
       rintro e wx ⟨rfl, hbx⟩
       go_wp2_with fail
       refine hK.out _ _ ⟨box_cell hbx hS.1, box_cell hbx hS.2.1, box_cell hbx hS.2.2.1, box_cell hbx hS.2.2.2.1, below_step hS.2.2.2.2 hbx⟩ ?_
       clear hS hbx
       intro hS
       clear hK KF
       try simp only [AP]
       refine takA (i := 5) (d := some 75) (v := .bool true) hS ?_
       simp only [AP]
       refine wpAnyH_done (by kernel_rfl) ?_ _
       have HBE : Hid (Below w.heap.size w _) := hS.2.2.2.2
       clear hS z0 z1 z2 z3 HB6
       go_wp2_with fail
       refine (awake6_any _ (HT.out.later HBE.out)).mono ?_
       rintro e wz ⟨rfl, hbz⟩
       have HBZ : Hid (Below w.heap.size w wz) := below_step HBE.out hbz
       clear hbz
       go_wp2
       go_ret
       exact ⟨rfl, HBZ.out⟩
     · have hvd : (v == 0) = false := by simpa using hv0
       refine wp_region_held_drew (S := (fun W => W.cell? ⟨wr.heap.size, 0, none⟩ = some (.float .f64 cx) ∧ W.cell? ⟨wr.heap.size, 1, none⟩ = some (.float .f64 cy) ∧ W.cell? ⟨n0, 0, none⟩ = some (.float .f64 0) ∧ W.cell? ⟨n0, 1, none⟩ = some (.float .f64 0) ∧ Below w.heap.size w W)) (by kernel_rfl) ⟨z0, z1, z2, z3, HB6.out⟩ (fun hS => ?_)
       refine takA (i := 0) (d := some 70) (v := .agg #[.float .f64 cx, .float .f64 cy]) hS ?_
       simp only [AP]
       refine takA (i := 1) (d := some 71) (v := .agg #[.float .f64 0, .float .f64 0]) hS ?_
       simp only [AP]
       refine takA (i := 2) (d := some 72) (v := .agg #[.float .f64 0, .float .f64 0]) hS ?_
       simp only [AP]
       refine calA 3 fun KF hK => ?_
       go_simp
       refine (at6_any 5057542381537067008 5057542381537067008 _).mono ?_
       rintro e wx ⟨rfl, hbx⟩
       go_wp2_with fail
       refine hK.out _ _ ⟨box_cell hbx hS.1, box_cell hbx hS.2.1, box_cell hbx hS.2.2.1, box_cell hbx hS.2.2.2.1, below_step hS.2.2.2.2 hbx⟩ ?_
       clear hS hbx
       intro hS
       clear hK KF
       try simp only [AP]
       refine calA 4 fun KF hK => ?_
       go_simp
       refine (gcmp_any cx cy 0 0 0 0 5057542381537067008 5057542381537067008 _ v (HT.out.later hS.2.2.2.2) ⟨⟨HW.out.2.2.1, ⟨by omega, by omega⟩, by omega, by omega⟩, by omega, by omega⟩ hv.out).mono ?_
       rintro e wx ⟨rfl, hbx⟩
       go_wp2_with fail
       refine hK.out _ _ ⟨box_cell hbx hS.1, box_cell hbx hS.2.1, box_cell hbx hS.2.2.1, box_cell hbx hS.2.2.2.1, below_step hS.2.2.2.2 hbx⟩ ?_
       clear hS hbx
       intro hS
       clear hK KF
       try simp only [AP]
       refine takA (i := 5) (d := some 75) (v := .bool false) hS ?_
       simp only [AP]
       refine wpAnyH_done (by kernel_rfl) ?_ _
       have HH : Hid (_ ∧ _ ∧ Below w.heap.size w _) := ⟨hS.2.2.1, hS.2.2.2.1, hS.2.2.2.2⟩
       have hpt : Pt cx cy := gcmp_pt (by rw [hv.out]; exact hv0)
       clear hS z0 z1 z2 z3 HB6
       go_wp2
       exact ⟨⟨Or.inr (Or.inr (Or.inr (Or.inl ⟨rfl, ⟨hp.out.1, hp.out.2, hpt⟩⟩))), HH.out⟩, by simp [intOf]⟩
   · obtain ⟨v, hv'⟩ : ∃ v, gcmp dx dy 0 0 0 0 5057542381537067008 5057542381537067008 = v := ⟨_, rfl⟩
     have hv : Hid (gcmp dx dy 0 0 0 0 5057542381537067008 5057542381537067008 = v) := hv'
     clear hv'
     obtain ⟨W1, hW1⟩ : ∃ W1, W1 = wr.alloc (.cells #[.float .f64 dx, .float .f64 dy] 24) := ⟨_, rfl⟩
     have hb1 : Below wr.heap.size wr W1.drew := by rw [hW1]; exact ((Below.refl _ wr).alloc (Nat.le_refl _) _).drew
     have z0 : W1.drew.cell? ⟨wr.heap.size, 0, none⟩ = some (.float .f64 dx) := by rw [hW1]; go_simp
     have z1 : W1.drew.cell? ⟨wr.heap.size, 1, none⟩ = some (.float .f64 dy) := by rw [hW1]; go_simp
     have z2 := box_cell hb1 hB.out.1
     have z3 := box_cell hb1 hB.out.2.1
     have HB6 : Hid (Below w.heap.size w W1.drew) := below_step hB.out.2.2 hb1
     go_wp2_with fail
     rw [← hW1]
     clear hW1 hb1
     by_cases hv0 : v = 0
     · have hvd : (v == 0) = true := by simpa using hv0
       refine wp_region_held_drew (S := (fun W => W.cell? ⟨wr.heap.size, 0, none⟩ = some (.float .f64 dx) ∧ W.cell? ⟨wr.heap.size, 1, none⟩ = some (.float .f64 dy) ∧ W.cell? ⟨n0, 0, none⟩ = some (.float .f64 0) ∧ W.cell? ⟨n0, 1, none⟩ = some (.float .f64 0) ∧ Below w.heap.size w W)) (by kernel_rfl) ⟨z0, z1, z2, z3, HB6.out⟩ (fun hS => ?_)
       refine takA (i := 0) (d := some 70) (v := .agg #[.float .f64 dx, .float .f64 dy]) hS ?_
       simp only [AP]
       refine takA (i := 1) (d := some 71) (v := .agg #[.float .f64 0, .float .f64 0]) hS ?_
       simp only [AP]
       refine takA (i := 2) (d := some 72) (v := .agg #[.float .f64 0, .float .f64 0]) hS ?_
       simp only [AP]
       refine calA 3 fun KF hK => ?_
       go_simp
       refine (at6_any 5057542381537067008 5057542381537067008 _).mono ?_
       rintro e wx ⟨rfl, hbx⟩
       go_wp2_with fail
       refine hK.out _ _ ⟨box_cell hbx hS.1, box_cell hbx hS.2.1, box_cell hbx hS.2.2.1, box_cell hbx hS.2.2.2.1, below_step hS.2.2.2.2 hbx⟩ ?_
       clear hS hbx
       intro hS
       clear hK KF
       try simp only [AP]
       refine calA 4 fun KF hK => ?_
       go_simp
       refine (gcmp_any dx dy 0 0 0 0 5057542381537067008 5057542381537067008 _ v (HT.out.later hS.2.2.2.2) ⟨⟨HW.out.2.2.2.1, ⟨by omega, by omega⟩, by omega, by omega⟩, by omega, by omega⟩ hv.out).mono ?_
       rintro e wx ⟨rfl, hbx⟩
       go_wp2_with fail
       refine hK.out _ _ ⟨box_cell hbx hS.1, box_cell hbx hS.2.1, box_cell hbx hS.2.2.1, box_cell hbx hS.2.2.2.1, below_step hS.2.2.2.2 hbx⟩ ?_
       clear hS hbx
       intro hS
       clear hK KF
       try simp only [AP]
       refine takA (i := 5) (d := some 75) (v := .bool true) hS ?_
       simp only [AP]
       refine wpAnyH_done (by kernel_rfl) ?_ _
       have HBE : Hid (Below w.heap.size w _) := hS.2.2.2.2
       clear hS z0 z1 z2 z3 HB6
       go_wp2_with fail
       refine (awake6_any _ (HT.out.later HBE.out)).mono ?_
       rintro e wz ⟨rfl, hbz⟩
       have HBZ : Hid (Below w.heap.size w wz) := below_step HBE.out hbz
       clear hbz
       go_wp2
       go_ret
       exact ⟨rfl, HBZ.out⟩
     · have hvd : (v == 0) = false := by simpa using hv0
       refine wp_region_held_drew (S := (fun W => W.cell? ⟨wr.heap.size, 0, none⟩ = some (.float .f64 dx) ∧ W.cell? ⟨wr.heap.size, 1, none⟩ = some (.float .f64 dy) ∧ W.cell? ⟨n0, 0, none⟩ = some (.float .f64 0) ∧ W.cell? ⟨n0, 1, none⟩ = some (.float .f64 0) ∧ Below w.heap.size w W)) (by kernel_rfl) ⟨z0, z1, z2, z3, HB6.out⟩ (fun hS => ?_)
       refine takA (i := 0) (d := some 70) (v := .agg #[.float .f64 dx, .float .f64 dy]) hS ?_
       simp only [AP]
       refine takA (i := 1) (d := some 71) (v := .agg #[.float .f64 0, .float .f64 0]) hS ?_
       simp only [AP]
       refine takA (i := 2) (d := some 72) (v := .agg #[.float .f64 0, .float .f64 0]) hS ?_
       simp only [AP]
       refine calA 3 fun KF hK => ?_
       go_simp
       refine (at6_any 5057542381537067008 5057542381537067008 _).mono ?_
       rintro e wx ⟨rfl, hbx⟩
       go_wp2_with fail
       refine hK.out _ _ ⟨box_cell hbx hS.1, box_cell hbx hS.2.1, box_cell hbx hS.2.2.1, box_cell hbx hS.2.2.2.1, below_step hS.2.2.2.2 hbx⟩ ?_
       clear hS hbx
       intro hS
       clear hK KF
       try simp only [AP]
       refine calA 4 fun KF hK => ?_
       go_simp
       refine (gcmp_any dx dy 0 0 0 0 5057542381537067008 5057542381537067008 _ v (HT.out.later hS.2.2.2.2) ⟨⟨HW.out.2.2.2.1, ⟨by omega, by omega⟩, by omega, by omega⟩, by omega, by omega⟩ hv.out).mono ?_
       rintro e wx ⟨rfl, hbx⟩
       go_wp2_with fail
       refine hK.out _ _ ⟨box_cell hbx hS.1, box_cell hbx hS.2.1, box_cell hbx hS.2.2.1, box_cell hbx hS.2.2.2.1, below_step hS.2.2.2.2 hbx⟩ ?_
       clear hS hbx
       intro hS
       clear hK KF
       try simp only [AP]
       refine takA (i := 5) (d := some 75) (v := .bool false) hS ?_
       simp only [AP]
       refine wpAnyH_done (by kernel_rfl) ?_ _
       have HH : Hid (_ ∧ _ ∧ Below w.heap.size w _) := ⟨hS.2.2.1, hS.2.2.2.1, hS.2.2.2.2⟩
       have hpt : Pt dx dy := gcmp_pt (by rw [hv.out]; exact hv0)
       clear hS z0 z1 z2 z3 HB6
       go_wp2
       exact ⟨⟨Or.inr (Or.inr (Or.inr (Or.inr (Or.inl ⟨rfl, ⟨hp.out.1, hp.out.2.1, hp.out.2.2, hpt⟩⟩)))), HH.out⟩, by simp [intOf]⟩
   · obtain ⟨v, hv'⟩ : ∃ v, gcmp ex ey 0 0 0 0 5057542381537067008 5057542381537067008 = v := ⟨_, rfl⟩
     have hv : Hid (gcmp ex ey 0 0 0 0 5057542381537067008 5057542381537067008 = v) := hv'
     clear hv'
     obtain ⟨W1, hW1⟩ : ∃ W1, W1 = wr.alloc (.cells #[.float .f64 ex, .float .f64 ey] 24) := ⟨_, rfl⟩
     have hb1 : Below wr.heap.size wr W1.drew := by rw [hW1]; exact ((Below.refl _ wr).alloc (Nat.le_refl _) _).drew
     have z0 : W1.drew.cell? ⟨wr.heap.size, 0, none⟩ = some (.float .f64 ex) := by rw [hW1]; go_simp
     have z1 : W1.drew.cell? ⟨wr.heap.size, 1, none⟩ = some (.float .f64 ey) := by rw [hW1]; go_simp
     have z2 := box_cell hb1 hB.out.1
     have z3 := box_cell hb1 hB.out.2.1
     have HB6 : Hid (Below w.heap.size w W1.drew) := below_step hB.out.2.2 hb1
     go_wp2_with fail
     rw [← hW1]
     clear hW1 hb1
     by_cases hv0 : v = 0
     · have hvd : (v == 0) = true := by simpa using hv0
       refine wp_region_held_drew (S := (fun W => W.cell? ⟨wr.heap.size, 0, none⟩ = some (.float .f64 ex) ∧ W.cell? ⟨wr.heap.size, 1, none⟩ = some (.float .f64 ey) ∧ W.cell? ⟨n0, 0, none⟩ = some (.float .f64 0) ∧ W.cell? ⟨n0, 1, none⟩ = some (.float .f64 0) ∧ Below w.heap.size w W)) (by kernel_rfl) ⟨z0, z1, z2, z3, HB6.out⟩ (fun hS => ?_)
       refine takA (i := 0) (d := some 70) (v := .agg #[.float .f64 ex, .float .f64 ey]) hS ?_
       simp only [AP]
       refine takA (i := 1) (d := some 71) (v := .agg #[.float .f64 0, .float .f64 0]) hS ?_
       simp only [AP]
       refine takA (i := 2) (d := some 72) (v := .agg #[.float .f64 0, .float .f64 0]) hS ?_
       simp only [AP]
       refine calA 3 fun KF hK => ?_
       go_simp
       refine (at6_any 5057542381537067008 5057542381537067008 _).mono ?_
       rintro e wx ⟨rfl, hbx⟩
       go_wp2_with fail
       refine hK.out _ _ ⟨box_cell hbx hS.1, box_cell hbx hS.2.1, box_cell hbx hS.2.2.1, box_cell hbx hS.2.2.2.1, below_step hS.2.2.2.2 hbx⟩ ?_
       clear hS hbx
       intro hS
       clear hK KF
       try simp only [AP]
       refine calA 4 fun KF hK => ?_
       go_simp
       refine (gcmp_any ex ey 0 0 0 0 5057542381537067008 5057542381537067008 _ v (HT.out.later hS.2.2.2.2) ⟨⟨HW.out.2.2.2.2.1, ⟨by omega, by omega⟩, by omega, by omega⟩, by omega, by omega⟩ hv.out).mono ?_
       rintro e wx ⟨rfl, hbx⟩
       go_wp2_with fail
       refine hK.out _ _ ⟨box_cell hbx hS.1, box_cell hbx hS.2.1, box_cell hbx hS.2.2.1, box_cell hbx hS.2.2.2.1, below_step hS.2.2.2.2 hbx⟩ ?_
       clear hS hbx
       intro hS
       clear hK KF
       try simp only [AP]
       refine takA (i := 5) (d := some 75) (v := .bool true) hS ?_
       simp only [AP]
       refine wpAnyH_done (by kernel_rfl) ?_ _
       have HBE : Hid (Below w.heap.size w _) := hS.2.2.2.2
       clear hS z0 z1 z2 z3 HB6
       go_wp2_with fail
       refine (awake6_any _ (HT.out.later HBE.out)).mono ?_
       rintro e wz ⟨rfl, hbz⟩
       have HBZ : Hid (Below w.heap.size w wz) := below_step HBE.out hbz
       clear hbz
       go_wp2
       go_ret
       exact ⟨rfl, HBZ.out⟩
     · have hvd : (v == 0) = false := by simpa using hv0
       refine wp_region_held_drew (S := (fun W => W.cell? ⟨wr.heap.size, 0, none⟩ = some (.float .f64 ex) ∧ W.cell? ⟨wr.heap.size, 1, none⟩ = some (.float .f64 ey) ∧ W.cell? ⟨n0, 0, none⟩ = some (.float .f64 0) ∧ W.cell? ⟨n0, 1, none⟩ = some (.float .f64 0) ∧ Below w.heap.size w W)) (by kernel_rfl) ⟨z0, z1, z2, z3, HB6.out⟩ (fun hS => ?_)
       refine takA (i := 0) (d := some 70) (v := .agg #[.float .f64 ex, .float .f64 ey]) hS ?_
       simp only [AP]
       refine takA (i := 1) (d := some 71) (v := .agg #[.float .f64 0, .float .f64 0]) hS ?_
       simp only [AP]
       refine takA (i := 2) (d := some 72) (v := .agg #[.float .f64 0, .float .f64 0]) hS ?_
       simp only [AP]
       refine calA 3 fun KF hK => ?_
       go_simp
       refine (at6_any 5057542381537067008 5057542381537067008 _).mono ?_
       rintro e wx ⟨rfl, hbx⟩
       go_wp2_with fail
       refine hK.out _ _ ⟨box_cell hbx hS.1, box_cell hbx hS.2.1, box_cell hbx hS.2.2.1, box_cell hbx hS.2.2.2.1, below_step hS.2.2.2.2 hbx⟩ ?_
       clear hS hbx
       intro hS
       clear hK KF
       try simp only [AP]
       refine calA 4 fun KF hK => ?_
       go_simp
       refine (gcmp_any ex ey 0 0 0 0 5057542381537067008 5057542381537067008 _ v (HT.out.later hS.2.2.2.2) ⟨⟨HW.out.2.2.2.2.1, ⟨by omega, by omega⟩, by omega, by omega⟩, by omega, by omega⟩ hv.out).mono ?_
       rintro e wx ⟨rfl, hbx⟩
       go_wp2_with fail
       refine hK.out _ _ ⟨box_cell hbx hS.1, box_cell hbx hS.2.1, box_cell hbx hS.2.2.1, box_cell hbx hS.2.2.2.1, below_step hS.2.2.2.2 hbx⟩ ?_
       clear hS hbx
       intro hS
       clear hK KF
       try simp only [AP]
       refine takA (i := 5) (d := some 75) (v := .bool false) hS ?_
       simp only [AP]
       refine wpAnyH_done (by kernel_rfl) ?_ _
       have HH : Hid (_ ∧ _ ∧ Below w.heap.size w _) := ⟨hS.2.2.1, hS.2.2.2.1, hS.2.2.2.2⟩
       have hpt : Pt ex ey := gcmp_pt (by rw [hv.out]; exact hv0)
       clear hS z0 z1 z2 z3 HB6
       go_wp2
       exact ⟨⟨Or.inr (Or.inr (Or.inr (Or.inr (Or.inr (Or.inl ⟨rfl, ⟨hp.out.1, hp.out.2.1, hp.out.2.2.1, hp.out.2.2.2, hpt⟩⟩))))), HH.out⟩, by simp [intOf]⟩
   · obtain ⟨v, hv'⟩ : ∃ v, gcmp fx fy 0 0 0 0 5057542381537067008 5057542381537067008 = v := ⟨_, rfl⟩
     have hv : Hid (gcmp fx fy 0 0 0 0 5057542381537067008 5057542381537067008 = v) := hv'
     clear hv'
     obtain ⟨W1, hW1⟩ : ∃ W1, W1 = wr.alloc (.cells #[.float .f64 fx, .float .f64 fy] 24) := ⟨_, rfl⟩
     have hb1 : Below wr.heap.size wr W1.drew := by rw [hW1]; exact ((Below.refl _ wr).alloc (Nat.le_refl _) _).drew
     have z0 : W1.drew.cell? ⟨wr.heap.size, 0, none⟩ = some (.float .f64 fx) := by rw [hW1]; go_simp
     have z1 : W1.drew.cell? ⟨wr.heap.size, 1, none⟩ = some (.float .f64 fy) := by rw [hW1]; go_simp
     have z2 := box_cell hb1 hB.out.1
     have z3 := box_cell hb1 hB.out.2.1
     have HB6 : Hid (Below w.heap.size w W1.drew) := below_step hB.out.2.2 hb1
     go_wp2_with fail
     rw [← hW1]
     clear hW1 hb1
     by_cases hv0 : v = 0
     · have hvd : (v == 0) = true := by simpa using hv0
       refine wp_region_held_drew (S := (fun W => W.cell? ⟨wr.heap.size, 0, none⟩ = some (.float .f64 fx) ∧ W.cell? ⟨wr.heap.size, 1, none⟩ = some (.float .f64 fy) ∧ W.cell? ⟨n0, 0, none⟩ = some (.float .f64 0) ∧ W.cell? ⟨n0, 1, none⟩ = some (.float .f64 0) ∧ Below w.heap.size w W)) (by kernel_rfl) ⟨z0, z1, z2, z3, HB6.out⟩ (fun hS => ?_)
       refine takA (i := 0) (d := some 70) (v := .agg #[.float .f64 fx, .float .f64 fy]) hS ?_
       simp only [AP]
       refine takA (i := 1) (d := some 71) (v := .agg #[.float .f64 0, .float .f64 0]) hS ?_
       simp only [AP]
       refine takA (i := 2) (d := some 72) (v := .agg #[.float .f64 0, .float .f64 0]) hS ?_
       simp only [AP]
       refine calA 3 fun KF hK => ?_
       go_simp
       refine (at6_any 5057542381537067008 5057542381537067008 _).mono ?_
       rintro e wx ⟨rfl, hbx⟩
       go_wp2_with fail
       refine hK.out _ _ ⟨box_cell hbx hS.1, box_cell hbx hS.2.1, box_cell hbx hS.2.2.1, box_cell hbx hS.2.2.2.1, below_step hS.2.2.2.2 hbx⟩ ?_
       clear hS hbx
       intro hS
       clear hK KF
       try simp only [AP]
       refine calA 4 fun KF hK => ?_
       go_simp
       refine (gcmp_any fx fy 0 0 0 0 5057542381537067008 5057542381537067008 _ v (HT.out.later hS.2.2.2.2) ⟨⟨HW.out.2.2.2.2.2, ⟨by omega, by omega⟩, by omega, by omega⟩, by omega, by omega⟩ hv.out).mono ?_
       rintro e wx ⟨rfl, hbx⟩
       go_wp2_with fail
       refine hK.out _ _ ⟨box_cell hbx hS.1, box_cell hbx hS.2.1, box_cell hbx hS.2.2.1, box_cell hbx hS.2.2.2.1, below_step hS.2.2.2.2 hbx⟩ ?_
       clear hS hbx
       intro hS
       clear hK KF
       try simp only [AP]
       refine takA (i := 5) (d := some 75) (v := .bool true) hS ?_
       simp only [AP]
       refine wpAnyH_done (by kernel_rfl) ?_ _
       have HBE : Hid (Below w.heap.size w _) := hS.2.2.2.2
       clear hS z0 z1 z2 z3 HB6
       go_wp2_with fail
       refine (awake6_any _ (HT.out.later HBE.out)).mono ?_
       rintro e wz ⟨rfl, hbz⟩
       have HBZ : Hid (Below w.heap.size w wz) := below_step HBE.out hbz
       clear hbz
       go_wp2
       go_ret
       exact ⟨rfl, HBZ.out⟩
     · have hvd : (v == 0) = false := by simpa using hv0
       refine wp_region_held_drew (S := (fun W => W.cell? ⟨wr.heap.size, 0, none⟩ = some (.float .f64 fx) ∧ W.cell? ⟨wr.heap.size, 1, none⟩ = some (.float .f64 fy) ∧ W.cell? ⟨n0, 0, none⟩ = some (.float .f64 0) ∧ W.cell? ⟨n0, 1, none⟩ = some (.float .f64 0) ∧ Below w.heap.size w W)) (by kernel_rfl) ⟨z0, z1, z2, z3, HB6.out⟩ (fun hS => ?_)
       refine takA (i := 0) (d := some 70) (v := .agg #[.float .f64 fx, .float .f64 fy]) hS ?_
       simp only [AP]
       refine takA (i := 1) (d := some 71) (v := .agg #[.float .f64 0, .float .f64 0]) hS ?_
       simp only [AP]
       refine takA (i := 2) (d := some 72) (v := .agg #[.float .f64 0, .float .f64 0]) hS ?_
       simp only [AP]
       refine calA 3 fun KF hK => ?_
       go_simp
       refine (at6_any 5057542381537067008 5057542381537067008 _).mono ?_
       rintro e wx ⟨rfl, hbx⟩
       go_wp2_with fail
       refine hK.out _ _ ⟨box_cell hbx hS.1, box_cell hbx hS.2.1, box_cell hbx hS.2.2.1, box_cell hbx hS.2.2.2.1, below_step hS.2.2.2.2 hbx⟩ ?_
       clear hS hbx
       intro hS
       clear hK KF
       try simp only [AP]
       refine calA 4 fun KF hK => ?_
       go_simp
       refine (gcmp_any fx fy 0 0 0 0 5057542381537067008 5057542381537067008 _ v (HT.out.later hS.2.2.2.2) ⟨⟨HW.out.2.2.2.2.2, ⟨by omega, by omega⟩, by omega, by omega⟩, by omega, by omega⟩ hv.out).mono ?_
       rintro e wx ⟨rfl, hbx⟩
       go_wp2_with fail
       refine hK.out _ _ ⟨box_cell hbx hS.1, box_cell hbx hS.2.1, box_cell hbx hS.2.2.1, box_cell hbx hS.2.2.2.1, below_step hS.2.2.2.2 hbx⟩ ?_
       clear hS hbx
       intro hS
       clear hK KF
       try simp only [AP]
       refine takA (i := 5) (d := some 75) (v := .bool false) hS ?_
       simp only [AP]
       refine wpAnyH_done (by kernel_rfl) ?_ _
       have HH : Hid (_ ∧ _ ∧ Below w.heap.size w _) := ⟨hS.2.2.1, hS.2.2.2.1, hS.2.2.2.2⟩
       have hpt : Pt fx fy := gcmp_pt (by rw [hv.out]; exact hv0)
       clear hS z0 z1 z2 z3 HB6
       go_wp2
       exact ⟨⟨Or.inr (Or.inr (Or.inr (Or.inr (Or.inr (Or.inr (⟨rfl, ⟨hp.out.1, hp.out.2.1, hp.out.2.2.1, hp.out.2.2.2.1, hp.out.2.2.2.2, hpt⟩⟩)))))), HH.out⟩, by simp [intOf]⟩
   · have tr := gcmp_trans hp.out
     rw [HX.out.1, HX.out.2.1, HX.out.2.2] at tr
     have h3 := HS3.out
     have HBE : Hid (Below w.heap.size w wr) := hB.out.2.2
     clear hp hB HX HY HS3
     obtain ⟨h3x, h3y, h3z⟩ := h3
     rcases h3x with rfl | rfl | rfl <;> rcases h3y with rfl | rfl | rfl <;> rcases h3z with rfl | rfl | rfl <;> first
       | (exfalso; omega)
       | (clear tr
          go_wp2_with fail
          refine (awake6_any _ (HT.out.later HBE.out)).mono ?_
          rintro e wz ⟨rfl, hbz⟩
          have HBZ : Hid (Below w.heap.size w wz) := below_step HBE.out hbz
          clear hbz
          go_wp2
          go_ret
          exact ⟨rfl, HBZ.out⟩)

end Go.Proofs.YtocnkgfoffpbfaaGreatDoor
