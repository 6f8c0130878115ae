/- Own texts, put together: Ch Ci. -/
import Derived.Test.YtghchejehlljkaaP11
import Derived.Test.YtghchejehlljkaaP17
import Derived.Test.YtghchejehlljkaaP18
/- Circles: Sign, Within. -/
namespace Go.Proofs.Ytghchejehlljkaa
open Go.RowKit Go.Shelf
attribute [local go_sem ↓] Go.wp_at_zero Go.wp_at_succ
attribute [local go_sem] run_store_float

noncomputable def sg4 (ax ay bx by' cx cy dx dy : Nat) : Int := @ite _ (P4 ax ay bx by' cx cy dx dy) (Classical.propDecidable _) (sgq (S4 ax ay bx by' cx cy dx dy)) 0
theorem sg4_yes {ax ay bx by' cx cy dx dy : Nat} (h : P4 ax ay bx by' cx cy dx dy) : sg4 ax ay bx by' cx cy dx dy = sgq (S4 ax ay bx by' cx cy dx dy) := by unfold sg4; rw [if_pos h]
theorem sg4_no {ax ay bx by' cx cy dx dy : Nat} (h : ¬ P4 ax ay bx by' cx cy dx dy) : sg4 ax ay bx by' cx cy dx dy = 0 := by unfold sg4; rw [if_neg h]
theorem sgq_range (q : Rat) : -1 ≤ sgq q ∧ sgq q ≤ 1 := by
  unfold sgq
  split
  · omega
  · split <;> omega
theorem sg4_range (ax ay bx by' cx cy dx dy : Nat) : -1 ≤ sg4 ax ay bx by' cx cy dx dy ∧ sg4 ax ay bx by' cx cy dx dy ≤ 1 := by
  by_cases h : P4 ax ay bx by' cx cy dx dy
  · rw [sg4_yes h]; exact sgq_range _
  · rw [sg4_no h]; omega
theorem sg3_range' (ax ay bx by' cx cy : Nat) : -1 ≤ sg3 ax ay bx by' cx cy ∧ sg3 ax ay bx by' cx cy ≤ 1 := by
  by_cases h : P3 ax ay bx by' cx cy
  · rw [sg3_yes h]; exact sgq_range _
  · rw [sg3_no h]; omega

set_option maxRecDepth 100000 in
set_option maxHeartbeats 2000000 in
theorem sign4_any (ax ay bx by' cx cy dx dy : Nat) (w : World) (hw : W8 ax ay bx by' cx cy dx dy) :
    Calls Try.prog 10 #[pv ax ay, pv bx by', pv cx cy, pv dx dy] w fun e w' => e = .returned (.int .i64 (sg4 ax ay bx by' cx cy dx dy)) ∧ Below w.heap.size w w' := by
  have HW : Hid (W8 ax ay bx by' cx cy dx dy) := hw
  clear hw
  have HS : Hid (B4 w ((((w.alloc (.cells #[.float .f64 ax, .float .f64 ay] 24)).alloc (.cells #[.float .f64 bx, .float .f64 by'] 24)).alloc (.cells #[.float .f64 cx, .float .f64 cy] 24)).alloc (.cells #[.float .f64 dx, .float .f64 dy] 24)) ax ay bx by' cx cy dx dy) := B4.start w ax ay bx by' cx cy dx dy
  go_enter Try.func10, Try.ntmps10
  go_wp2_with fail
  refine (cfast_any ax ay bx by' cx cy dx dy _ HW.out).mono ?_
  rintro e w1 ⟨⟨z, t, rfl, hz⟩, hb1⟩
  have H1 : Hid (B4 w w1 ax ay bx by' cx cy dx dy) := HS.out.later hb1
  have HZ : Hid (CFastR ax ay bx by' cx cy dx dy z t) := hz
  clear hz hb1 HS
  obtain ⟨u0, u1, u2, u3, u4, u5, u6, u7, _⟩ := H1.out
  cases t
  · go_wp2_with fail
    refine (has4 ax ay bx by' cx cy dx dy _ HW.out).mono ?_
    rintro e w2 ⟨⟨t, rfl, ht⟩, hb2⟩
    have H2 : Hid (B4 w w2 ax ay bx by' cx cy dx dy) := H1.out.later hb2
    have HT : Hid (t = true ↔ P4 ax ay bx by' cx cy dx dy) := ht
    clear ht hb2 u0 u1 u2 u3 u4 u5 u6 u7
    cases t
    · go_wp2
      go_ret
      exact ⟨by rw [sg4_no (fun h => Bool.noConfusion (HT.out.2 h))]; rfl, H2.out.bel⟩
    · have HP : Hid (P4 ax ay bx by' cx cy dx dy) := HT.out.1 rfl
      obtain ⟨u0, u1, u2, u3, u4, u5, u6, u7, _⟩ := H2.out
      go_wp2_with fail
      refine (cexact_any ax ay bx by' cx cy dx dy _ HW.out HP.out).mono ?_
      rintro e w3 ⟨rfl, hb3⟩
      have H3 : Hid (Below w.heap.size w w3) := below_step H2.out.bel hb3
      clear hb3
      go_wp2
      go_ret
      exact ⟨by rw [sg4_yes HP.out]; rfl, H3.out⟩
  · go_wp2
    go_ret
    exact ⟨by rw [sg4_yes (HZ.out.1 rfl).1, (HZ.out.1 rfl).2]; rfl, H1.out.bel⟩

set_option maxRecDepth 100000 in
set_option maxHeartbeats 2000000 in
theorem within_any (ax ay bx by' cx cy dx dy : Nat) (w : World) (hw : W8 ax ay bx by' cx cy dx dy) :
    Calls Try.prog 15 #[pv ax ay, pv bx by', pv cx cy, pv dx dy] w fun e w' => e = .returned (.bool (decide (0 < sg3 ax ay bx by' cx cy * sg4 ax ay bx by' cx cy dx dy))) ∧ Below w.heap.size w w' := by
  have HW : Hid (W8 ax ay bx by' cx cy dx dy) := hw
  clear hw
  have h1 := sg3_range' ax ay bx by' cx cy
  have h2 := sg4_range ax ay bx by' cx cy dx dy
  have HS3 : Hid (∀ w, Calls Try.prog 19 #[pv ax ay, pv bx by', pv cx cy] w fun e w' => e = .returned (.int .i64 (sg3 ax ay bx by' cx cy)) ∧ Below w.heap.size w w') := fun w => sign3_any _ _ _ _ _ _ w HW.out.1
  have HS4 : Hid (∀ w, Calls Try.prog 10 #[pv ax ay, pv bx by', pv cx cy, pv dx dy] w fun e w' => e = .returned (.int .i64 (sg4 ax ay bx by' cx cy dx dy)) ∧ Below w.heap.size w w') := fun w => sign4_any ax ay bx by' cx cy dx dy w HW.out
  generalize sg3 ax ay bx by' cx cy = z1 at *
  generalize sg4 ax ay bx by' cx cy dx dy = z2 at *
  have hz := int_mul_bound (a := z1) (b := z2) (k := 1) (m := 1) (by omega) (by omega) (by omega) (by omega)
  have hm : IntKind.i64.wrap (z1 * z2) = z1 * z2 := wrapE _ (by omega) (by omega)
  obtain ⟨tt, htt⟩ : ∃ tt, decide (0 < z1 * z2) = tt := ⟨_, rfl⟩
  have HT : Hid (decide (0 < z1 * z2) = tt) := htt
  clear hz h1 h2
  go_enter Try.func15, Try.ntmps15
  go_wp2_with fail
  have hS0 := B4.start w ax ay bx by' cx cy dx dy
  obtain ⟨W4, hW4⟩ : ∃ W4, W4 = ((((w.alloc (.cells #[.float .f64 ax, .float .f64 ay] 24)).alloc (.cells #[.float .f64 bx, .float .f64 by'] 24)).alloc (.cells #[.float .f64 cx, .float .f64 cy] 24)).alloc (.cells #[.float .f64 dx, .float .f64 dy] 24)) := ⟨_, rfl⟩
  rw [← hW4] at hS0 ⊢
  clear hW4
  have HB : Hid (Below w.heap.size w W4) := hS0.bel
  obtain ⟨za0, za1, zb0, zb1, zc0, zc1, zd0, zd1, _⟩ := hS0
  refine wp_region_held_drew (S := (fun W => W.cell? ⟨w.heap.size, 0, none⟩ = some (.float .f64 ax) ∧ W.cell? ⟨w.heap.size, 1, none⟩ = some (.float .f64 ay) ∧ W.cell? ⟨w.heap.size + 1, 0, none⟩ = some (.float .f64 bx) ∧ W.cell? ⟨w.heap.size + 1, 1, none⟩ = some (.float .f64 by') ∧ W.cell? ⟨w.heap.size + 1 + 1, 0, none⟩ = some (.float .f64 cx) ∧ W.cell? ⟨w.heap.size + 1 + 1, 1, none⟩ = some (.float .f64 cy) ∧ W.cell? ⟨w.heap.size + 1 + 1 + 1, 0, none⟩ = some (.float .f64 dx) ∧ W.cell? ⟨w.heap.size + 1 + 1 + 1, 1, none⟩ = some (.float .f64 dy) ∧ Below w.heap.size w W)) (by kernel_rfl) ⟨za0, za1, zb0, zb1, zc0, zc1, zd0, zd1, HB.out.drew⟩ (fun hS => ?_)
  refine take_at (i := 0) (d := some 9) (v := .agg #[.float .f64 ax, .float .f64 ay]) (by kernel_rfl) (by kernel_rfl) (by kernel_rfl) (by kernel_rfl) (fun _ _ _ h => h) ?_ hS ?_
  · intro o ho
    simp only [List.getElem?_toArray, List.getElem?_cons_zero, Option.some.injEq] at ho
    subst ho
    refine Or.inl ⟨by rfl, ?_⟩
    intro w hSw
    (try dsimp only at hSw)
    go_simp
  simp only [Act.put, List.setIfInBounds_toArray, List.set_cons_zero, List.set_cons_succ]
  refine take_at (i := 1) (d := some 10) (v := .agg #[.float .f64 bx, .float .f64 by']) (by kernel_rfl) (by kernel_rfl) (by kernel_rfl) (by kernel_rfl) (fun _ _ _ h => h) ?_ hS ?_
  · intro o ho
    simp only [List.getElem?_toArray, List.getElem?_cons_succ, List.getElem?_cons_zero, Option.some.injEq] at ho
    subst ho
    refine Or.inl ⟨by rfl, ?_⟩
    intro w hSw
    (try dsimp only at hSw)
    go_simp
  simp only [Act.put, List.setIfInBounds_toArray, List.set_cons_zero, List.set_cons_succ]
  refine take_at (i := 2) (d := some 11) (v := .agg #[.float .f64 cx, .float .f64 cy]) (by kernel_rfl) (by kernel_rfl) (by kernel_rfl) (by kernel_rfl) (fun _ _ _ h => h) ?_ hS ?_
  · intro o ho
    simp only [List.getElem?_toArray, List.getElem?_cons_succ, List.getElem?_cons_zero, Option.some.injEq] at ho
    subst ho
    refine Or.inl ⟨by rfl, ?_⟩
    intro w hSw
    (try dsimp only at hSw)
    go_simp
  simp only [Act.put, List.setIfInBounds_toArray, List.set_cons_zero, List.set_cons_succ]
  refine take_at (i := 4) (d := some 13) (v := .agg #[.float .f64 ax, .float .f64 ay]) (by kernel_rfl) (by kernel_rfl) (by kernel_rfl) (by kernel_rfl) (fun _ _ _ h => h) ?_ hS ?_
  · intro o ho
    simp only [List.getElem?_toArray, List.getElem?_cons_succ, List.getElem?_cons_zero, Option.some.injEq] at ho
    subst ho
    refine Or.inl ⟨by rfl, ?_⟩
    intro w hSw
    (try dsimp only at hSw)
    go_simp
  simp only [Act.put, List.setIfInBounds_toArray, List.set_cons_zero, List.set_cons_succ]
  refine take_at (i := 5) (d := some 14) (v := .agg #[.float .f64 bx, .float .f64 by']) (by kernel_rfl) (by kernel_rfl) (by kernel_rfl) (by kernel_rfl) (fun _ _ _ h => h) ?_ hS ?_
  · intro o ho
    simp only [List.getElem?_toArray, List.getElem?_cons_succ, List.getElem?_cons_zero, Option.some.injEq] at ho
    subst ho
    refine Or.inl ⟨by rfl, ?_⟩
    intro w hSw
    (try dsimp only at hSw)
    go_simp
  simp only [Act.put, List.setIfInBounds_toArray, List.set_cons_zero, List.set_cons_succ]
  refine take_at (i := 6) (d := some 15) (v := .agg #[.float .f64 cx, .float .f64 cy]) (by kernel_rfl) (by kernel_rfl) (by kernel_rfl) (by kernel_rfl) (fun _ _ _ h => h) ?_ hS ?_
  · intro o ho
    simp only [List.getElem?_toArray, List.getElem?_cons_succ, List.getElem?_cons_zero, Option.some.injEq] at ho
    subst ho
    refine Or.inl ⟨by rfl, ?_⟩
    intro w hSw
    (try dsimp only at hSw)
    go_simp
  simp only [Act.put, List.setIfInBounds_toArray, List.set_cons_zero, List.set_cons_succ]
  refine take_at (i := 7) (d := some 16) (v := .agg #[.float .f64 dx, .float .f64 dy]) (by kernel_rfl) (by kernel_rfl) (by kernel_rfl) (by kernel_rfl) (fun _ _ _ h => h) ?_ hS ?_
  · intro o ho
    simp only [List.getElem?_toArray, List.getElem?_cons_succ, List.getElem?_cons_zero, Option.some.injEq] at ho
    subst ho
    refine Or.inl ⟨by rfl, ?_⟩
    intro w hSw
    (try dsimp only at hSw)
    go_simp
  simp only [Act.put, List.setIfInBounds_toArray, List.set_cons_zero, List.set_cons_succ]
  refine call_at 3 (by kernel_rfl) (by kernel_rfl) ?_
  intro o ho
  simp only [List.getElem?_toArray, List.getElem?_cons_succ, List.getElem?_cons_zero, Option.some.injEq] at ho
  subst ho
  intro KF hK
  go_simp
  refine (HS3.out _).mono ?_
  rintro e wx ⟨rfl, hbx⟩
  go_wp2_with fail
  refine hK.out _ _ ⟨box_cell hbx hS.1, box_cell hbx hS.2.1, box_cell hbx hS.2.2.1, box_cell hbx hS.2.2.2.1, box_cell hbx hS.2.2.2.2.1, box_cell hbx hS.2.2.2.2.2.1, box_cell hbx hS.2.2.2.2.2.2.1, box_cell hbx hS.2.2.2.2.2.2.2.1, below_step hS.2.2.2.2.2.2.2.2 hbx⟩ ?_
  clear hS hbx
  intro hS
  clear hK KF
  try simp only [Act.put, List.setIfInBounds_toArray, List.set_cons_zero, List.set_cons_succ]
  refine call_at 8 (by kernel_rfl) (by kernel_rfl) ?_
  intro o ho
  simp only [List.getElem?_toArray, List.getElem?_cons_succ, List.getElem?_cons_zero, Option.some.injEq] at ho
  subst ho
  intro KF hK
  go_simp
  refine (HS4.out _).mono ?_
  rintro e wx ⟨rfl, hbx⟩
  go_wp2_with fail
  refine hK.out _ _ ⟨box_cell hbx hS.1, box_cell hbx hS.2.1, box_cell hbx hS.2.2.1, box_cell hbx hS.2.2.2.1, box_cell hbx hS.2.2.2.2.1, box_cell hbx hS.2.2.2.2.2.1, box_cell hbx hS.2.2.2.2.2.2.1, box_cell hbx hS.2.2.2.2.2.2.2.1, below_step hS.2.2.2.2.2.2.2.2 hbx⟩ ?_
  clear hS hbx
  intro hS
  clear hK KF
  try simp only [Act.put, List.setIfInBounds_toArray, List.set_cons_zero, List.set_cons_succ]
  refine take_at (i := 9) (d := some 18) (v := .int .i64 (z1 * z2)) (by kernel_rfl) (by kernel_rfl) (by kernel_rfl) (by kernel_rfl) (fun _ _ _ h => h) ?_ hS ?_
  · intro o ho
    simp only [List.getElem?_toArray, List.getElem?_cons_succ, List.getElem?_cons_zero, Option.some.injEq] at ho
    subst ho
    refine Or.inl ⟨by rfl, ?_⟩
    intro w hSw
    (try dsimp only at hSw)
    go_simp
  simp only [Act.put, List.setIfInBounds_toArray, List.set_cons_zero, List.set_cons_succ]
  refine take_at (i := 10) (d := some 19) (v := .bool tt) (by kernel_rfl) (by kernel_rfl) (by kernel_rfl) (by kernel_rfl) (fun _ _ _ h => h) ?_ hS ?_
  · intro o ho
    simp only [List.getElem?_toArray, List.getElem?_cons_succ, List.getElem?_cons_zero, Option.some.injEq] at ho
    subst ho
    refine Or.inl ⟨by rfl, ?_⟩
    intro w hSw
    (try dsimp only at hSw)
    go_simp
  simp only [Act.put, List.setIfInBounds_toArray, List.set_cons_zero, List.set_cons_succ]
  refine take_at (i := 11) (d := some 8) (v := .bool tt) (by kernel_rfl) (by kernel_rfl) (by kernel_rfl) (by kernel_rfl) (fun _ _ _ h => h) ?_ hS ?_
  · intro o ho
    simp only [List.getElem?_toArray, List.getElem?_cons_succ, List.getElem?_cons_zero, Option.some.injEq] at ho
    subst ho
    refine Or.inl ⟨by rfl, ?_⟩
    intro w hSw
    (try dsimp only at hSw)
    go_simp
  simp only [Act.put, List.setIfInBounds_toArray, List.set_cons_zero, List.set_cons_succ]
  refine wpAnyH_done (by kernel_rfl) ?_ _
  have HE : Hid (Below w.heap.size w wx) := hS.2.2.2.2.2.2.2.2
  clear hS
  go_wp2
  go_ret
  exact ⟨by rw [HT.out]; rfl, HE.out⟩

end Go.Proofs.Ytghchejehlljkaa

/- Circles: all orders of four points; the statements' first question. -/
namespace Go.Proofs.Ytghchejehlljkaa
open Go.RowKit Go.Shelf
attribute [local go_sem ↓] Go.wp_at_zero Go.wp_at_succ
attribute [local go_sem] run_store_float

theorem sgq_minus' (q : Rat) : sgq (-q) = -sgq q := by
  unfold sgq
  rcases (by grind : q < 0 ∨ q = 0 ∨ 0 < q) with h | h | h
  · rw [if_neg (by grind), if_neg (by grind), if_pos h]; omega
  · rw [h]; decide +kernel
  · rw [if_pos (by grind), if_neg (by grind), if_neg (by grind)]
theorem det3_34 (x0 y0 x1 y1 x2 y2 : Rat) : det3 (x0 - x2) (y0 - y2) (x1 - x2) (y1 - y2) (-x2) (-y2) = -det3 x0 y0 x1 y1 x2 y2 := by
  unfold det3
  grind
theorem S4_12 (ax ay bx by' cx cy dx dy : Nat) : S4 bx by' ax ay cx cy dx dy = -S4 ax ay bx by' cx cy dx dy := by
  unfold S4 det3
  generalize fval ax - fval dx = x0
  generalize fval ay - fval dy = y0
  generalize fval bx - fval dx = x1
  generalize fval by' - fval dy = y1
  generalize fval cx - fval dx = x2
  generalize fval cy - fval dy = y2
  grind
theorem S4_23 (ax ay bx by' cx cy dx dy : Nat) : S4 ax ay cx cy bx by' dx dy = -S4 ax ay bx by' cx cy dx dy := by
  unfold S4 det3
  generalize fval ax - fval dx = x0
  generalize fval ay - fval dy = y0
  generalize fval bx - fval dx = x1
  generalize fval by' - fval dy = y1
  generalize fval cx - fval dx = x2
  generalize fval cy - fval dy = y2
  grind
theorem S4_34 (ax ay bx by' cx cy dx dy : Nat) : S4 ax ay bx by' dx dy cx cy = -S4 ax ay bx by' cx cy dx dy := by
  have h := det3_34 (fval ax - fval dx) (fval ay - fval dy) (fval bx - fval dx) (fval by' - fval dy) (fval cx - fval dx) (fval cy - fval dy)
  unfold S4
  rw [← h]
  congr 1 <;> grind
theorem sg4_12 (ax ay bx by' cx cy dx dy : Nat) : sg4 bx by' ax ay cx cy dx dy = -sg4 ax ay bx by' cx cy dx dy := by
  by_cases h : P4 ax ay bx by' cx cy dx dy
  · rw [sg4_yes h, sg4_yes ⟨⟨h.1.2.1, h.1.1, h.1.2.2⟩, h.2⟩, ← sgq_minus', S4_12]
  · rw [sg4_no h, sg4_no (fun h' => h ⟨⟨h'.1.2.1, h'.1.1, h'.1.2.2⟩, h'.2⟩)]; omega
theorem sg4_23 (ax ay bx by' cx cy dx dy : Nat) : sg4 ax ay cx cy bx by' dx dy = -sg4 ax ay bx by' cx cy dx dy := by
  by_cases h : P4 ax ay bx by' cx cy dx dy
  · rw [sg4_yes h, sg4_yes ⟨⟨h.1.1, h.1.2.2, h.1.2.1⟩, h.2⟩, ← sgq_minus', S4_23]
  · rw [sg4_no h, sg4_no (fun h' => h ⟨⟨h'.1.1, h'.1.2.2, h'.1.2.1⟩, h'.2⟩)]; omega
theorem sg4_34 (ax ay bx by' cx cy dx dy : Nat) : sg4 ax ay bx by' dx dy cx cy = -sg4 ax ay bx by' cx cy dx dy := by
  by_cases h : P4 ax ay bx by' cx cy dx dy
  · rw [sg4_yes h, sg4_yes ⟨⟨h.1.1, h.1.2.1, h.2⟩, h.1.2.2⟩, ← sgq_minus', S4_34]
  · rw [sg4_no h, sg4_no (fun h' => h ⟨⟨h'.1.1, h'.1.2.1, h'.2⟩, h'.1.2.2⟩)]; omega

theorem sign4_is (ax ay bx by' cx cy dx dy : Nat) (w : World) (z : Int) (hw : W8 ax ay bx by' cx cy dx dy) (hz : sg4 ax ay bx by' cx cy dx dy = z) :
    Calls Try.prog 10 #[pv ax ay, pv bx by', pv cx cy, pv dx dy] w fun e w' => e = .returned (.int .i64 z) ∧ Below w.heap.size w w' := by
  rw [← hz]
  exact sign4_any ax ay bx by' cx cy dx dy w hw
theorem within_is (ax ay bx by' cx cy dx dy : Nat) (w : World) (t : Bool) (hw : W8 ax ay bx by' cx cy dx dy) (ht : decide (0 < sg3 ax ay bx by' cx cy * sg4 ax ay bx by' cx cy dx dy) = t) :
    Calls Try.prog 15 #[pv ax ay, pv bx by', pv cx cy, pv dx dy] w fun e w' => e = .returned (.bool t) ∧ Below w.heap.size w w' := by
  rw [← ht]
  exact within_any ax ay bx by' cx cy dx dy w hw

instance (ax ay bx by' cx cy dx dy : Nat) : Decidable (P4 ax ay bx by' cx cy dx dy) := by unfold P4; exact inferInstance
theorem sg4_is {ax ay bx by' cx cy dx dy : Nat} {z : Int} (h : P4 ax ay bx by' cx cy dx dy ∧ sgq (S4 ax ay bx by' cx cy dx dy) = z) : sg4 ax ay bx by' cx cy dx dy = z := by rw [sg4_yes h.1]; exact h.2
theorem wk1 : sg4 0 0 4611686018427387904 0 0 4611686018427387904 4607182418800017408 4607182418800017408 = 1 := sg4_is (by decide +kernel)
theorem wk2 : sg4 0 0 4611686018427387904 0 0 4611686018427387904 4611686018427387904 4611686018427387904 = 0 := sg4_is (by decide +kernel)
theorem wk3 : sg4 0 0 4611686018427387904 0 0 4611686018427387904 4613937818241073152 4613937818241073152 = -1 := sg4_is (by decide +kernel)
theorem wk4 : sg4 4611686018427387904 0 0 0 0 4611686018427387904 4607182418800017408 4607182418800017408 = -1 := sg4_is (by decide +kernel)
theorem wk5 : sg3 0 0 4611686018427387904 0 0 4611686018427387904 = 1 := sg3_is (by decide +kernel)
theorem wk6 : sg3 4611686018427387904 0 0 0 0 4611686018427387904 = -1 := sg3_is (by decide +kernel)

set_option maxRecDepth 100000 in
set_option maxHeartbeats 4000000 in
theorem works_any (w : World) : Calls Try.prog 9 #[] w fun e w' => e = .returned (.bool true) ∧ Below w.heap.size w w' := by
  have HS : Hid (B3 w (((w.alloc (.cells #[.float .f64 0, .float .f64 0] 24)).alloc (.cells #[.float .f64 4611686018427387904, .float .f64 0] 24)).alloc (.cells #[.float .f64 0, .float .f64 4611686018427387904] 24)) 0 0 4611686018427387904 0 0 4611686018427387904) := B3.start w 0 0 4611686018427387904 0 0 4611686018427387904
  go_enter Try.func9, Try.ntmps9
  go_wp2_with fail
  refine (sign4_is 0 0 4611686018427387904 0 0 4611686018427387904 4607182418800017408 4607182418800017408 _ 1 ⟨⟨⟨by omega, by omega⟩, ⟨by omega, by omega⟩, by omega, by omega⟩, by omega, by omega⟩ wk1).mono ?_
  rintro e w1 ⟨rfl, hb⟩
  have H1 : Hid (B3 w w1 0 0 4611686018427387904 0 0 4611686018427387904) := HS.out.later hb
  clear hb 
  obtain ⟨u0, u1, u2, u3, u4, u5, _⟩ := H1.out
  go_wp2_with fail
  refine (sign4_is 0 0 4611686018427387904 0 0 4611686018427387904 4611686018427387904 4611686018427387904 _ 0 ⟨⟨⟨by omega, by omega⟩, ⟨by omega, by omega⟩, by omega, by omega⟩, by omega, by omega⟩ wk2).mono ?_
  rintro e w2 ⟨rfl, hb⟩
  have H2 : Hid (B3 w w2 0 0 4611686018427387904 0 0 4611686018427387904) := H1.out.later hb
  clear hb u0 u1 u2 u3 u4 u5 H1
  obtain ⟨u0, u1, u2, u3, u4, u5, _⟩ := H2.out
  go_wp2_with fail
  refine (sign4_is 0 0 4611686018427387904 0 0 4611686018427387904 4613937818241073152 4613937818241073152 _ (-1) ⟨⟨⟨by omega, by omega⟩, ⟨by omega, by omega⟩, by omega, by omega⟩, by omega, by omega⟩ wk3).mono ?_
  rintro e w3 ⟨rfl, hb⟩
  have H3 : Hid (B3 w w3 0 0 4611686018427387904 0 0 4611686018427387904) := H2.out.later hb
  clear hb u0 u1 u2 u3 u4 u5 H2
  obtain ⟨u0, u1, u2, u3, u4, u5, _⟩ := H3.out
  go_wp2_with fail
  refine (sign4_is 4611686018427387904 0 0 0 0 4611686018427387904 4607182418800017408 4607182418800017408 _ (-1) ⟨⟨⟨by omega, by omega⟩, ⟨by omega, by omega⟩, by omega, by omega⟩, by omega, by omega⟩ wk4).mono ?_
  rintro e w4 ⟨rfl, hb⟩
  have H4 : Hid (B3 w w4 0 0 4611686018427387904 0 0 4611686018427387904) := H3.out.later hb
  clear hb u0 u1 u2 u3 u4 u5 H3
  obtain ⟨u0, u1, u2, u3, u4, u5, _⟩ := H4.out
  go_wp2_with fail
  refine (within_is 0 0 4611686018427387904 0 0 4611686018427387904 4607182418800017408 4607182418800017408 _ true ⟨⟨⟨by omega, by omega⟩, ⟨by omega, by omega⟩, by omega, by omega⟩, by omega, by omega⟩ (by rw [wk5, wk1]; rfl)).mono ?_
  rintro e w5 ⟨rfl, hb⟩
  have H5 : Hid (B3 w w5 0 0 4611686018427387904 0 0 4611686018427387904) := H4.out.later hb
  clear hb u0 u1 u2 u3 u4 u5 H4
  obtain ⟨u0, u1, u2, u3, u4, u5, _⟩ := H5.out
  go_wp2_with fail
  refine (within_is 4611686018427387904 0 0 0 0 4611686018427387904 4607182418800017408 4607182418800017408 _ true ⟨⟨⟨by omega, by omega⟩, ⟨by omega, by omega⟩, by omega, by omega⟩, by omega, by omega⟩ (by rw [wk6, wk4]; rfl)).mono ?_
  rintro e w6 ⟨rfl, hb⟩
  have H6 : Hid (B3 w w6 0 0 4611686018427387904 0 0 4611686018427387904) := H5.out.later hb
  clear hb u0 u1 u2 u3 u4 u5 H5
  obtain ⟨u0, u1, u2, u3, u4, u5, _⟩ := H6.out
  go_wp2
  go_ret
  exact ⟨rfl, H6.out.bel⟩

end Go.Proofs.Ytghchejehlljkaa
