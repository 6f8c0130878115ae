/- Own texts, put together: Ch Oh Oi Oj Ci Cj Fd Cs. -/
import Derived.Test.YtghchejehlljkaaQ6
import Derived.Test.YtghchejehlljkaaQ11
import Derived.Test.YtghchejehlljkaaQ14
import Derived.Test.YtghchejehlljkaaQ15
/- Circles: Sign, Within. -/
namespace Go.Proofs.Ytghchejehlljkaa
open Go.RowKit Go.Shelf
attribute [local go_sem ↓] Go.wp_at_zero Go.wp_at_succ
attribute [local go_sem] run_store_float

/-- The sign of four points, 0 if one may not be. -/
noncomputable def sg4 (ax ay bx by' cx cy dx dy : Nat) : Int := @ite _ (P4 ax ay bx by' cx cy dx dy) (Classical.propDecidable _) (sgq (S4 ax ay bx by' cx cy dx dy)) 0
theorem sg4_yes {ax ay bx by' cx cy dx dy : Nat} (h : P4 ax ay bx by' cx cy dx dy) : sg4 ax ay bx by' cx cy dx dy = sgq (S4 ax ay bx by' cx cy dx dy) := by unfold sg4; rw [if_pos h]
theorem sg4_no {ax ay bx by' cx cy dx dy : Nat} (h : ¬ P4 ax ay bx by' cx cy dx dy) : sg4 ax ay bx by' cx cy dx dy = 0 := by unfold sg4; rw [if_neg h]
theorem sgq_range (q : Rat) : -1 ≤ sgq q ∧ sgq q ≤ 1 := by
  unfold sgq
  split
  · omega
  · split <;> omega
theorem sg4_range (ax ay bx by' cx cy dx dy : Nat) : -1 ≤ sg4 ax ay bx by' cx cy dx dy ∧ sg4 ax ay bx by' cx cy dx dy ≤ 1 := by
  by_cases h : P4 ax ay bx by' cx cy dx dy
  · rw [sg4_yes h]; exact sgq_range _
  · rw [sg4_no h]; omega
theorem sg3_range' (ax ay bx by' cx cy : Nat) : -1 ≤ sg3 ax ay bx by' cx cy ∧ sg3 ax ay bx by' cx cy ≤ 1 := by
  by_cases h : P3 ax ay bx by' cx cy
  · rw [sg3_yes h]; exact sgq_range _
  · rw [sg3_no h]; omega

set_option maxRecDepth 100000 in
set_option maxHeartbeats 2000000 in
theorem sign4_any (ax ay bx by' cx cy dx dy : Nat) (w : World) (hw : W8 ax ay bx by' cx cy dx dy) :
    Calls Try.prog 10 #[pv ax ay, pv bx by', pv cx cy, pv dx dy] w fun e w' => e = .returned (.int .i64 (sg4 ax ay bx by' cx cy dx dy)) ∧ Below w.heap.size w w' := by
  have HW : Hid (W8 ax ay bx by' cx cy dx dy) := hw
  clear hw
  have HS : Hid (B4 w ((((w.alloc (.cells #[.float .f64 ax, .float .f64 ay] 24)).alloc (.cells #[.float .f64 bx, .float .f64 by'] 24)).alloc (.cells #[.float .f64 cx, .float .f64 cy] 24)).alloc (.cells #[.float .f64 dx, .float .f64 dy] 24)) ax ay bx by' cx cy dx dy) := B4.start w ax ay bx by' cx cy dx dy
  go_enter Try.func10, Try.ntmps10
  go_wp2_with fail
  refine (cfast_any ax ay bx by' cx cy dx dy _ HW.out).mono ?_
  rintro e w1 ⟨⟨z, t, rfl, hz⟩, hb1⟩
  have H1 : Hid (B4 w w1 ax ay bx by' cx cy dx dy) := HS.out.later hb1
  have HZ : Hid (CFastR ax ay bx by' cx cy dx dy z t) := hz
  clear hz hb1 HS
  obtain ⟨u0, u1, u2, u3, u4, u5, u6, u7, _⟩ := H1.out
  cases t
  · go_wp2_with fail
    refine (has4 ax ay bx by' cx cy dx dy _ HW.out).mono ?_
    rintro e w2 ⟨⟨t, rfl, ht⟩, hb2⟩
    have H2 : Hid (B4 w w2 ax ay bx by' cx cy dx dy) := H1.out.later hb2
    have HT : Hid (t = true ↔ P4 ax ay bx by' cx cy dx dy) := ht
    clear ht hb2 u0 u1 u2 u3 u4 u5 u6 u7
    cases t
    · go_wp2
      go_ret
      exact ⟨by rw [sg4_no (fun h => Bool.noConfusion (HT.out.2 h))]; rfl, H2.out.bel⟩
    · have HP : Hid (P4 ax ay bx by' cx cy dx dy) := HT.out.1 rfl
      obtain ⟨u0, u1, u2, u3, u4, u5, u6, u7, _⟩ := H2.out
      go_wp2_with fail
      refine (cexact_any ax ay bx by' cx cy dx dy _ HW.out HP.out).mono ?_
      rintro e w3 ⟨rfl, hb3⟩
      have H3 : Hid (Below w.heap.size w w3) := below_step H2.out.bel hb3
      clear hb3
      go_wp2
      go_ret
      exact ⟨by rw [sg4_yes HP.out]; rfl, H3.out⟩
  · go_wp2
    go_ret
    exact ⟨by rw [sg4_yes (HZ.out.1 rfl).1, (HZ.out.1 rfl).2]; rfl, H1.out.bel⟩

set_option maxRecDepth 100000 in
set_option maxHeartbeats 2000000 in
theorem within_any (ax ay bx by' cx cy dx dy : Nat) (w : World) (hw : W8 ax ay bx by' cx cy dx dy) :
    Calls Try.prog 15 #[pv ax ay, pv bx by', pv cx cy, pv dx dy] w fun e w' => e = .returned (.bool (decide (0 < sg3 ax ay bx by' cx cy * sg4 ax ay bx by' cx cy dx dy))) ∧ Below w.heap.size w w' := by
  have HW : Hid (W8 ax ay bx by' cx cy dx dy) := hw
  clear hw
  have h1 := sg3_range' ax ay bx by' cx cy
  have h2 := sg4_range ax ay bx by' cx cy dx dy
  have HS3 : Hid (∀ w, Calls Try.prog 19 #[pv ax ay, pv bx by', pv cx cy] w fun e w' => e = .returned (.int .i64 (sg3 ax ay bx by' cx cy)) ∧ Below w.heap.size w w') := fun w => sign3_any _ _ _ _ _ _ w HW.out.1
  have HS4 : Hid (∀ w, Calls Try.prog 10 #[pv ax ay, pv bx by', pv cx cy, pv dx dy] w fun e w' => e = .returned (.int .i64 (sg4 ax ay bx by' cx cy dx dy)) ∧ Below w.heap.size w w') := fun w => sign4_any ax ay bx by' cx cy dx dy w HW.out
  generalize sg3 ax ay bx by' cx cy = z1 at *
  generalize sg4 ax ay bx by' cx cy dx dy = z2 at *
  have hz := int_mul_bound (a := z1) (b := z2) (k := 1) (m := 1) (by omega) (by omega) (by omega) (by omega)
  have hm : IntKind.i64.wrap (z1 * z2) = z1 * z2 := wrapE _ (by omega) (by omega)
  obtain ⟨tt, htt⟩ : ∃ tt, decide (0 < z1 * z2) = tt := ⟨_, rfl⟩
  have HT : Hid (decide (0 < z1 * z2) = tt) := htt
  clear hz h1 h2
  go_enter Try.func15, Try.ntmps15
  go_wp2_with fail
  have hS0 := B4.start w ax ay bx by' cx cy dx dy
  obtain ⟨W4, hW4⟩ : ∃ W4, W4 = ((((w.alloc (.cells #[.float .f64 ax, .float .f64 ay] 24)).alloc (.cells #[.float .f64 bx, .float .f64 by'] 24)).alloc (.cells #[.float .f64 cx, .float .f64 cy] 24)).alloc (.cells #[.float .f64 dx, .float .f64 dy] 24)) := ⟨_, rfl⟩
  rw [← hW4] at hS0 ⊢
  clear hW4
  have HB : Hid (Below w.heap.size w W4) := hS0.bel
  obtain ⟨za0, za1, zb0, zb1, zc0, zc1, zd0, zd1, _⟩ := hS0
  refine wp_region_held_drew (S := (fun W => W.cell? ⟨w.heap.size, 0, none⟩ = some (.float .f64 ax) ∧ W.cell? ⟨w.heap.size, 1, none⟩ = some (.float .f64 ay) ∧ W.cell? ⟨w.heap.size + 1, 0, none⟩ = some (.float .f64 bx) ∧ W.cell? ⟨w.heap.size + 1, 1, none⟩ = some (.float .f64 by') ∧ W.cell? ⟨w.heap.size + 1 + 1, 0, none⟩ = some (.float .f64 cx) ∧ W.cell? ⟨w.heap.size + 1 + 1, 1, none⟩ = some (.float .f64 cy) ∧ W.cell? ⟨w.heap.size + 1 + 1 + 1, 0, none⟩ = some (.float .f64 dx) ∧ W.cell? ⟨w.heap.size + 1 + 1 + 1, 1, none⟩ = some (.float .f64 dy) ∧ Below w.heap.size w W)) (by kernel_rfl) ⟨za0, za1, zb0, zb1, zc0, zc1, zd0, zd1, HB.out.drew⟩ (fun hS => ?_)
  refine take_at (i := 0) (d := some 9) (v := .agg #[.float .f64 ax, .float .f64 ay]) (by kernel_rfl) (by kernel_rfl) (by kernel_rfl) (by kernel_rfl) (fun _ _ _ h => h) ?_ hS ?_
  · intro o ho
    simp only [List.getElem?_toArray, List.getElem?_cons_zero, Option.some.injEq] at ho
    subst ho
    refine Or.inl ⟨by rfl, ?_⟩
    intro w hSw
    (try dsimp only at hSw)
    go_simp
  simp only [Act.put, List.setIfInBounds_toArray, List.set_cons_zero, List.set_cons_succ]
  refine take_at (i := 1) (d := some 10) (v := .agg #[.float .f64 bx, .float .f64 by']) (by kernel_rfl) (by kernel_rfl) (by kernel_rfl) (by kernel_rfl) (fun _ _ _ h => h) ?_ hS ?_
  · intro o ho
    simp only [List.getElem?_toArray, List.getElem?_cons_succ, List.getElem?_cons_zero, Option.some.injEq] at ho
    subst ho
    refine Or.inl ⟨by rfl, ?_⟩
    intro w hSw
    (try dsimp only at hSw)
    go_simp
  simp only [Act.put, List.setIfInBounds_toArray, List.set_cons_zero, List.set_cons_succ]
  refine take_at (i := 2) (d := some 11) (v := .agg #[.float .f64 cx, .float .f64 cy]) (by kernel_rfl) (by kernel_rfl) (by kernel_rfl) (by kernel_rfl) (fun _ _ _ h => h) ?_ hS ?_
  · intro o ho
    simp only [List.getElem?_toArray, List.getElem?_cons_succ, List.getElem?_cons_zero, Option.some.injEq] at ho
    subst ho
    refine Or.inl ⟨by rfl, ?_⟩
    intro w hSw
    (try dsimp only at hSw)
    go_simp
  simp only [Act.put, List.setIfInBounds_toArray, List.set_cons_zero, List.set_cons_succ]
  refine take_at (i := 4) (d := some 13) (v := .agg #[.float .f64 ax, .float .f64 ay]) (by kernel_rfl) (by kernel_rfl) (by kernel_rfl) (by kernel_rfl) (fun _ _ _ h => h) ?_ hS ?_
  · intro o ho
    simp only [List.getElem?_toArray, List.getElem?_cons_succ, List.getElem?_cons_zero, Option.some.injEq] at ho
    subst ho
    refine Or.inl ⟨by rfl, ?_⟩
    intro w hSw
    (try dsimp only at hSw)
    go_simp
  simp only [Act.put, List.setIfInBounds_toArray, List.set_cons_zero, List.set_cons_succ]
  refine take_at (i := 5) (d := some 14) (v := .agg #[.float .f64 bx, .float .f64 by']) (by kernel_rfl) (by kernel_rfl) (by kernel_rfl) (by kernel_rfl) (fun _ _ _ h => h) ?_ hS ?_
  · intro o ho
    simp only [List.getElem?_toArray, List.getElem?_cons_succ, List.getElem?_cons_zero, Option.some.injEq] at ho
    subst ho
    refine Or.inl ⟨by rfl, ?_⟩
    intro w hSw
    (try dsimp only at hSw)
    go_simp
  simp only [Act.put, List.setIfInBounds_toArray, List.set_cons_zero, List.set_cons_succ]
  refine take_at (i := 6) (d := some 15) (v := .agg #[.float .f64 cx, .float .f64 cy]) (by kernel_rfl) (by kernel_rfl) (by kernel_rfl) (by kernel_rfl) (fun _ _ _ h => h) ?_ hS ?_
  · intro o ho
    simp only [List.getElem?_toArray, List.getElem?_cons_succ, List.getElem?_cons_zero, Option.some.injEq] at ho
    subst ho
    refine Or.inl ⟨by rfl, ?_⟩
    intro w hSw
    (try dsimp only at hSw)
    go_simp
  simp only [Act.put, List.setIfInBounds_toArray, List.set_cons_zero, List.set_cons_succ]
  refine take_at (i := 7) (d := some 16) (v := .agg #[.float .f64 dx, .float .f64 dy]) (by kernel_rfl) (by kernel_rfl) (by kernel_rfl) (by kernel_rfl) (fun _ _ _ h => h) ?_ hS ?_
  · intro o ho
    simp only [List.getElem?_toArray, List.getElem?_cons_succ, List.getElem?_cons_zero, Option.some.injEq] at ho
    subst ho
    refine Or.inl ⟨by rfl, ?_⟩
    intro w hSw
    (try dsimp only at hSw)
    go_simp
  simp only [Act.put, List.setIfInBounds_toArray, List.set_cons_zero, List.set_cons_succ]
  refine call_at 3 (by kernel_rfl) (by kernel_rfl) ?_
  intro o ho
  simp only [List.getElem?_toArray, List.getElem?_cons_succ, List.getElem?_cons_zero, Option.some.injEq] at ho
  subst ho
  intro KF hK
  go_simp
  refine (HS3.out _).mono ?_
  rintro e wx ⟨rfl, hbx⟩
  go_wp2_with fail
  refine hK.out _ _ ⟨box_cell hbx hS.1, box_cell hbx hS.2.1, box_cell hbx hS.2.2.1, box_cell hbx hS.2.2.2.1, box_cell hbx hS.2.2.2.2.1, box_cell hbx hS.2.2.2.2.2.1, box_cell hbx hS.2.2.2.2.2.2.1, box_cell hbx hS.2.2.2.2.2.2.2.1, below_step hS.2.2.2.2.2.2.2.2 hbx⟩ ?_
  clear hS hbx
  intro hS
  clear hK KF
  try simp only [Act.put, List.setIfInBounds_toArray, List.set_cons_zero, List.set_cons_succ]
  refine call_at 8 (by kernel_rfl) (by kernel_rfl) ?_
  intro o ho
  simp only [List.getElem?_toArray, List.getElem?_cons_succ, List.getElem?_cons_zero, Option.some.injEq] at ho
  subst ho
  intro KF hK
  go_simp
  refine (HS4.out _).mono ?_
  rintro e wx ⟨rfl, hbx⟩
  go_wp2_with fail
  refine hK.out _ _ ⟨box_cell hbx hS.1, box_cell hbx hS.2.1, box_cell hbx hS.2.2.1, box_cell hbx hS.2.2.2.1, box_cell hbx hS.2.2.2.2.1, box_cell hbx hS.2.2.2.2.2.1, box_cell hbx hS.2.2.2.2.2.2.1, box_cell hbx hS.2.2.2.2.2.2.2.1, below_step hS.2.2.2.2.2.2.2.2 hbx⟩ ?_
  clear hS hbx
  intro hS
  clear hK KF
  try simp only [Act.put, List.setIfInBounds_toArray, List.set_cons_zero, List.set_cons_succ]
  refine take_at (i := 9) (d := some 18) (v := .int .i64 (z1 * z2)) (by kernel_rfl) (by kernel_rfl) (by kernel_rfl) (by kernel_rfl) (fun _ _ _ h => h) ?_ hS ?_
  · intro o ho
    simp only [List.getElem?_toArray, List.getElem?_cons_succ, List.getElem?_cons_zero, Option.some.injEq] at ho
    subst ho
    refine Or.inl ⟨by rfl, ?_⟩
    intro w hSw
    (try dsimp only at hSw)
    go_simp
  simp only [Act.put, List.setIfInBounds_toArray, List.set_cons_zero, List.set_cons_succ]
  refine take_at (i := 10) (d := some 19) (v := .bool tt) (by kernel_rfl) (by kernel_rfl) (by kernel_rfl) (by kernel_rfl) (fun _ _ _ h => h) ?_ hS ?_
  · intro o ho
    simp only [List.getElem?_toArray, List.getElem?_cons_succ, List.getElem?_cons_zero, Option.some.injEq] at ho
    subst ho
    refine Or.inl ⟨by rfl, ?_⟩
    intro w hSw
    (try dsimp only at hSw)
    go_simp
  simp only [Act.put, List.setIfInBounds_toArray, List.set_cons_zero, List.set_cons_succ]
  refine take_at (i := 11) (d := some 8) (v := .bool tt) (by kernel_rfl) (by kernel_rfl) (by kernel_rfl) (by kernel_rfl) (fun _ _ _ h => h) ?_ hS ?_
  · intro o ho
    simp only [List.getElem?_toArray, List.getElem?_cons_succ, List.getElem?_cons_zero, Option.some.injEq] at ho
    subst ho
    refine Or.inl ⟨by rfl, ?_⟩
    intro w hSw
    (try dsimp only at hSw)
    go_simp
  simp only [Act.put, List.setIfInBounds_toArray, List.set_cons_zero, List.set_cons_succ]
  refine wpAnyH_done (by kernel_rfl) ?_ _
  have HE : Hid (Below w.heap.size w wx) := hS.2.2.2.2.2.2.2.2
  clear hS
  go_wp2
  go_ret
  exact ⟨by rw [HT.out]; rfl, HE.out⟩

end Go.Proofs.Ytghchejehlljkaa

/- Package orient: On, Cross. -/
namespace Go.Proofs.Ytghchejehlljkaa
open Go.RowKit Go.Shelf
attribute [local go_sem ↓] Go.wp_at_zero Go.wp_at_succ
attribute [local go_sem] run_store_float

theorem run_minF {a b : Nat} (fa : Fin64 a) (fb : Fin64 b) : ∃ m, (∀ w, (Builtin.min_ #[22, 22] 22 #[.float .f64 a, .float .f64 b]).run Try.prog w = .ok (.float .f64 m) w) ∧ (m = a ∨ m = b) ∧ fval m ≤ fval a ∧ fval m ≤ fval b := by
  have ho := order_val fa fb
  by_cases h1 : fval a < fval b
  · rw [if_pos h1] at ho
    exact ⟨a, fun w => by simp [Builtin.min_, Builtin.min2, ho], Or.inl rfl, Rat.le_refl, Rat.le_of_lt h1⟩
  · by_cases h2 : fval a = fval b
    · rw [if_neg h1, if_pos h2] at ho
      refine ⟨if (FloatKind.f64.decode a).neg then a else b, fun w => by simp [Builtin.min_, Builtin.min2, ho], ?_, ?_, ?_⟩
      · split
        · exact Or.inl rfl
        · exact Or.inr rfl
      · split
        · exact Rat.le_refl
        · rw [h2]; exact Rat.le_refl
      · split
        · rw [h2]; exact Rat.le_refl
        · exact Rat.le_refl
    · rw [if_neg h1, if_neg h2] at ho
      exact ⟨b, fun w => by simp [Builtin.min_, Builtin.min2, ho], Or.inr rfl, by grind, Rat.le_refl⟩
theorem run_maxF {a b : Nat} (fa : Fin64 a) (fb : Fin64 b) : ∃ m, (∀ w, (Builtin.max_ #[22, 22] 22 #[.float .f64 a, .float .f64 b]).run Try.prog w = .ok (.float .f64 m) w) ∧ (m = a ∨ m = b) ∧ fval a ≤ fval m ∧ fval b ≤ fval m := by
  have ho := order_val fa fb
  by_cases h1 : fval a < fval b
  · rw [if_pos h1] at ho
    exact ⟨b, fun w => by simp [Builtin.max_, Builtin.max2, ho], Or.inr rfl, Rat.le_of_lt h1, Rat.le_refl⟩
  · by_cases h2 : fval a = fval b
    · rw [if_neg h1, if_pos h2] at ho
      refine ⟨if (FloatKind.f64.decode a).neg then b else a, fun w => by simp [Builtin.max_, Builtin.max2, ho], ?_, ?_, ?_⟩
      · split
        · exact Or.inr rfl
        · exact Or.inl rfl
      · split
        · rw [h2]; exact Rat.le_refl
        · exact Rat.le_refl
      · split
        · exact Rat.le_refl
        · rw [h2]; exact Rat.le_refl
    · rw [if_neg h1, if_neg h2] at ho
      exact ⟨a, fun w => by simp [Builtin.max_, Builtin.max2, ho], Or.inl rfl, Rat.le_refl, by grind⟩
theorem leq_val {a b : Nat} (fa : Fin64 a) (fb : Fin64 b) : (FloatKind.f64.format.order a b == some .lt || FloatKind.f64.format.order a b == some .eq) = decide (fval a ≤ fval b) := by
  rw [order_val fa fb]
  by_cases h1 : fval a < fval b
  · rw [if_pos h1, decide_eq_true (Rat.le_of_lt h1)]; rfl
  · by_cases h2 : fval a = fval b
    · rw [if_neg h1, if_pos h2, decide_eq_true (by rw [h2]; exact Rat.le_refl)]; rfl
    · rw [if_neg h1, if_neg h2, decide_eq_false (by grind)]; rfl
/-- A coordinate lies between two. -/
def Btw (a b x : Rat) : Prop := (a ≤ x ∧ x ≤ b) ∨ (b ≤ x ∧ x ≤ a)

/-- A point lies on a segment. -/
def OnP (ax ay bx by' px py : Nat) : Prop := P3 ax ay bx by' px py ∧ Btw (fval ax) (fval bx) (fval px) ∧ Btw (fval ay) (fval by') (fval py) ∧ S3 ax ay bx by' px py = 0
theorem sgq_zero {q : Rat} : sgq q = 0 ↔ q = 0 := by
  unfold sgq
  constructor
  · intro h
    split at h
    · omega
    · split at h
      · assumption
      · omega
  · intro h
    rw [h]; rfl
theorem sign_is (ax ay bx by' cx cy : Nat) (w : World) (z : Int) (hw : W6 ax ay bx by' cx cy) (hz : sg3 ax ay bx by' cx cy = z) :
    Calls Try.prog 19 #[pv ax ay, pv bx by', pv cx cy] w fun e w' => e = .returned (.int .i64 z) ∧ Below w.heap.size w w' := by
  rw [← hz]
  exact sign3_any ax ay bx by' cx cy w hw

end Go.Proofs.Ytghchejehlljkaa

/- Package orient: Cross. -/
namespace Go.Proofs.Ytghchejehlljkaa
open Go.RowKit Go.Shelf

theorem sg3_range (ax ay bx by' cx cy : Nat) : -1 ≤ sg3 ax ay bx by' cx cy ∧ sg3 ax ay bx by' cx cy ≤ 1 := by
  by_cases h : P3 ax ay bx by' cx cy
  · rw [sg3_yes h]
    unfold sgq
    split
    · omega
    · split <;> omega
  · rw [sg3_no h]; omega
theorem mul_small {a b : Int} (h1 : -1 ≤ a ∧ a ≤ 1) (h2 : -1 ≤ b ∧ b ≤ 1) : -1 ≤ a * b ∧ a * b ≤ 1 := by
  have := int_mul_bound (a := a) (b := b) (k := 1) (m := 1) h1.1 h1.2 h2.1 h2.2
  omega
/-- Two segments cross. -/
def CrossP (ax ay bx by' cx cy dx dy : Nat) : Prop := sg3 ax ay bx by' cx cy * sg3 ax ay bx by' dx dy < 0 ∧ sg3 cx cy dx dy ax ay * sg3 cx cy dx dy bx by' < 0
theorem keepX {w W W' : World} {q1 q2 q3 q4 q5 q6 q7 q8 : Addr} {x1 x2 x3 x4 x5 x6 x7 x8 : Value} (h : W.cell? q1 = some x1 ∧ W.cell? q2 = some x2 ∧ W.cell? q3 = some x3 ∧ W.cell? q4 = some x4 ∧ W.cell? q5 = some x5 ∧ W.cell? q6 = some x6 ∧ W.cell? q7 = some x7 ∧ W.cell? q8 = some x8 ∧ Below w.heap.size w W) (hb : Below W.heap.size W W') :
    W'.cell? q1 = some x1 ∧ W'.cell? q2 = some x2 ∧ W'.cell? q3 = some x3 ∧ W'.cell? q4 = some x4 ∧ W'.cell? q5 = some x5 ∧ W'.cell? q6 = some x6 ∧ W'.cell? q7 = some x7 ∧ W'.cell? q8 = some x8 ∧ Below w.heap.size w W' :=
  ⟨box_cell hb h.1, box_cell hb h.2.1, box_cell hb h.2.2.1, box_cell hb h.2.2.2.1, box_cell hb h.2.2.2.2.1, box_cell hb h.2.2.2.2.2.1, box_cell hb h.2.2.2.2.2.2.1, box_cell hb h.2.2.2.2.2.2.2.1, below_step h.2.2.2.2.2.2.2.2 hb⟩

end Go.Proofs.Ytghchejehlljkaa

/- Which points may be, by reckoning. -/
namespace Go.Proofs.Ytghchejehlljkaa

theorem den_one {q : Rat} : q.den = 1 ↔ ∃ k : Int, q = (k : Rat) := by
  constructor
  · intro h
    refine ⟨q.num, ?_⟩
    apply Rat.ext
    · simp
    · simp [h]
  · rintro ⟨k, rfl⟩
    simp
theorem crd_iff (x : Nat) : Crd x ↔ frung x ≤ 5057542381537067008 ∧ (fval x * U 1174).den = 1 := by
  unfold Crd
  rw [den_one, ← M_one, steps_one]
instance (x : Nat) : Decidable (Crd x) := decidable_of_iff _ (crd_iff x).symm
instance (x y : Nat) : Decidable (Pt x y) := by unfold Pt; exact inferInstance
instance (ax ay bx by' cx cy : Nat) : Decidable (P3 ax ay bx by' cx cy) := by unfold P3; exact inferInstance
instance (a b x : Rat) : Decidable (Btw a b x) := by unfold Btw; exact inferInstance
instance (ax ay bx by' cx cy : Nat) : Decidable (OnP ax ay bx by' cx cy) := by unfold OnP; exact inferInstance
theorem sg3_is {ax ay bx by' cx cy : Nat} {z : Int} (h : P3 ax ay bx by' cx cy ∧ sgq (S3 ax ay bx by' cx cy) = z) : sg3 ax ay bx by' cx cy = z := by rw [sg3_yes h.1]; exact h.2

theorem test1 : sg3 0 0 4611686018427387904 0 4607182418800017408 4607182418800017408 = 1 := sg3_is (by decide +kernel)
theorem test2 : sg3 0 0 4611686018427387904 0 4607182418800017408 13380194492917743616 = -1 := sg3_is (by decide +kernel)
theorem test3 : sg3 0 0 4611686018427387904 0 5062045981164437504 4607182418800017408 = 0 := sg3_no (by decide +kernel)
theorem test4 : sg3 4602678819172646954 4602678819172646960 4622945017495814144 4622945017495814144 4627448617123184640 4627448617123184640 = 1 := sg3_is (by decide +kernel)

end Go.Proofs.Ytghchejehlljkaa

/- Circles: all orders of four points; the statements' first question. -/
namespace Go.Proofs.Ytghchejehlljkaa
open Go.RowKit Go.Shelf
attribute [local go_sem ↓] Go.wp_at_zero Go.wp_at_succ
attribute [local go_sem] run_store_float

theorem sgq_minus' (q : Rat) : sgq (-q) = -sgq q := by
  unfold sgq
  rcases (by grind : q < 0 ∨ q = 0 ∨ 0 < q) with h | h | h
  · rw [if_neg (by grind), if_neg (by grind), if_pos h]; omega
  · rw [h]; decide +kernel
  · rw [if_pos (by grind), if_neg (by grind), if_neg (by grind)]
theorem det3_34 (x0 y0 x1 y1 x2 y2 : Rat) : det3 (x0 - x2) (y0 - y2) (x1 - x2) (y1 - y2) (-x2) (-y2) = -det3 x0 y0 x1 y1 x2 y2 := by
  unfold det3
  grind
theorem S4_12 (ax ay bx by' cx cy dx dy : Nat) : S4 bx by' ax ay cx cy dx dy = -S4 ax ay bx by' cx cy dx dy := by
  unfold S4 det3
  generalize fval ax - fval dx = x0
  generalize fval ay - fval dy = y0
  generalize fval bx - fval dx = x1
  generalize fval by' - fval dy = y1
  generalize fval cx - fval dx = x2
  generalize fval cy - fval dy = y2
  grind
theorem S4_23 (ax ay bx by' cx cy dx dy : Nat) : S4 ax ay cx cy bx by' dx dy = -S4 ax ay bx by' cx cy dx dy := by
  unfold S4 det3
  generalize fval ax - fval dx = x0
  generalize fval ay - fval dy = y0
  generalize fval bx - fval dx = x1
  generalize fval by' - fval dy = y1
  generalize fval cx - fval dx = x2
  generalize fval cy - fval dy = y2
  grind
theorem S4_34 (ax ay bx by' cx cy dx dy : Nat) : S4 ax ay bx by' dx dy cx cy = -S4 ax ay bx by' cx cy dx dy := by
  have h := det3_34 (fval ax - fval dx) (fval ay - fval dy) (fval bx - fval dx) (fval by' - fval dy) (fval cx - fval dx) (fval cy - fval dy)
  unfold S4
  rw [← h]
  congr 1 <;> grind
theorem sg4_12 (ax ay bx by' cx cy dx dy : Nat) : sg4 bx by' ax ay cx cy dx dy = -sg4 ax ay bx by' cx cy dx dy := by
  by_cases h : P4 ax ay bx by' cx cy dx dy
  · rw [sg4_yes h, sg4_yes ⟨⟨h.1.2.1, h.1.1, h.1.2.2⟩, h.2⟩, ← sgq_minus', S4_12]
  · rw [sg4_no h, sg4_no (fun h' => h ⟨⟨h'.1.2.1, h'.1.1, h'.1.2.2⟩, h'.2⟩)]; omega
theorem sg4_23 (ax ay bx by' cx cy dx dy : Nat) : sg4 ax ay cx cy bx by' dx dy = -sg4 ax ay bx by' cx cy dx dy := by
  by_cases h : P4 ax ay bx by' cx cy dx dy
  · rw [sg4_yes h, sg4_yes ⟨⟨h.1.1, h.1.2.2, h.1.2.1⟩, h.2⟩, ← sgq_minus', S4_23]
  · rw [sg4_no h, sg4_no (fun h' => h ⟨⟨h'.1.1, h'.1.2.2, h'.1.2.1⟩, h'.2⟩)]; omega
theorem sg4_34 (ax ay bx by' cx cy dx dy : Nat) : sg4 ax ay bx by' dx dy cx cy = -sg4 ax ay bx by' cx cy dx dy := by
  by_cases h : P4 ax ay bx by' cx cy dx dy
  · rw [sg4_yes h, sg4_yes ⟨⟨h.1.1, h.1.2.1, h.2⟩, h.1.2.2⟩, ← sgq_minus', S4_34]
  · rw [sg4_no h, sg4_no (fun h' => h ⟨⟨h'.1.1, h'.1.2.1, h'.2⟩, h'.1.2.2⟩)]; omega

theorem sign4_is (ax ay bx by' cx cy dx dy : Nat) (w : World) (z : Int) (hw : W8 ax ay bx by' cx cy dx dy) (hz : sg4 ax ay bx by' cx cy dx dy = z) :
    Calls Try.prog 10 #[pv ax ay, pv bx by', pv cx cy, pv dx dy] w fun e w' => e = .returned (.int .i64 z) ∧ Below w.heap.size w w' := by
  rw [← hz]
  exact sign4_any ax ay bx by' cx cy dx dy w hw
theorem within_is (ax ay bx by' cx cy dx dy : Nat) (w : World) (t : Bool) (hw : W8 ax ay bx by' cx cy dx dy) (ht : decide (0 < sg3 ax ay bx by' cx cy * sg4 ax ay bx by' cx cy dx dy) = t) :
    Calls Try.prog 15 #[pv ax ay, pv bx by', pv cx cy, pv dx dy] w fun e w' => e = .returned (.bool t) ∧ Below w.heap.size w w' := by
  rw [← ht]
  exact within_any ax ay bx by' cx cy dx dy w hw

instance (ax ay bx by' cx cy dx dy : Nat) : Decidable (P4 ax ay bx by' cx cy dx dy) := by unfold P4; exact inferInstance
theorem sg4_is {ax ay bx by' cx cy dx dy : Nat} {z : Int} (h : P4 ax ay bx by' cx cy dx dy ∧ sgq (S4 ax ay bx by' cx cy dx dy) = z) : sg4 ax ay bx by' cx cy dx dy = z := by rw [sg4_yes h.1]; exact h.2
theorem wk1 : sg4 0 0 4611686018427387904 0 0 4611686018427387904 4607182418800017408 4607182418800017408 = 1 := sg4_is (by decide +kernel)
theorem wk2 : sg4 0 0 4611686018427387904 0 0 4611686018427387904 4611686018427387904 4611686018427387904 = 0 := sg4_is (by decide +kernel)
theorem wk3 : sg4 0 0 4611686018427387904 0 0 4611686018427387904 4613937818241073152 4613937818241073152 = -1 := sg4_is (by decide +kernel)
theorem wk4 : sg4 4611686018427387904 0 0 0 0 4611686018427387904 4607182418800017408 4607182418800017408 = -1 := sg4_is (by decide +kernel)
theorem wk5 : sg3 0 0 4611686018427387904 0 0 4611686018427387904 = 1 := sg3_is (by decide +kernel)
theorem wk6 : sg3 4611686018427387904 0 0 0 0 4611686018427387904 = -1 := sg3_is (by decide +kernel)

set_option maxRecDepth 100000 in
set_option maxHeartbeats 4000000 in
theorem works_any (w : World) : Calls Try.prog 9 #[] w fun e w' => e = .returned (.bool true) ∧ Below w.heap.size w w' := by
  have HS : Hid (B3 w (((w.alloc (.cells #[.float .f64 0, .float .f64 0] 24)).alloc (.cells #[.float .f64 4611686018427387904, .float .f64 0] 24)).alloc (.cells #[.float .f64 0, .float .f64 4611686018427387904] 24)) 0 0 4611686018427387904 0 0 4611686018427387904) := B3.start w 0 0 4611686018427387904 0 0 4611686018427387904
  go_enter Try.func9, Try.ntmps9
  go_wp2_with fail
  refine (sign4_is 0 0 4611686018427387904 0 0 4611686018427387904 4607182418800017408 4607182418800017408 _ 1 ⟨⟨⟨by omega, by omega⟩, ⟨by omega, by omega⟩, by omega, by omega⟩, by omega, by omega⟩ wk1).mono ?_
  rintro e w1 ⟨rfl, hb⟩
  have H1 : Hid (B3 w w1 0 0 4611686018427387904 0 0 4611686018427387904) := HS.out.later hb
  clear hb 
  obtain ⟨u0, u1, u2, u3, u4, u5, _⟩ := H1.out
  go_wp2_with fail
  refine (sign4_is 0 0 4611686018427387904 0 0 4611686018427387904 4611686018427387904 4611686018427387904 _ 0 ⟨⟨⟨by omega, by omega⟩, ⟨by omega, by omega⟩, by omega, by omega⟩, by omega, by omega⟩ wk2).mono ?_
  rintro e w2 ⟨rfl, hb⟩
  have H2 : Hid (B3 w w2 0 0 4611686018427387904 0 0 4611686018427387904) := H1.out.later hb
  clear hb u0 u1 u2 u3 u4 u5 H1
  obtain ⟨u0, u1, u2, u3, u4, u5, _⟩ := H2.out
  go_wp2_with fail
  refine (sign4_is 0 0 4611686018427387904 0 0 4611686018427387904 4613937818241073152 4613937818241073152 _ (-1) ⟨⟨⟨by omega, by omega⟩, ⟨by omega, by omega⟩, by omega, by omega⟩, by omega, by omega⟩ wk3).mono ?_
  rintro e w3 ⟨rfl, hb⟩
  have H3 : Hid (B3 w w3 0 0 4611686018427387904 0 0 4611686018427387904) := H2.out.later hb
  clear hb u0 u1 u2 u3 u4 u5 H2
  obtain ⟨u0, u1, u2, u3, u4, u5, _⟩ := H3.out
  go_wp2_with fail
  refine (sign4_is 4611686018427387904 0 0 0 0 4611686018427387904 4607182418800017408 4607182418800017408 _ (-1) ⟨⟨⟨by omega, by omega⟩, ⟨by omega, by omega⟩, by omega, by omega⟩, by omega, by omega⟩ wk4).mono ?_
  rintro e w4 ⟨rfl, hb⟩
  have H4 : Hid (B3 w w4 0 0 4611686018427387904 0 0 4611686018427387904) := H3.out.later hb
  clear hb u0 u1 u2 u3 u4 u5 H3
  obtain ⟨u0, u1, u2, u3, u4, u5, _⟩ := H4.out
  go_wp2_with fail
  refine (within_is 0 0 4611686018427387904 0 0 4611686018427387904 4607182418800017408 4607182418800017408 _ true ⟨⟨⟨by omega, by omega⟩, ⟨by omega, by omega⟩, by omega, by omega⟩, by omega, by omega⟩ (by rw [wk5, wk1]; rfl)).mono ?_
  rintro e w5 ⟨rfl, hb⟩
  have H5 : Hid (B3 w w5 0 0 4611686018427387904 0 0 4611686018427387904) := H4.out.later hb
  clear hb u0 u1 u2 u3 u4 u5 H4
  obtain ⟨u0, u1, u2, u3, u4, u5, _⟩ := H5.out
  go_wp2_with fail
  refine (within_is 4611686018427387904 0 0 0 0 4611686018427387904 4607182418800017408 4607182418800017408 _ true ⟨⟨⟨by omega, by omega⟩, ⟨by omega, by omega⟩, by omega, by omega⟩, by omega, by omega⟩ (by rw [wk6, wk4]; rfl)).mono ?_
  rintro e w6 ⟨rfl, hb⟩
  have H6 : Hid (B3 w w6 0 0 4611686018427387904 0 0 4611686018427387904) := H5.out.later hb
  clear hb u0 u1 u2 u3 u4 u5 H5
  obtain ⟨u0, u1, u2, u3, u4, u5, _⟩ := H6.out
  go_wp2
  go_ret
  exact ⟨rfl, H6.out.bel⟩

end Go.Proofs.Ytghchejehlljkaa

/- CircleTurns, CircleOne: the laws' walks. -/
namespace Go.Proofs.Ytghchejehlljkaa
open Go.RowKit Go.Shelf

set_option maxRecDepth 100000 in
set_option maxHeartbeats 8000000 in
theorem cturns_law (ax ay bx by' cx cy dx dy : Nat) (w : World) (hw : W8 ax ay bx by' cx cy dx dy) :
    Calls Try.prog 6 #[pv ax ay, pv bx by', pv cx cy, pv dx dy] w fun e w' => e = .returned (.bool true) ∧ Below w.heap.size w w' := by
  have HW : Hid (W8 ax ay bx by' cx cy dx dy) := hw
  clear hw
  have HS : Hid (B4 w ((((w.alloc (.cells #[.float .f64 ax, .float .f64 ay] 24)).alloc (.cells #[.float .f64 bx, .float .f64 by'] 24)).alloc (.cells #[.float .f64 cx, .float .f64 cy] 24)).alloc (.cells #[.float .f64 dx, .float .f64 dy] 24)) ax ay bx by' cx cy dx dy) := B4.start w ax ay bx by' cx cy dx dy
  obtain ⟨z, hz⟩ : ∃ z, Hid (sg4 ax ay bx by' cx cy dx dy = z) := ⟨_, rfl⟩
  obtain ⟨h1, h2⟩ := sg4_range ax ay bx by' cx cy dx dy
  rw [hz.out] at h1 h2
  have n1 : IntKind.i64.wrap (-z) = -z := wrapE _ (by omega) (by omega)
  clear h1 h2
  go_enter Try.func6, Try.ntmps6
  go_wp2_with fail
  refine (works_any _).mono ?_
  rintro e w1 ⟨rfl, hb⟩
  have H1 : Hid (B4 w w1 ax ay bx by' cx cy dx dy) := HS.out.later hb
  clear hb 
  obtain ⟨u0, u1, u2, u3, u4, u5, u6, u7, _⟩ := H1.out
  go_wp2_with fail
  refine (sign4_is ax ay bx by' cx cy dx dy _ (z) ⟨⟨HW.out.1.1, HW.out.1.2.1, HW.out.1.2.2⟩, HW.out.2⟩ hz.out).mono ?_
  rintro e w2 ⟨rfl, hb⟩
  have H2 : Hid (B4 w w2 ax ay bx by' cx cy dx dy) := H1.out.later hb
  clear hb u0 u1 u2 u3 u4 u5 u6 u7 H1
  obtain ⟨u0, u1, u2, u3, u4, u5, u6, u7, _⟩ := H2.out
  go_wp2_with fail
  refine (sign4_is bx by' ax ay cx cy dx dy _ (-z) ⟨⟨HW.out.1.2.1, HW.out.1.1, HW.out.1.2.2⟩, HW.out.2⟩ (by rw [sg4_12 ax ay bx by' cx cy dx dy, hz.out])).mono ?_
  rintro e w3 ⟨rfl, hb⟩
  have H3 : Hid (B4 w w3 ax ay bx by' cx cy dx dy) := H2.out.later hb
  clear hb u0 u1 u2 u3 u4 u5 u6 u7 H2
  obtain ⟨u0, u1, u2, u3, u4, u5, u6, u7, _⟩ := H3.out
  go_wp2_with fail
  refine (sign4_is ax ay cx cy bx by' dx dy _ (-z) ⟨⟨HW.out.1.1, HW.out.1.2.2, HW.out.1.2.1⟩, HW.out.2⟩ (by rw [sg4_23 ax ay bx by' cx cy dx dy, hz.out])).mono ?_
  rintro e w4 ⟨rfl, hb⟩
  have H4 : Hid (B4 w w4 ax ay bx by' cx cy dx dy) := H3.out.later hb
  clear hb u0 u1 u2 u3 u4 u5 u6 u7 H3
  obtain ⟨u0, u1, u2, u3, u4, u5, u6, u7, _⟩ := H4.out
  go_wp2_with fail
  refine (sign4_is ax ay bx by' dx dy cx cy _ (-z) ⟨⟨HW.out.1.1, HW.out.1.2.1, HW.out.2⟩, HW.out.1.2.2⟩ (by rw [sg4_34 ax ay bx by' cx cy dx dy, hz.out])).mono ?_
  rintro e w5 ⟨rfl, hb⟩
  have H5 : Hid (B4 w w5 ax ay bx by' cx cy dx dy) := H4.out.later hb
  clear hb u0 u1 u2 u3 u4 u5 u6 u7 H4
  obtain ⟨u0, u1, u2, u3, u4, u5, u6, u7, _⟩ := H5.out
  go_wp2_with fail
  refine (sign4_is dx dy bx by' cx cy ax ay _ (-z) ⟨⟨HW.out.2, HW.out.1.2.1, HW.out.1.2.2⟩, HW.out.1.1⟩ (by rw [sg4_12 bx by' dx dy cx cy ax ay, sg4_23 bx by' cx cy dx dy ax ay, sg4_34 bx by' cx cy ax ay dx dy, sg4_23 bx by' ax ay cx cy dx dy, sg4_12 ax ay bx by' cx cy dx dy, hz.out]; omega)).mono ?_
  rintro e w6 ⟨rfl, hb⟩
  have H6 : Hid (B4 w w6 ax ay bx by' cx cy dx dy) := H5.out.later hb
  clear hb u0 u1 u2 u3 u4 u5 u6 u7 H5
  obtain ⟨u0, u1, u2, u3, u4, u5, u6, u7, _⟩ := H6.out
  go_wp2_with fail
  refine (sign4_is cx cy bx by' ax ay dx dy _ (-z) ⟨⟨HW.out.1.2.2, HW.out.1.2.1, HW.out.1.1⟩, HW.out.2⟩ (by rw [sg4_12 bx by' cx cy ax ay dx dy, sg4_23 bx by' ax ay cx cy dx dy, sg4_12 ax ay bx by' cx cy dx dy, hz.out]; omega)).mono ?_
  rintro e w7 ⟨rfl, hb⟩
  have H7 : Hid (B4 w w7 ax ay bx by' cx cy dx dy) := H6.out.later hb
  clear hb u0 u1 u2 u3 u4 u5 u6 u7 H6
  obtain ⟨u0, u1, u2, u3, u4, u5, u6, u7, _⟩ := H7.out
  go_wp2_with fail
  refine (sign4_is ax ay dx dy cx cy bx by' _ (-z) ⟨⟨HW.out.1.1, HW.out.2, HW.out.1.2.2⟩, HW.out.1.2.1⟩ (by rw [sg4_23 ax ay cx cy dx dy bx by', sg4_34 ax ay cx cy bx by' dx dy, sg4_23 ax ay bx by' cx cy dx dy, hz.out]; omega)).mono ?_
  rintro e w8 ⟨rfl, hb⟩
  have H8 : Hid (B4 w w8 ax ay bx by' cx cy dx dy) := H7.out.later hb
  clear hb u0 u1 u2 u3 u4 u5 u6 u7 H7
  obtain ⟨u0, u1, u2, u3, u4, u5, u6, u7, _⟩ := H8.out
  go_wp2_with fail
  refine (sign4_is bx by' cx cy ax ay dx dy _ (z) ⟨⟨HW.out.1.2.1, HW.out.1.2.2, HW.out.1.1⟩, HW.out.2⟩ (by rw [sg4_23 bx by' ax ay cx cy dx dy, sg4_12 ax ay bx by' cx cy dx dy, hz.out]; omega)).mono ?_
  rintro e w9 ⟨rfl, hb⟩
  have H9 : Hid (B4 w w9 ax ay bx by' cx cy dx dy) := H8.out.later hb
  clear hb u0 u1 u2 u3 u4 u5 u6 u7 H8
  obtain ⟨u0, u1, u2, u3, u4, u5, u6, u7, _⟩ := H9.out
  go_wp2_with fail
  refine (sign4_is cx cy ax ay bx by' dx dy _ (z) ⟨⟨HW.out.1.2.2, HW.out.1.1, HW.out.1.2.1⟩, HW.out.2⟩ (by rw [sg4_12 ax ay cx cy bx by' dx dy, sg4_23 ax ay bx by' cx cy dx dy, hz.out]; omega)).mono ?_
  rintro e w10 ⟨rfl, hb⟩
  have H10 : Hid (B4 w w10 ax ay bx by' cx cy dx dy) := H9.out.later hb
  clear hb u0 u1 u2 u3 u4 u5 u6 u7 H9
  obtain ⟨u0, u1, u2, u3, u4, u5, u6, u7, _⟩ := H10.out
  go_wp2_with fail
  refine (sign4_is bx by' ax ay dx dy cx cy _ (z) ⟨⟨HW.out.1.2.1, HW.out.1.1, HW.out.2⟩, HW.out.1.2.2⟩ (by rw [sg4_12 ax ay bx by' dx dy cx cy, sg4_34 ax ay bx by' cx cy dx dy, hz.out]; omega)).mono ?_
  rintro e w11 ⟨rfl, hb⟩
  have H11 : Hid (B4 w w11 ax ay bx by' cx cy dx dy) := H10.out.later hb
  clear hb u0 u1 u2 u3 u4 u5 u6 u7 H10
  obtain ⟨u0, u1, u2, u3, u4, u5, u6, u7, _⟩ := H11.out
  go_wp2_with fail
  refine (sign4_is cx cy dx dy ax ay bx by' _ (z) ⟨⟨HW.out.1.2.2, HW.out.2, HW.out.1.1⟩, HW.out.1.2.1⟩ (by rw [sg4_23 cx cy ax ay dx dy bx by', sg4_12 ax ay cx cy dx dy bx by', sg4_34 ax ay cx cy bx by' dx dy, sg4_23 ax ay bx by' cx cy dx dy, hz.out]; omega)).mono ?_
  rintro e w12 ⟨rfl, hb⟩
  have H12 : Hid (B4 w w12 ax ay bx by' cx cy dx dy) := H11.out.later hb
  clear hb u0 u1 u2 u3 u4 u5 u6 u7 H11
  obtain ⟨u0, u1, u2, u3, u4, u5, u6, u7, _⟩ := H12.out
  go_wp2_with fail
  refine (sign4_is dx dy cx cy bx by' ax ay _ (z) ⟨⟨HW.out.2, HW.out.1.2.2, HW.out.1.2.1⟩, HW.out.1.1⟩ (by rw [sg4_12 cx cy dx dy bx by' ax ay, sg4_23 cx cy bx by' dx dy ax ay, sg4_12 bx by' cx cy dx dy ax ay, sg4_34 bx by' cx cy ax ay dx dy, sg4_23 bx by' ax ay cx cy dx dy, sg4_12 ax ay bx by' cx cy dx dy, hz.out]; omega)).mono ?_
  rintro e w13 ⟨rfl, hb⟩
  have H13 : Hid (B4 w w13 ax ay bx by' cx cy dx dy) := H12.out.later hb
  clear hb u0 u1 u2 u3 u4 u5 u6 u7 H12
  obtain ⟨u0, u1, u2, u3, u4, u5, u6, u7, _⟩ := H13.out
  go_wp2_with fail
  refine (sign4_is bx by' cx cy dx dy ax ay _ (-z) ⟨⟨HW.out.1.2.1, HW.out.1.2.2, HW.out.2⟩, HW.out.1.1⟩ (by rw [sg4_34 bx by' cx cy ax ay dx dy, sg4_23 bx by' ax ay cx cy dx dy, sg4_12 ax ay bx by' cx cy dx dy, hz.out]; omega)).mono ?_
  rintro e w14 ⟨rfl, hb⟩
  have H14 : Hid (B4 w w14 ax ay bx by' cx cy dx dy) := H13.out.later hb
  clear hb u0 u1 u2 u3 u4 u5 u6 u7 H13
  obtain ⟨u0, u1, u2, u3, u4, u5, u6, u7, _⟩ := H14.out
  clear u0 u1 u2 u3 u4 u5 u6 u7
  go_wp2
  go_ret
  exact ⟨rfl, H14.out.bel⟩

theorem dec_le {z : Int} (h : z ≤ 0) : decide (z ≤ 0) = true := decide_eq_true h

set_option maxRecDepth 100000 in
set_option maxHeartbeats 8000000 in
theorem cone_law (ax ay bx by' cx cy dx dy : Nat) (w : World) (hw : W8 ax ay bx by' cx cy dx dy) :
    Calls Try.prog 7 #[pv ax ay, pv bx by', pv cx cy, pv dx dy] w fun e w' => e = .returned (.bool true) ∧ Below w.heap.size w w' := by
  have HW : Hid (W8 ax ay bx by' cx cy dx dy) := hw
  clear hw
  have HS : Hid (B4 w ((((w.alloc (.cells #[.float .f64 ax, .float .f64 ay] 24)).alloc (.cells #[.float .f64 bx, .float .f64 by'] 24)).alloc (.cells #[.float .f64 cx, .float .f64 cy] 24)).alloc (.cells #[.float .f64 dx, .float .f64 dy] 24)) ax ay bx by' cx cy dx dy) := B4.start w ax ay bx by' cx cy dx dy
  obtain ⟨z, hz⟩ : ∃ z, Hid (sg4 ax ay bx by' cx cy dx dy = z) := ⟨_, rfl⟩
  obtain ⟨h1, h2⟩ := sg4_range ax ay bx by' cx cy dx dy
  rw [hz.out] at h1 h2
  go_enter Try.func7, Try.ntmps7
  go_wp2_with fail
  refine (works_any _).mono ?_
  rintro e w1 ⟨rfl, hb⟩
  have H1 : Hid (B4 w w1 ax ay bx by' cx cy dx dy) := HS.out.later hb
  clear hb 
  obtain ⟨u0, u1, u2, u3, u4, u5, u6, u7, _⟩ := H1.out
  obtain ⟨o1, ho1⟩ : ∃ z, Hid (sg3 ax ay bx by' cx cy = z) := ⟨_, rfl⟩
  obtain ⟨o1a, o1b⟩ := sg3_range' ax ay bx by' cx cy
  rw [ho1.out] at o1a o1b
  go_wp2_with fail
  refine (sign_is ax ay bx by' cx cy _ o1 ⟨HW.out.1.1, HW.out.1.2.1, HW.out.1.2.2⟩ ho1.out).mono ?_
  rintro e w2 ⟨rfl, hb⟩
  have H2 : Hid (B4 w w2 ax ay bx by' cx cy dx dy) := H1.out.later hb
  clear hb u0 u1 u2 u3 u4 u5 u6 u7 H1
  obtain ⟨u0, u1, u2, u3, u4, u5, u6, u7, _⟩ := H2.out
  by_cases co1 : o1 ≤ 0
  · have do1 := dec_le co1
    go_wp2_with fail
    refine (works_any _).mono ?_
    rintro e wx ⟨rfl, hb⟩
    have HX : Hid (Below w.heap.size w wx) := below_step H2.out.bel hb
    clear hb
    go_wp2
    go_ret
    exact ⟨rfl, HX.out⟩
  obtain rfl : o1 = 1 := by omega
  clear co1 o1a o1b
  obtain ⟨o2, ho2⟩ : ∃ z, Hid (sg3 ax ay cx cy dx dy = z) := ⟨_, rfl⟩
  obtain ⟨o2a, o2b⟩ := sg3_range' ax ay cx cy dx dy
  rw [ho2.out] at o2a o2b
  go_wp2_with fail
  refine (sign_is ax ay cx cy dx dy _ o2 ⟨HW.out.1.1, HW.out.1.2.2, HW.out.2⟩ ho2.out).mono ?_
  rintro e w3 ⟨rfl, hb⟩
  have H3 : Hid (B4 w w3 ax ay bx by' cx cy dx dy) := H2.out.later hb
  clear hb u0 u1 u2 u3 u4 u5 u6 u7 H2
  obtain ⟨u0, u1, u2, u3, u4, u5, u6, u7, _⟩ := H3.out
  by_cases co2 : o2 ≤ 0
  · have do2 := dec_le co2
    go_wp2_with fail
    refine (works_any _).mono ?_
    rintro e wx ⟨rfl, hb⟩
    have HX : Hid (Below w.heap.size w wx) := below_step H3.out.bel hb
    clear hb
    go_wp2
    go_ret
    exact ⟨rfl, HX.out⟩
  obtain rfl : o2 = 1 := by omega
  clear co2 o2a o2b
  obtain ⟨o3, ho3⟩ : ∃ z, Hid (sg3 bx by' cx cy dx dy = z) := ⟨_, rfl⟩
  obtain ⟨o3a, o3b⟩ := sg3_range' bx by' cx cy dx dy
  rw [ho3.out] at o3a o3b
  go_wp2_with fail
  refine (sign_is bx by' cx cy dx dy _ o3 ⟨HW.out.1.2.1, HW.out.1.2.2, HW.out.2⟩ ho3.out).mono ?_
  rintro e w4 ⟨rfl, hb⟩
  have H4 : Hid (B4 w w4 ax ay bx by' cx cy dx dy) := H3.out.later hb
  clear hb u0 u1 u2 u3 u4 u5 u6 u7 H3
  obtain ⟨u0, u1, u2, u3, u4, u5, u6, u7, _⟩ := H4.out
  by_cases co3 : o3 ≤ 0
  · have do3 := dec_le co3
    go_wp2_with fail
    refine (works_any _).mono ?_
    rintro e wx ⟨rfl, hb⟩
    have HX : Hid (Below w.heap.size w wx) := below_step H4.out.bel hb
    clear hb
    go_wp2
    go_ret
    exact ⟨rfl, HX.out⟩
  obtain rfl : o3 = 1 := by omega
  clear co3 o3a o3b
  obtain ⟨o4, ho4⟩ : ∃ z, Hid (sg3 ax ay bx by' dx dy = z) := ⟨_, rfl⟩
  obtain ⟨o4a, o4b⟩ := sg3_range' ax ay bx by' dx dy
  rw [ho4.out] at o4a o4b
  go_wp2_with fail
  refine (sign_is ax ay bx by' dx dy _ o4 ⟨HW.out.1.1, HW.out.1.2.1, HW.out.2⟩ ho4.out).mono ?_
  rintro e w5 ⟨rfl, hb⟩
  have H5 : Hid (B4 w w5 ax ay bx by' cx cy dx dy) := H4.out.later hb
  clear hb u0 u1 u2 u3 u4 u5 u6 u7 H4
  obtain ⟨u0, u1, u2, u3, u4, u5, u6, u7, _⟩ := H5.out
  by_cases co4 : o4 ≤ 0
  · have do4 := dec_le co4
    go_wp2_with fail
    refine (works_any _).mono ?_
    rintro e wx ⟨rfl, hb⟩
    have HX : Hid (Below w.heap.size w wx) := below_step H5.out.bel hb
    clear hb
    go_wp2
    go_ret
    exact ⟨rfl, HX.out⟩
  obtain rfl : o4 = 1 := by omega
  clear co4 o4a o4b
  have hzz : z = -1 ∨ z = 0 ∨ z = 1 := by omega
  clear h1 h2
  rcases hzz with rfl | rfl | rfl
  · go_wp2_with fail
    refine (within_is ax ay bx by' cx cy dx dy _ false ⟨⟨HW.out.1.1, HW.out.1.2.1, HW.out.1.2.2⟩, HW.out.2⟩ (by rw [ho1.out, hz.out]; decide)).mono ?_
    rintro e w6 ⟨rfl, hb⟩
    have H6 : Hid (B4 w w6 ax ay bx by' cx cy dx dy) := H5.out.later hb
    clear hb u0 u1 u2 u3 u4 u5 u6 u7 H5
    obtain ⟨u0, u1, u2, u3, u4, u5, u6, u7, _⟩ := H6.out
    go_wp2_with fail
    refine (within_is ax ay cx cy dx dy bx by' _ false ⟨⟨HW.out.1.1, HW.out.1.2.2, HW.out.2⟩, HW.out.1.2.1⟩ (by rw [ho2.out, sg4_34 ax ay cx cy bx by' dx dy, sg4_23 ax ay bx by' cx cy dx dy, hz.out]; decide)).mono ?_
    rintro e w7 ⟨rfl, hb⟩
    have H7 : Hid (B4 w w7 ax ay bx by' cx cy dx dy) := H6.out.later hb
    clear hb u0 u1 u2 u3 u4 u5 u6 u7 H6
    obtain ⟨u0, u1, u2, u3, u4, u5, u6, u7, _⟩ := H7.out
    go_wp2_with fail
    refine (within_is bx by' cx cy dx dy ax ay _ true ⟨⟨HW.out.1.2.1, HW.out.1.2.2, HW.out.2⟩, HW.out.1.1⟩ (by rw [ho3.out, sg4_34 bx by' cx cy ax ay dx dy, sg4_23 bx by' ax ay cx cy dx dy, sg4_12 ax ay bx by' cx cy dx dy, hz.out]; decide)).mono ?_
    rintro e w8 ⟨rfl, hb⟩
    have H8 : Hid (B4 w w8 ax ay bx by' cx cy dx dy) := H7.out.later hb
    clear hb u0 u1 u2 u3 u4 u5 u6 u7 H7
    obtain ⟨u0, u1, u2, u3, u4, u5, u6, u7, _⟩ := H8.out
    go_wp2_with fail
    refine (within_is ax ay bx by' dx dy cx cy _ true ⟨⟨HW.out.1.1, HW.out.1.2.1, HW.out.2⟩, HW.out.1.2.2⟩ (by rw [ho4.out, sg4_34 ax ay bx by' cx cy dx dy, hz.out]; decide)).mono ?_
    rintro e w9 ⟨rfl, hb⟩
    have H9 : Hid (B4 w w9 ax ay bx by' cx cy dx dy) := H8.out.later hb
    clear hb u0 u1 u2 u3 u4 u5 u6 u7 H8
    obtain ⟨u0, u1, u2, u3, u4, u5, u6, u7, _⟩ := H9.out
    clear u0 u1 u2 u3 u4 u5 u6 u7
    go_wp2
    go_ret
    exact ⟨rfl, H9.out.bel⟩
  · go_wp2_with fail
    refine (within_is ax ay bx by' cx cy dx dy _ false ⟨⟨HW.out.1.1, HW.out.1.2.1, HW.out.1.2.2⟩, HW.out.2⟩ (by rw [ho1.out, hz.out]; decide)).mono ?_
    rintro e w6 ⟨rfl, hb⟩
    have H6 : Hid (B4 w w6 ax ay bx by' cx cy dx dy) := H5.out.later hb
    clear hb u0 u1 u2 u3 u4 u5 u6 u7 H5
    obtain ⟨u0, u1, u2, u3, u4, u5, u6, u7, _⟩ := H6.out
    go_wp2_with fail
    refine (within_is ax ay cx cy dx dy bx by' _ false ⟨⟨HW.out.1.1, HW.out.1.2.2, HW.out.2⟩, HW.out.1.2.1⟩ (by rw [ho2.out, sg4_34 ax ay cx cy bx by' dx dy, sg4_23 ax ay bx by' cx cy dx dy, hz.out]; decide)).mono ?_
    rintro e w7 ⟨rfl, hb⟩
    have H7 : Hid (B4 w w7 ax ay bx by' cx cy dx dy) := H6.out.later hb
    clear hb u0 u1 u2 u3 u4 u5 u6 u7 H6
    obtain ⟨u0, u1, u2, u3, u4, u5, u6, u7, _⟩ := H7.out
    go_wp2_with fail
    refine (within_is bx by' cx cy dx dy ax ay _ false ⟨⟨HW.out.1.2.1, HW.out.1.2.2, HW.out.2⟩, HW.out.1.1⟩ (by rw [ho3.out, sg4_34 bx by' cx cy ax ay dx dy, sg4_23 bx by' ax ay cx cy dx dy, sg4_12 ax ay bx by' cx cy dx dy, hz.out]; decide)).mono ?_
    rintro e w8 ⟨rfl, hb⟩
    have H8 : Hid (B4 w w8 ax ay bx by' cx cy dx dy) := H7.out.later hb
    clear hb u0 u1 u2 u3 u4 u5 u6 u7 H7
    obtain ⟨u0, u1, u2, u3, u4, u5, u6, u7, _⟩ := H8.out
    go_wp2_with fail
    refine (within_is ax ay bx by' dx dy cx cy _ false ⟨⟨HW.out.1.1, HW.out.1.2.1, HW.out.2⟩, HW.out.1.2.2⟩ (by rw [ho4.out, sg4_34 ax ay bx by' cx cy dx dy, hz.out]; decide)).mono ?_
    rintro e w9 ⟨rfl, hb⟩
    have H9 : Hid (B4 w w9 ax ay bx by' cx cy dx dy) := H8.out.later hb
    clear hb u0 u1 u2 u3 u4 u5 u6 u7 H8
    obtain ⟨u0, u1, u2, u3, u4, u5, u6, u7, _⟩ := H9.out
    go_wp2_with fail
    refine (sign4_is ax ay bx by' cx cy dx dy _ 0 ⟨⟨HW.out.1.1, HW.out.1.2.1, HW.out.1.2.2⟩, HW.out.2⟩ hz.out).mono ?_
    rintro e w10 ⟨rfl, hb⟩
    have H10 : Hid (B4 w w10 ax ay bx by' cx cy dx dy) := H9.out.later hb
    clear hb u0 u1 u2 u3 u4 u5 u6 u7 H9
    obtain ⟨u0, u1, u2, u3, u4, u5, u6, u7, _⟩ := H10.out
    clear u0 u1 u2 u3 u4 u5 u6 u7
    go_wp2
    go_ret
    exact ⟨rfl, H10.out.bel⟩
  · go_wp2_with fail
    refine (within_is ax ay bx by' cx cy dx dy _ true ⟨⟨HW.out.1.1, HW.out.1.2.1, HW.out.1.2.2⟩, HW.out.2⟩ (by rw [ho1.out, hz.out]; decide)).mono ?_
    rintro e w6 ⟨rfl, hb⟩
    have H6 : Hid (B4 w w6 ax ay bx by' cx cy dx dy) := H5.out.later hb
    clear hb u0 u1 u2 u3 u4 u5 u6 u7 H5
    obtain ⟨u0, u1, u2, u3, u4, u5, u6, u7, _⟩ := H6.out
    go_wp2_with fail
    refine (within_is ax ay cx cy dx dy bx by' _ true ⟨⟨HW.out.1.1, HW.out.1.2.2, HW.out.2⟩, HW.out.1.2.1⟩ (by rw [ho2.out, sg4_34 ax ay cx cy bx by' dx dy, sg4_23 ax ay bx by' cx cy dx dy, hz.out]; decide)).mono ?_
    rintro e w7 ⟨rfl, hb⟩
    have H7 : Hid (B4 w w7 ax ay bx by' cx cy dx dy) := H6.out.later hb
    clear hb u0 u1 u2 u3 u4 u5 u6 u7 H6
    obtain ⟨u0, u1, u2, u3, u4, u5, u6, u7, _⟩ := H7.out
    go_wp2_with fail
    refine (within_is bx by' cx cy dx dy ax ay _ false ⟨⟨HW.out.1.2.1, HW.out.1.2.2, HW.out.2⟩, HW.out.1.1⟩ (by rw [ho3.out, sg4_34 bx by' cx cy ax ay dx dy, sg4_23 bx by' ax ay cx cy dx dy, sg4_12 ax ay bx by' cx cy dx dy, hz.out]; decide)).mono ?_
    rintro e w8 ⟨rfl, hb⟩
    have H8 : Hid (B4 w w8 ax ay bx by' cx cy dx dy) := H7.out.later hb
    clear hb u0 u1 u2 u3 u4 u5 u6 u7 H7
    obtain ⟨u0, u1, u2, u3, u4, u5, u6, u7, _⟩ := H8.out
    go_wp2_with fail
    refine (within_is ax ay bx by' dx dy cx cy _ false ⟨⟨HW.out.1.1, HW.out.1.2.1, HW.out.2⟩, HW.out.1.2.2⟩ (by rw [ho4.out, sg4_34 ax ay bx by' cx cy dx dy, hz.out]; decide)).mono ?_
    rintro e w9 ⟨rfl, hb⟩
    have H9 : Hid (B4 w w9 ax ay bx by' cx cy dx dy) := H8.out.later hb
    clear hb u0 u1 u2 u3 u4 u5 u6 u7 H8
    obtain ⟨u0, u1, u2, u3, u4, u5, u6, u7, _⟩ := H9.out
    clear u0 u1 u2 u3 u4 u5 u6 u7
    go_wp2
    go_ret
    exact ⟨rfl, H9.out.bel⟩

end Go.Proofs.Ytghchejehlljkaa

/- Floats: Ldexp, on floats that are not below the normal ones. -/
namespace Go.Proofs.Ytghchejehlljkaa
open Go.RowKit

set_option maxHeartbeats 1000000 in
theorem inf_pos (w : World) : Calls Try.prog 12 #[.int .i64 1] w fun e w' => e = .returned (.float .f64 9218868437227405312) ∧ w' = w := by
  have b2 := run_frombits 9218868437227405312
  have b2' : ∀ w, (callFunc 24 #[.int .u64 9218868437227405312]).run Try.prog w = .ok (.value (.float .f64 9218868437227405312)) w := b2
  go_enter Try.func12, Try.ntmps12
  go_wp2
  go_ret
  exact ⟨rfl, rfl⟩

set_option maxHeartbeats 2000000 in
theorem ldexp_norm (E u T x y z9 : Nat) (k : Int) (w : World) (hx : E * 4503599627370496 + u = x) (hy : T * 4503599627370496 + u = y) (hz : T * 4503599627370496 = z9) (hE1 : 1 ≤ E) (hE2 : E ≤ 2046) (hu : u < 4503599627370496) (hT : k + (E : Int) = (T : Int)) (hT1 : 1 ≤ T) (hT2 : T ≤ 2046) :
    Calls Try.prog 38 #[.float .f64 x, .int .i64 k] w fun e w' => e = .returned (.float .f64 y) ∧ w' = w := by
  have z := zero_order x (by omega) (by omega)
  obtain ⟨f1, f2⟩ := fin_flags x (by omega)
  have b1 := run_bits x
  have HI : Hid (∀ w, Calls Try.prog 61 #[.float .f64 x, .int .i64 0] w fun e w' => e = .returned (.bool false) ∧ w' = w) := fun w => by have := isInf0_any x w (by omega); rwa [f1] at this
  have HN : Hid (∀ w, Calls Try.prog 25 #[.float .f64 x] w fun e w' => e = .returned (.bool false) ∧ w' = w) := fun w => by have := isNaN_any x w; rwa [f2] at this
  have HM : Hid (∀ w, Calls Try.prog 62 #[.float .f64 x] w fun e w' => e = .returned (.tuple #[.float .f64 x, .int .i64 0]) ∧ w' = w) := fun w => normalize_big _ w (by omega) (by omega)
  have c1 : ((x : Nat) : Int) / 4503599627370496 = (E : Int) := by omega
  have c2 := and_exp_i E (by omega)
  have c3 := andNot_exp x (by omega)
  rw [show x % 4503599627370496 = u by omega] at c3
  have c4 : bits .or .u64 (u : Int) (z9 : Int) = (y : Int) := by have := or_exp T u (by omega) hu; rw [hy, hz] at this; exact this
  have b2 := run_frombits y
  have c5 : IntKind.u64.wrap ((T : Int) * 4503599627370496) = (z9 : Int) := by rw [IntKind.wrap_u64]; omega
  have c6 : ∀ w, (binOp .mul 22 (.float .f64 4607182418800017408) (.float .f64 y)).run Try.prog w = .ok (.float .f64 y) w := fun w => run_float_arith w .mul _ .f64 _ _ _ (by have := mul_one T u hT1 hT2 hu; rw [hy] at this; exact this)
  have g1 : ¬ (k + ((E : Int) - 1023) < -1075) := by omega
  have g2 : ¬ (1023 < k + ((E : Int) - 1023)) := by omega
  have g3 : ¬ (k + ((E : Int) - 1023) < -1022) := by omega
  have g4 : k + ((E : Int) - 1023) + 1023 = (T : Int) := by omega
  have g5 : -5000 ≤ k := by omega
  have g6 : k ≤ 5000 := by omega
  have g7 : (E : Int) ≤ 2046 := by omega
  have g8 : (T : Int) ≤ 2046 := by omega
  have HX : Hid (E * 4503599627370496 + u = x) := hx
  clear hx f1 f2
  have HY : Hid (T * 4503599627370496 + u = y) := hy
  have HZ : Hid (T * 4503599627370496 = z9) := hz
  have HT : Hid (k + (E : Int) = (T : Int)) := hT
  clear hy hz hT
  go_enter Try.func38, Try.ntmps38
  go_wp2_with (first
    | (go_at_call 61; refine (HI.out _).mono ?_; rintro e w' ⟨rfl, rfl⟩)
    | (go_at_call 25; refine (HN.out _).mono ?_; rintro e w' ⟨rfl, rfl⟩)
    | (go_at_call 62; refine (HM.out _).mono ?_; rintro e w' ⟨rfl, rfl⟩))
  go_ret
  exact ⟨rfl, rfl⟩

set_option maxHeartbeats 2000000 in
theorem ldexp_den (E u T x y z9 r : Nat) (k : Int) (w : World) (hx : E * 4503599627370496 + u = x) (hy : T * 4503599627370496 + u = y) (hz : T * 4503599627370496 = z9) (hE1 : 1 ≤ E) (hE2 : E ≤ 2046) (hu : u < 4503599627370496) (hT : k + (E : Int) + 53 = (T : Int)) (hT1 : 1 ≤ T) (hT2 : T ≤ 53) (hmul : Ieee.double.mul 4368491638549381120 y = some r) :
    Calls Try.prog 38 #[.float .f64 x, .int .i64 k] w fun e w' => e = .returned (.float .f64 r) ∧ w' = w := by
  have z := zero_order x (by omega) (by omega)
  obtain ⟨f1, f2⟩ := fin_flags x (by omega)
  have b1 := run_bits x
  have HI : Hid (∀ w, Calls Try.prog 61 #[.float .f64 x, .int .i64 0] w fun e w' => e = .returned (.bool false) ∧ w' = w) := fun w => by have := isInf0_any x w (by omega); rwa [f1] at this
  have HN : Hid (∀ w, Calls Try.prog 25 #[.float .f64 x] w fun e w' => e = .returned (.bool false) ∧ w' = w) := fun w => by have := isNaN_any x w; rwa [f2] at this
  have HM : Hid (∀ w, Calls Try.prog 62 #[.float .f64 x] w fun e w' => e = .returned (.tuple #[.float .f64 x, .int .i64 0]) ∧ w' = w) := fun w => normalize_big _ w (by omega) (by omega)
  have c1 : ((x : Nat) : Int) / 4503599627370496 = (E : Int) := by omega
  have c2 := and_exp_i E (by omega)
  have c3 := andNot_exp x (by omega)
  rw [show x % 4503599627370496 = u by omega] at c3
  have c4 : bits .or .u64 (u : Int) (z9 : Int) = (y : Int) := by have := or_exp T u (by omega) hu; rw [hy, hz] at this; exact this
  have b2 := run_frombits y
  have c5 : IntKind.u64.wrap ((T : Int) * 4503599627370496) = (z9 : Int) := by rw [IntKind.wrap_u64]; omega
  have c6 : ∀ w, (binOp .mul 22 (.float .f64 4368491638549381120) (.float .f64 y)).run Try.prog w = .ok (.float .f64 r) w := fun w => run_float_arith w .mul _ .f64 _ _ _ hmul
  have g1 : ¬ (k + ((E : Int) - 1023) < -1075) := by omega
  have g2 : ¬ (1023 < k + ((E : Int) - 1023)) := by omega
  have g3 : k + ((E : Int) - 1023) < -1022 := by omega
  have g4 : k + ((E : Int) - 1023) + 53 + 1023 = (T : Int) := by omega
  have g5 : -5000 ≤ k := by omega
  have g6 : k ≤ 5000 := by omega
  have g7 : (E : Int) ≤ 2046 := by omega
  have g8 : (T : Int) ≤ 2046 := by omega
  have HX : Hid (E * 4503599627370496 + u = x) := hx
  clear hx f1 f2
  have HY : Hid (T * 4503599627370496 + u = y) := hy
  have HZ : Hid (T * 4503599627370496 = z9) := hz
  have HT : Hid (k + (E : Int) + 53 = (T : Int)) := hT
  clear hy hz hT hmul
  go_enter Try.func38, Try.ntmps38
  go_wp2_with (first
    | (go_at_call 61; refine (HI.out _).mono ?_; rintro e w' ⟨rfl, rfl⟩)
    | (go_at_call 25; refine (HN.out _).mono ?_; rintro e w' ⟨rfl, rfl⟩)
    | (go_at_call 62; refine (HM.out _).mono ?_; rintro e w' ⟨rfl, rfl⟩))
  go_ret
  exact ⟨rfl, rfl⟩

set_option maxHeartbeats 2000000 in
theorem ldexp_inf (E u x : Nat) (k : Int) (w : World) (hx : E * 4503599627370496 + u = x) (hE1 : 1 ≤ E) (hE2 : E ≤ 2046) (hu : u < 4503599627370496) (hT : 2046 < k + (E : Int)) (hk : k ≤ 1000000) :
    Calls Try.prog 38 #[.float .f64 x, .int .i64 k] w fun e w' => e = .returned (.float .f64 9218868437227405312) ∧ w' = w := by
  have z := zero_order x (by omega) (by omega)
  obtain ⟨f1, f2⟩ := fin_flags x (by omega)
  have b1 := run_bits x
  have HI : Hid (∀ w, Calls Try.prog 61 #[.float .f64 x, .int .i64 0] w fun e w' => e = .returned (.bool false) ∧ w' = w) := fun w => by have := isInf0_any x w (by omega); rwa [f1] at this
  have HN : Hid (∀ w, Calls Try.prog 25 #[.float .f64 x] w fun e w' => e = .returned (.bool false) ∧ w' = w) := fun w => by have := isNaN_any x w; rwa [f2] at this
  have HM : Hid (∀ w, Calls Try.prog 62 #[.float .f64 x] w fun e w' => e = .returned (.tuple #[.float .f64 x, .int .i64 0]) ∧ w' = w) := fun w => normalize_big _ w (by omega) (by omega)
  have c1 : ((x : Nat) : Int) / 4503599627370496 = (E : Int) := by omega
  have c2 := and_exp_i E (by omega)
  have c3 := andNot_exp x (by omega)
  rw [show x % 4503599627370496 = u by omega] at c3
  have g0 : (FloatKind.f64.format.order x 0 == some .lt) = false := by
    show (Ieee.double.order x 0 == some .lt) = false
    rw [order_fin (by unfold Fin64 frung; omega) (by unfold Fin64 frung; decide), fval_zero_iff.2 (by rfl : frung 0 = 0), if_neg (by have := fval_nonneg (r := x) (by omega); grind)]
    split <;> rfl
  have g1 : ¬ (k + ((E : Int) - 1023) < -1075) := by omega
  have g2 : 1023 < k + ((E : Int) - 1023) := by omega
  have g5 : -5000 ≤ k := by omega
  have g7 : (E : Int) ≤ 2046 := by omega
  have HX : Hid (E * 4503599627370496 + u = x) := hx
  clear hx f1 f2
  have HT : Hid (2046 < k + (E : Int)) := hT
  clear hT
  go_enter Try.func38, Try.ntmps38
  go_wp2_with (first
    | (go_at_call 61; refine (HI.out _).mono ?_; rintro e w' ⟨rfl, rfl⟩)
    | (go_at_call 25; refine (HN.out _).mono ?_; rintro e w' ⟨rfl, rfl⟩)
    | (go_at_call 62; refine (HM.out _).mono ?_; rintro e w' ⟨rfl, rfl⟩)
    | (go_at_call 12; refine (inf_pos _).mono ?_; rintro e w' ⟨rfl, rfl⟩))
  go_ret
  exact ⟨rfl, rfl⟩

set_option maxHeartbeats 1000000 in
theorem ldexp_zero (k : Int) (w : World) : Calls Try.prog 38 #[.float .f64 0, .int .i64 k] w fun e w' => e = .returned (.float .f64 0) ∧ w' = w := by
  have z : (FloatKind.f64.format.order 0 0 == some .eq) = true := by decide
  go_enter Try.func38, Try.ntmps38
  go_wp2
  go_ret
  exact ⟨rfl, rfl⟩

set_option maxHeartbeats 1000000 in
theorem Ldexp_of (a b : Nat) (k : Int) (w : World) (hf : ∀ w, Calls Try.prog 38 #[.float .f64 a, .int .i64 k] w fun e w' => e = .returned (.float .f64 b) ∧ w' = w) :
    Calls Try.prog 20 #[.float .f64 a, .int .i64 k] w fun e w' => e = .returned (.float .f64 b) ∧ w' = w := by
  have HF : Hid _ := hf
  clear hf
  go_enter Try.func20, Try.ntmps20
  go_wp2_with (first | (go_at_call 38; refine (HF.out _).mono ?_; rintro e w' ⟨rfl, rfl⟩))
  go_ret
  exact ⟨rfl, rfl⟩

end Go.Proofs.Ytghchejehlljkaa

/- CircleMoved: plain facts, helpers. -/
namespace Go.Proofs.Ytghchejehlljkaa
open Go.RowKit Go.Shelf
attribute [local go_sem] run_store_float

theorem crd_top {x : Nat} (hf : Fin64 x) : frung x ≤ 5057542381537067008 ↔ ab (fval x) ≤ U 1174 := by
  constructor
  · exact crd_ab
  · intro h
    rcases Nat.lt_or_ge 5057542381537067008 (frung x) with h1 | h1
    · exfalso
      have f : frung x < 9218868437227405312 := hf
      have := fval_lt h1 f
      rw [top100, ab_fval x hf] at this
      grind
    · exact h1
/-- A whole number's float. -/
def fw (n : Int) : Nat := floatOfInt .f64 n
theorem fw_val {n : Int} (h1 : -9007199254740992 ≤ n) (h2 : n ≤ 9007199254740992) : Fin64 (fw n) ∧ fw n < 18446744073709551616 ∧ fval (fw n) = (n : Rat) := by
  have hq : ((n.natAbs : Nat) : Rat) * p2 0 < p2 1023 := by
    rw [p2_zero, Rat.mul_one]
    have a : ((n.natAbs : Nat) : Rat) ≤ ((9007199254740992 : Nat) : Rat) := Rat.natCast_le_natCast.2 (by omega)
    have b : ((9007199254740992 : Nat) : Rat) = p2 53 := by rw [show (53 : Int) = ((53 : Nat) : Int) from rfl, p2_nat]
    have c : p2 53 < p2 1023 := p2_lt (by omega)
    rw [b] at a
    grind
  obtain ⟨r, er, fr, lr, hr⟩ := write_rv (decide (n < 0)) n.natAbs 0 hq
  have e : fw n = r := er
  have hv : sgn1 (decide (n < 0)) * (((n.natAbs : Nat) : Rat) * p2 0) = (n : Rat) := by
    rw [p2_zero, Rat.mul_one]
    unfold sgn1
    by_cases h : n < 0
    · rw [decide_eq_true h, if_pos rfl]
      have : ((n.natAbs : Nat) : Rat) = ((-n : Int) : Rat) := by
        rw [show ((n.natAbs : Nat) : Rat) = ((n.natAbs : Int) : Rat) from rfl, show (n.natAbs : Int) = -n by omega]
      rw [this, Rat.intCast_neg]; grind
    · rw [decide_eq_false h, if_neg (by decide), Rat.one_mul]
      rw [show ((n.natAbs : Nat) : Rat) = ((n.natAbs : Int) : Rat) from rfl, show (n.natAbs : Int) = n by omega]
  rw [hv] at hr
  rw [e]
  exact ⟨fr, lr, hr.rn.int n rfl h1 h2⟩
/-- The float 2^k. -/
def pwW (k : Int) : Nat := (1023 + k).toNat * 4503599627370496
theorem pw_val {k : Int} (h1 : -1000 ≤ k) (h2 : k ≤ 1000) : Fin64 (pwW k) ∧ pwW k < 18446744073709551616 ∧ fval (pwW k) = p2 k := by
  obtain ⟨j, hj⟩ : ∃ j : Nat, (j : Int) = 1022 + k := ⟨(1022 + k).toNat, by omega⟩
  have e : pwW k = j * 4503599627370496 + 4503599627370496 := by unfold pwW; omega
  rw [e]
  refine ⟨by unfold Fin64 frung; omega, by omega, ?_⟩
  rw [fval_rung j 4503599627370496 (by omega) (Or.inr (by omega)) (by omega)]
  have := U_52 j
  rw [show ((4503599627370496 : Nat) : Rat) = 4503599627370496 from rfl, ← this]
  unfold U
  rw [show ((j + 52 : Nat) : Int) - 1074 = k by omega]
theorem sgq_scale {t q : Rat} (ht : 0 < t) : sgq (t * q) = sgq q := by
  unfold sgq
  rcases (by grind : q < 0 ∨ q = 0 ∨ 0 < q) with h | h | h
  · have : t * q < 0 := by have := Rat.mul_pos ht (show 0 < -q by grind); grind
    rw [if_pos this, if_pos h]
  · rw [h, Rat.mul_zero]
  · have := Rat.mul_pos ht h
    rw [if_neg (by grind), if_neg (by grind), if_neg (by grind), if_neg (by grind)]
theorem tmod_20 (x : Int) : -1048576 < x.tmod 1048576 ∧ x.tmod 1048576 < 1048576 := by
  have a := Int.tmod_lt_of_pos x (show (0 : Int) < 1048576 by omega)
  have b := Int.tmod_lt_of_pos (-x) (show (0 : Int) < 1048576 by omega)
  rw [Int.neg_tmod] at b
  omega
theorem tmod_21 (x : Int) : -21 < x.tmod 21 ∧ x.tmod 21 < 21 := by
  have a := Int.tmod_lt_of_pos x (show (0 : Int) < 21 by omega)
  have b := Int.tmod_lt_of_pos (-x) (show (0 : Int) < 21 by omega)
  rw [Int.neg_tmod] at b
  omega
theorem ldexp_one (k : Int) (w : World) (h1 : -21 < k) (h2 : k < 21) : Calls Try.prog 20 #[.float .f64 4607182418800017408, .int .i64 k] w fun e w' => e = .returned (.float .f64 (pwW k)) ∧ w' = w := by
  obtain ⟨T, hT⟩ : ∃ T : Nat, (T : Int) = 1023 + k := ⟨(1023 + k).toNat, by omega⟩
  have e : pwW k = T * 4503599627370496 := by unfold pwW; omega
  refine Ldexp_of _ _ k w (fun w => ?_)
  refine ldexp_norm 1023 0 T 4607182418800017408 (pwW k) (T * 4503599627370496) k w (by omega) (by omega) rfl (by omega) (by omega) (by omega) (by omega) (by omega) (by omega)

/-- A whole number times a power of two, and a step. -/
theorem step_word {p u : Nat} {m t k : Int} (fp : Fin64 p) (vp : fval p = (m : Rat)) (m1 : -1048576 < m) (m2 : m < 1048576) (fu : Fin64 u) (vu : fval u = (t : Rat)) (t1 : -1048576 < t) (t2 : t < 1048576) (h1 : -21 < k) (h2 : k < 21) :
    ∃ s X, floatBits .mul .f64 p (pwW k) = some s ∧ floatBits .add .f64 s u = some X ∧ X < 18446744073709551616 ∧ fval X = fval p * p2 k + fval u ∧ Crd X := by
  obtain ⟨fk, _, vk⟩ := pw_val (k := k) (by omega) (by omega)
  obtain ⟨q, hq⟩ : ∃ q : Nat, (q : Int) = 1074 + k := ⟨(1074 + k).toNat, by omega⟩
  have hU : p2 k = U q := by unfold U; rw [show (q : Int) - 1074 = k by omega]
  have am : ab (fval p) ≤ U 1094 := by
    rw [vp]
    have a := ab_int (n := m) (k := 1048576) (by omega) (by omega)
    have h := U_add 1074 20
    rw [U1074, Rat.mul_one] at h
    rw [show (1094 : Nat) = 1074 + 20 from rfl, h]
    exact a
  have at' : ab (fval u) ≤ U 1094 := by
    rw [vu]
    have a := ab_int (n := t) (k := 1048576) (by omega) (by omega)
    have h := U_add 1074 20
    rw [U1074, Rat.mul_one] at h
    rw [show (1094 : Nat) = 1074 + 20 from rfl, h]
    exact a
  have b1 : ab (fval p * fval (pwW k)) ≤ U 1114 := by
    rw [vk, hU]
    have h3 := mul_le_U (x := fval p) (y := U q) (p := 1094) (q := q) (r := 20 + q) am (by rw [ab_pos' (Rat.le_of_lt (U_pos q))]; exact Rat.le_refl) (by omega)
    have h4 := U_mono (show 20 + q ≤ 1114 by omega)
    grind
  obtain ⟨s, es, fs, _, rs⟩ := mul_bits fp fk (lim_U b1 (by omega))
  have vs : fval s = fval p * p2 k := by
    rw [← vk]
    apply rs.rn.exact
    rw [vp, vk, hU]
    exact ⟨q, m, rfl, by omega, by omega⟩
  have b2 : ab (fval s + fval u) ≤ U 1115 := by
    have h := U_two' 1114
    have h5 := ab_add (fval s) (fval u)
    have h6 := U_mono (show 1094 ≤ 1114 by omega)
    rw [vs] at h5 ⊢
    rw [vk] at b1
    grind
  obtain ⟨X, eX, fX, lX, rX⟩ := add_bits fs fu (lim_U b2 (by omega))
  have hm : ∃ (r : Nat) (j : Int), fval s + fval u = (j : Rat) * U r ∧ -9007199254740992 ≤ j ∧ j ≤ 9007199254740992 ∧ 974 ≤ r := by
    rcases Int.lt_or_le k 0 with h | h
    · obtain ⟨d, hd⟩ : ∃ d : Nat, (d : Int) = -k := ⟨(-k).toNat, by omega⟩
      have hd' : d ≤ 20 := by omega
      have h1074 : U 1074 = ((2 ^ d : Nat) : Rat) * U q := by
        have := U_add q d
        rwa [show q + d = 1074 by omega] at this
      refine ⟨q, m + t * ((2 ^ d : Nat) : Int), ?_, ?_, ?_, by omega⟩
      · rw [vs, vp, vu, hU, Rat.intCast_add, Rat.intCast_mul, show (((2 ^ d : Nat) : Int) : Rat) = ((2 ^ d : Nat) : Rat) from rfl]
        rw [U1074] at h1074
        have : (t : Rat) = (t : Rat) * (((2 ^ d : Nat) : Rat) * U q) := by rw [← h1074, Rat.mul_one]
        grind
      · have hp : (2 ^ d : Nat) ≤ 1048576 := by
          have := Nat.pow_le_pow_right (show 0 < 2 by omega) hd'
          omega
        generalize (2 ^ d : Nat) = zd at *
        have := int_mul_bound (a := t) (b := (zd : Int)) (k := 1048576) (m := 1048576) (by omega) (by omega) (by omega) (by omega)
        omega
      · have hp : (2 ^ d : Nat) ≤ 1048576 := by
          have := Nat.pow_le_pow_right (show 0 < 2 by omega) hd'
          omega
        generalize (2 ^ d : Nat) = zd at *
        have := int_mul_bound (a := t) (b := (zd : Int)) (k := 1048576) (m := 1048576) (by omega) (by omega) (by omega) (by omega)
        omega
    · obtain ⟨d, hd⟩ : ∃ d : Nat, (d : Int) = k := ⟨k.toNat, by omega⟩
      have hd' : d ≤ 20 := by omega
      have h1074 : U q = ((2 ^ d : Nat) : Rat) * U 1074 := by
        have := U_add 1074 d
        rwa [show 1074 + d = q by omega] at this
      refine ⟨1074, m * ((2 ^ d : Nat) : Int) + t, ?_, ?_, ?_, by omega⟩
      · rw [vs, vp, vu, hU, h1074, Rat.intCast_add, Rat.intCast_mul, show (((2 ^ d : Nat) : Int) : Rat) = ((2 ^ d : Nat) : Rat) from rfl, U1074]
        grind
      · have hp : (2 ^ d : Nat) ≤ 1048576 := by
          have := Nat.pow_le_pow_right (show 0 < 2 by omega) hd'
          omega
        generalize (2 ^ d : Nat) = zd at *
        have := int_mul_bound (a := m) (b := (zd : Int)) (k := 1048576) (m := 1048576) (by omega) (by omega) (by omega) (by omega)
        omega
      · have hp : (2 ^ d : Nat) ≤ 1048576 := by
          have := Nat.pow_le_pow_right (show 0 < 2 by omega) hd'
          omega
        generalize (2 ^ d : Nat) = zd at *
        have := int_mul_bound (a := m) (b := (zd : Int)) (k := 1048576) (m := 1048576) (by omega) (by omega) (by omega) (by omega)
        omega
  obtain ⟨r, j, hj, j1, j2, hr⟩ := hm
  have vX : fval X = fval s + fval u := rX.rn.exact (by rw [hj]; exact ⟨r, j, rfl, j1, j2⟩)
  refine ⟨s, X, es, eX, lX, by rw [vX, vs], ?_, ?_⟩
  · rw [crd_top fX, vX]
    exact Rat.le_trans b2 (U_mono (by omega))
  · rw [vX, hj]
    exact M.down hr ⟨j, rfl⟩
theorem fw_crd {m : Int} (m1 : -1048576 < m) (m2 : m < 1048576) : Fin64 (fw m) ∧ fw m < 18446744073709551616 ∧ fval (fw m) = (m : Rat) ∧ Crd (fw m) := by
  obtain ⟨f, l, v⟩ := fw_val (n := m) (by omega) (by omega)
  refine ⟨f, l, v, ?_, ?_⟩
  · rw [crd_top f, v]
    have a := ab_int (n := m) (k := 1048576) (by omega) (by omega)
    have h := U_add 1074 20
    rw [U1074, Rat.mul_one] at h
    have h2 := U_mono (show 1094 ≤ 1174 by omega)
    rw [show (1094 : Nat) = 1074 + 20 from rfl, h] at h2
    exact Rat.le_trans a h2
  · rw [v]
    exact M.down (show 974 ≤ 1074 by omega) ⟨m, by rw [U1074, Rat.mul_one]⟩

/-- A coordinate turned about, if so. -/
def mir (mi : Bool) (x : Nat) : Nat := if mi then fflip x else x
theorem mir_f (x : Nat) : mir false x = x := if_neg (by decide)
theorem mir_t (x : Nat) : mir true x = fflip x := if_pos rfl
def sgm (mi : Bool) : Rat := if mi then -1 else 1
theorem mir_val {mi : Bool} {x : Nat} {m : Int} (hf : Fin64 x) (hx : x < 18446744073709551616) (hv : fval x = (m : Rat)) (m1 : -1048576 < m) (m2 : m < 1048576) : Fin64 (mir mi x) ∧ ∃ m' : Int, fval (mir mi x) = (m' : Rat) ∧ -1048576 < m' ∧ m' < 1048576 ∧ fval (mir mi x) = sgm mi * fval x := by
  unfold mir sgm
  cases mi
  · exact ⟨hf, m, hv, m1, m2, by simp⟩
  · refine ⟨by unfold Fin64; simp; rw [frung_flip hx]; exact hf, -m, ?_, by omega, by omega, ?_⟩
    · simp; rw [fval_flip hx hf, hv]
    · simp; rw [fval_flip hx hf]; grind

/-- A point that was mirrored, made larger, moved. -/
structure Mq (ax ay ex ey : Nat) (s t u v : Rat) : Prop where
  x : fval ex = s * fval ax * t + u
  y : fval ey = fval ay * t + v
theorem S4_moved {ax ay bx by' cx cy dx dy ex ey fx fy gx gy hx hy : Nat} {s t u v : Rat} (hs : s * s = 1) (h0 : Mq ax ay ex ey s t u v) (h1 : Mq bx by' fx fy s t u v) (h2 : Mq cx cy gx gy s t u v) (h3 : Mq dx dy hx hy s t u v) : S4 ex ey fx fy gx gy hx hy = s * (t * t * (t * t) * S4 ax ay bx by' cx cy dx dy) := by
  have e : ∀ a b c d e f : Rat, det3 (s * a * t) (b * t) (s * c * t) (d * t) (s * e * t) (f * t) = s * (t * t * (t * t) * det3 a b c d e f) := by
    intro a b c d e f
    have k : ∀ z : Rat, s * z * t * (s * z * t) = z * z * (t * t) := fun z => by
      have : s * z * t * (s * z * t) = s * s * (z * z * (t * t)) := by grind
      rw [this, hs, Rat.one_mul]
    unfold det3
    rw [k, k, k]
    grind
  have d : ∀ a b : Rat, s * a * t + u - (s * b * t + u) = s * (a - b) * t := by intro a b; grind
  have d' : ∀ a b : Rat, a * t + v - (b * t + v) = (a - b) * t := by intro a b; grind
  unfold S4
  rw [h0.x, h0.y, h1.x, h1.y, h2.x, h2.y, h3.x, h3.y, d, d, d, d', d', d', e]
theorem S3_moved4 {ax ay bx by' cx cy ex ey fx fy gx gy : Nat} {s t u v : Rat} (h0 : Mq ax ay ex ey s t u v) (h1 : Mq bx by' fx fy s t u v) (h2 : Mq cx cy gx gy s t u v) : S3 ex ey fx fy gx gy = s * (t * t * S3 ax ay bx by' cx cy) := by
  unfold S3
  rw [h0.x, h0.y, h1.x, h1.y, h2.x, h2.y]
  grind
theorem sgm_sq (mi : Bool) : sgm mi * sgm mi = 1 := by cases mi <;> decide +kernel
theorem sgq_sgm (mi : Bool) (q : Rat) : sgq (sgm mi * q) = (if mi then -sgq q else sgq q) := by
  cases mi
  · show sgq (1 * q) = sgq q
    rw [Rat.one_mul]
  · show sgq (-1 * q) = -sgq q
    rw [← sgq_minus']
    congr 1
    grind
theorem sg4_moved {ax ay bx by' cx cy dx dy ex ey fx fy gx gy hx hy : Nat} {mi : Bool} {t u v : Rat} (ht : 0 < t) (h0 : Mq ax ay ex ey (sgm mi) t u v) (h1 : Mq bx by' fx fy (sgm mi) t u v) (h2 : Mq cx cy gx gy (sgm mi) t u v) (h3 : Mq dx dy hx hy (sgm mi) t u v) (p : P4 ax ay bx by' cx cy dx dy) (q : P4 ex ey fx fy gx gy hx hy) : sg4 ex ey fx fy gx gy hx hy = (if mi then -sg4 ax ay bx by' cx cy dx dy else sg4 ax ay bx by' cx cy dx dy) := by
  rw [sg4_yes p, sg4_yes q, S4_moved (sgm_sq mi) h0 h1 h2 h3, sgq_sgm, sgq_scale (Rat.mul_pos (Rat.mul_pos ht ht) (Rat.mul_pos ht ht))]
theorem sg3_moved {ax ay bx by' cx cy ex ey fx fy gx gy : Nat} {mi : Bool} {t u v : Rat} (ht : 0 < t) (h0 : Mq ax ay ex ey (sgm mi) t u v) (h1 : Mq bx by' fx fy (sgm mi) t u v) (h2 : Mq cx cy gx gy (sgm mi) t u v) (p : P3 ax ay bx by' cx cy) (q : P3 ex ey fx fy gx gy) : sg3 ex ey fx fy gx gy = (if mi then -sg3 ax ay bx by' cx cy else sg3 ax ay bx by' cx cy) := by
  rw [sg3_yes p, sg3_yes q, S3_moved4 h0 h1 h2, sgq_sgm, sgq_scale (Rat.mul_pos ht ht)]

set_option maxRecDepth 100000 in
set_option maxHeartbeats 2000000 in
theorem moved5_any (px py pw u v s1 X s2 Y : Nat) (mi : Bool) (w : World) (hp : px < 18446744073709551616) (h1 : floatBits .mul .f64 (mir mi px) pw = some s1) (h2 : floatBits .add .f64 s1 u = some X) (h3 : floatBits .mul .f64 py pw = some s2) (h4 : floatBits .add .f64 s2 v = some Y) :
    Calls Try.prog 21 #[pv px py, .float .f64 pw, .bool mi, .float .f64 u, .float .f64 v] w fun e w' => e = .returned (pv X Y) ∧ Below w.heap.size w w' := by
  have r1 : ∀ w, (binOp .mul 22 (.float .f64 (mir mi px)) (.float .f64 pw)).run Try.prog w = .ok (.float .f64 s1) w := fun w => run_float_arith w .mul _ .f64 _ _ _ h1
  have r2 : ∀ w, (binOp .add 22 (.float .f64 s1) (.float .f64 u)).run Try.prog w = .ok (.float .f64 X) w := fun w => run_float_arith w .add _ .f64 _ _ _ h2
  have r3 : ∀ w, (binOp .mul 22 (.float .f64 py) (.float .f64 pw)).run Try.prog w = .ok (.float .f64 s2) w := fun w => run_float_arith w .mul _ .f64 _ _ _ h3
  have r4 : ∀ w, (binOp .add 22 (.float .f64 s2) (.float .f64 v)).run Try.prog w = .ok (.float .f64 Y) w := fun w => run_float_arith w .add _ .f64 _ _ _ h4
  have nx := run_negF px hp
  clear h1 h2 h3 h4
  cases mi
  · rw [mir_f] at r1
    go_enter Try.func21, Try.ntmps21
    go_wp2
    refine bodyPost_ret (v := pv X Y) (by simp [results, Try.results21, go_sem]) rfl ?_
    exact ⟨rfl, ((Below.refl _ w).alloc (Nat.le_refl _) _).alloc (by simp) _⟩
  · rw [mir_t] at r1
    generalize fflip px = fp at *
    go_enter Try.func21, Try.ntmps21
    go_wp2
    refine bodyPost_ret (v := pv X Y) (by simp [results, Try.results21, go_sem]) rfl ?_
    exact ⟨rfl, ((Below.refl _ w).alloc (Nat.le_refl _) _).alloc (by simp) _⟩

end Go.Proofs.Ytghchejehlljkaa
