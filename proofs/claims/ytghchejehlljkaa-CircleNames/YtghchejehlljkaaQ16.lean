/- Own texts, put together: Ch Oh Oi Oj Ci Cj Cu. -/
import Derived.Test.YtghchejehlljkaaQ8
import Derived.Test.YtghchejehlljkaaQ11
import Derived.Test.YtghchejehlljkaaQ14
import Derived.Test.YtghchejehlljkaaQ15
import Derived.Deep.DeepCutAuto
/- Circles: Sign, Within. -/
namespace Go.Proofs.Ytghchejehlljkaa
open Go.RowKit Go.Shelf
attribute [local go_sem ↓] Go.wp_at_zero Go.wp_at_succ
attribute [local go_sem] run_store_float

/-- The sign of four points, 0 if one may not be. -/
noncomputable def sg4 (ax ay bx by' cx cy dx dy : Nat) : Int := @ite _ (P4 ax ay bx by' cx cy dx dy) (Classical.propDecidable _) (sgq (S4 ax ay bx by' cx cy dx dy)) 0
theorem sg4_yes {ax ay bx by' cx cy dx dy : Nat} (h : P4 ax ay bx by' cx cy dx dy) : sg4 ax ay bx by' cx cy dx dy = sgq (S4 ax ay bx by' cx cy dx dy) := by unfold sg4; rw [if_pos h]
theorem sg4_no {ax ay bx by' cx cy dx dy : Nat} (h : ¬ P4 ax ay bx by' cx cy dx dy) : sg4 ax ay bx by' cx cy dx dy = 0 := by unfold sg4; rw [if_neg h]
theorem sgq_range (q : Rat) : -1 ≤ sgq q ∧ sgq q ≤ 1 := by
  unfold sgq
  split
  · omega
  · split <;> omega
theorem sg4_range (ax ay bx by' cx cy dx dy : Nat) : -1 ≤ sg4 ax ay bx by' cx cy dx dy ∧ sg4 ax ay bx by' cx cy dx dy ≤ 1 := by
  by_cases h : P4 ax ay bx by' cx cy dx dy
  · rw [sg4_yes h]; exact sgq_range _
  · rw [sg4_no h]; omega
theorem sg3_range' (ax ay bx by' cx cy : Nat) : -1 ≤ sg3 ax ay bx by' cx cy ∧ sg3 ax ay bx by' cx cy ≤ 1 := by
  by_cases h : P3 ax ay bx by' cx cy
  · rw [sg3_yes h]; exact sgq_range _
  · rw [sg3_no h]; omega

set_option maxRecDepth 100000 in
set_option maxHeartbeats 2000000 in
theorem sign4_any (ax ay bx by' cx cy dx dy : Nat) (w : World) (hw : W8 ax ay bx by' cx cy dx dy) :
    Calls Try.prog 10 #[pv ax ay, pv bx by', pv cx cy, pv dx dy] w fun e w' => e = .returned (.int .i64 (sg4 ax ay bx by' cx cy dx dy)) ∧ Below w.heap.size w w' := by
  have HW : Hid (W8 ax ay bx by' cx cy dx dy) := hw
  clear hw
  have HS : Hid (B4 w ((((w.alloc (.cells #[.float .f64 ax, .float .f64 ay] 24)).alloc (.cells #[.float .f64 bx, .float .f64 by'] 24)).alloc (.cells #[.float .f64 cx, .float .f64 cy] 24)).alloc (.cells #[.float .f64 dx, .float .f64 dy] 24)) ax ay bx by' cx cy dx dy) := B4.start w ax ay bx by' cx cy dx dy
  go_enter Try.func10, Try.ntmps10
  go_wp2_with fail
  refine (cfast_any ax ay bx by' cx cy dx dy _ HW.out).mono ?_
  rintro e w1 ⟨⟨z, t, rfl, hz⟩, hb1⟩
  have H1 : Hid (B4 w w1 ax ay bx by' cx cy dx dy) := HS.out.later hb1
  have HZ : Hid (CFastR ax ay bx by' cx cy dx dy z t) := hz
  clear hz hb1 HS
  obtain ⟨u0, u1, u2, u3, u4, u5, u6, u7, _⟩ := H1.out
  cases t
  · go_wp2_with fail
    refine (has4 ax ay bx by' cx cy dx dy _ HW.out).mono ?_
    rintro e w2 ⟨⟨t, rfl, ht⟩, hb2⟩
    have H2 : Hid (B4 w w2 ax ay bx by' cx cy dx dy) := H1.out.later hb2
    have HT : Hid (t = true ↔ P4 ax ay bx by' cx cy dx dy) := ht
    clear ht hb2 u0 u1 u2 u3 u4 u5 u6 u7
    cases t
    · go_wp2
      go_ret
      exact ⟨by rw [sg4_no (fun h => Bool.noConfusion (HT.out.2 h))]; rfl, H2.out.bel⟩
    · have HP : Hid (P4 ax ay bx by' cx cy dx dy) := HT.out.1 rfl
      obtain ⟨u0, u1, u2, u3, u4, u5, u6, u7, _⟩ := H2.out
      go_wp2_with fail
      refine (cexact_any ax ay bx by' cx cy dx dy _ HW.out HP.out).mono ?_
      rintro e w3 ⟨rfl, hb3⟩
      have H3 : Hid (Below w.heap.size w w3) := below_step H2.out.bel hb3
      clear hb3
      go_wp2
      go_ret
      exact ⟨by rw [sg4_yes HP.out]; rfl, H3.out⟩
  · go_wp2
    go_ret
    exact ⟨by rw [sg4_yes (HZ.out.1 rfl).1, (HZ.out.1 rfl).2]; rfl, H1.out.bel⟩

set_option maxRecDepth 100000 in
set_option maxHeartbeats 2000000 in
theorem within_any (ax ay bx by' cx cy dx dy : Nat) (w : World) (hw : W8 ax ay bx by' cx cy dx dy) :
    Calls Try.prog 15 #[pv ax ay, pv bx by', pv cx cy, pv dx dy] w fun e w' => e = .returned (.bool (decide (0 < sg3 ax ay bx by' cx cy * sg4 ax ay bx by' cx cy dx dy))) ∧ Below w.heap.size w w' := by
  have HW : Hid (W8 ax ay bx by' cx cy dx dy) := hw
  clear hw
  have h1 := sg3_range' ax ay bx by' cx cy
  have h2 := sg4_range ax ay bx by' cx cy dx dy
  have HS3 : Hid (∀ w, Calls Try.prog 19 #[pv ax ay, pv bx by', pv cx cy] w fun e w' => e = .returned (.int .i64 (sg3 ax ay bx by' cx cy)) ∧ Below w.heap.size w w') := fun w => sign3_any _ _ _ _ _ _ w HW.out.1
  have HS4 : Hid (∀ w, Calls Try.prog 10 #[pv ax ay, pv bx by', pv cx cy, pv dx dy] w fun e w' => e = .returned (.int .i64 (sg4 ax ay bx by' cx cy dx dy)) ∧ Below w.heap.size w w') := fun w => sign4_any ax ay bx by' cx cy dx dy w HW.out
  generalize sg3 ax ay bx by' cx cy = z1 at *
  generalize sg4 ax ay bx by' cx cy dx dy = z2 at *
  have hz := int_mul_bound (a := z1) (b := z2) (k := 1) (m := 1) (by omega) (by omega) (by omega) (by omega)
  have hm : IntKind.i64.wrap (z1 * z2) = z1 * z2 := wrapE _ (by omega) (by omega)
  obtain ⟨tt, htt⟩ : ∃ tt, decide (0 < z1 * z2) = tt := ⟨_, rfl⟩
  have HT : Hid (decide (0 < z1 * z2) = tt) := htt
  clear hz h1 h2
  go_enter Try.func15, Try.ntmps15
  go_wp2_with fail
  have hS0 := B4.start w ax ay bx by' cx cy dx dy
  obtain ⟨W4, hW4⟩ : ∃ W4, W4 = ((((w.alloc (.cells #[.float .f64 ax, .float .f64 ay] 24)).alloc (.cells #[.float .f64 bx, .float .f64 by'] 24)).alloc (.cells #[.float .f64 cx, .float .f64 cy] 24)).alloc (.cells #[.float .f64 dx, .float .f64 dy] 24)) := ⟨_, rfl⟩
  rw [← hW4] at hS0 ⊢
  clear hW4
  have HB : Hid (Below w.heap.size w W4) := hS0.bel
  obtain ⟨za0, za1, zb0, zb1, zc0, zc1, zd0, zd1, _⟩ := hS0
  refine wp_region_held_drew (S := (fun W => W.cell? ⟨w.heap.size, 0, none⟩ = some (.float .f64 ax) ∧ W.cell? ⟨w.heap.size, 1, none⟩ = some (.float .f64 ay) ∧ W.cell? ⟨w.heap.size + 1, 0, none⟩ = some (.float .f64 bx) ∧ W.cell? ⟨w.heap.size + 1, 1, none⟩ = some (.float .f64 by') ∧ W.cell? ⟨w.heap.size + 1 + 1, 0, none⟩ = some (.float .f64 cx) ∧ W.cell? ⟨w.heap.size + 1 + 1, 1, none⟩ = some (.float .f64 cy) ∧ W.cell? ⟨w.heap.size + 1 + 1 + 1, 0, none⟩ = some (.float .f64 dx) ∧ W.cell? ⟨w.heap.size + 1 + 1 + 1, 1, none⟩ = some (.float .f64 dy) ∧ Below w.heap.size w W)) (by kernel_rfl) ⟨za0, za1, zb0, zb1, zc0, zc1, zd0, zd1, HB.out.drew⟩ (fun hS => ?_)
  refine take_at (i := 0) (d := some 9) (v := .agg #[.float .f64 ax, .float .f64 ay]) (by kernel_rfl) (by kernel_rfl) (by kernel_rfl) (by kernel_rfl) (fun _ _ _ h => h) ?_ hS ?_
  · intro o ho
    simp only [List.getElem?_toArray, List.getElem?_cons_zero, Option.some.injEq] at ho
    subst ho
    refine Or.inl ⟨by rfl, ?_⟩
    intro w hSw
    (try dsimp only at hSw)
    go_simp
  simp only [Act.put, List.setIfInBounds_toArray, List.set_cons_zero, List.set_cons_succ]
  refine take_at (i := 1) (d := some 10) (v := .agg #[.float .f64 bx, .float .f64 by']) (by kernel_rfl) (by kernel_rfl) (by kernel_rfl) (by kernel_rfl) (fun _ _ _ h => h) ?_ hS ?_
  · intro o ho
    simp only [List.getElem?_toArray, List.getElem?_cons_succ, List.getElem?_cons_zero, Option.some.injEq] at ho
    subst ho
    refine Or.inl ⟨by rfl, ?_⟩
    intro w hSw
    (try dsimp only at hSw)
    go_simp
  simp only [Act.put, List.setIfInBounds_toArray, List.set_cons_zero, List.set_cons_succ]
  refine take_at (i := 2) (d := some 11) (v := .agg #[.float .f64 cx, .float .f64 cy]) (by kernel_rfl) (by kernel_rfl) (by kernel_rfl) (by kernel_rfl) (fun _ _ _ h => h) ?_ hS ?_
  · intro o ho
    simp only [List.getElem?_toArray, List.getElem?_cons_succ, List.getElem?_cons_zero, Option.some.injEq] at ho
    subst ho
    refine Or.inl ⟨by rfl, ?_⟩
    intro w hSw
    (try dsimp only at hSw)
    go_simp
  simp only [Act.put, List.setIfInBounds_toArray, List.set_cons_zero, List.set_cons_succ]
  refine take_at (i := 4) (d := some 13) (v := .agg #[.float .f64 ax, .float .f64 ay]) (by kernel_rfl) (by kernel_rfl) (by kernel_rfl) (by kernel_rfl) (fun _ _ _ h => h) ?_ hS ?_
  · intro o ho
    simp only [List.getElem?_toArray, List.getElem?_cons_succ, List.getElem?_cons_zero, Option.some.injEq] at ho
    subst ho
    refine Or.inl ⟨by rfl, ?_⟩
    intro w hSw
    (try dsimp only at hSw)
    go_simp
  simp only [Act.put, List.setIfInBounds_toArray, List.set_cons_zero, List.set_cons_succ]
  refine take_at (i := 5) (d := some 14) (v := .agg #[.float .f64 bx, .float .f64 by']) (by kernel_rfl) (by kernel_rfl) (by kernel_rfl) (by kernel_rfl) (fun _ _ _ h => h) ?_ hS ?_
  · intro o ho
    simp only [List.getElem?_toArray, List.getElem?_cons_succ, List.getElem?_cons_zero, Option.some.injEq] at ho
    subst ho
    refine Or.inl ⟨by rfl, ?_⟩
    intro w hSw
    (try dsimp only at hSw)
    go_simp
  simp only [Act.put, List.setIfInBounds_toArray, List.set_cons_zero, List.set_cons_succ]
  refine take_at (i := 6) (d := some 15) (v := .agg #[.float .f64 cx, .float .f64 cy]) (by kernel_rfl) (by kernel_rfl) (by kernel_rfl) (by kernel_rfl) (fun _ _ _ h => h) ?_ hS ?_
  · intro o ho
    simp only [List.getElem?_toArray, List.getElem?_cons_succ, List.getElem?_cons_zero, Option.some.injEq] at ho
    subst ho
    refine Or.inl ⟨by rfl, ?_⟩
    intro w hSw
    (try dsimp only at hSw)
    go_simp
  simp only [Act.put, List.setIfInBounds_toArray, List.set_cons_zero, List.set_cons_succ]
  refine take_at (i := 7) (d := some 16) (v := .agg #[.float .f64 dx, .float .f64 dy]) (by kernel_rfl) (by kernel_rfl) (by kernel_rfl) (by kernel_rfl) (fun _ _ _ h => h) ?_ hS ?_
  · intro o ho
    simp only [List.getElem?_toArray, List.getElem?_cons_succ, List.getElem?_cons_zero, Option.some.injEq] at ho
    subst ho
    refine Or.inl ⟨by rfl, ?_⟩
    intro w hSw
    (try dsimp only at hSw)
    go_simp
  simp only [Act.put, List.setIfInBounds_toArray, List.set_cons_zero, List.set_cons_succ]
  refine call_at 3 (by kernel_rfl) (by kernel_rfl) ?_
  intro o ho
  simp only [List.getElem?_toArray, List.getElem?_cons_succ, List.getElem?_cons_zero, Option.some.injEq] at ho
  subst ho
  intro KF hK
  go_simp
  refine (HS3.out _).mono ?_
  rintro e wx ⟨rfl, hbx⟩
  go_wp2_with fail
  refine hK.out _ _ ⟨box_cell hbx hS.1, box_cell hbx hS.2.1, box_cell hbx hS.2.2.1, box_cell hbx hS.2.2.2.1, box_cell hbx hS.2.2.2.2.1, box_cell hbx hS.2.2.2.2.2.1, box_cell hbx hS.2.2.2.2.2.2.1, box_cell hbx hS.2.2.2.2.2.2.2.1, below_step hS.2.2.2.2.2.2.2.2 hbx⟩ ?_
  clear hS hbx
  intro hS
  clear hK KF
  try simp only [Act.put, List.setIfInBounds_toArray, List.set_cons_zero, List.set_cons_succ]
  refine call_at 8 (by kernel_rfl) (by kernel_rfl) ?_
  intro o ho
  simp only [List.getElem?_toArray, List.getElem?_cons_succ, List.getElem?_cons_zero, Option.some.injEq] at ho
  subst ho
  intro KF hK
  go_simp
  refine (HS4.out _).mono ?_
  rintro e wx ⟨rfl, hbx⟩
  go_wp2_with fail
  refine hK.out _ _ ⟨box_cell hbx hS.1, box_cell hbx hS.2.1, box_cell hbx hS.2.2.1, box_cell hbx hS.2.2.2.1, box_cell hbx hS.2.2.2.2.1, box_cell hbx hS.2.2.2.2.2.1, box_cell hbx hS.2.2.2.2.2.2.1, box_cell hbx hS.2.2.2.2.2.2.2.1, below_step hS.2.2.2.2.2.2.2.2 hbx⟩ ?_
  clear hS hbx
  intro hS
  clear hK KF
  try simp only [Act.put, List.setIfInBounds_toArray, List.set_cons_zero, List.set_cons_succ]
  refine take_at (i := 9) (d := some 18) (v := .int .i64 (z1 * z2)) (by kernel_rfl) (by kernel_rfl) (by kernel_rfl) (by kernel_rfl) (fun _ _ _ h => h) ?_ hS ?_
  · intro o ho
    simp only [List.getElem?_toArray, List.getElem?_cons_succ, List.getElem?_cons_zero, Option.some.injEq] at ho
    subst ho
    refine Or.inl ⟨by rfl, ?_⟩
    intro w hSw
    (try dsimp only at hSw)
    go_simp
  simp only [Act.put, List.setIfInBounds_toArray, List.set_cons_zero, List.set_cons_succ]
  refine take_at (i := 10) (d := some 19) (v := .bool tt) (by kernel_rfl) (by kernel_rfl) (by kernel_rfl) (by kernel_rfl) (fun _ _ _ h => h) ?_ hS ?_
  · intro o ho
    simp only [List.getElem?_toArray, List.getElem?_cons_succ, List.getElem?_cons_zero, Option.some.injEq] at ho
    subst ho
    refine Or.inl ⟨by rfl, ?_⟩
    intro w hSw
    (try dsimp only at hSw)
    go_simp
  simp only [Act.put, List.setIfInBounds_toArray, List.set_cons_zero, List.set_cons_succ]
  refine take_at (i := 11) (d := some 8) (v := .bool tt) (by kernel_rfl) (by kernel_rfl) (by kernel_rfl) (by kernel_rfl) (fun _ _ _ h => h) ?_ hS ?_
  · intro o ho
    simp only [List.getElem?_toArray, List.getElem?_cons_succ, List.getElem?_cons_zero, Option.some.injEq] at ho
    subst ho
    refine Or.inl ⟨by rfl, ?_⟩
    intro w hSw
    (try dsimp only at hSw)
    go_simp
  simp only [Act.put, List.setIfInBounds_toArray, List.set_cons_zero, List.set_cons_succ]
  refine wpAnyH_done (by kernel_rfl) ?_ _
  have HE : Hid (Below w.heap.size w wx) := hS.2.2.2.2.2.2.2.2
  clear hS
  go_wp2
  go_ret
  exact ⟨by rw [HT.out]; rfl, HE.out⟩

end Go.Proofs.Ytghchejehlljkaa

/- Package orient: On, Cross. -/
namespace Go.Proofs.Ytghchejehlljkaa
open Go.RowKit Go.Shelf
attribute [local go_sem ↓] Go.wp_at_zero Go.wp_at_succ
attribute [local go_sem] run_store_float

theorem run_minF {a b : Nat} (fa : Fin64 a) (fb : Fin64 b) : ∃ m, (∀ w, (Builtin.min_ #[22, 22] 22 #[.float .f64 a, .float .f64 b]).run Try.prog w = .ok (.float .f64 m) w) ∧ (m = a ∨ m = b) ∧ fval m ≤ fval a ∧ fval m ≤ fval b := by
  have ho := order_val fa fb
  by_cases h1 : fval a < fval b
  · rw [if_pos h1] at ho
    exact ⟨a, fun w => by simp [Builtin.min_, Builtin.min2, ho], Or.inl rfl, Rat.le_refl, Rat.le_of_lt h1⟩
  · by_cases h2 : fval a = fval b
    · rw [if_neg h1, if_pos h2] at ho
      refine ⟨if (FloatKind.f64.decode a).neg then a else b, fun w => by simp [Builtin.min_, Builtin.min2, ho], ?_, ?_, ?_⟩
      · split
        · exact Or.inl rfl
        · exact Or.inr rfl
      · split
        · exact Rat.le_refl
        · rw [h2]; exact Rat.le_refl
      · split
        · rw [h2]; exact Rat.le_refl
        · exact Rat.le_refl
    · rw [if_neg h1, if_neg h2] at ho
      exact ⟨b, fun w => by simp [Builtin.min_, Builtin.min2, ho], Or.inr rfl, by grind, Rat.le_refl⟩
theorem run_maxF {a b : Nat} (fa : Fin64 a) (fb : Fin64 b) : ∃ m, (∀ w, (Builtin.max_ #[22, 22] 22 #[.float .f64 a, .float .f64 b]).run Try.prog w = .ok (.float .f64 m) w) ∧ (m = a ∨ m = b) ∧ fval a ≤ fval m ∧ fval b ≤ fval m := by
  have ho := order_val fa fb
  by_cases h1 : fval a < fval b
  · rw [if_pos h1] at ho
    exact ⟨b, fun w => by simp [Builtin.max_, Builtin.max2, ho], Or.inr rfl, Rat.le_of_lt h1, Rat.le_refl⟩
  · by_cases h2 : fval a = fval b
    · rw [if_neg h1, if_pos h2] at ho
      refine ⟨if (FloatKind.f64.decode a).neg then b else a, fun w => by simp [Builtin.max_, Builtin.max2, ho], ?_, ?_, ?_⟩
      · split
        · exact Or.inr rfl
        · exact Or.inl rfl
      · split
        · rw [h2]; exact Rat.le_refl
        · exact Rat.le_refl
      · split
        · exact Rat.le_refl
        · rw [h2]; exact Rat.le_refl
    · rw [if_neg h1, if_neg h2] at ho
      exact ⟨a, fun w => by simp [Builtin.max_, Builtin.max2, ho], Or.inl rfl, Rat.le_refl, by grind⟩
theorem leq_val {a b : Nat} (fa : Fin64 a) (fb : Fin64 b) : (FloatKind.f64.format.order a b == some .lt || FloatKind.f64.format.order a b == some .eq) = decide (fval a ≤ fval b) := by
  rw [order_val fa fb]
  by_cases h1 : fval a < fval b
  · rw [if_pos h1, decide_eq_true (Rat.le_of_lt h1)]; rfl
  · by_cases h2 : fval a = fval b
    · rw [if_neg h1, if_pos h2, decide_eq_true (by rw [h2]; exact Rat.le_refl)]; rfl
    · rw [if_neg h1, if_neg h2, decide_eq_false (by grind)]; rfl
/-- A coordinate lies between two. -/
def Btw (a b x : Rat) : Prop := (a ≤ x ∧ x ≤ b) ∨ (b ≤ x ∧ x ≤ a)

/-- A point lies on a segment. -/
def OnP (ax ay bx by' px py : Nat) : Prop := P3 ax ay bx by' px py ∧ Btw (fval ax) (fval bx) (fval px) ∧ Btw (fval ay) (fval by') (fval py) ∧ S3 ax ay bx by' px py = 0
theorem sgq_zero {q : Rat} : sgq q = 0 ↔ q = 0 := by
  unfold sgq
  constructor
  · intro h
    split at h
    · omega
    · split at h
      · assumption
      · omega
  · intro h
    rw [h]; rfl
theorem sign_is (ax ay bx by' cx cy : Nat) (w : World) (z : Int) (hw : W6 ax ay bx by' cx cy) (hz : sg3 ax ay bx by' cx cy = z) :
    Calls Try.prog 19 #[pv ax ay, pv bx by', pv cx cy] w fun e w' => e = .returned (.int .i64 z) ∧ Below w.heap.size w w' := by
  rw [← hz]
  exact sign3_any ax ay bx by' cx cy w hw

end Go.Proofs.Ytghchejehlljkaa

/- Package orient: Cross. -/
namespace Go.Proofs.Ytghchejehlljkaa
open Go.RowKit Go.Shelf

theorem sg3_range (ax ay bx by' cx cy : Nat) : -1 ≤ sg3 ax ay bx by' cx cy ∧ sg3 ax ay bx by' cx cy ≤ 1 := by
  by_cases h : P3 ax ay bx by' cx cy
  · rw [sg3_yes h]
    unfold sgq
    split
    · omega
    · split <;> omega
  · rw [sg3_no h]; omega
theorem mul_small {a b : Int} (h1 : -1 ≤ a ∧ a ≤ 1) (h2 : -1 ≤ b ∧ b ≤ 1) : -1 ≤ a * b ∧ a * b ≤ 1 := by
  have := int_mul_bound (a := a) (b := b) (k := 1) (m := 1) h1.1 h1.2 h2.1 h2.2
  omega
/-- Two segments cross. -/
def CrossP (ax ay bx by' cx cy dx dy : Nat) : Prop := sg3 ax ay bx by' cx cy * sg3 ax ay bx by' dx dy < 0 ∧ sg3 cx cy dx dy ax ay * sg3 cx cy dx dy bx by' < 0
theorem keepX {w W W' : World} {q1 q2 q3 q4 q5 q6 q7 q8 : Addr} {x1 x2 x3 x4 x5 x6 x7 x8 : Value} (h : W.cell? q1 = some x1 ∧ W.cell? q2 = some x2 ∧ W.cell? q3 = some x3 ∧ W.cell? q4 = some x4 ∧ W.cell? q5 = some x5 ∧ W.cell? q6 = some x6 ∧ W.cell? q7 = some x7 ∧ W.cell? q8 = some x8 ∧ Below w.heap.size w W) (hb : Below W.heap.size W W') :
    W'.cell? q1 = some x1 ∧ W'.cell? q2 = some x2 ∧ W'.cell? q3 = some x3 ∧ W'.cell? q4 = some x4 ∧ W'.cell? q5 = some x5 ∧ W'.cell? q6 = some x6 ∧ W'.cell? q7 = some x7 ∧ W'.cell? q8 = some x8 ∧ Below w.heap.size w W' :=
  ⟨box_cell hb h.1, box_cell hb h.2.1, box_cell hb h.2.2.1, box_cell hb h.2.2.2.1, box_cell hb h.2.2.2.2.1, box_cell hb h.2.2.2.2.2.1, box_cell hb h.2.2.2.2.2.2.1, box_cell hb h.2.2.2.2.2.2.2.1, below_step h.2.2.2.2.2.2.2.2 hb⟩

end Go.Proofs.Ytghchejehlljkaa

/- Which points may be, by reckoning. -/
namespace Go.Proofs.Ytghchejehlljkaa

theorem den_one {q : Rat} : q.den = 1 ↔ ∃ k : Int, q = (k : Rat) := by
  constructor
  · intro h
    refine ⟨q.num, ?_⟩
    apply Rat.ext
    · simp
    · simp [h]
  · rintro ⟨k, rfl⟩
    simp
theorem crd_iff (x : Nat) : Crd x ↔ frung x ≤ 5057542381537067008 ∧ (fval x * U 1174).den = 1 := by
  unfold Crd
  rw [den_one, ← M_one, steps_one]
instance (x : Nat) : Decidable (Crd x) := decidable_of_iff _ (crd_iff x).symm
instance (x y : Nat) : Decidable (Pt x y) := by unfold Pt; exact inferInstance
instance (ax ay bx by' cx cy : Nat) : Decidable (P3 ax ay bx by' cx cy) := by unfold P3; exact inferInstance
instance (a b x : Rat) : Decidable (Btw a b x) := by unfold Btw; exact inferInstance
instance (ax ay bx by' cx cy : Nat) : Decidable (OnP ax ay bx by' cx cy) := by unfold OnP; exact inferInstance
theorem sg3_is {ax ay bx by' cx cy : Nat} {z : Int} (h : P3 ax ay bx by' cx cy ∧ sgq (S3 ax ay bx by' cx cy) = z) : sg3 ax ay bx by' cx cy = z := by rw [sg3_yes h.1]; exact h.2

theorem test1 : sg3 0 0 4611686018427387904 0 4607182418800017408 4607182418800017408 = 1 := sg3_is (by decide +kernel)
theorem test2 : sg3 0 0 4611686018427387904 0 4607182418800017408 13380194492917743616 = -1 := sg3_is (by decide +kernel)
theorem test3 : sg3 0 0 4611686018427387904 0 5062045981164437504 4607182418800017408 = 0 := sg3_no (by decide +kernel)
theorem test4 : sg3 4602678819172646954 4602678819172646960 4622945017495814144 4622945017495814144 4627448617123184640 4627448617123184640 = 1 := sg3_is (by decide +kernel)

end Go.Proofs.Ytghchejehlljkaa

/- Circles: all orders of four points; the statements' first question. -/
namespace Go.Proofs.Ytghchejehlljkaa
open Go.RowKit Go.Shelf
attribute [local go_sem ↓] Go.wp_at_zero Go.wp_at_succ
attribute [local go_sem] run_store_float

theorem sgq_minus' (q : Rat) : sgq (-q) = -sgq q := by
  unfold sgq
  rcases (by grind : q < 0 ∨ q = 0 ∨ 0 < q) with h | h | h
  · rw [if_neg (by grind), if_neg (by grind), if_pos h]; omega
  · rw [h]; decide +kernel
  · rw [if_pos (by grind), if_neg (by grind), if_neg (by grind)]
theorem det3_34 (x0 y0 x1 y1 x2 y2 : Rat) : det3 (x0 - x2) (y0 - y2) (x1 - x2) (y1 - y2) (-x2) (-y2) = -det3 x0 y0 x1 y1 x2 y2 := by
  unfold det3
  grind
theorem S4_12 (ax ay bx by' cx cy dx dy : Nat) : S4 bx by' ax ay cx cy dx dy = -S4 ax ay bx by' cx cy dx dy := by
  unfold S4 det3
  generalize fval ax - fval dx = x0
  generalize fval ay - fval dy = y0
  generalize fval bx - fval dx = x1
  generalize fval by' - fval dy = y1
  generalize fval cx - fval dx = x2
  generalize fval cy - fval dy = y2
  grind
theorem S4_23 (ax ay bx by' cx cy dx dy : Nat) : S4 ax ay cx cy bx by' dx dy = -S4 ax ay bx by' cx cy dx dy := by
  unfold S4 det3
  generalize fval ax - fval dx = x0
  generalize fval ay - fval dy = y0
  generalize fval bx - fval dx = x1
  generalize fval by' - fval dy = y1
  generalize fval cx - fval dx = x2
  generalize fval cy - fval dy = y2
  grind
theorem S4_34 (ax ay bx by' cx cy dx dy : Nat) : S4 ax ay bx by' dx dy cx cy = -S4 ax ay bx by' cx cy dx dy := by
  have h := det3_34 (fval ax - fval dx) (fval ay - fval dy) (fval bx - fval dx) (fval by' - fval dy) (fval cx - fval dx) (fval cy - fval dy)
  unfold S4
  rw [← h]
  congr 1 <;> grind
theorem sg4_12 (ax ay bx by' cx cy dx dy : Nat) : sg4 bx by' ax ay cx cy dx dy = -sg4 ax ay bx by' cx cy dx dy := by
  by_cases h : P4 ax ay bx by' cx cy dx dy
  · rw [sg4_yes h, sg4_yes ⟨⟨h.1.2.1, h.1.1, h.1.2.2⟩, h.2⟩, ← sgq_minus', S4_12]
  · rw [sg4_no h, sg4_no (fun h' => h ⟨⟨h'.1.2.1, h'.1.1, h'.1.2.2⟩, h'.2⟩)]; omega
theorem sg4_23 (ax ay bx by' cx cy dx dy : Nat) : sg4 ax ay cx cy bx by' dx dy = -sg4 ax ay bx by' cx cy dx dy := by
  by_cases h : P4 ax ay bx by' cx cy dx dy
  · rw [sg4_yes h, sg4_yes ⟨⟨h.1.1, h.1.2.2, h.1.2.1⟩, h.2⟩, ← sgq_minus', S4_23]
  · rw [sg4_no h, sg4_no (fun h' => h ⟨⟨h'.1.1, h'.1.2.2, h'.1.2.1⟩, h'.2⟩)]; omega
theorem sg4_34 (ax ay bx by' cx cy dx dy : Nat) : sg4 ax ay bx by' dx dy cx cy = -sg4 ax ay bx by' cx cy dx dy := by
  by_cases h : P4 ax ay bx by' cx cy dx dy
  · rw [sg4_yes h, sg4_yes ⟨⟨h.1.1, h.1.2.1, h.2⟩, h.1.2.2⟩, ← sgq_minus', S4_34]
  · rw [sg4_no h, sg4_no (fun h' => h ⟨⟨h'.1.1, h'.1.2.1, h'.2⟩, h'.1.2.2⟩)]; omega

theorem sign4_is (ax ay bx by' cx cy dx dy : Nat) (w : World) (z : Int) (hw : W8 ax ay bx by' cx cy dx dy) (hz : sg4 ax ay bx by' cx cy dx dy = z) :
    Calls Try.prog 10 #[pv ax ay, pv bx by', pv cx cy, pv dx dy] w fun e w' => e = .returned (.int .i64 z) ∧ Below w.heap.size w w' := by
  rw [← hz]
  exact sign4_any ax ay bx by' cx cy dx dy w hw
theorem within_is (ax ay bx by' cx cy dx dy : Nat) (w : World) (t : Bool) (hw : W8 ax ay bx by' cx cy dx dy) (ht : decide (0 < sg3 ax ay bx by' cx cy * sg4 ax ay bx by' cx cy dx dy) = t) :
    Calls Try.prog 15 #[pv ax ay, pv bx by', pv cx cy, pv dx dy] w fun e w' => e = .returned (.bool t) ∧ Below w.heap.size w w' := by
  rw [← ht]
  exact within_any ax ay bx by' cx cy dx dy w hw

instance (ax ay bx by' cx cy dx dy : Nat) : Decidable (P4 ax ay bx by' cx cy dx dy) := by unfold P4; exact inferInstance
theorem sg4_is {ax ay bx by' cx cy dx dy : Nat} {z : Int} (h : P4 ax ay bx by' cx cy dx dy ∧ sgq (S4 ax ay bx by' cx cy dx dy) = z) : sg4 ax ay bx by' cx cy dx dy = z := by rw [sg4_yes h.1]; exact h.2
theorem wk1 : sg4 0 0 4611686018427387904 0 0 4611686018427387904 4607182418800017408 4607182418800017408 = 1 := sg4_is (by decide +kernel)
theorem wk2 : sg4 0 0 4611686018427387904 0 0 4611686018427387904 4611686018427387904 4611686018427387904 = 0 := sg4_is (by decide +kernel)
theorem wk3 : sg4 0 0 4611686018427387904 0 0 4611686018427387904 4613937818241073152 4613937818241073152 = -1 := sg4_is (by decide +kernel)
theorem wk4 : sg4 4611686018427387904 0 0 0 0 4611686018427387904 4607182418800017408 4607182418800017408 = -1 := sg4_is (by decide +kernel)
theorem wk5 : sg3 0 0 4611686018427387904 0 0 4611686018427387904 = 1 := sg3_is (by decide +kernel)
theorem wk6 : sg3 4611686018427387904 0 0 0 0 4611686018427387904 = -1 := sg3_is (by decide +kernel)

set_option maxRecDepth 100000 in
set_option maxHeartbeats 4000000 in
theorem works_any (w : World) : Calls Try.prog 9 #[] w fun e w' => e = .returned (.bool true) ∧ Below w.heap.size w w' := by
  have HS : Hid (B3 w (((w.alloc (.cells #[.float .f64 0, .float .f64 0] 24)).alloc (.cells #[.float .f64 4611686018427387904, .float .f64 0] 24)).alloc (.cells #[.float .f64 0, .float .f64 4611686018427387904] 24)) 0 0 4611686018427387904 0 0 4611686018427387904) := B3.start w 0 0 4611686018427387904 0 0 4611686018427387904
  go_enter Try.func9, Try.ntmps9
  go_wp2_with fail
  refine (sign4_is 0 0 4611686018427387904 0 0 4611686018427387904 4607182418800017408 4607182418800017408 _ 1 ⟨⟨⟨by omega, by omega⟩, ⟨by omega, by omega⟩, by omega, by omega⟩, by omega, by omega⟩ wk1).mono ?_
  rintro e w1 ⟨rfl, hb⟩
  have H1 : Hid (B3 w w1 0 0 4611686018427387904 0 0 4611686018427387904) := HS.out.later hb
  clear hb 
  obtain ⟨u0, u1, u2, u3, u4, u5, _⟩ := H1.out
  go_wp2_with fail
  refine (sign4_is 0 0 4611686018427387904 0 0 4611686018427387904 4611686018427387904 4611686018427387904 _ 0 ⟨⟨⟨by omega, by omega⟩, ⟨by omega, by omega⟩, by omega, by omega⟩, by omega, by omega⟩ wk2).mono ?_
  rintro e w2 ⟨rfl, hb⟩
  have H2 : Hid (B3 w w2 0 0 4611686018427387904 0 0 4611686018427387904) := H1.out.later hb
  clear hb u0 u1 u2 u3 u4 u5 H1
  obtain ⟨u0, u1, u2, u3, u4, u5, _⟩ := H2.out
  go_wp2_with fail
  refine (sign4_is 0 0 4611686018427387904 0 0 4611686018427387904 4613937818241073152 4613937818241073152 _ (-1) ⟨⟨⟨by omega, by omega⟩, ⟨by omega, by omega⟩, by omega, by omega⟩, by omega, by omega⟩ wk3).mono ?_
  rintro e w3 ⟨rfl, hb⟩
  have H3 : Hid (B3 w w3 0 0 4611686018427387904 0 0 4611686018427387904) := H2.out.later hb
  clear hb u0 u1 u2 u3 u4 u5 H2
  obtain ⟨u0, u1, u2, u3, u4, u5, _⟩ := H3.out
  go_wp2_with fail
  refine (sign4_is 4611686018427387904 0 0 0 0 4611686018427387904 4607182418800017408 4607182418800017408 _ (-1) ⟨⟨⟨by omega, by omega⟩, ⟨by omega, by omega⟩, by omega, by omega⟩, by omega, by omega⟩ wk4).mono ?_
  rintro e w4 ⟨rfl, hb⟩
  have H4 : Hid (B3 w w4 0 0 4611686018427387904 0 0 4611686018427387904) := H3.out.later hb
  clear hb u0 u1 u2 u3 u4 u5 H3
  obtain ⟨u0, u1, u2, u3, u4, u5, _⟩ := H4.out
  go_wp2_with fail
  refine (within_is 0 0 4611686018427387904 0 0 4611686018427387904 4607182418800017408 4607182418800017408 _ true ⟨⟨⟨by omega, by omega⟩, ⟨by omega, by omega⟩, by omega, by omega⟩, by omega, by omega⟩ (by rw [wk5, wk1]; rfl)).mono ?_
  rintro e w5 ⟨rfl, hb⟩
  have H5 : Hid (B3 w w5 0 0 4611686018427387904 0 0 4611686018427387904) := H4.out.later hb
  clear hb u0 u1 u2 u3 u4 u5 H4
  obtain ⟨u0, u1, u2, u3, u4, u5, _⟩ := H5.out
  go_wp2_with fail
  refine (within_is 4611686018427387904 0 0 0 0 4611686018427387904 4607182418800017408 4607182418800017408 _ true ⟨⟨⟨by omega, by omega⟩, ⟨by omega, by omega⟩, by omega, by omega⟩, by omega, by omega⟩ (by rw [wk6, wk4]; rfl)).mono ?_
  rintro e w6 ⟨rfl, hb⟩
  have H6 : Hid (B3 w w6 0 0 4611686018427387904 0 0 4611686018427387904) := H5.out.later hb
  clear hb u0 u1 u2 u3 u4 u5 H5
  obtain ⟨u0, u1, u2, u3, u4, u5, _⟩ := H6.out
  go_wp2
  go_ret
  exact ⟨rfl, H6.out.bel⟩

end Go.Proofs.Ytghchejehlljkaa

/- CircleTurns, CircleOne: the laws' walks. -/
namespace Go.Proofs.Ytghchejehlljkaa
open Go.RowKit Go.Shelf

set_option maxRecDepth 100000 in
set_option maxHeartbeats 8000000 in
theorem cturns_law (ax ay bx by' cx cy dx dy : Nat) (w : World) (hw : W8 ax ay bx by' cx cy dx dy) :
    Calls Try.prog 6 #[pv ax ay, pv bx by', pv cx cy, pv dx dy] w fun e w' => e = .returned (.bool true) ∧ Below w.heap.size w w' := by
  have HW : Hid (W8 ax ay bx by' cx cy dx dy) := hw
  clear hw
  have HS : Hid (B4 w ((((w.alloc (.cells #[.float .f64 ax, .float .f64 ay] 24)).alloc (.cells #[.float .f64 bx, .float .f64 by'] 24)).alloc (.cells #[.float .f64 cx, .float .f64 cy] 24)).alloc (.cells #[.float .f64 dx, .float .f64 dy] 24)) ax ay bx by' cx cy dx dy) := B4.start w ax ay bx by' cx cy dx dy
  obtain ⟨z, hz⟩ : ∃ z, Hid (sg4 ax ay bx by' cx cy dx dy = z) := ⟨_, rfl⟩
  obtain ⟨h1, h2⟩ := sg4_range ax ay bx by' cx cy dx dy
  rw [hz.out] at h1 h2
  have n1 : IntKind.i64.wrap (-z) = -z := wrapE _ (by omega) (by omega)
  clear h1 h2
  go_enter Try.func6, Try.ntmps6
  go_wp2_with fail
  refine (works_any _).mono ?_
  rintro e w1 ⟨rfl, hb⟩
  have H1 : Hid (B4 w w1 ax ay bx by' cx cy dx dy) := HS.out.later hb
  clear hb 
  obtain ⟨u0, u1, u2, u3, u4, u5, u6, u7, _⟩ := H1.out
  go_wp2_with fail
  refine (sign4_is ax ay bx by' cx cy dx dy _ (z) ⟨⟨HW.out.1.1, HW.out.1.2.1, HW.out.1.2.2⟩, HW.out.2⟩ hz.out).mono ?_
  rintro e w2 ⟨rfl, hb⟩
  have H2 : Hid (B4 w w2 ax ay bx by' cx cy dx dy) := H1.out.later hb
  clear hb u0 u1 u2 u3 u4 u5 u6 u7 H1
  obtain ⟨u0, u1, u2, u3, u4, u5, u6, u7, _⟩ := H2.out
  go_wp2_with fail
  refine (sign4_is bx by' ax ay cx cy dx dy _ (-z) ⟨⟨HW.out.1.2.1, HW.out.1.1, HW.out.1.2.2⟩, HW.out.2⟩ (by rw [sg4_12 ax ay bx by' cx cy dx dy, hz.out])).mono ?_
  rintro e w3 ⟨rfl, hb⟩
  have H3 : Hid (B4 w w3 ax ay bx by' cx cy dx dy) := H2.out.later hb
  clear hb u0 u1 u2 u3 u4 u5 u6 u7 H2
  obtain ⟨u0, u1, u2, u3, u4, u5, u6, u7, _⟩ := H3.out
  go_wp2_with fail
  refine (sign4_is ax ay cx cy bx by' dx dy _ (-z) ⟨⟨HW.out.1.1, HW.out.1.2.2, HW.out.1.2.1⟩, HW.out.2⟩ (by rw [sg4_23 ax ay bx by' cx cy dx dy, hz.out])).mono ?_
  rintro e w4 ⟨rfl, hb⟩
  have H4 : Hid (B4 w w4 ax ay bx by' cx cy dx dy) := H3.out.later hb
  clear hb u0 u1 u2 u3 u4 u5 u6 u7 H3
  obtain ⟨u0, u1, u2, u3, u4, u5, u6, u7, _⟩ := H4.out
  go_wp2_with fail
  refine (sign4_is ax ay bx by' dx dy cx cy _ (-z) ⟨⟨HW.out.1.1, HW.out.1.2.1, HW.out.2⟩, HW.out.1.2.2⟩ (by rw [sg4_34 ax ay bx by' cx cy dx dy, hz.out])).mono ?_
  rintro e w5 ⟨rfl, hb⟩
  have H5 : Hid (B4 w w5 ax ay bx by' cx cy dx dy) := H4.out.later hb
  clear hb u0 u1 u2 u3 u4 u5 u6 u7 H4
  obtain ⟨u0, u1, u2, u3, u4, u5, u6, u7, _⟩ := H5.out
  go_wp2_with fail
  refine (sign4_is dx dy bx by' cx cy ax ay _ (-z) ⟨⟨HW.out.2, HW.out.1.2.1, HW.out.1.2.2⟩, HW.out.1.1⟩ (by rw [sg4_12 bx by' dx dy cx cy ax ay, sg4_23 bx by' cx cy dx dy ax ay, sg4_34 bx by' cx cy ax ay dx dy, sg4_23 bx by' ax ay cx cy dx dy, sg4_12 ax ay bx by' cx cy dx dy, hz.out]; omega)).mono ?_
  rintro e w6 ⟨rfl, hb⟩
  have H6 : Hid (B4 w w6 ax ay bx by' cx cy dx dy) := H5.out.later hb
  clear hb u0 u1 u2 u3 u4 u5 u6 u7 H5
  obtain ⟨u0, u1, u2, u3, u4, u5, u6, u7, _⟩ := H6.out
  go_wp2_with fail
  refine (sign4_is cx cy bx by' ax ay dx dy _ (-z) ⟨⟨HW.out.1.2.2, HW.out.1.2.1, HW.out.1.1⟩, HW.out.2⟩ (by rw [sg4_12 bx by' cx cy ax ay dx dy, sg4_23 bx by' ax ay cx cy dx dy, sg4_12 ax ay bx by' cx cy dx dy, hz.out]; omega)).mono ?_
  rintro e w7 ⟨rfl, hb⟩
  have H7 : Hid (B4 w w7 ax ay bx by' cx cy dx dy) := H6.out.later hb
  clear hb u0 u1 u2 u3 u4 u5 u6 u7 H6
  obtain ⟨u0, u1, u2, u3, u4, u5, u6, u7, _⟩ := H7.out
  go_wp2_with fail
  refine (sign4_is ax ay dx dy cx cy bx by' _ (-z) ⟨⟨HW.out.1.1, HW.out.2, HW.out.1.2.2⟩, HW.out.1.2.1⟩ (by rw [sg4_23 ax ay cx cy dx dy bx by', sg4_34 ax ay cx cy bx by' dx dy, sg4_23 ax ay bx by' cx cy dx dy, hz.out]; omega)).mono ?_
  rintro e w8 ⟨rfl, hb⟩
  have H8 : Hid (B4 w w8 ax ay bx by' cx cy dx dy) := H7.out.later hb
  clear hb u0 u1 u2 u3 u4 u5 u6 u7 H7
  obtain ⟨u0, u1, u2, u3, u4, u5, u6, u7, _⟩ := H8.out
  go_wp2_with fail
  refine (sign4_is bx by' cx cy ax ay dx dy _ (z) ⟨⟨HW.out.1.2.1, HW.out.1.2.2, HW.out.1.1⟩, HW.out.2⟩ (by rw [sg4_23 bx by' ax ay cx cy dx dy, sg4_12 ax ay bx by' cx cy dx dy, hz.out]; omega)).mono ?_
  rintro e w9 ⟨rfl, hb⟩
  have H9 : Hid (B4 w w9 ax ay bx by' cx cy dx dy) := H8.out.later hb
  clear hb u0 u1 u2 u3 u4 u5 u6 u7 H8
  obtain ⟨u0, u1, u2, u3, u4, u5, u6, u7, _⟩ := H9.out
  go_wp2_with fail
  refine (sign4_is cx cy ax ay bx by' dx dy _ (z) ⟨⟨HW.out.1.2.2, HW.out.1.1, HW.out.1.2.1⟩, HW.out.2⟩ (by rw [sg4_12 ax ay cx cy bx by' dx dy, sg4_23 ax ay bx by' cx cy dx dy, hz.out]; omega)).mono ?_
  rintro e w10 ⟨rfl, hb⟩
  have H10 : Hid (B4 w w10 ax ay bx by' cx cy dx dy) := H9.out.later hb
  clear hb u0 u1 u2 u3 u4 u5 u6 u7 H9
  obtain ⟨u0, u1, u2, u3, u4, u5, u6, u7, _⟩ := H10.out
  go_wp2_with fail
  refine (sign4_is bx by' ax ay dx dy cx cy _ (z) ⟨⟨HW.out.1.2.1, HW.out.1.1, HW.out.2⟩, HW.out.1.2.2⟩ (by rw [sg4_12 ax ay bx by' dx dy cx cy, sg4_34 ax ay bx by' cx cy dx dy, hz.out]; omega)).mono ?_
  rintro e w11 ⟨rfl, hb⟩
  have H11 : Hid (B4 w w11 ax ay bx by' cx cy dx dy) := H10.out.later hb
  clear hb u0 u1 u2 u3 u4 u5 u6 u7 H10
  obtain ⟨u0, u1, u2, u3, u4, u5, u6, u7, _⟩ := H11.out
  go_wp2_with fail
  refine (sign4_is cx cy dx dy ax ay bx by' _ (z) ⟨⟨HW.out.1.2.2, HW.out.2, HW.out.1.1⟩, HW.out.1.2.1⟩ (by rw [sg4_23 cx cy ax ay dx dy bx by', sg4_12 ax ay cx cy dx dy bx by', sg4_34 ax ay cx cy bx by' dx dy, sg4_23 ax ay bx by' cx cy dx dy, hz.out]; omega)).mono ?_
  rintro e w12 ⟨rfl, hb⟩
  have H12 : Hid (B4 w w12 ax ay bx by' cx cy dx dy) := H11.out.later hb
  clear hb u0 u1 u2 u3 u4 u5 u6 u7 H11
  obtain ⟨u0, u1, u2, u3, u4, u5, u6, u7, _⟩ := H12.out
  go_wp2_with fail
  refine (sign4_is dx dy cx cy bx by' ax ay _ (z) ⟨⟨HW.out.2, HW.out.1.2.2, HW.out.1.2.1⟩, HW.out.1.1⟩ (by rw [sg4_12 cx cy dx dy bx by' ax ay, sg4_23 cx cy bx by' dx dy ax ay, sg4_12 bx by' cx cy dx dy ax ay, sg4_34 bx by' cx cy ax ay dx dy, sg4_23 bx by' ax ay cx cy dx dy, sg4_12 ax ay bx by' cx cy dx dy, hz.out]; omega)).mono ?_
  rintro e w13 ⟨rfl, hb⟩
  have H13 : Hid (B4 w w13 ax ay bx by' cx cy dx dy) := H12.out.later hb
  clear hb u0 u1 u2 u3 u4 u5 u6 u7 H12
  obtain ⟨u0, u1, u2, u3, u4, u5, u6, u7, _⟩ := H13.out
  go_wp2_with fail
  refine (sign4_is bx by' cx cy dx dy ax ay _ (-z) ⟨⟨HW.out.1.2.1, HW.out.1.2.2, HW.out.2⟩, HW.out.1.1⟩ (by rw [sg4_34 bx by' cx cy ax ay dx dy, sg4_23 bx by' ax ay cx cy dx dy, sg4_12 ax ay bx by' cx cy dx dy, hz.out]; omega)).mono ?_
  rintro e w14 ⟨rfl, hb⟩
  have H14 : Hid (B4 w w14 ax ay bx by' cx cy dx dy) := H13.out.later hb
  clear hb u0 u1 u2 u3 u4 u5 u6 u7 H13
  obtain ⟨u0, u1, u2, u3, u4, u5, u6, u7, _⟩ := H14.out
  clear u0 u1 u2 u3 u4 u5 u6 u7
  go_wp2
  go_ret
  exact ⟨rfl, H14.out.bel⟩

theorem dec_le {z : Int} (h : z ≤ 0) : decide (z ≤ 0) = true := decide_eq_true h

set_option maxRecDepth 100000 in
set_option maxHeartbeats 8000000 in
theorem cone_law (ax ay bx by' cx cy dx dy : Nat) (w : World) (hw : W8 ax ay bx by' cx cy dx dy) :
    Calls Try.prog 7 #[pv ax ay, pv bx by', pv cx cy, pv dx dy] w fun e w' => e = .returned (.bool true) ∧ Below w.heap.size w w' := by
  have HW : Hid (W8 ax ay bx by' cx cy dx dy) := hw
  clear hw
  have HS : Hid (B4 w ((((w.alloc (.cells #[.float .f64 ax, .float .f64 ay] 24)).alloc (.cells #[.float .f64 bx, .float .f64 by'] 24)).alloc (.cells #[.float .f64 cx, .float .f64 cy] 24)).alloc (.cells #[.float .f64 dx, .float .f64 dy] 24)) ax ay bx by' cx cy dx dy) := B4.start w ax ay bx by' cx cy dx dy
  obtain ⟨z, hz⟩ : ∃ z, Hid (sg4 ax ay bx by' cx cy dx dy = z) := ⟨_, rfl⟩
  obtain ⟨h1, h2⟩ := sg4_range ax ay bx by' cx cy dx dy
  rw [hz.out] at h1 h2
  go_enter Try.func7, Try.ntmps7
  go_wp2_with fail
  refine (works_any _).mono ?_
  rintro e w1 ⟨rfl, hb⟩
  have H1 : Hid (B4 w w1 ax ay bx by' cx cy dx dy) := HS.out.later hb
  clear hb 
  obtain ⟨u0, u1, u2, u3, u4, u5, u6, u7, _⟩ := H1.out
  obtain ⟨o1, ho1⟩ : ∃ z, Hid (sg3 ax ay bx by' cx cy = z) := ⟨_, rfl⟩
  obtain ⟨o1a, o1b⟩ := sg3_range' ax ay bx by' cx cy
  rw [ho1.out] at o1a o1b
  go_wp2_with fail
  refine (sign_is ax ay bx by' cx cy _ o1 ⟨HW.out.1.1, HW.out.1.2.1, HW.out.1.2.2⟩ ho1.out).mono ?_
  rintro e w2 ⟨rfl, hb⟩
  have H2 : Hid (B4 w w2 ax ay bx by' cx cy dx dy) := H1.out.later hb
  clear hb u0 u1 u2 u3 u4 u5 u6 u7 H1
  obtain ⟨u0, u1, u2, u3, u4, u5, u6, u7, _⟩ := H2.out
  by_cases co1 : o1 ≤ 0
  · have do1 := dec_le co1
    go_wp2_with fail
    refine (works_any _).mono ?_
    rintro e wx ⟨rfl, hb⟩
    have HX : Hid (Below w.heap.size w wx) := below_step H2.out.bel hb
    clear hb
    go_wp2
    go_ret
    exact ⟨rfl, HX.out⟩
  obtain rfl : o1 = 1 := by omega
  clear co1 o1a o1b
  obtain ⟨o2, ho2⟩ : ∃ z, Hid (sg3 ax ay cx cy dx dy = z) := ⟨_, rfl⟩
  obtain ⟨o2a, o2b⟩ := sg3_range' ax ay cx cy dx dy
  rw [ho2.out] at o2a o2b
  go_wp2_with fail
  refine (sign_is ax ay cx cy dx dy _ o2 ⟨HW.out.1.1, HW.out.1.2.2, HW.out.2⟩ ho2.out).mono ?_
  rintro e w3 ⟨rfl, hb⟩
  have H3 : Hid (B4 w w3 ax ay bx by' cx cy dx dy) := H2.out.later hb
  clear hb u0 u1 u2 u3 u4 u5 u6 u7 H2
  obtain ⟨u0, u1, u2, u3, u4, u5, u6, u7, _⟩ := H3.out
  by_cases co2 : o2 ≤ 0
  · have do2 := dec_le co2
    go_wp2_with fail
    refine (works_any _).mono ?_
    rintro e wx ⟨rfl, hb⟩
    have HX : Hid (Below w.heap.size w wx) := below_step H3.out.bel hb
    clear hb
    go_wp2
    go_ret
    exact ⟨rfl, HX.out⟩
  obtain rfl : o2 = 1 := by omega
  clear co2 o2a o2b
  obtain ⟨o3, ho3⟩ : ∃ z, Hid (sg3 bx by' cx cy dx dy = z) := ⟨_, rfl⟩
  obtain ⟨o3a, o3b⟩ := sg3_range' bx by' cx cy dx dy
  rw [ho3.out] at o3a o3b
  go_wp2_with fail
  refine (sign_is bx by' cx cy dx dy _ o3 ⟨HW.out.1.2.1, HW.out.1.2.2, HW.out.2⟩ ho3.out).mono ?_
  rintro e w4 ⟨rfl, hb⟩
  have H4 : Hid (B4 w w4 ax ay bx by' cx cy dx dy) := H3.out.later hb
  clear hb u0 u1 u2 u3 u4 u5 u6 u7 H3
  obtain ⟨u0, u1, u2, u3, u4, u5, u6, u7, _⟩ := H4.out
  by_cases co3 : o3 ≤ 0
  · have do3 := dec_le co3
    go_wp2_with fail
    refine (works_any _).mono ?_
    rintro e wx ⟨rfl, hb⟩
    have HX : Hid (Below w.heap.size w wx) := below_step H4.out.bel hb
    clear hb
    go_wp2
    go_ret
    exact ⟨rfl, HX.out⟩
  obtain rfl : o3 = 1 := by omega
  clear co3 o3a o3b
  obtain ⟨o4, ho4⟩ : ∃ z, Hid (sg3 ax ay bx by' dx dy = z) := ⟨_, rfl⟩
  obtain ⟨o4a, o4b⟩ := sg3_range' ax ay bx by' dx dy
  rw [ho4.out] at o4a o4b
  go_wp2_with fail
  refine (sign_is ax ay bx by' dx dy _ o4 ⟨HW.out.1.1, HW.out.1.2.1, HW.out.2⟩ ho4.out).mono ?_
  rintro e w5 ⟨rfl, hb⟩
  have H5 : Hid (B4 w w5 ax ay bx by' cx cy dx dy) := H4.out.later hb
  clear hb u0 u1 u2 u3 u4 u5 u6 u7 H4
  obtain ⟨u0, u1, u2, u3, u4, u5, u6, u7, _⟩ := H5.out
  by_cases co4 : o4 ≤ 0
  · have do4 := dec_le co4
    go_wp2_with fail
    refine (works_any _).mono ?_
    rintro e wx ⟨rfl, hb⟩
    have HX : Hid (Below w.heap.size w wx) := below_step H5.out.bel hb
    clear hb
    go_wp2
    go_ret
    exact ⟨rfl, HX.out⟩
  obtain rfl : o4 = 1 := by omega
  clear co4 o4a o4b
  have hzz : z = -1 ∨ z = 0 ∨ z = 1 := by omega
  clear h1 h2
  rcases hzz with rfl | rfl | rfl
  · go_wp2_with fail
    refine (within_is ax ay bx by' cx cy dx dy _ false ⟨⟨HW.out.1.1, HW.out.1.2.1, HW.out.1.2.2⟩, HW.out.2⟩ (by rw [ho1.out, hz.out]; decide)).mono ?_
    rintro e w6 ⟨rfl, hb⟩
    have H6 : Hid (B4 w w6 ax ay bx by' cx cy dx dy) := H5.out.later hb
    clear hb u0 u1 u2 u3 u4 u5 u6 u7 H5
    obtain ⟨u0, u1, u2, u3, u4, u5, u6, u7, _⟩ := H6.out
    go_wp2_with fail
    refine (within_is ax ay cx cy dx dy bx by' _ false ⟨⟨HW.out.1.1, HW.out.1.2.2, HW.out.2⟩, HW.out.1.2.1⟩ (by rw [ho2.out, sg4_34 ax ay cx cy bx by' dx dy, sg4_23 ax ay bx by' cx cy dx dy, hz.out]; decide)).mono ?_
    rintro e w7 ⟨rfl, hb⟩
    have H7 : Hid (B4 w w7 ax ay bx by' cx cy dx dy) := H6.out.later hb
    clear hb u0 u1 u2 u3 u4 u5 u6 u7 H6
    obtain ⟨u0, u1, u2, u3, u4, u5, u6, u7, _⟩ := H7.out
    go_wp2_with fail
    refine (within_is bx by' cx cy dx dy ax ay _ true ⟨⟨HW.out.1.2.1, HW.out.1.2.2, HW.out.2⟩, HW.out.1.1⟩ (by rw [ho3.out, sg4_34 bx by' cx cy ax ay dx dy, sg4_23 bx by' ax ay cx cy dx dy, sg4_12 ax ay bx by' cx cy dx dy, hz.out]; decide)).mono ?_
    rintro e w8 ⟨rfl, hb⟩
    have H8 : Hid (B4 w w8 ax ay bx by' cx cy dx dy) := H7.out.later hb
    clear hb u0 u1 u2 u3 u4 u5 u6 u7 H7
    obtain ⟨u0, u1, u2, u3, u4, u5, u6, u7, _⟩ := H8.out
    go_wp2_with fail
    refine (within_is ax ay bx by' dx dy cx cy _ true ⟨⟨HW.out.1.1, HW.out.1.2.1, HW.out.2⟩, HW.out.1.2.2⟩ (by rw [ho4.out, sg4_34 ax ay bx by' cx cy dx dy, hz.out]; decide)).mono ?_
    rintro e w9 ⟨rfl, hb⟩
    have H9 : Hid (B4 w w9 ax ay bx by' cx cy dx dy) := H8.out.later hb
    clear hb u0 u1 u2 u3 u4 u5 u6 u7 H8
    obtain ⟨u0, u1, u2, u3, u4, u5, u6, u7, _⟩ := H9.out
    clear u0 u1 u2 u3 u4 u5 u6 u7
    go_wp2
    go_ret
    exact ⟨rfl, H9.out.bel⟩
  · go_wp2_with fail
    refine (within_is ax ay bx by' cx cy dx dy _ false ⟨⟨HW.out.1.1, HW.out.1.2.1, HW.out.1.2.2⟩, HW.out.2⟩ (by rw [ho1.out, hz.out]; decide)).mono ?_
    rintro e w6 ⟨rfl, hb⟩
    have H6 : Hid (B4 w w6 ax ay bx by' cx cy dx dy) := H5.out.later hb
    clear hb u0 u1 u2 u3 u4 u5 u6 u7 H5
    obtain ⟨u0, u1, u2, u3, u4, u5, u6, u7, _⟩ := H6.out
    go_wp2_with fail
    refine (within_is ax ay cx cy dx dy bx by' _ false ⟨⟨HW.out.1.1, HW.out.1.2.2, HW.out.2⟩, HW.out.1.2.1⟩ (by rw [ho2.out, sg4_34 ax ay cx cy bx by' dx dy, sg4_23 ax ay bx by' cx cy dx dy, hz.out]; decide)).mono ?_
    rintro e w7 ⟨rfl, hb⟩
    have H7 : Hid (B4 w w7 ax ay bx by' cx cy dx dy) := H6.out.later hb
    clear hb u0 u1 u2 u3 u4 u5 u6 u7 H6
    obtain ⟨u0, u1, u2, u3, u4, u5, u6, u7, _⟩ := H7.out
    go_wp2_with fail
    refine (within_is bx by' cx cy dx dy ax ay _ false ⟨⟨HW.out.1.2.1, HW.out.1.2.2, HW.out.2⟩, HW.out.1.1⟩ (by rw [ho3.out, sg4_34 bx by' cx cy ax ay dx dy, sg4_23 bx by' ax ay cx cy dx dy, sg4_12 ax ay bx by' cx cy dx dy, hz.out]; decide)).mono ?_
    rintro e w8 ⟨rfl, hb⟩
    have H8 : Hid (B4 w w8 ax ay bx by' cx cy dx dy) := H7.out.later hb
    clear hb u0 u1 u2 u3 u4 u5 u6 u7 H7
    obtain ⟨u0, u1, u2, u3, u4, u5, u6, u7, _⟩ := H8.out
    go_wp2_with fail
    refine (within_is ax ay bx by' dx dy cx cy _ false ⟨⟨HW.out.1.1, HW.out.1.2.1, HW.out.2⟩, HW.out.1.2.2⟩ (by rw [ho4.out, sg4_34 ax ay bx by' cx cy dx dy, hz.out]; decide)).mono ?_
    rintro e w9 ⟨rfl, hb⟩
    have H9 : Hid (B4 w w9 ax ay bx by' cx cy dx dy) := H8.out.later hb
    clear hb u0 u1 u2 u3 u4 u5 u6 u7 H8
    obtain ⟨u0, u1, u2, u3, u4, u5, u6, u7, _⟩ := H9.out
    go_wp2_with fail
    refine (sign4_is ax ay bx by' cx cy dx dy _ 0 ⟨⟨HW.out.1.1, HW.out.1.2.1, HW.out.1.2.2⟩, HW.out.2⟩ hz.out).mono ?_
    rintro e w10 ⟨rfl, hb⟩
    have H10 : Hid (B4 w w10 ax ay bx by' cx cy dx dy) := H9.out.later hb
    clear hb u0 u1 u2 u3 u4 u5 u6 u7 H9
    obtain ⟨u0, u1, u2, u3, u4, u5, u6, u7, _⟩ := H10.out
    clear u0 u1 u2 u3 u4 u5 u6 u7
    go_wp2
    go_ret
    exact ⟨rfl, H10.out.bel⟩
  · go_wp2_with fail
    refine (within_is ax ay bx by' cx cy dx dy _ true ⟨⟨HW.out.1.1, HW.out.1.2.1, HW.out.1.2.2⟩, HW.out.2⟩ (by rw [ho1.out, hz.out]; decide)).mono ?_
    rintro e w6 ⟨rfl, hb⟩
    have H6 : Hid (B4 w w6 ax ay bx by' cx cy dx dy) := H5.out.later hb
    clear hb u0 u1 u2 u3 u4 u5 u6 u7 H5
    obtain ⟨u0, u1, u2, u3, u4, u5, u6, u7, _⟩ := H6.out
    go_wp2_with fail
    refine (within_is ax ay cx cy dx dy bx by' _ true ⟨⟨HW.out.1.1, HW.out.1.2.2, HW.out.2⟩, HW.out.1.2.1⟩ (by rw [ho2.out, sg4_34 ax ay cx cy bx by' dx dy, sg4_23 ax ay bx by' cx cy dx dy, hz.out]; decide)).mono ?_
    rintro e w7 ⟨rfl, hb⟩
    have H7 : Hid (B4 w w7 ax ay bx by' cx cy dx dy) := H6.out.later hb
    clear hb u0 u1 u2 u3 u4 u5 u6 u7 H6
    obtain ⟨u0, u1, u2, u3, u4, u5, u6, u7, _⟩ := H7.out
    go_wp2_with fail
    refine (within_is bx by' cx cy dx dy ax ay _ false ⟨⟨HW.out.1.2.1, HW.out.1.2.2, HW.out.2⟩, HW.out.1.1⟩ (by rw [ho3.out, sg4_34 bx by' cx cy ax ay dx dy, sg4_23 bx by' ax ay cx cy dx dy, sg4_12 ax ay bx by' cx cy dx dy, hz.out]; decide)).mono ?_
    rintro e w8 ⟨rfl, hb⟩
    have H8 : Hid (B4 w w8 ax ay bx by' cx cy dx dy) := H7.out.later hb
    clear hb u0 u1 u2 u3 u4 u5 u6 u7 H7
    obtain ⟨u0, u1, u2, u3, u4, u5, u6, u7, _⟩ := H8.out
    go_wp2_with fail
    refine (within_is ax ay bx by' dx dy cx cy _ false ⟨⟨HW.out.1.1, HW.out.1.2.1, HW.out.2⟩, HW.out.1.2.2⟩ (by rw [ho4.out, sg4_34 ax ay bx by' cx cy dx dy, hz.out]; decide)).mono ?_
    rintro e w9 ⟨rfl, hb⟩
    have H9 : Hid (B4 w w9 ax ay bx by' cx cy dx dy) := H8.out.later hb
    clear hb u0 u1 u2 u3 u4 u5 u6 u7 H8
    obtain ⟨u0, u1, u2, u3, u4, u5, u6, u7, _⟩ := H9.out
    clear u0 u1 u2 u3 u4 u5 u6 u7
    go_wp2
    go_ret
    exact ⟨rfl, H9.out.bel⟩

end Go.Proofs.Ytghchejehlljkaa

/- CircleNames: the law's walk. -/
namespace Go.Proofs.Ytghchejehlljkaa
open Go.RowKit Go.Shelf
attribute [local go_sem ↓] Go.wp_at_zero Go.wp_at_succ
attribute [local go_sem] run_store_float

theorem nm1 : sg4 0 0 4611686018427387904 0 0 4611686018427387904 4611686018427387906 4611686018427387904 = -1 := sg4_is (by decide +kernel)
theorem nm2 : sg4 0 0 4611686018427387904 0 0 4611686018427387904 4611686018427387900 4611686018427387904 = 1 := sg4_is (by decide +kernel)
theorem nm3 : sg4 0 0 4611686018427387904 0 0 4611686018427387904 5057542381537067008 14280914418391842816 = -1 := sg4_is (by decide +kernel)
theorem nm4 : sg4 4156822456062967808 0 4611686018427387904 0 0 4611686018427387904 4607182418800017408 4607182418800017408 = 1 := sg4_is (by decide +kernel)
theorem nm5 : sg4 0 0 4611686018427387904 0 0 4611686018427387904 0 0 = 0 := sg4_is (by decide +kernel)
theorem nm6 : sg4 0 0 0 0 0 4611686018427387904 4607182418800017408 4607182418800017408 = 0 := sg4_is (by decide +kernel)
theorem nm7 : sg3 0 0 4611686018427387904 0 4616189618054758400 0 = 0 := sg3_is (by decide +kernel)
/-- The six floats. -/
def xs6 (k : Nat) : Nat := if k = 0 then 9221120237041090561 else if k = 1 then 9218868437227405312 else if k = 2 then 5062045981164437504 else if k = 3 then 5057542381537067009 else if k = 4 then 4152318856435597312 else 4159074255876653056
theorem xs6_no : ∀ k, k < 6 → ¬ Crd (xs6 k) := by decide +kernel
theorem xs6_word (k : Nat) : xs6 k < 18446744073709551616 := by
  unfold xs6
  split
  · omega
  · split
    · omega
    · split
      · omega
      · split
        · omega
        · split <;> omega

set_option maxRecDepth 100000 in
theorem nan_is (w : World) : Calls Try.prog 11 #[] w fun e w' => e = .returned (.float .f64 9221120237041090561) ∧ w' = w := by
  have b1 := run_frombits 9221120237041090561
  rw [show ((9221120237041090561 : Nat) : Int) = 9221120237041090561 from rfl] at b1
  go_enter Try.func11, Try.ntmps11
  go_wp2
  go_ret
  exact ⟨rfl, rfl⟩
set_option maxRecDepth 100000 in
theorem inf_is (w : World) : Calls Try.prog 12 #[.int .i64 1] w fun e w' => e = .returned (.float .f64 9218868437227405312) ∧ w' = w := by
  have b1 := run_frombits 9218868437227405312
  rw [show ((9218868437227405312 : Nat) : Int) = 9218868437227405312 from rfl] at b1
  go_enter Try.func12, Try.ntmps12
  go_wp2
  go_ret
  exact ⟨rfl, rfl⟩
set_option maxRecDepth 100000 in
theorem next_is (w : World) : Calls Try.prog 13 #[.float .f64 5057542381537067008, .float .f64 9218868437227405312] w fun e w' => e = .returned (.float .f64 5057542381537067009) ∧ w' = w := by
  have c1 : isnan 5057542381537067008 = false := by decide +kernel
  have c2 : isnan 9218868437227405312 = false := by decide +kernel
  have HN1 : Hid (∀ w, Calls Try.prog 25 #[.float .f64 5057542381537067008] w fun e w' => e = .returned (.bool false) ∧ w' = w) := fun w => by have := isNaN_any 5057542381537067008 w; rwa [c1] at this
  have HN2 : Hid (∀ w, Calls Try.prog 25 #[.float .f64 9218868437227405312] w fun e w' => e = .returned (.bool false) ∧ w' = w) := fun w => by have := isNaN_any 9218868437227405312 w; rwa [c2] at this
  have o1 : FloatKind.f64.format.order 5057542381537067008 9218868437227405312 = some .lt := by decide +kernel
  have o2 : FloatKind.f64.format.order 5057542381537067008 0 = some .gt := by decide +kernel
  have o3 : FloatKind.f64.format.order 9218868437227405312 5057542381537067008 = some .gt := by decide +kernel
  have b1 := run_bits 5057542381537067008
  have b2 := run_frombits 5057542381537067009
  rw [show ((5057542381537067008 : Nat) : Int) = 5057542381537067008 from rfl] at b1
  rw [show ((5057542381537067009 : Nat) : Int) = 5057542381537067009 from rfl] at b2
  have wr : IntKind.u64.wrap 5057542381537067009 = 5057542381537067009 := by decide
  clear c1 c2
  go_enter Try.func13, Try.ntmps13
  go_wp2_with fail
  refine (HN1.out _).mono ?_
  rintro e w1 ⟨rfl, rfl⟩
  go_wp2_with fail
  refine (HN2.out _).mono ?_
  rintro e w1 ⟨rfl, rfl⟩
  go_wp2
  go_ret
  exact ⟨rfl, rfl⟩

/-- What lies in memory in the loop. -/
def NW (w W : World) (g : Nat) : Prop := B4 w W 0 0 4611686018427387904 0 0 4611686018427387904 4607182418800017408 4607182418800017408 ∧ ∀ k, k < 6 → W.cell? ⟨g, k, none⟩ = some (.float .f64 (xs6 k))
theorem NW.later {w W W' : World} {g : Nat} (h : NW w W g) (hb : Below W.heap.size W W') : NW w W' g := ⟨h.1.later hb, fun k hk => box_cell hb (h.2 k hk)⟩

set_option maxRecDepth 100000 in
set_option maxHeartbeats 8000000 in
theorem cnames_law (w : World) : Calls Try.prog 3 #[] w fun e w' => e = .returned (.bool true) ∧ Below w.heap.size w w' := by
  have HS : Hid (B4 w ((((w.alloc (.cells #[.float .f64 0, .float .f64 0] 24)).alloc (.cells #[.float .f64 4611686018427387904, .float .f64 0] 24)).alloc (.cells #[.float .f64 0, .float .f64 4611686018427387904] 24)).alloc (.cells #[.float .f64 4607182418800017408, .float .f64 4607182418800017408] 24)) 0 0 4611686018427387904 0 0 4611686018427387904 4607182418800017408 4607182418800017408) := B4.start w 0 0 4611686018427387904 0 0 4611686018427387904 4607182418800017408 4607182418800017408
  go_enter Try.func3, Try.ntmps3
  go_wp2_with fail
  refine (works_any _).mono ?_
  rintro e w1 ⟨rfl, hb⟩
  have H1 : Hid (B4 w w1 0 0 4611686018427387904 0 0 4611686018427387904 4607182418800017408 4607182418800017408) := HS.out.later hb
  clear hb HS
  have hA : Below w1.heap.size w1 ((w1.alloc (.cells #[.float .f64 5057542381537067008, .float .f64 14280914418391842816] 24)).alloc (.cells #[.float .f64 4156822456062967808, .float .f64 0] 24)) := ((Below.refl _ _).alloc (Nat.le_refl _) _).alloc (by simp) _
  have hF := (CB.new w1 #[.float .f64 5057542381537067008, .float .f64 14280914418391842816] 24).later (W' := (w1.alloc (.cells #[.float .f64 5057542381537067008, .float .f64 14280914418391842816] 24)).alloc (.cells #[.float .f64 4156822456062967808, .float .f64 0] 24)) ((Below.refl _ _).alloc (Nat.le_refl _) _)
  have hG := CB.new (w1.alloc (.cells #[.float .f64 5057542381537067008, .float .f64 14280914418391842816] 24)) #[.float .f64 4156822456062967808, .float .f64 0] 24
  have hsz : (w1.alloc (.cells #[.float .f64 5057542381537067008, .float .f64 14280914418391842816] 24)).heap.size = w1.heap.size + 1 := by simp
  rw [hsz] at hG
  have H2 : Hid (B4 w ((w1.alloc (.cells #[.float .f64 5057542381537067008, .float .f64 14280914418391842816] 24)).alloc (.cells #[.float .f64 4156822456062967808, .float .f64 0] 24)) 0 0 4611686018427387904 0 0 4611686018427387904 4607182418800017408 4607182418800017408) := H1.out.later hA
  clear hA hsz
  obtain ⟨bF, hbF⟩ : ∃ b, w1.heap.size = b := ⟨_, rfl⟩
  rw [hbF] at hF hG
  go_upto_region 9 with fail
  try rw [hbF]
  clear hbF
  generalize (w1.alloc (.cells #[.float .f64 5057542381537067008, .float .f64 14280914418391842816] 24)).alloc (.cells #[.float .f64 4156822456062967808, .float .f64 0] 24) = W0 at *
  obtain ⟨u0, u1, u2, u3, u4, u5, u6, u7, _⟩ := H2.out
  go_wp2_with fail
  refine (sign4_is 0 0 4611686018427387904 0 0 4611686018427387904 4611686018427387906 4611686018427387904 _ (-1) ⟨⟨⟨by omega, by omega⟩, ⟨by omega, by omega⟩, by omega, by omega⟩, by omega, by omega⟩ nm1).mono ?_
  rintro e w2 ⟨rfl, hb⟩
  have H3 : Hid (B4 w w2 0 0 4611686018427387904 0 0 4611686018427387904 4607182418800017408 4607182418800017408) := H2.out.later hb
  have hF := hF.later hb
  have hG := hG.later hb
  clear hb H2 u0 u1 u2 u3 u4 u5 u6 u7
  obtain ⟨u0, u1, u2, u3, u4, u5, u6, u7, _⟩ := H3.out
  have y0 : w2.cell? ⟨bF, 0, none⟩ = some (.float .f64 5057542381537067008) := hF.cell 0 (by simp)
  have y1 : w2.cell? ⟨bF, 1, none⟩ = some (.float .f64 14280914418391842816) := hF.cell 1 (by simp)
  have y2 : w2.cell? ⟨bF + 1, 0, none⟩ = some (.float .f64 4156822456062967808) := hG.cell 0 (by simp)
  have y3 : w2.cell? ⟨bF + 1, 1, none⟩ = some (.float .f64 0) := hG.cell 1 (by simp)
  go_wp2_with fail
  refine (sign4_is 0 0 4611686018427387904 0 0 4611686018427387904 4611686018427387900 4611686018427387904 _ 1 ⟨⟨⟨by omega, by omega⟩, ⟨by omega, by omega⟩, by omega, by omega⟩, by omega, by omega⟩ nm2).mono ?_
  rintro e w3 ⟨rfl, hb⟩
  have H4 : Hid (B4 w w3 0 0 4611686018427387904 0 0 4611686018427387904 4607182418800017408 4607182418800017408) := H3.out.later hb
  have hF := hF.later hb
  have hG := hG.later hb
  clear hb H3 u0 u1 u2 u3 u4 u5 u6 u7 y0 y1 y2 y3
  obtain ⟨u0, u1, u2, u3, u4, u5, u6, u7, _⟩ := H4.out
  have y0 : w3.cell? ⟨bF, 0, none⟩ = some (.float .f64 5057542381537067008) := hF.cell 0 (by simp)
  have y1 : w3.cell? ⟨bF, 1, none⟩ = some (.float .f64 14280914418391842816) := hF.cell 1 (by simp)
  have y2 : w3.cell? ⟨bF + 1, 0, none⟩ = some (.float .f64 4156822456062967808) := hG.cell 0 (by simp)
  have y3 : w3.cell? ⟨bF + 1, 1, none⟩ = some (.float .f64 0) := hG.cell 1 (by simp)
  go_wp2_with fail
  refine (sign4_is 0 0 4611686018427387904 0 0 4611686018427387904 5057542381537067008 14280914418391842816 _ (-1) ⟨⟨⟨by omega, by omega⟩, ⟨by omega, by omega⟩, by omega, by omega⟩, by omega, by omega⟩ nm3).mono ?_
  rintro e w4 ⟨rfl, hb⟩
  have H5 : Hid (B4 w w4 0 0 4611686018427387904 0 0 4611686018427387904 4607182418800017408 4607182418800017408) := H4.out.later hb
  have hF := hF.later hb
  have hG := hG.later hb
  clear hb H4 u0 u1 u2 u3 u4 u5 u6 u7 y0 y1 y2 y3
  obtain ⟨u0, u1, u2, u3, u4, u5, u6, u7, _⟩ := H5.out
  have y0 : w4.cell? ⟨bF, 0, none⟩ = some (.float .f64 5057542381537067008) := hF.cell 0 (by simp)
  have y1 : w4.cell? ⟨bF, 1, none⟩ = some (.float .f64 14280914418391842816) := hF.cell 1 (by simp)
  have y2 : w4.cell? ⟨bF + 1, 0, none⟩ = some (.float .f64 4156822456062967808) := hG.cell 0 (by simp)
  have y3 : w4.cell? ⟨bF + 1, 1, none⟩ = some (.float .f64 0) := hG.cell 1 (by simp)
  go_wp2_with fail
  refine (sign4_is 4156822456062967808 0 4611686018427387904 0 0 4611686018427387904 4607182418800017408 4607182418800017408 _ 1 ⟨⟨⟨by omega, by omega⟩, ⟨by omega, by omega⟩, by omega, by omega⟩, by omega, by omega⟩ nm4).mono ?_
  rintro e w5 ⟨rfl, hb⟩
  have H6 : Hid (B4 w w5 0 0 4611686018427387904 0 0 4611686018427387904 4607182418800017408 4607182418800017408) := H5.out.later hb
  have hF := hF.later hb
  have hG := hG.later hb
  clear hb H5 u0 u1 u2 u3 u4 u5 u6 u7 y0 y1 y2 y3
  obtain ⟨u0, u1, u2, u3, u4, u5, u6, u7, _⟩ := H6.out
  have y0 : w5.cell? ⟨bF, 0, none⟩ = some (.float .f64 5057542381537067008) := hF.cell 0 (by simp)
  have y1 : w5.cell? ⟨bF, 1, none⟩ = some (.float .f64 14280914418391842816) := hF.cell 1 (by simp)
  have y2 : w5.cell? ⟨bF + 1, 0, none⟩ = some (.float .f64 4156822456062967808) := hG.cell 0 (by simp)
  have y3 : w5.cell? ⟨bF + 1, 1, none⟩ = some (.float .f64 0) := hG.cell 1 (by simp)
  clear y0 y1 y2 y3 hF hG u0 u1 u2 u3 u4 u5 u6 u7
  go_wp2_with fail
  refine (nan_is _).mono ?_
  rintro e wx ⟨rfl, hbx⟩
  subst hbx
  go_wp2_with fail
  refine (inf_is _).mono ?_
  rintro e wx ⟨rfl, hbx⟩
  subst hbx
  go_wp2_with fail
  refine (inf_is _).mono ?_
  rintro e wx ⟨rfl, hbx⟩
  subst hbx
  go_wp2_with fail
  refine (next_is _).mono ?_
  rintro e wx ⟨rfl, hbx⟩
  subst hbx
  have hX := CB.new wx #[.float .f64 9221120237041090561, .float .f64 9218868437227405312, .float .f64 5062045981164437504, .float .f64 5057542381537067009, .float .f64 4152318856435597312, .float .f64 4159074255876653056] 22
  have hbx : Below wx.heap.size wx (wx.alloc (.cells #[.float .f64 9221120237041090561, .float .f64 9218868437227405312, .float .f64 5062045981164437504, .float .f64 5057542381537067009, .float .f64 4152318856435597312, .float .f64 4159074255876653056] 22)) := (Below.refl _ _).alloc (Nat.le_refl _) _
  have HNW : Hid (NW w (wx.alloc (.cells #[.float .f64 9221120237041090561, .float .f64 9218868437227405312, .float .f64 5062045981164437504, .float .f64 5057542381537067009, .float .f64 4152318856435597312, .float .f64 4159074255876653056] 22)) wx.heap.size) := by
    refine ⟨H6.out.later hbx, fun k hk => ?_⟩
    have : k = 0 ∨ k = 1 ∨ k = 2 ∨ k = 3 ∨ k = 4 ∨ k = 5 := by omega
    rcases this with rfl | rfl | rfl | rfl | rfl | rfl
    · exact hX.cell 0 (by simp)
    · exact hX.cell 1 (by simp)
    · exact hX.cell 2 (by simp)
    · exact hX.cell 3 (by simp)
    · exact hX.cell 4 (by simp)
    · exact hX.cell 5 (by simp)
  clear hX hbx
  obtain ⟨g, hg⟩ : ∃ g, wx.heap.size = g := ⟨_, rfl⟩
  rw [hg] at HNW
  go_wp2_with fail
  try rw [hg]
  clear hg
  generalize wx.alloc (.cells #[.float .f64 9221120237041090561, .float .f64 9218868437227405312, .float .f64 5062045981164437504, .float .f64 5057542381537067009, .float .f64 4152318856435597312, .float .f64 4159074255876653056] 22) = WX at *
  go_loopw [59] (fun i wr => ∃ k : Nat, k ≤ 6 ∧ i = .int .i64 (k : Nat) ∧ Hid (NW w wr g)) (fun i _ => 6 - (intOf i).toNat)
  case atStart => exact ⟨0, by omega, rfl, HNW.out⟩
  case round =>
    obtain ⟨k, hk, rfl, hB⟩ := hrel
    by_cases hlt : k < 6
    · have hlt' : (k : Int) < 6 := by omega
      have hk0 : (0 : Int) ≤ (k : Int) := by omega
      have c1 := hB.out.2 k hlt
      have HNC : Hid (¬ Crd (xs6 k) ∧ xs6 k < 18446744073709551616) := ⟨xs6_no k hlt, xs6_word k⟩
      generalize xs6 k = x at *
      have hA : Below wr.heap.size wr ((wr.alloc (.cells #[.float .f64 x, .float .f64 0] 24)).alloc (.cells #[.float .f64 0, .float .f64 x] 24)) := ((Below.refl _ _).alloc (Nat.le_refl _) _).alloc (by simp) _
      have hP := (CB.new wr #[.float .f64 x, .float .f64 0] 24).later (W' := (wr.alloc (.cells #[.float .f64 x, .float .f64 0] 24)).alloc (.cells #[.float .f64 0, .float .f64 x] 24)) ((Below.refl _ _).alloc (Nat.le_refl _) _)
      have hQ := CB.new (wr.alloc (.cells #[.float .f64 x, .float .f64 0] 24)) #[.float .f64 0, .float .f64 x] 24
      have hsz : (wr.alloc (.cells #[.float .f64 x, .float .f64 0] 24)).heap.size = wr.heap.size + 1 := by simp
      rw [hsz] at hQ
      have hN := hB.out.later hA
      clear hA hsz
      obtain ⟨bP, hbP⟩ : ∃ b, wr.heap.size = b := ⟨_, rfl⟩
      rw [hbP] at hP hQ
      go_upto_region 16 with fail
      try rw [hbP]
      clear hbP c1
      generalize (wr.alloc (.cells #[.float .f64 x, .float .f64 0] 24)).alloc (.cells #[.float .f64 0, .float .f64 x] 24) = WQ at *
      have HP1 : Hid (¬ P4 0 0 4611686018427387904 0 0 4611686018427387904 x 0) := fun h => HNC.out.1 h.2.1
      have HP2 : Hid (¬ P4 0 x 4611686018427387904 0 0 4611686018427387904 4607182418800017408 4607182418800017408) := fun h => HNC.out.1 h.1.1.2
      have HP3 : Hid (¬ P4 0 0 0 x 0 4611686018427387904 4607182418800017408 4607182418800017408) := fun h => HNC.out.1 h.1.2.1.2
      obtain ⟨u0, u1, u2, u3, u4, u5, u6, u7, _⟩ := hN.1
      have y0 : WQ.cell? ⟨bP, 0, none⟩ = some (.float .f64 x) := hP.cell 0 (by simp)
      have y1 : WQ.cell? ⟨bP, 1, none⟩ = some (.float .f64 0) := hP.cell 1 (by simp)
      have y2 : WQ.cell? ⟨bP + 1, 0, none⟩ = some (.float .f64 0) := hQ.cell 0 (by simp)
      have y3 : WQ.cell? ⟨bP + 1, 1, none⟩ = some (.float .f64 x) := hQ.cell 1 (by simp)
      go_wp2_with fail
      clear u0 u1 u2 u3 u4 u5 u6 u7 y0 y1 y2 y3
      refine (cfast_any 0 0 4611686018427387904 0 0 4611686018427387904 x 0 _ ⟨⟨⟨by omega, by omega⟩, ⟨by omega, by omega⟩, by omega, by omega⟩, HNC.out.2, by omega⟩).mono ?_
      rintro e V1 ⟨⟨s, ok, rfl, hf⟩, hb⟩
      obtain rfl : ok = false := by
        cases ok
        · rfl
        · exact absurd (hf.1 rfl).1 HP1.out
      obtain rfl := hf.2.1 rfl
      have hN1 := hN.later hb
      have hP1 := hP.later hb
      have hQ1 := hQ.later hb
      clear hb hf
      obtain ⟨u0, u1, u2, u3, u4, u5, u6, u7, _⟩ := hN1.1
      have y0 : V1.cell? ⟨bP, 0, none⟩ = some (.float .f64 x) := hP1.cell 0 (by simp)
      have y1 : V1.cell? ⟨bP, 1, none⟩ = some (.float .f64 0) := hP1.cell 1 (by simp)
      have y2 : V1.cell? ⟨bP + 1, 0, none⟩ = some (.float .f64 0) := hQ1.cell 0 (by simp)
      have y3 : V1.cell? ⟨bP + 1, 1, none⟩ = some (.float .f64 x) := hQ1.cell 1 (by simp)
      go_wp2_with fail
      refine (sign4_is 0 0 4611686018427387904 0 0 4611686018427387904 x 0 _ 0 ⟨⟨⟨by omega, by omega⟩, ⟨by omega, by omega⟩, by omega, by omega⟩, HNC.out.2, by omega⟩ (sg4_no HP1.out)).mono ?_
      rintro e V2 ⟨rfl, hb⟩
      have hN2 := hN1.later hb
      have hP2 := hP1.later hb
      have hQ2 := hQ1.later hb
      clear hb u0 u1 u2 u3 u4 u5 u6 u7 y0 y1 y2 y3
      obtain ⟨u0, u1, u2, u3, u4, u5, u6, u7, _⟩ := hN2.1
      have y0 : V2.cell? ⟨bP, 0, none⟩ = some (.float .f64 x) := hP2.cell 0 (by simp)
      have y1 : V2.cell? ⟨bP, 1, none⟩ = some (.float .f64 0) := hP2.cell 1 (by simp)
      have y2 : V2.cell? ⟨bP + 1, 0, none⟩ = some (.float .f64 0) := hQ2.cell 0 (by simp)
      have y3 : V2.cell? ⟨bP + 1, 1, none⟩ = some (.float .f64 x) := hQ2.cell 1 (by simp)
      go_wp2_with fail
      refine (sign4_is 0 x 4611686018427387904 0 0 4611686018427387904 4607182418800017408 4607182418800017408 _ 0 ⟨⟨⟨by omega, HNC.out.2⟩, ⟨by omega, by omega⟩, by omega, by omega⟩, by omega, by omega⟩ (sg4_no HP2.out)).mono ?_
      rintro e V3 ⟨rfl, hb⟩
      have hN3 := hN2.later hb
      have hP3 := hP2.later hb
      have hQ3 := hQ2.later hb
      clear hb u0 u1 u2 u3 u4 u5 u6 u7 y0 y1 y2 y3
      obtain ⟨u0, u1, u2, u3, u4, u5, u6, u7, _⟩ := hN3.1
      have y0 : V3.cell? ⟨bP, 0, none⟩ = some (.float .f64 x) := hP3.cell 0 (by simp)
      have y1 : V3.cell? ⟨bP, 1, none⟩ = some (.float .f64 0) := hP3.cell 1 (by simp)
      have y2 : V3.cell? ⟨bP + 1, 0, none⟩ = some (.float .f64 0) := hQ3.cell 0 (by simp)
      have y3 : V3.cell? ⟨bP + 1, 1, none⟩ = some (.float .f64 x) := hQ3.cell 1 (by simp)
      go_wp2_with fail
      refine (within_is 0 0 0 x 0 4611686018427387904 4607182418800017408 4607182418800017408 _ false ⟨⟨⟨by omega, by omega⟩, ⟨by omega, HNC.out.2⟩, by omega, by omega⟩, by omega, by omega⟩ (by rw [sg4_no HP3.out, Int.mul_zero]; decide)).mono ?_
      rintro e V4 ⟨rfl, hb⟩
      have HE : Hid (NW w V4 g) := hN3.later hb
      clear hb u0 u1 u2 u3 u4 u5 u6 u7 y0 y1 y2 y3 hN hN1 hN2 hN3 hP hP1 hP2 hP3 hQ hQ1 hQ2 hQ3
      go_wp2
      exact ⟨⟨k + 1, by omega, by go_num, HE.out⟩, by simp [intOf]; omega⟩
    · obtain rfl : k = 6 := by omega
      obtain ⟨u0, u1, u2, u3, u4, u5, u6, u7, _⟩ := hB.out.1
      go_wp2_with fail
      refine (within_is 0 0 4611686018427387904 0 4616189618054758400 0 4607182418800017408 4607182418800017408 _ false ⟨⟨⟨by omega, by omega⟩, ⟨by omega, by omega⟩, by omega, by omega⟩, by omega, by omega⟩ (by rw [nm7, Int.zero_mul]; decide)).mono ?_
      rintro e V1 ⟨rfl, hb⟩
      have G1 := hB.out.1.later hb
      clear hb u0 u1 u2 u3 u4 u5 u6 u7
      obtain ⟨u0, u1, u2, u3, u4, u5, u6, u7, _⟩ := id G1
      go_wp2_with fail
      refine (sign4_is 0 0 4611686018427387904 0 0 4611686018427387904 0 0 _ 0 ⟨⟨⟨by omega, by omega⟩, ⟨by omega, by omega⟩, by omega, by omega⟩, by omega, by omega⟩ nm5).mono ?_
      rintro e V2 ⟨rfl, hb⟩
      have G2 := G1.later hb
      clear hb u0 u1 u2 u3 u4 u5 u6 u7
      obtain ⟨u0, u1, u2, u3, u4, u5, u6, u7, _⟩ := id G2
      go_wp2_with fail
      refine (sign4_is 0 0 0 0 0 4611686018427387904 4607182418800017408 4607182418800017408 _ 0 ⟨⟨⟨by omega, by omega⟩, ⟨by omega, by omega⟩, by omega, by omega⟩, by omega, by omega⟩ nm6).mono ?_
      rintro e V3 ⟨rfl, hb⟩
      have HE : Hid (Below w.heap.size w V3) := (G2.later hb).bel
      clear hb u0 u1 u2 u3 u4 u5 u6 u7 G1 G2
      go_wp2
      go_ret
      exact ⟨rfl, HE.out⟩

end Go.Proofs.Ytghchejehlljkaa
