/- Own texts, put together: Os Lm Ot Ou Ow. -/
import Derived.Test.YtglcngjllfgdpabQ15
/- OrientMeets: the law's walk. -/
namespace Go.Proofs.Ytglcngjllfgdpab
open Go.RowKit Go.Shelf

theorem bool_iff4 {a b : Bool} {p : Prop} (h1 : a = true ↔ p) (h2 : b = true ↔ p) : a = b := by
  cases a <;> cases b
  · rfl
  · exact absurd (h1.2 (h2.1 rfl)) (by simp)
  · exact absurd (h2.2 (h1.1 rfl)) (by simp)
  · rfl

theorem bool_of (p : Prop) : ∃ b : Bool, Hid (b = true ↔ p) := by
  by_cases h : p
  · exact ⟨true, fun _ => h, fun _ => rfl⟩
  · exact ⟨false, fun e => Bool.noConfusion e, fun e => absurd e h⟩

set_option maxRecDepth 100000 in
set_option maxHeartbeats 8000000 in
theorem meets_law (ax ay bx by' cx cy dx dy : Nat) (w : World) (hw : W6 ax ay bx by' cx cy ∧ dx < 18446744073709551616 ∧ dy < 18446744073709551616) :
    Calls Try.prog 5 #[pv ax ay, pv bx by', pv cx cy, pv dx dy] w fun e w' => e = .returned (.bool true) ∧ Below w.heap.size w w' := by
  have HW1 : Hid (W6 ax ay bx by' cx cy) := hw.1
  have HD : Hid (dx < 18446744073709551616 ∧ dy < 18446744073709551616) := hw.2
  clear hw
  obtain ⟨o1, HON⟩ : ∃ b : Bool, Hid (b = true ↔ OnP ax ay bx by' cx cy) := bool_of _
  obtain ⟨o2, HCR⟩ : ∃ b : Bool, Hid (b = true ↔ CrossP ax ay bx by' cx cy dx dy) := bool_of _
  go_enter Try.func5, Try.ntmps5
  go_wp2_with fail
  have HB0 : Hid (Below w.heap.size w ((((w.alloc (.cells #[.float .f64 ax, .float .f64 ay] 24)).alloc (.cells #[.float .f64 bx, .float .f64 by'] 24)).alloc (.cells #[.float .f64 cx, .float .f64 cy] 24)).alloc (.cells #[.float .f64 dx, .float .f64 dy] 24))) := ((((Below.refl _ w).alloc (Nat.le_refl _) _).alloc (by simp) _).alloc (by simp; omega) _).alloc (by simp; omega) _
  obtain ⟨W0, hW0⟩ : ∃ W0, W0 = ((((w.alloc (.cells #[.float .f64 ax, .float .f64 ay] 24)).alloc (.cells #[.float .f64 bx, .float .f64 by'] 24)).alloc (.cells #[.float .f64 cx, .float .f64 cy] 24)).alloc (.cells #[.float .f64 dx, .float .f64 dy] 24)) := ⟨_, rfl⟩
  have za0 : W0.cell? ⟨w.heap.size, 0, none⟩ = some (.float .f64 ax) := by rw [hW0]; go_simp
  have za1 : W0.cell? ⟨w.heap.size, 1, none⟩ = some (.float .f64 ay) := by rw [hW0]; go_simp
  have zb0 : W0.cell? ⟨w.heap.size + 1, 0, none⟩ = some (.float .f64 bx) := by rw [hW0]; go_simp
  have zb1 : W0.cell? ⟨w.heap.size + 1, 1, none⟩ = some (.float .f64 by') := by rw [hW0]; go_simp
  have zc0 : W0.cell? ⟨w.heap.size + 1 + 1, 0, none⟩ = some (.float .f64 cx) := by rw [hW0]; go_simp
  have zc1 : W0.cell? ⟨w.heap.size + 1 + 1, 1, none⟩ = some (.float .f64 cy) := by rw [hW0]; go_simp
  have zd0 : W0.cell? ⟨w.heap.size + 1 + 1 + 1, 0, none⟩ = some (.float .f64 dx) := by rw [hW0]; go_simp
  have zd1 : W0.cell? ⟨w.heap.size + 1 + 1 + 1, 1, none⟩ = some (.float .f64 dy) := by rw [hW0]; go_simp
  rw [← hW0] at HB0 ⊢
  clear hW0
  refine wp_region_held_drew (S := (fun W => W.cell? ⟨w.heap.size, 0, none⟩ = some (.float .f64 ax) ∧ W.cell? ⟨w.heap.size, 1, none⟩ = some (.float .f64 ay) ∧ W.cell? ⟨w.heap.size + 1, 0, none⟩ = some (.float .f64 bx) ∧ W.cell? ⟨w.heap.size + 1, 1, none⟩ = some (.float .f64 by') ∧ W.cell? ⟨w.heap.size + 1 + 1, 0, none⟩ = some (.float .f64 cx) ∧ W.cell? ⟨w.heap.size + 1 + 1, 1, none⟩ = some (.float .f64 cy) ∧ W.cell? ⟨w.heap.size + 1 + 1 + 1, 0, none⟩ = some (.float .f64 dx) ∧ W.cell? ⟨w.heap.size + 1 + 1 + 1, 1, none⟩ = some (.float .f64 dy) ∧ Below w.heap.size w W)) (by kernel_rfl) ⟨za0, za1, zb0, zb1, zc0, zc1, zd0, zd1, HB0.out.drew⟩ (fun hS => ?_)
  refine take_at (i := 0) (d := some 9) (v := .agg #[.float .f64 ax, .float .f64 ay]) (by kernel_rfl) (by kernel_rfl) (by kernel_rfl) (by kernel_rfl) (fun _ _ _ h => h) ?_ hS ?_
  · intro o ho
    simp only [List.getElem?_toArray, List.getElem?_cons_zero, Option.some.injEq] at ho
    subst ho
    refine Or.inl ⟨by rfl, ?_⟩
    intro w hSw
    (try dsimp only at hSw)
    go_simp
  simp only [Act.put, List.setIfInBounds_toArray, List.set_cons_zero, List.set_cons_succ]
  refine take_at (i := 1) (d := some 10) (v := .agg #[.float .f64 bx, .float .f64 by']) (by kernel_rfl) (by kernel_rfl) (by kernel_rfl) (by kernel_rfl) (fun _ _ _ h => h) ?_ hS ?_
  · intro o ho
    simp only [List.getElem?_toArray, List.getElem?_cons_succ, List.getElem?_cons_zero, Option.some.injEq] at ho
    subst ho
    refine Or.inl ⟨by rfl, ?_⟩
    intro w hSw
    (try dsimp only at hSw)
    go_simp
  simp only [Act.put, List.setIfInBounds_toArray, List.set_cons_zero, List.set_cons_succ]
  refine take_at (i := 2) (d := some 11) (v := .agg #[.float .f64 cx, .float .f64 cy]) (by kernel_rfl) (by kernel_rfl) (by kernel_rfl) (by kernel_rfl) (fun _ _ _ h => h) ?_ hS ?_
  · intro o ho
    simp only [List.getElem?_toArray, List.getElem?_cons_succ, List.getElem?_cons_zero, Option.some.injEq] at ho
    subst ho
    refine Or.inl ⟨by rfl, ?_⟩
    intro w hSw
    (try dsimp only at hSw)
    go_simp
  simp only [Act.put, List.setIfInBounds_toArray, List.set_cons_zero, List.set_cons_succ]
  refine take_at (i := 4) (d := some 13) (v := .agg #[.float .f64 ax, .float .f64 ay]) (by kernel_rfl) (by kernel_rfl) (by kernel_rfl) (by kernel_rfl) (fun _ _ _ h => h) ?_ hS ?_
  · intro o ho
    simp only [List.getElem?_toArray, List.getElem?_cons_succ, List.getElem?_cons_zero, Option.some.injEq] at ho
    subst ho
    refine Or.inl ⟨by rfl, ?_⟩
    intro w hSw
    (try dsimp only at hSw)
    go_simp
  simp only [Act.put, List.setIfInBounds_toArray, List.set_cons_zero, List.set_cons_succ]
  refine take_at (i := 5) (d := some 14) (v := .agg #[.float .f64 bx, .float .f64 by']) (by kernel_rfl) (by kernel_rfl) (by kernel_rfl) (by kernel_rfl) (fun _ _ _ h => h) ?_ hS ?_
  · intro o ho
    simp only [List.getElem?_toArray, List.getElem?_cons_succ, List.getElem?_cons_zero, Option.some.injEq] at ho
    subst ho
    refine Or.inl ⟨by rfl, ?_⟩
    intro w hSw
    (try dsimp only at hSw)
    go_simp
  simp only [Act.put, List.setIfInBounds_toArray, List.set_cons_zero, List.set_cons_succ]
  refine take_at (i := 6) (d := some 15) (v := .agg #[.float .f64 cx, .float .f64 cy]) (by kernel_rfl) (by kernel_rfl) (by kernel_rfl) (by kernel_rfl) (fun _ _ _ h => h) ?_ hS ?_
  · intro o ho
    simp only [List.getElem?_toArray, List.getElem?_cons_succ, List.getElem?_cons_zero, Option.some.injEq] at ho
    subst ho
    refine Or.inl ⟨by rfl, ?_⟩
    intro w hSw
    (try dsimp only at hSw)
    go_simp
  simp only [Act.put, List.setIfInBounds_toArray, List.set_cons_zero, List.set_cons_succ]
  refine call_at 3 (by kernel_rfl) (by kernel_rfl) ?_
  intro o ho
  simp only [List.getElem?_toArray, List.getElem?_cons_succ, List.getElem?_cons_zero, Option.some.injEq] at ho
  subst ho
  intro KF hK
  go_simp
  refine (on_any ax ay bx by' cx cy _ HW1.out).mono ?_
  rintro e wx ⟨⟨t, rfl, ht⟩, hbx⟩
  obtain rfl := bool_iff4 ht HON.out
  clear ht
  go_wp2_with fail
  refine hK.out _ _ (keepX hS hbx) ?_
  clear hS hbx
  intro hS
  clear hK KF
  try simp only [Act.put, List.setIfInBounds_toArray, List.set_cons_zero, List.set_cons_succ]
  refine call_at 7 (by kernel_rfl) (by kernel_rfl) ?_
  intro o ho
  simp only [List.getElem?_toArray, List.getElem?_cons_succ, List.getElem?_cons_zero, Option.some.injEq] at ho
  subst ho
  intro KF hK
  go_simp
  refine (refOn_any ax ay bx by' cx cy _ HW1.out).mono ?_
  rintro e wx ⟨⟨t, rfl, ht⟩, hbx⟩
  obtain rfl := bool_iff4 ht HON.out
  clear ht
  go_wp2_with fail
  refine hK.out _ _ (keepX hS hbx) ?_
  clear hS hbx
  intro hS
  clear hK KF
  try simp only [Act.put, List.setIfInBounds_toArray, List.set_cons_zero, List.set_cons_succ]
  refine take_at (i := 8) (d := some 17) (v := .bool true) (by kernel_rfl) (by kernel_rfl) (by kernel_rfl) (by kernel_rfl) (fun _ _ _ h => h) ?_ hS ?_
  · intro o ho
    simp only [List.getElem?_toArray, List.getElem?_cons_succ, List.getElem?_cons_zero, Option.some.injEq] at ho
    subst ho
    refine Or.inl ⟨by rfl, ?_⟩
    intro w hSw
    (try dsimp only at hSw)
    go_simp
  simp only [Act.put, List.setIfInBounds_toArray, List.set_cons_zero, List.set_cons_succ]
  refine take_at (i := 9) (d := some 18) (v := .bool true) (by kernel_rfl) (by kernel_rfl) (by kernel_rfl) (by kernel_rfl) (fun _ _ _ h => h) ?_ hS ?_
  · intro o ho
    simp only [List.getElem?_toArray, List.getElem?_cons_succ, List.getElem?_cons_zero, Option.some.injEq] at ho
    subst ho
    refine Or.inl ⟨by rfl, ?_⟩
    intro w hSw
    (try dsimp only at hSw)
    go_simp
  simp only [Act.put, List.setIfInBounds_toArray, List.set_cons_zero, List.set_cons_succ]
  refine take_at (i := 10) (d := some 19) (v := .agg #[.float .f64 ax, .float .f64 ay]) (by kernel_rfl) (by kernel_rfl) (by kernel_rfl) (by kernel_rfl) (fun _ _ _ h => h) ?_ hS ?_
  · intro o ho
    simp only [List.getElem?_toArray, List.getElem?_cons_succ, List.getElem?_cons_zero, Option.some.injEq] at ho
    subst ho
    refine Or.inl ⟨by rfl, ?_⟩
    intro w hSw
    (try dsimp only at hSw)
    go_simp
  simp only [Act.put, List.setIfInBounds_toArray, List.set_cons_zero, List.set_cons_succ]
  refine take_at (i := 11) (d := some 20) (v := .agg #[.float .f64 bx, .float .f64 by']) (by kernel_rfl) (by kernel_rfl) (by kernel_rfl) (by kernel_rfl) (fun _ _ _ h => h) ?_ hS ?_
  · intro o ho
    simp only [List.getElem?_toArray, List.getElem?_cons_succ, List.getElem?_cons_zero, Option.some.injEq] at ho
    subst ho
    refine Or.inl ⟨by rfl, ?_⟩
    intro w hSw
    (try dsimp only at hSw)
    go_simp
  simp only [Act.put, List.setIfInBounds_toArray, List.set_cons_zero, List.set_cons_succ]
  refine take_at (i := 12) (d := some 21) (v := .agg #[.float .f64 cx, .float .f64 cy]) (by kernel_rfl) (by kernel_rfl) (by kernel_rfl) (by kernel_rfl) (fun _ _ _ h => h) ?_ hS ?_
  · intro o ho
    simp only [List.getElem?_toArray, List.getElem?_cons_succ, List.getElem?_cons_zero, Option.some.injEq] at ho
    subst ho
    refine Or.inl ⟨by rfl, ?_⟩
    intro w hSw
    (try dsimp only at hSw)
    go_simp
  simp only [Act.put, List.setIfInBounds_toArray, List.set_cons_zero, List.set_cons_succ]
  refine take_at (i := 13) (d := some 22) (v := .agg #[.float .f64 dx, .float .f64 dy]) (by kernel_rfl) (by kernel_rfl) (by kernel_rfl) (by kernel_rfl) (fun _ _ _ h => h) ?_ hS ?_
  · intro o ho
    simp only [List.getElem?_toArray, List.getElem?_cons_succ, List.getElem?_cons_zero, Option.some.injEq] at ho
    subst ho
    refine Or.inl ⟨by rfl, ?_⟩
    intro w hSw
    (try dsimp only at hSw)
    go_simp
  simp only [Act.put, List.setIfInBounds_toArray, List.set_cons_zero, List.set_cons_succ]
  refine take_at (i := 15) (d := some 24) (v := .agg #[.float .f64 ax, .float .f64 ay]) (by kernel_rfl) (by kernel_rfl) (by kernel_rfl) (by kernel_rfl) (fun _ _ _ h => h) ?_ hS ?_
  · intro o ho
    simp only [List.getElem?_toArray, List.getElem?_cons_succ, List.getElem?_cons_zero, Option.some.injEq] at ho
    subst ho
    refine Or.inl ⟨by rfl, ?_⟩
    intro w hSw
    (try dsimp only at hSw)
    go_simp
  simp only [Act.put, List.setIfInBounds_toArray, List.set_cons_zero, List.set_cons_succ]
  refine take_at (i := 16) (d := some 25) (v := .agg #[.float .f64 bx, .float .f64 by']) (by kernel_rfl) (by kernel_rfl) (by kernel_rfl) (by kernel_rfl) (fun _ _ _ h => h) ?_ hS ?_
  · intro o ho
    simp only [List.getElem?_toArray, List.getElem?_cons_succ, List.getElem?_cons_zero, Option.some.injEq] at ho
    subst ho
    refine Or.inl ⟨by rfl, ?_⟩
    intro w hSw
    (try dsimp only at hSw)
    go_simp
  simp only [Act.put, List.setIfInBounds_toArray, List.set_cons_zero, List.set_cons_succ]
  refine take_at (i := 17) (d := some 26) (v := .agg #[.float .f64 cx, .float .f64 cy]) (by kernel_rfl) (by kernel_rfl) (by kernel_rfl) (by kernel_rfl) (fun _ _ _ h => h) ?_ hS ?_
  · intro o ho
    simp only [List.getElem?_toArray, List.getElem?_cons_succ, List.getElem?_cons_zero, Option.some.injEq] at ho
    subst ho
    refine Or.inl ⟨by rfl, ?_⟩
    intro w hSw
    (try dsimp only at hSw)
    go_simp
  simp only [Act.put, List.setIfInBounds_toArray, List.set_cons_zero, List.set_cons_succ]
  refine take_at (i := 18) (d := some 27) (v := .agg #[.float .f64 dx, .float .f64 dy]) (by kernel_rfl) (by kernel_rfl) (by kernel_rfl) (by kernel_rfl) (fun _ _ _ h => h) ?_ hS ?_
  · intro o ho
    simp only [List.getElem?_toArray, List.getElem?_cons_succ, List.getElem?_cons_zero, Option.some.injEq] at ho
    subst ho
    refine Or.inl ⟨by rfl, ?_⟩
    intro w hSw
    (try dsimp only at hSw)
    go_simp
  simp only [Act.put, List.setIfInBounds_toArray, List.set_cons_zero, List.set_cons_succ]
  refine call_at 14 (by kernel_rfl) (by kernel_rfl) ?_
  intro o ho
  simp only [List.getElem?_toArray, List.getElem?_cons_succ, List.getElem?_cons_zero, Option.some.injEq] at ho
  subst ho
  intro KF hK
  go_simp
  refine (cross_any ax ay bx by' cx cy dx dy _ HW1.out HD.out).mono ?_
  rintro e wx ⟨⟨t, rfl, ht⟩, hbx⟩
  obtain rfl := bool_iff4 ht HCR.out
  clear ht
  go_wp2_with fail
  refine hK.out _ _ (keepX hS hbx) ?_
  clear hS hbx
  intro hS
  clear hK KF
  try simp only [Act.put, List.setIfInBounds_toArray, List.set_cons_zero, List.set_cons_succ]
  refine call_at 19 (by kernel_rfl) (by kernel_rfl) ?_
  intro o ho
  simp only [List.getElem?_toArray, List.getElem?_cons_succ, List.getElem?_cons_zero, Option.some.injEq] at ho
  subst ho
  intro KF hK
  go_simp
  refine (refCross_any ax ay bx by' cx cy dx dy _ HW1.out HD.out).mono ?_
  rintro e wx ⟨⟨t, rfl, ht⟩, hbx⟩
  obtain rfl := bool_iff4 ht HCR.out
  clear ht
  go_wp2_with fail
  refine hK.out _ _ (keepX hS hbx) ?_
  clear hS hbx
  intro hS
  clear hK KF
  try simp only [Act.put, List.setIfInBounds_toArray, List.set_cons_zero, List.set_cons_succ]
  refine take_at (i := 20) (d := some 29) (v := .bool true) (by kernel_rfl) (by kernel_rfl) (by kernel_rfl) (by kernel_rfl) (fun _ _ _ h => h) ?_ hS ?_
  · intro o ho
    simp only [List.getElem?_toArray, List.getElem?_cons_succ, List.getElem?_cons_zero, Option.some.injEq] at ho
    subst ho
    refine Or.inl ⟨by rfl, ?_⟩
    intro w hSw
    (try dsimp only at hSw)
    go_simp
  simp only [Act.put, List.setIfInBounds_toArray, List.set_cons_zero, List.set_cons_succ]
  refine take_at (i := 21) (d := some 30) (v := .bool true) (by kernel_rfl) (by kernel_rfl) (by kernel_rfl) (by kernel_rfl) (fun _ _ _ h => h) ?_ hS ?_
  · intro o ho
    simp only [List.getElem?_toArray, List.getElem?_cons_succ, List.getElem?_cons_zero, Option.some.injEq] at ho
    subst ho
    refine Or.inl ⟨by rfl, ?_⟩
    intro w hSw
    (try dsimp only at hSw)
    go_simp
  simp only [Act.put, List.setIfInBounds_toArray, List.set_cons_zero, List.set_cons_succ]
  refine take_at (i := 22) (d := some 31) (v := .bool true) (by kernel_rfl) (by kernel_rfl) (by kernel_rfl) (by kernel_rfl) (fun _ _ _ h => h) ?_ hS ?_
  · intro o ho
    simp only [List.getElem?_toArray, List.getElem?_cons_succ, List.getElem?_cons_zero, Option.some.injEq] at ho
    subst ho
    refine Or.inl ⟨by rfl, ?_⟩
    intro w hSw
    (try dsimp only at hSw)
    go_simp
  simp only [Act.put, List.setIfInBounds_toArray, List.set_cons_zero, List.set_cons_succ]
  refine call_at 23 (by kernel_rfl) (by kernel_rfl) ?_
  intro o ho
  simp only [List.getElem?_toArray, List.getElem?_cons_succ, List.getElem?_cons_zero, Option.some.injEq] at ho
  subst ho
  intro KF hK
  go_simp
  refine (awake_any _).mono ?_
  rintro e wx ⟨rfl, hbx⟩
  go_wp2_with fail
  refine hK.out _ _ (keepX hS hbx) ?_
  clear hS hbx
  intro hS
  clear hK KF
  try simp only [Act.put, List.setIfInBounds_toArray, List.set_cons_zero, List.set_cons_succ]
  refine take_at (i := 24) (d := some 33) (v := .bool true) (by kernel_rfl) (by kernel_rfl) (by kernel_rfl) (by kernel_rfl) (fun _ _ _ h => h) ?_ hS ?_
  · intro o ho
    simp only [List.getElem?_toArray, List.getElem?_cons_succ, List.getElem?_cons_zero, Option.some.injEq] at ho
    subst ho
    refine Or.inl ⟨by rfl, ?_⟩
    intro w hSw
    (try dsimp only at hSw)
    go_simp
  simp only [Act.put, List.setIfInBounds_toArray, List.set_cons_zero, List.set_cons_succ]
  refine take_at (i := 25) (d := some 8) (v := .bool true) (by kernel_rfl) (by kernel_rfl) (by kernel_rfl) (by kernel_rfl) (fun _ _ _ h => h) ?_ hS ?_
  · intro o ho
    simp only [List.getElem?_toArray, List.getElem?_cons_succ, List.getElem?_cons_zero, Option.some.injEq] at ho
    subst ho
    refine Or.inl ⟨by rfl, ?_⟩
    intro w hSw
    (try dsimp only at hSw)
    go_simp
  simp only [Act.put, List.setIfInBounds_toArray, List.set_cons_zero, List.set_cons_succ]
  refine wpAnyH_done (by kernel_rfl) ?_ _
  go_wp2
  go_ret
  exact ⟨rfl, hS.2.2.2.2.2.2.2.2⟩

end Go.Proofs.Ytglcngjllfgdpab

/- A drawn region in which three boxes are laid and a row of operations goes on, in whatever order. -/
namespace Go.Proofs.Ytglcngjllfgdpab
open Go

section
variable {P : Program} {ops : Array Oper} {Q : Exit → Act → World → Prop} {md : Region.Mode} {S : World → Prop}

/-- How far one has come. -/
def far3 (x y z : Bool) (k : Nat) : Nat := x.toNat + y.toNat + z.toNat + k

/-- One operation of a state: what it is, and to which state it leads. -/
def Step3 (P : Program) (ops : Array Oper) (Q : Exit → Act → World → Prop) (S : World → Prop) (L : Bool → Bool → Bool → Nat → Array Bool) (I : Bool → Bool → Bool → Nat → Act → World → Prop) (x y z : Bool) (k : Nat) (i : Nat) (x' y' z' : Bool) (k' : Nat) : Prop :=
  (L x y z k).setIfInBounds i true = L x' y' z' k' ∧ far3 x' y' z' k' = far3 x y z k + 1 ∧
    ∃ o, ops[i]? = some o ∧ ∀ a w, I x y z k a w → ∀ K' : Act → World → Prop, Shut (∀ a' w', S w' → I x' y' z' k' a' w' → K' a' w') → if Region.wanted o (yielded ops a.tmps) = true then Oper.wp P o a w K' Q else K' (a.put o.dst undef) w

theorem draw3 {n f : Nat} (L : Bool → Bool → Bool → Nat → Array Bool) (I : Bool → Bool → Bool → Nat → Act → World → Prop)
    (hstep : ∀ x y z k, k ≤ n → far3 x y z k < 3 + n → ∃ rs, Region.ready md ops (L x y z k) = rs ∧ rs ≠ [] ∧ ∀ i ∈ rs, ∃ x' y' z' k', k' ≤ n ∧ Step3 P ops Q S L I x y z k i x' y' z' k')
    (hfin : ∀ a w, I true true true n a w → wpAnyH P md ops Q S f (L true true true n) a w) :
    ∀ d x y z k a w, k ≤ n → far3 x y z k + d = 3 + n → I x y z k a w → wpAnyH P md ops Q S (f + d) (L x y z k) a w := by
  intro d
  induction d with
  | zero =>
    intro x y z k a w hk hd hI
    have hx : x = true ∧ y = true ∧ z = true ∧ k = n := by
      unfold far3 at hd
      cases x <;> cases y <;> cases z <;> simp at hd ⊢ <;> omega
    obtain ⟨rfl, rfl, rfl, rfl⟩ := hx
    exact hfin a w hI
  | succ d ih =>
    intro x y z k a w hk hd hI
    obtain ⟨rs, hr, hne, hs⟩ := hstep x y z k hk (by omega)
    refine wpAnyH_ready (fuel := f + d) hr hne (fun i hi => ?_)
    obtain ⟨x', y', z', k', hk', hL, hf, o, ho, hw⟩ := hs i hi
    refine (AllReadyH.cons (rs := []) ho (fun K' hK => hw a w hI K' ?_) AllReadyH.nil) i (by simp)
    intro a' w' hS' hI'
    refine hK.out a' w' hS' (fun _ => ?_)
    rw [hL]
    exact ih x' y' z' k' a' w' hk' (by omega) hI'
end

end Go.Proofs.Ytglcngjllfgdpab

/- The statements' helper small. -/
namespace Go.Proofs.Ytglcngjllfgdpab
open Go.RowKit Go.Shelf
attribute [local go_sem] run_store_float

/-- A whole number's float. -/
def fw (n : Int) : Nat := floatOfInt .f64 n
theorem fw_val {n : Int} (h1 : -9007199254740992 ≤ n) (h2 : n ≤ 9007199254740992) : Fin64 (fw n) ∧ fw n < 18446744073709551616 ∧ fval (fw n) = (n : Rat) := by
  have hq : ((n.natAbs : Nat) : Rat) * p2 0 < p2 1023 := by
    rw [p2_zero, Rat.mul_one]
    have a : ((n.natAbs : Nat) : Rat) ≤ ((9007199254740992 : Nat) : Rat) := Rat.natCast_le_natCast.2 (by omega)
    have b : ((9007199254740992 : Nat) : Rat) = p2 53 := by rw [show (53 : Int) = ((53 : Nat) : Int) from rfl, p2_nat]
    have c : p2 53 < p2 1023 := p2_lt (by omega)
    rw [b] at a
    grind
  obtain ⟨r, er, fr, lr, hr⟩ := write_rv (decide (n < 0)) n.natAbs 0 hq
  have e : fw n = r := er
  have hv : sgn1 (decide (n < 0)) * (((n.natAbs : Nat) : Rat) * p2 0) = (n : Rat) := by
    rw [p2_zero, Rat.mul_one]
    unfold sgn1
    by_cases h : n < 0
    · rw [decide_eq_true h, if_pos rfl]
      have : ((n.natAbs : Nat) : Rat) = ((-n : Int) : Rat) := by
        rw [show ((n.natAbs : Nat) : Rat) = ((n.natAbs : Int) : Rat) from rfl, show (n.natAbs : Int) = -n by omega]
      rw [this, Rat.intCast_neg]; grind
    · rw [decide_eq_false h, if_neg (by decide), Rat.one_mul]
      rw [show ((n.natAbs : Nat) : Rat) = ((n.natAbs : Int) : Rat) from rfl, show (n.natAbs : Int) = n by omega]
  rw [hv] at hr
  rw [e]
  exact ⟨fr, lr, hr.rn.int n rfl h1 h2⟩
theorem tmod_small (x : Int) : -1025 < x.tmod 1025 ∧ x.tmod 1025 < 1025 := by
  have a := Int.tmod_lt_of_pos x (show (0 : Int) < 1025 by omega)
  have b := Int.tmod_lt_of_pos (-x) (show (0 : Int) < 1025 by omega)
  rw [Int.neg_tmod] at b
  omega
theorem fw_sm {n : Int} (h1 : -1025 < n) (h2 : n < 1025) : Sm (fw n) ∧ Crd (fw n) ∧ fw n < 18446744073709551616 ∧ fval (fw n) = (n : Rat) := by
  obtain ⟨f, l, v⟩ := fw_val (n := n) (by omega) (by omega)
  refine ⟨⟨n, v, by omega, by omega⟩, ⟨?_, ?_⟩, l, v⟩
  · rw [crd_top f, v]
    have a := ab_int (n := n) (k := 1024) (by omega) (by omega)
    have b : ((1024 : Nat) : Rat) ≤ U 1174 := by
      have h := U_add 1074 10
      rw [show U 1074 = 1 from by unfold U; exact p2_zero, Rat.mul_one] at h
      have h2 := U_mono (show 1084 ≤ 1174 by omega)
      rw [show (1084 : Nat) = 1074 + 10 from rfl, h] at h2
      exact h2
    grind
  · rw [v]
    refine ⟨n * ((2 ^ 100 : Nat) : Int), ?_⟩
    have h := U_add 974 100
    rw [show 974 + 100 = 1074 from rfl, show U 1074 = 1 from by unfold U; exact p2_zero] at h
    rw [Rat.intCast_mul, show (((2 ^ 100 : Nat) : Int) : Rat) = ((2 ^ 100 : Nat) : Rat) from rfl, Rat.mul_assoc, ← h, Rat.mul_one]

set_option maxRecDepth 100000 in
theorem small_any (x y : Int) (w : World) : Calls Try.prog 14 #[.int .i64 x, .int .i64 y] w fun e w' => e = .returned (pv (fw (x.tmod 1025)) (fw (y.tmod 1025))) ∧ Below w.heap.size w w' := by
  go_enter Try.func14, Try.ntmps14
  go_wp2
  refine bodyPost_ret (v := pv (fw (x.tmod 1025)) (fw (y.tmod 1025))) (by simp [results, Try.results14, go_sem, fw]) rfl ?_
  exact ⟨rfl, (Below.refl _ _).alloc (Nat.le_refl _) _⟩

end Go.Proofs.Ytglcngjllfgdpab

/- OrientKnows: the law's walk. -/
namespace Go.Proofs.Ytglcngjllfgdpab
open Go.RowKit Go.Shelf
attribute [local go_sem] run_store_float

/-- A box with a point. -/
def PB (W : World) (b x y : Nat) : Prop := W.heap[b]? = some (.cells #[.float .f64 x, .float .f64 y] 24 (0, 0))
theorem PB.lt {W : World} {b x y : Nat} (h : PB W b x y) : b < W.heap.size := (Array.getElem?_eq_some_iff.1 h).1
theorem PB.later {W W' : World} {b x y : Nat} (h : PB W b x y) (hb : Below W.heap.size W W') : PB W' b x y := by
  unfold PB
  rw [hb.block b h.lt]; exact h
theorem PB.cells {W : World} {b x y : Nat} (h : PB W b x y) : W.cell? ⟨b, 0, none⟩ = some (.float .f64 x) ∧ W.cell? ⟨b, 1, none⟩ = some (.float .f64 y) ∧ ∀ i, W.frozen? ⟨b, i, none⟩ = false := by
  unfold PB at h
  refine ⟨by simp [World.cell?, h], by simp [World.cell?, h], fun i => by simp [World.frozen?, h]⟩
theorem PB.new (W : World) (x y : Nat) : PB (W.alloc (.cells #[.float .f64 x, .float .f64 y] 24)) W.heap.size x y := by
  unfold PB
  exact heap_alloc_new W _
theorem PB.set2 {W : World} {b x y : Nat} (h : PB W b x y) (x' y' : Nat) : PB ((W.setCell ⟨b, 0, none⟩ (.float .f64 x')).setCell ⟨b, 1, none⟩ (.float .f64 y')) b x' y' := by
  unfold PB at h ⊢
  simp [World.setCell, Array.getElem?_modify, h]
theorem PB.other2 {W : World} {b x y : Nat} (h : PB W b x y) {g : Nat} (hn : b ≠ g) (v v' : Value) : PB ((W.setCell ⟨g, 0, none⟩ v).setCell ⟨g, 1, none⟩ v') b x y := by
  unfold PB at h ⊢
  rw [Below.heap_setCell _ ⟨g, 1, none⟩ v' b hn, Below.heap_setCell _ ⟨g, 0, none⟩ v b hn]; exact h

theorem far2 {W : World} {g b i : Nat} {x : Value} (h : W.cell? ⟨g, i, none⟩ = some x) (hn : g ≠ b) {v v' : Value} : ((W.setCell ⟨b, 0, none⟩ v).setCell ⟨b, 1, none⟩ v').cell? ⟨g, i, none⟩ = some x := by
  rw [World.cell?_setCell_other _ _ _ v' (by intro e; cases e; exact hn rfl), World.cell?_setCell_other _ _ _ v (by intro e; cases e; exact hn rfl)]; exact h
theorem FW (n : Int) : Sm (fw (n.tmod 1025)) ∧ Crd (fw (n.tmod 1025)) ∧ fw (n.tmod 1025) < 18446744073709551616 ∧ fval (fw (n.tmod 1025)) = ((n.tmod 1025 : Int) : Rat) := fw_sm (tmod_small n).1 (tmod_small n).2
theorem far_set (x y z : Bool) (k : Nat) : far3 true y z k = far3 false y z k + 1 ∧ far3 x true z k = far3 x false z k + 1 ∧ far3 x y true k = far3 x y false k + 1 ∧ far3 x y z (k + 1) = far3 x y z k + 1 := by
  unfold far3
  simp
  omega
def rdy (x y z : Bool) (k : Nat) : List Nat := (if k = 0 then [4] else if k = 1 then [9] else if k = 2 then [14] else []) ++ ((if x then [] else [15]) ++ ((if y then [] else [16]) ++ (if z then [] else [17])))
theorem rdy_mem {x y z : Bool} {k i : Nat} (h : i ∈ rdy x y z k) : (k = 0 ∧ i = 4) ∨ (k = 1 ∧ i = 9) ∨ (k = 2 ∧ i = 14) ∨ (x = false ∧ i = 15) ∨ (y = false ∧ i = 16) ∨ (z = false ∧ i = 17) := by
  unfold rdy at h
  by_cases h0 : k = 0
  · subst h0
    cases x <;> cases y <;> cases z <;> simp at h ⊢ <;> omega
  · by_cases h1 : k = 1
    · subst h1
      cases x <;> cases y <;> cases z <;> simp at h ⊢ <;> omega
    · by_cases h2 : k = 2
      · subst h2
        cases x <;> cases y <;> cases z <;> simp at h ⊢ <;> omega
      · rw [if_neg h0, if_neg h1, if_neg h2] at h
        cases x <;> cases y <;> cases z <;> simp at h ⊢ <;> omega
theorem rdy_ne {x y z : Bool} {k : Nat} (hk : k ≤ 3) (h : far3 x y z k < 3 + 3) : rdy x y z k ≠ [] := by
  unfold far3 at h
  unfold rdy
  cases x <;> cases y <;> cases z <;> simp at h ⊢
  have : k = 0 ∨ k = 1 ∨ k = 2 := by omega
  rcases this with rfl | rfl | rfl <;> simp

set_option maxRecDepth 100000 in
set_option maxHeartbeats 8000000 in
theorem knows_law (n0 n1 n2 n3 n4 n5 : Int) (w : World) :
    Calls Try.prog 4 #[.agg #[.int .i64 n0, .int .i64 n1, .int .i64 n2, .int .i64 n3, .int .i64 n4, .int .i64 n5]] w fun e w' => e = .returned (.bool true) ∧ Below w.heap.size w w' := by
  go_enter Try.func4, Try.ntmps4
  go_wp2_with fail
  obtain ⟨W0, hW0⟩ : ∃ W0, W0 = w.alloc (.cells #[.int .i64 n0, .int .i64 n1, .int .i64 n2, .int .i64 n3, .int .i64 n4, .int .i64 n5] 31) := ⟨_, rfl⟩
  have HB0 : Hid (Below w.heap.size w W0) := by rw [hW0]; exact (Below.refl _ w).alloc (Nat.le_refl _) _
  have z0 : W0.cell? ⟨w.heap.size, 0, none⟩ = some (.int .i64 n0) := by rw [hW0]; go_simp
  have z1 : W0.cell? ⟨w.heap.size, 1, none⟩ = some (.int .i64 n1) := by rw [hW0]; go_simp
  have z2 : W0.cell? ⟨w.heap.size, 2, none⟩ = some (.int .i64 n2) := by rw [hW0]; go_simp
  have z3 : W0.cell? ⟨w.heap.size, 3, none⟩ = some (.int .i64 n3) := by rw [hW0]; go_simp
  have z4 : W0.cell? ⟨w.heap.size, 4, none⟩ = some (.int .i64 n4) := by rw [hW0]; go_simp
  have z5 : W0.cell? ⟨w.heap.size, 5, none⟩ = some (.int .i64 n5) := by rw [hW0]; go_simp
  rw [← hW0]
  clear hW0
  refine wp_region_held_drew (S := (fun W => W.cell? ⟨w.heap.size, 0, none⟩ = some (.int .i64 n0) ∧ W.cell? ⟨w.heap.size, 1, none⟩ = some (.int .i64 n1) ∧ W.cell? ⟨w.heap.size, 2, none⟩ = some (.int .i64 n2) ∧ W.cell? ⟨w.heap.size, 3, none⟩ = some (.int .i64 n3) ∧ W.cell? ⟨w.heap.size, 4, none⟩ = some (.int .i64 n4) ∧ W.cell? ⟨w.heap.size, 5, none⟩ = some (.int .i64 n5) ∧ Below w.heap.size w W)) (by kernel_rfl) ⟨z0, z1, z2, z3, z4, z5, HB0.out.drew⟩ (fun hS => ?_)
  refine take_at (i := 0) (d := some 9) (v := .pointer (some ⟨w.heap.size, 0, none⟩)) (by kernel_rfl) (by kernel_rfl) (by kernel_rfl) (by kernel_rfl) (fun _ _ _ h => h) ?_ hS ?_
  · intro o ho
    simp only [List.getElem?_toArray, List.getElem?_cons_zero, Option.some.injEq] at ho
    subst ho
    refine Or.inl ⟨by rfl, ?_⟩
    intro w hSw
    (try dsimp only at hSw)
    go_simp
  simp only [Act.put, List.setIfInBounds_toArray, List.set_cons_zero, List.set_cons_succ]
  refine take_at (i := 1) (d := some 10) (v := .int .i64 n0) (by kernel_rfl) (by kernel_rfl) (by kernel_rfl) (by kernel_rfl) (fun _ _ _ h => h) ?_ hS ?_
  · intro o ho
    simp only [List.getElem?_toArray, List.getElem?_cons_succ, List.getElem?_cons_zero, Option.some.injEq] at ho
    subst ho
    refine Or.inl ⟨by rfl, ?_⟩
    intro w hSw
    (try dsimp only at hSw)
    go_simp
  simp only [Act.put, List.setIfInBounds_toArray, List.set_cons_zero, List.set_cons_succ]
  refine take_at (i := 2) (d := some 11) (v := .pointer (some ⟨w.heap.size, 1, none⟩)) (by kernel_rfl) (by kernel_rfl) (by kernel_rfl) (by kernel_rfl) (fun _ _ _ h => h) ?_ hS ?_
  · intro o ho
    simp only [List.getElem?_toArray, List.getElem?_cons_succ, List.getElem?_cons_zero, Option.some.injEq] at ho
    subst ho
    refine Or.inl ⟨by rfl, ?_⟩
    intro w hSw
    (try dsimp only at hSw)
    go_simp
  simp only [Act.put, List.setIfInBounds_toArray, List.set_cons_zero, List.set_cons_succ]
  refine take_at (i := 3) (d := some 12) (v := .int .i64 n1) (by kernel_rfl) (by kernel_rfl) (by kernel_rfl) (by kernel_rfl) (fun _ _ _ h => h) ?_ hS ?_
  · intro o ho
    simp only [List.getElem?_toArray, List.getElem?_cons_succ, List.getElem?_cons_zero, Option.some.injEq] at ho
    subst ho
    refine Or.inl ⟨by rfl, ?_⟩
    intro w hSw
    (try dsimp only at hSw)
    go_simp
  simp only [Act.put, List.setIfInBounds_toArray, List.set_cons_zero, List.set_cons_succ]
  refine take_at (i := 5) (d := some 14) (v := .pointer (some ⟨w.heap.size, 2, none⟩)) (by kernel_rfl) (by kernel_rfl) (by kernel_rfl) (by kernel_rfl) (fun _ _ _ h => h) ?_ hS ?_
  · intro o ho
    simp only [List.getElem?_toArray, List.getElem?_cons_succ, List.getElem?_cons_zero, Option.some.injEq] at ho
    subst ho
    refine Or.inl ⟨by rfl, ?_⟩
    intro w hSw
    (try dsimp only at hSw)
    go_simp
  simp only [Act.put, List.setIfInBounds_toArray, List.set_cons_zero, List.set_cons_succ]
  refine take_at (i := 6) (d := some 15) (v := .int .i64 n2) (by kernel_rfl) (by kernel_rfl) (by kernel_rfl) (by kernel_rfl) (fun _ _ _ h => h) ?_ hS ?_
  · intro o ho
    simp only [List.getElem?_toArray, List.getElem?_cons_succ, List.getElem?_cons_zero, Option.some.injEq] at ho
    subst ho
    refine Or.inl ⟨by rfl, ?_⟩
    intro w hSw
    (try dsimp only at hSw)
    go_simp
  simp only [Act.put, List.setIfInBounds_toArray, List.set_cons_zero, List.set_cons_succ]
  refine take_at (i := 7) (d := some 16) (v := .pointer (some ⟨w.heap.size, 3, none⟩)) (by kernel_rfl) (by kernel_rfl) (by kernel_rfl) (by kernel_rfl) (fun _ _ _ h => h) ?_ hS ?_
  · intro o ho
    simp only [List.getElem?_toArray, List.getElem?_cons_succ, List.getElem?_cons_zero, Option.some.injEq] at ho
    subst ho
    refine Or.inl ⟨by rfl, ?_⟩
    intro w hSw
    (try dsimp only at hSw)
    go_simp
  simp only [Act.put, List.setIfInBounds_toArray, List.set_cons_zero, List.set_cons_succ]
  refine take_at (i := 8) (d := some 17) (v := .int .i64 n3) (by kernel_rfl) (by kernel_rfl) (by kernel_rfl) (by kernel_rfl) (fun _ _ _ h => h) ?_ hS ?_
  · intro o ho
    simp only [List.getElem?_toArray, List.getElem?_cons_succ, List.getElem?_cons_zero, Option.some.injEq] at ho
    subst ho
    refine Or.inl ⟨by rfl, ?_⟩
    intro w hSw
    (try dsimp only at hSw)
    go_simp
  simp only [Act.put, List.setIfInBounds_toArray, List.set_cons_zero, List.set_cons_succ]
  refine take_at (i := 10) (d := some 19) (v := .pointer (some ⟨w.heap.size, 4, none⟩)) (by kernel_rfl) (by kernel_rfl) (by kernel_rfl) (by kernel_rfl) (fun _ _ _ h => h) ?_ hS ?_
  · intro o ho
    simp only [List.getElem?_toArray, List.getElem?_cons_succ, List.getElem?_cons_zero, Option.some.injEq] at ho
    subst ho
    refine Or.inl ⟨by rfl, ?_⟩
    intro w hSw
    (try dsimp only at hSw)
    go_simp
  simp only [Act.put, List.setIfInBounds_toArray, List.set_cons_zero, List.set_cons_succ]
  refine take_at (i := 11) (d := some 20) (v := .int .i64 n4) (by kernel_rfl) (by kernel_rfl) (by kernel_rfl) (by kernel_rfl) (fun _ _ _ h => h) ?_ hS ?_
  · intro o ho
    simp only [List.getElem?_toArray, List.getElem?_cons_succ, List.getElem?_cons_zero, Option.some.injEq] at ho
    subst ho
    refine Or.inl ⟨by rfl, ?_⟩
    intro w hSw
    (try dsimp only at hSw)
    go_simp
  simp only [Act.put, List.setIfInBounds_toArray, List.set_cons_zero, List.set_cons_succ]
  refine take_at (i := 12) (d := some 21) (v := .pointer (some ⟨w.heap.size, 5, none⟩)) (by kernel_rfl) (by kernel_rfl) (by kernel_rfl) (by kernel_rfl) (fun _ _ _ h => h) ?_ hS ?_
  · intro o ho
    simp only [List.getElem?_toArray, List.getElem?_cons_succ, List.getElem?_cons_zero, Option.some.injEq] at ho
    subst ho
    refine Or.inl ⟨by rfl, ?_⟩
    intro w hSw
    (try dsimp only at hSw)
    go_simp
  simp only [Act.put, List.setIfInBounds_toArray, List.set_cons_zero, List.set_cons_succ]
  refine take_at (i := 13) (d := some 22) (v := .int .i64 n5) (by kernel_rfl) (by kernel_rfl) (by kernel_rfl) (by kernel_rfl) (fun _ _ _ h => h) ?_ hS ?_
  · intro o ho
    simp only [List.getElem?_toArray, List.getElem?_cons_succ, List.getElem?_cons_zero, Option.some.injEq] at ho
    subst ho
    refine Or.inl ⟨by rfl, ?_⟩
    intro w hSw
    (try dsimp only at hSw)
    go_simp
  simp only [Act.put, List.setIfInBounds_toArray, List.set_cons_zero, List.set_cons_succ]
  clear z0 z1 z2 z3 z4 z5
  refine draw3 (f := 3) (n := 3) (fun (x y z : Bool) (k : Nat) => #[true, true, true, true, decide (1 ≤ k), true, true, true, true, decide (2 ≤ k), true, true, true, true, decide (3 ≤ k), x, y, z, false, false, false]) (fun (x y z : Bool) (k : Nat) (a : Act) (W : World) => ∃ (v3 v4 v5 c1 c2 c3 : Value) (b3 b4 b5 : Nat), a = { tmps := #[.agg #[.int .i64 n0, .int .i64 n1, .int .i64 n2, .int .i64 n3, .int .i64 n4, .int .i64 n5], .pointer (some ⟨w.heap.size, 0, none⟩), .bool false, v3, v4, v5, undef, undef, undef, .pointer (some ⟨w.heap.size, 0, none⟩), .int .i64 n0, .pointer (some ⟨w.heap.size, 1, none⟩), .int .i64 n1, c1, .pointer (some ⟨w.heap.size, 2, none⟩), .int .i64 n2, .pointer (some ⟨w.heap.size, 3, none⟩), .int .i64 n3, c2, .pointer (some ⟨w.heap.size, 4, none⟩), .int .i64 n4, .pointer (some ⟨w.heap.size, 5, none⟩), .int .i64 n5, c3, undef, undef, undef, undef, undef, undef, undef, undef, undef, undef, undef, undef, undef, undef, undef, undef, undef, undef, undef, undef, undef, undef, undef, undef, undef, undef, undef, undef, undef, undef, undef, undef], defers := [] } ∧ (W.cell? ⟨w.heap.size, 0, none⟩ = some (.int .i64 n0) ∧ W.cell? ⟨w.heap.size, 1, none⟩ = some (.int .i64 n1) ∧ W.cell? ⟨w.heap.size, 2, none⟩ = some (.int .i64 n2) ∧ W.cell? ⟨w.heap.size, 3, none⟩ = some (.int .i64 n3) ∧ W.cell? ⟨w.heap.size, 4, none⟩ = some (.int .i64 n4) ∧ W.cell? ⟨w.heap.size, 5, none⟩ = some (.int .i64 n5) ∧ Below w.heap.size w W) ∧ (x = true → v3 = .pointer (some ⟨b3, 0, none⟩) ∧ PB W b3 0 0 ∧ w.heap.size < b3) ∧ (y = true → v4 = .pointer (some ⟨b4, 0, none⟩) ∧ PB W b4 0 0 ∧ w.heap.size < b4) ∧ (z = true → v5 = .pointer (some ⟨b5, 0, none⟩) ∧ PB W b5 0 0 ∧ w.heap.size < b5) ∧ (x = true → y = true → b3 ≠ b4) ∧ (x = true → z = true → b3 ≠ b5) ∧ (y = true → z = true → b4 ≠ b5) ∧ (1 ≤ k → c1 = (pv (fw (n0.tmod 1025)) (fw (n1.tmod 1025)))) ∧ (2 ≤ k → c2 = (pv (fw (n2.tmod 1025)) (fw (n3.tmod 1025)))) ∧ (3 ≤ k → c3 = (pv (fw (n4.tmod 1025)) (fw (n5.tmod 1025))))) ?_ ?_ 6 false false false 0 _ _ (by omega) rfl ?_
  · intro x y z k hk hlt
    refine ⟨rdy x y z k, ?_, rdy_ne hk hlt, ?_⟩
    · have h4 : k = 0 ∨ k = 1 ∨ k = 2 ∨ k = 3 := by omega
      rcases h4 with rfl | rfl | rfl | rfl <;> cases x <;> cases y <;> cases z <;> first | exact absurd hlt (by decide) | (show _ = _; kernel_rfl)
    · intro i hi
      rcases rdy_mem hi with ⟨rfl, rfl⟩ | ⟨rfl, rfl⟩ | ⟨rfl, rfl⟩ | ⟨rfl, rfl⟩ | ⟨rfl, rfl⟩ | ⟨rfl, rfl⟩
      · refine ⟨x, y, z, 1, by omega, by cases x <;> cases y <;> cases z <;> rfl, (far_set x y z 0).2.2.2, _, rfl, ?_⟩
        intro a W hI K' hK
        obtain ⟨v3, v4, v5, c1, c2, c3, b3, b4, b5, rfl, hS, h3, h4, h5, h34, h35, h45, k1, k2, k3⟩ := hI
        go_simp
        go_wp2_with fail
        refine (small_any n0 n1 _).mono ?_
        rintro e wx ⟨rfl, hb⟩
        have hS2 : wx.cell? ⟨w.heap.size, 0, none⟩ = some (.int .i64 n0) ∧ wx.cell? ⟨w.heap.size, 1, none⟩ = some (.int .i64 n1) ∧ wx.cell? ⟨w.heap.size, 2, none⟩ = some (.int .i64 n2) ∧ wx.cell? ⟨w.heap.size, 3, none⟩ = some (.int .i64 n3) ∧ wx.cell? ⟨w.heap.size, 4, none⟩ = some (.int .i64 n4) ∧ wx.cell? ⟨w.heap.size, 5, none⟩ = some (.int .i64 n5) ∧ Below w.heap.size w wx := ⟨box_cell hb hS.1, box_cell hb hS.2.1, box_cell hb hS.2.2.1, box_cell hb hS.2.2.2.1, box_cell hb hS.2.2.2.2.1, box_cell hb hS.2.2.2.2.2.1, below_step hS.2.2.2.2.2.2 hb⟩
        go_wp2_with fail
        exact hK.out _ _ hS2 ⟨v3, v4, v5, _, c2, c3, b3, b4, b5, rfl, hS2, fun h => ⟨(h3 h).1, (h3 h).2.1.later hb, (h3 h).2.2⟩, fun h => ⟨(h4 h).1, (h4 h).2.1.later hb, (h4 h).2.2⟩, fun h => ⟨(h5 h).1, (h5 h).2.1.later hb, (h5 h).2.2⟩, h34, h35, h45, fun _ => rfl, fun h => by omega, fun h => by omega⟩
      · refine ⟨x, y, z, 2, by omega, by cases x <;> cases y <;> cases z <;> rfl, (far_set x y z 1).2.2.2, _, rfl, ?_⟩
        intro a W hI K' hK
        obtain ⟨v3, v4, v5, c1, c2, c3, b3, b4, b5, rfl, hS, h3, h4, h5, h34, h35, h45, k1, k2, k3⟩ := hI
        go_simp
        go_wp2_with fail
        refine (small_any n2 n3 _).mono ?_
        rintro e wx ⟨rfl, hb⟩
        have hS2 : wx.cell? ⟨w.heap.size, 0, none⟩ = some (.int .i64 n0) ∧ wx.cell? ⟨w.heap.size, 1, none⟩ = some (.int .i64 n1) ∧ wx.cell? ⟨w.heap.size, 2, none⟩ = some (.int .i64 n2) ∧ wx.cell? ⟨w.heap.size, 3, none⟩ = some (.int .i64 n3) ∧ wx.cell? ⟨w.heap.size, 4, none⟩ = some (.int .i64 n4) ∧ wx.cell? ⟨w.heap.size, 5, none⟩ = some (.int .i64 n5) ∧ Below w.heap.size w wx := ⟨box_cell hb hS.1, box_cell hb hS.2.1, box_cell hb hS.2.2.1, box_cell hb hS.2.2.2.1, box_cell hb hS.2.2.2.2.1, box_cell hb hS.2.2.2.2.2.1, below_step hS.2.2.2.2.2.2 hb⟩
        go_wp2_with fail
        exact hK.out _ _ hS2 ⟨v3, v4, v5, _, _, c3, b3, b4, b5, rfl, hS2, fun h => ⟨(h3 h).1, (h3 h).2.1.later hb, (h3 h).2.2⟩, fun h => ⟨(h4 h).1, (h4 h).2.1.later hb, (h4 h).2.2⟩, fun h => ⟨(h5 h).1, (h5 h).2.1.later hb, (h5 h).2.2⟩, h34, h35, h45, fun _ => rfl, fun _ => rfl, fun h => by omega⟩
      · refine ⟨x, y, z, 3, by omega, by cases x <;> cases y <;> cases z <;> rfl, (far_set x y z 2).2.2.2, _, rfl, ?_⟩
        intro a W hI K' hK
        obtain ⟨v3, v4, v5, c1, c2, c3, b3, b4, b5, rfl, hS, h3, h4, h5, h34, h35, h45, k1, k2, k3⟩ := hI
        go_simp
        go_wp2_with fail
        refine (small_any n4 n5 _).mono ?_
        rintro e wx ⟨rfl, hb⟩
        have hS2 : wx.cell? ⟨w.heap.size, 0, none⟩ = some (.int .i64 n0) ∧ wx.cell? ⟨w.heap.size, 1, none⟩ = some (.int .i64 n1) ∧ wx.cell? ⟨w.heap.size, 2, none⟩ = some (.int .i64 n2) ∧ wx.cell? ⟨w.heap.size, 3, none⟩ = some (.int .i64 n3) ∧ wx.cell? ⟨w.heap.size, 4, none⟩ = some (.int .i64 n4) ∧ wx.cell? ⟨w.heap.size, 5, none⟩ = some (.int .i64 n5) ∧ Below w.heap.size w wx := ⟨box_cell hb hS.1, box_cell hb hS.2.1, box_cell hb hS.2.2.1, box_cell hb hS.2.2.2.1, box_cell hb hS.2.2.2.2.1, box_cell hb hS.2.2.2.2.2.1, below_step hS.2.2.2.2.2.2 hb⟩
        go_wp2_with fail
        exact hK.out _ _ hS2 ⟨v3, v4, v5, _, _, _, b3, b4, b5, rfl, hS2, fun h => ⟨(h3 h).1, (h3 h).2.1.later hb, (h3 h).2.2⟩, fun h => ⟨(h4 h).1, (h4 h).2.1.later hb, (h4 h).2.2⟩, fun h => ⟨(h5 h).1, (h5 h).2.1.later hb, (h5 h).2.2⟩, h34, h35, h45, fun _ => rfl, fun _ => rfl, fun _ => rfl⟩
      · refine ⟨true, y, z, k, hk, rfl, (far_set true y z k).1, _, rfl, ?_⟩
        intro a W hI K' hK
        obtain ⟨v3, v4, v5, c1, c2, c3, b3, b4, b5, rfl, hS, h3, h4, h5, h34, h35, h45, k1, k2, k3⟩ := hI
        have hb : Below W.heap.size W (W.alloc (.cells #[.float .f64 0, .float .f64 0] 24)) := (Below.refl _ W).alloc (Nat.le_refl _) _
        have hlt2 : w.heap.size < W.heap.size := World.block_lt_of_cell? _ _ hS.1
        have hS2 : (W.alloc (.cells #[.float .f64 0, .float .f64 0] 24)).cell? ⟨w.heap.size, 0, none⟩ = some (.int .i64 n0) ∧ (W.alloc (.cells #[.float .f64 0, .float .f64 0] 24)).cell? ⟨w.heap.size, 1, none⟩ = some (.int .i64 n1) ∧ (W.alloc (.cells #[.float .f64 0, .float .f64 0] 24)).cell? ⟨w.heap.size, 2, none⟩ = some (.int .i64 n2) ∧ (W.alloc (.cells #[.float .f64 0, .float .f64 0] 24)).cell? ⟨w.heap.size, 3, none⟩ = some (.int .i64 n3) ∧ (W.alloc (.cells #[.float .f64 0, .float .f64 0] 24)).cell? ⟨w.heap.size, 4, none⟩ = some (.int .i64 n4) ∧ (W.alloc (.cells #[.float .f64 0, .float .f64 0] 24)).cell? ⟨w.heap.size, 5, none⟩ = some (.int .i64 n5) ∧ Below w.heap.size w (W.alloc (.cells #[.float .f64 0, .float .f64 0] 24)) := ⟨box_cell hb hS.1, box_cell hb hS.2.1, box_cell hb hS.2.2.1, box_cell hb hS.2.2.2.1, box_cell hb hS.2.2.2.2.1, box_cell hb hS.2.2.2.2.2.1, below_step hS.2.2.2.2.2.2 hb⟩
        go_simp
        go_wp2_with fail
        exact hK.out _ _ hS2 ⟨_, v4, v5, c1, c2, c3, W.heap.size, b4, b5, rfl, hS2, fun _ => ⟨rfl, PB.new W 0 0, hlt2⟩, fun h => ⟨(h4 h).1, (h4 h).2.1.later hb, (h4 h).2.2⟩, fun h => ⟨(h5 h).1, (h5 h).2.1.later hb, (h5 h).2.2⟩, fun _ h => Nat.ne_of_gt (h4 h).2.1.lt, fun _ h => Nat.ne_of_gt (h5 h).2.1.lt, h45, k1, k2, k3⟩
      · refine ⟨x, true, z, k, hk, rfl, (far_set x true z k).2.1, _, rfl, ?_⟩
        intro a W hI K' hK
        obtain ⟨v3, v4, v5, c1, c2, c3, b3, b4, b5, rfl, hS, h3, h4, h5, h34, h35, h45, k1, k2, k3⟩ := hI
        have hb : Below W.heap.size W (W.alloc (.cells #[.float .f64 0, .float .f64 0] 24)) := (Below.refl _ W).alloc (Nat.le_refl _) _
        have hlt2 : w.heap.size < W.heap.size := World.block_lt_of_cell? _ _ hS.1
        have hS2 : (W.alloc (.cells #[.float .f64 0, .float .f64 0] 24)).cell? ⟨w.heap.size, 0, none⟩ = some (.int .i64 n0) ∧ (W.alloc (.cells #[.float .f64 0, .float .f64 0] 24)).cell? ⟨w.heap.size, 1, none⟩ = some (.int .i64 n1) ∧ (W.alloc (.cells #[.float .f64 0, .float .f64 0] 24)).cell? ⟨w.heap.size, 2, none⟩ = some (.int .i64 n2) ∧ (W.alloc (.cells #[.float .f64 0, .float .f64 0] 24)).cell? ⟨w.heap.size, 3, none⟩ = some (.int .i64 n3) ∧ (W.alloc (.cells #[.float .f64 0, .float .f64 0] 24)).cell? ⟨w.heap.size, 4, none⟩ = some (.int .i64 n4) ∧ (W.alloc (.cells #[.float .f64 0, .float .f64 0] 24)).cell? ⟨w.heap.size, 5, none⟩ = some (.int .i64 n5) ∧ Below w.heap.size w (W.alloc (.cells #[.float .f64 0, .float .f64 0] 24)) := ⟨box_cell hb hS.1, box_cell hb hS.2.1, box_cell hb hS.2.2.1, box_cell hb hS.2.2.2.1, box_cell hb hS.2.2.2.2.1, box_cell hb hS.2.2.2.2.2.1, below_step hS.2.2.2.2.2.2 hb⟩
        go_simp
        go_wp2_with fail
        exact hK.out _ _ hS2 ⟨v3, _, v5, c1, c2, c3, b3, W.heap.size, b5, rfl, hS2, fun h => ⟨(h3 h).1, (h3 h).2.1.later hb, (h3 h).2.2⟩, fun _ => ⟨rfl, PB.new W 0 0, hlt2⟩, fun h => ⟨(h5 h).1, (h5 h).2.1.later hb, (h5 h).2.2⟩, fun h _ => Nat.ne_of_lt (h3 h).2.1.lt, h35, fun _ h => Nat.ne_of_gt (h5 h).2.1.lt, k1, k2, k3⟩
      · refine ⟨x, y, true, k, hk, rfl, (far_set x y true k).2.2.1, _, rfl, ?_⟩
        intro a W hI K' hK
        obtain ⟨v3, v4, v5, c1, c2, c3, b3, b4, b5, rfl, hS, h3, h4, h5, h34, h35, h45, k1, k2, k3⟩ := hI
        have hb : Below W.heap.size W (W.alloc (.cells #[.float .f64 0, .float .f64 0] 24)) := (Below.refl _ W).alloc (Nat.le_refl _) _
        have hlt2 : w.heap.size < W.heap.size := World.block_lt_of_cell? _ _ hS.1
        have hS2 : (W.alloc (.cells #[.float .f64 0, .float .f64 0] 24)).cell? ⟨w.heap.size, 0, none⟩ = some (.int .i64 n0) ∧ (W.alloc (.cells #[.float .f64 0, .float .f64 0] 24)).cell? ⟨w.heap.size, 1, none⟩ = some (.int .i64 n1) ∧ (W.alloc (.cells #[.float .f64 0, .float .f64 0] 24)).cell? ⟨w.heap.size, 2, none⟩ = some (.int .i64 n2) ∧ (W.alloc (.cells #[.float .f64 0, .float .f64 0] 24)).cell? ⟨w.heap.size, 3, none⟩ = some (.int .i64 n3) ∧ (W.alloc (.cells #[.float .f64 0, .float .f64 0] 24)).cell? ⟨w.heap.size, 4, none⟩ = some (.int .i64 n4) ∧ (W.alloc (.cells #[.float .f64 0, .float .f64 0] 24)).cell? ⟨w.heap.size, 5, none⟩ = some (.int .i64 n5) ∧ Below w.heap.size w (W.alloc (.cells #[.float .f64 0, .float .f64 0] 24)) := ⟨box_cell hb hS.1, box_cell hb hS.2.1, box_cell hb hS.2.2.1, box_cell hb hS.2.2.2.1, box_cell hb hS.2.2.2.2.1, box_cell hb hS.2.2.2.2.2.1, below_step hS.2.2.2.2.2.2 hb⟩
        go_simp
        go_wp2_with fail
        exact hK.out _ _ hS2 ⟨v3, v4, _, c1, c2, c3, b3, b4, W.heap.size, rfl, hS2, fun h => ⟨(h3 h).1, (h3 h).2.1.later hb, (h3 h).2.2⟩, fun h => ⟨(h4 h).1, (h4 h).2.1.later hb, (h4 h).2.2⟩, fun _ => ⟨rfl, PB.new W 0 0, hlt2⟩, h34, fun h _ => Nat.ne_of_lt (h3 h).2.1.lt, fun h _ => Nat.ne_of_lt (h4 h).2.1.lt, k1, k2, k3⟩
  · intro a W hI
    obtain ⟨v3, v4, v5, c1, c2, c3, b3, b4, b5, rfl, hS, h3, h4, h5, h34, h35, h45, k1, k2, k3⟩ := hI
    obtain ⟨e3, p3, l3⟩ := h3 rfl
    obtain ⟨e4, p4, l4⟩ := h4 rfl
    obtain ⟨e5, p5, l5⟩ := h5 rfl
    have n34 := h34 rfl rfl
    have n35 := h35 rfl rfl
    have n45 := h45 rfl rfl
    obtain rfl := k1 (by omega)
    obtain rfl := k2 (by omega)
    obtain rfl := k3 (by omega)
    subst e3 e4 e5
    clear h3 h4 h5 h34 h35 h45 k1 k2 k3
    have HW : Hid (W6 (fw (n0.tmod 1025)) (fw (n1.tmod 1025)) (fw (n2.tmod 1025)) (fw (n3.tmod 1025)) (fw (n4.tmod 1025)) (fw (n5.tmod 1025))) := ⟨⟨(FW n0).2.2.1, (FW n1).2.2.1⟩, ⟨(FW n2).2.2.1, (FW n3).2.2.1⟩, (FW n4).2.2.1, (FW n5).2.2.1⟩
    have HP : Hid (P3 (fw (n0.tmod 1025)) (fw (n1.tmod 1025)) (fw (n2.tmod 1025)) (fw (n3.tmod 1025)) (fw (n4.tmod 1025)) (fw (n5.tmod 1025))) := ⟨⟨(FW n0).2.1, (FW n1).2.1⟩, ⟨(FW n2).2.1, (FW n3).2.1⟩, (FW n4).2.1, (FW n5).2.1⟩
    have HSM : Hid (Sm (fw (n0.tmod 1025)) ∧ Sm (fw (n1.tmod 1025)) ∧ Sm (fw (n2.tmod 1025)) ∧ Sm (fw (n3.tmod 1025)) ∧ Sm (fw (n4.tmod 1025)) ∧ Sm (fw (n5.tmod 1025))) := ⟨(FW n0).1, (FW n1).1, (FW n2).1, (FW n3).1, (FW n4).1, (FW n5).1⟩
    generalize fw (n0.tmod 1025) = ax at *
    generalize fw (n1.tmod 1025) = ay at *
    generalize fw (n2.tmod 1025) = bx at *
    generalize fw (n3.tmod 1025) = by' at *
    generalize fw (n4.tmod 1025) = cx at *
    generalize fw (n5.tmod 1025) = cy at *
    obtain ⟨x0, x1, xf⟩ := p3.cells
    have xf0 := xf 0
    have xf1 := xf 1
    clear xf
    have hBb3 : Below w.heap.size w ((W.setCell ⟨b3, 0, none⟩ (.float .f64 ax)).setCell ⟨b3, 1, none⟩ (.float .f64 ay)) := (hS.2.2.2.2.2.2.setCell (Nat.le_of_lt l3) _).setCell (Nat.le_of_lt l3) _
    refine call_at 18 (by kernel_rfl) (by kernel_rfl) ?_
    intro o ho
    simp only [List.getElem?_toArray, List.getElem?_cons_succ, List.getElem?_cons_zero, Option.some.injEq] at ho
    subst ho
    intro KF hK
    go_simp
    go_wp2_with fail
    refine hK.out _ _ ⟨far2 hS.1 (Nat.ne_of_lt l3), far2 hS.2.1 (Nat.ne_of_lt l3), far2 hS.2.2.1 (Nat.ne_of_lt l3), far2 hS.2.2.2.1 (Nat.ne_of_lt l3), far2 hS.2.2.2.2.1 (Nat.ne_of_lt l3), far2 hS.2.2.2.2.2.1 (Nat.ne_of_lt l3), hBb3⟩ ?_
    clear hS
    intro hS
    clear hK KF x0 x1 xf0 xf1
    try simp only [List.setIfInBounds_toArray, List.set_cons_zero, List.set_cons_succ]
    obtain ⟨W1, hW1⟩ : ∃ W', W' = (W.setCell ⟨b3, 0, none⟩ (.float .f64 ax)).setCell ⟨b3, 1, none⟩ (.float .f64 ay) := ⟨_, rfl⟩
    have p3' := p3.set2 ax ay
    have p4 := p4.other2 n34.symm (.float .f64 ax) (.float .f64 ay)
    have p5 := p5.other2 n35.symm (.float .f64 ax) (.float .f64 ay)
    rw [← hW1] at hS p3' p4 p5 ⊢
    clear hW1 hBb3
    obtain ⟨x0, x1, xf⟩ := p4.cells
    have xf0 := xf 0
    have xf1 := xf 1
    clear xf
    have hBb4 : Below w.heap.size w ((W1.setCell ⟨b4, 0, none⟩ (.float .f64 bx)).setCell ⟨b4, 1, none⟩ (.float .f64 by')) := (hS.2.2.2.2.2.2.setCell (Nat.le_of_lt l4) _).setCell (Nat.le_of_lt l4) _
    refine call_at 19 (by kernel_rfl) (by kernel_rfl) ?_
    intro o ho
    simp only [List.getElem?_toArray, List.getElem?_cons_succ, List.getElem?_cons_zero, Option.some.injEq] at ho
    subst ho
    intro KF hK
    go_simp
    go_wp2_with fail
    refine hK.out _ _ ⟨far2 hS.1 (Nat.ne_of_lt l4), far2 hS.2.1 (Nat.ne_of_lt l4), far2 hS.2.2.1 (Nat.ne_of_lt l4), far2 hS.2.2.2.1 (Nat.ne_of_lt l4), far2 hS.2.2.2.2.1 (Nat.ne_of_lt l4), far2 hS.2.2.2.2.2.1 (Nat.ne_of_lt l4), hBb4⟩ ?_
    clear hS
    intro hS
    clear hK KF x0 x1 xf0 xf1
    try simp only [List.setIfInBounds_toArray, List.set_cons_zero, List.set_cons_succ]
    obtain ⟨W2, hW2⟩ : ∃ W', W' = (W1.setCell ⟨b4, 0, none⟩ (.float .f64 bx)).setCell ⟨b4, 1, none⟩ (.float .f64 by') := ⟨_, rfl⟩
    have p4' := p4.set2 bx by'
    have p3' := p3'.other2 n34 (.float .f64 bx) (.float .f64 by')
    have p5 := p5.other2 n45.symm (.float .f64 bx) (.float .f64 by')
    rw [← hW2] at hS p4' p3' p5 ⊢
    clear hW2 hBb4
    obtain ⟨x0, x1, xf⟩ := p5.cells
    have xf0 := xf 0
    have xf1 := xf 1
    clear xf
    have hBb5 : Below w.heap.size w ((W2.setCell ⟨b5, 0, none⟩ (.float .f64 cx)).setCell ⟨b5, 1, none⟩ (.float .f64 cy)) := (hS.2.2.2.2.2.2.setCell (Nat.le_of_lt l5) _).setCell (Nat.le_of_lt l5) _
    refine call_at 20 (by kernel_rfl) (by kernel_rfl) ?_
    intro o ho
    simp only [List.getElem?_toArray, List.getElem?_cons_succ, List.getElem?_cons_zero, Option.some.injEq] at ho
    subst ho
    intro KF hK
    go_simp
    go_wp2_with fail
    refine hK.out _ _ ⟨far2 hS.1 (Nat.ne_of_lt l5), far2 hS.2.1 (Nat.ne_of_lt l5), far2 hS.2.2.1 (Nat.ne_of_lt l5), far2 hS.2.2.2.1 (Nat.ne_of_lt l5), far2 hS.2.2.2.2.1 (Nat.ne_of_lt l5), far2 hS.2.2.2.2.2.1 (Nat.ne_of_lt l5), hBb5⟩ ?_
    clear hS
    intro hS
    clear hK KF x0 x1 xf0 xf1
    try simp only [List.setIfInBounds_toArray, List.set_cons_zero, List.set_cons_succ]
    obtain ⟨W3, hW3⟩ : ∃ W', W' = (W2.setCell ⟨b5, 0, none⟩ (.float .f64 cx)).setCell ⟨b5, 1, none⟩ (.float .f64 cy) := ⟨_, rfl⟩
    have p5' := p5.set2 cx cy
    have p3' := p3'.other2 n35 (.float .f64 cx) (.float .f64 cy)
    have p4' := p4'.other2 n45 (.float .f64 cx) (.float .f64 cy)
    rw [← hW3] at hS p5' p3' p4' ⊢
    clear hW3 hBb5
    refine wpAnyH_done (by kernel_rfl) ?_ _
    have HB : Hid (Below w.heap.size w W3) := hS.2.2.2.2.2.2
    have HQ : Hid (PB W3 b3 ax ay ∧ PB W3 b4 bx by' ∧ PB W3 b5 cx cy) := ⟨p3', p4', p5'⟩
    clear hS p3 p4 p5 p3' p4' p5' l3 l4 l5 n34 n35 n45
    obtain ⟨y0, y1, _⟩ := HQ.out.1.cells
    obtain ⟨y2, y3, _⟩ := HQ.out.2.1.cells
    obtain ⟨y4, y5, _⟩ := HQ.out.2.2.cells
    obtain ⟨z, hz⟩ : ∃ z, Hid (sg3 ax ay bx by' cx cy = z) := ⟨_, rfl⟩
    go_wp2_with fail
    refine (refsign_is ax ay bx by' cx cy _ z HW.out hz.out).mono ?_
    rintro e W4 ⟨rfl, hb⟩
    have HB4 : Hid (Below w.heap.size w W4) := below_step HB.out hb
    have HQ4 : Hid (PB W4 b3 ax ay ∧ PB W4 b4 bx by' ∧ PB W4 b5 cx cy) := ⟨HQ.out.1.later hb, HQ.out.2.1.later hb, HQ.out.2.2.later hb⟩
    clear hb y0 y1 y2 y3 y4 y5
    obtain ⟨y0, y1, _⟩ := HQ4.out.1.cells
    obtain ⟨y2, y3, _⟩ := HQ4.out.2.1.cells
    obtain ⟨y4, y5, _⟩ := HQ4.out.2.2.cells
    go_wp2_with fail
    refine (fast_any ax ay bx by' cx cy _ HW.out).mono ?_
    rintro e W5 ⟨⟨s, t, rfl, hf⟩, hb⟩
    have HB5 : Hid (Below w.heap.size w W5) := below_step HB4.out hb
    have HF : Hid (FastR ax ay bx by' cx cy s t) := hf
    clear hb hf y0 y1 y2 y3 y4 y5
    by_cases hz0 : z = 0
    · obtain rfl : s = 0 := by
        cases t
        · exact HF.out.2.1 rfl
        · rw [(HF.out.1 rfl).2, ← hz0, ← hz.out, sg3_yes HP.out]
      subst hz0
      go_wp2_with fail
      refine (awake_any _).mono ?_
      rintro e W6 ⟨rfl, hb⟩
      have HB6 : Hid (Below w.heap.size w W6) := below_step HB5.out hb
      clear hb
      go_wp2
      go_ret
      exact ⟨rfl, HB6.out⟩
    · have hS0 : S3 ax ay bx by' cx cy ≠ 0 := by
        intro h
        have := hz.out
        rw [sg3_yes HP.out, sgq_zero.2 h] at this
        exact hz0 this.symm
      obtain rfl := HF.out.2.2 HP.out HSM.out.1 HSM.out.2.1 HSM.out.2.2.1 HSM.out.2.2.2.1 HSM.out.2.2.2.2.1 HSM.out.2.2.2.2.2 hS0
      obtain rfl : s = z := by rw [(HF.out.1 rfl).2, ← hz.out, sg3_yes HP.out]
      have hzb : (s == 0) = false := by rw [beq_eq_false_iff_ne]; exact hz0
      have hzn : (s != 0) = true := by rw [bne, hzb]; rfl
      clear hz0 hS0
      go_wp2_with fail
      refine (awake_any _).mono ?_
      rintro e W6 ⟨rfl, hb⟩
      have HB6 : Hid (Below w.heap.size w W6) := below_step HB5.out hb
      clear hb
      go_wp2
      go_ret
      exact ⟨rfl, HB6.out⟩
  · exact ⟨undef, undef, undef, undef, undef, undef, 0, 0, 0, rfl, hS, fun h => Bool.noConfusion h, fun h => Bool.noConfusion h, fun h => Bool.noConfusion h, fun h => Bool.noConfusion h, fun h => Bool.noConfusion h, fun h => Bool.noConfusion h, fun h => by omega, fun h => by omega, fun h => by omega⟩

end Go.Proofs.Ytglcngjllfgdpab

/- OrientMoved: plain facts. -/
namespace Go.Proofs.Ytglcngjllfgdpab
open Go.RowKit

/-- The float 2^k. -/
def pwW (k : Int) : Nat := (1023 + k).toNat * 4503599627370496
theorem pw_val {k : Int} (h1 : -1000 ≤ k) (h2 : k ≤ 1000) : Fin64 (pwW k) ∧ pwW k < 18446744073709551616 ∧ fval (pwW k) = p2 k := by
  obtain ⟨j, hj⟩ : ∃ j : Nat, (j : Int) = 1022 + k := ⟨(1022 + k).toNat, by omega⟩
  have e : pwW k = j * 4503599627370496 + 4503599627370496 := by unfold pwW; omega
  rw [e]
  refine ⟨by unfold Fin64 frung; omega, by omega, ?_⟩
  rw [fval_rung j 4503599627370496 (by omega) (Or.inr (by omega)) (by omega)]
  have := U_52 j
  rw [show ((4503599627370496 : Nat) : Rat) = 4503599627370496 from rfl, ← this]
  unfold U
  rw [show ((j + 52 : Nat) : Int) - 1074 = k by omega]
theorem pw_dbl : ∀ j, j < 60 → floatBits .mul .f64 (pwW (j : Nat)) 4611686018427387904 = some (pwW ((j + 1 : Nat) : Int)) := by decide +kernel
theorem pw_hlf : ∀ j, j < 60 → floatBits .quo .f64 (pwW (-((j : Nat) : Int))) 4611686018427387904 = some (pwW (-((j + 1 : Nat) : Int))) := by decide +kernel

theorem moved_word {p u : Nat} {m t k : Int} (fp : Fin64 p) (vp : fval p = (m : Rat)) (m1 : -1024 ≤ m) (m2 : m ≤ 1024) (fu : Fin64 u) (vu : fval u = (t : Rat)) (t1 : -1073741824 ≤ t) (t2 : t ≤ 1073741824) (h1 : -60 < k) (h2 : k < 60) :
    ∃ s X, floatBits .add .f64 p u = some s ∧ floatBits .mul .f64 s (pwW k) = some X ∧ Fin64 X ∧ X < 18446744073709551616 ∧ fval X = (fval p + fval u) * p2 k := by
  obtain ⟨fk, _, vk⟩ := pw_val (k := k) (by omega) (by omega)
  have hs : fval p + fval u = ((m + t : Int) : Rat) := by rw [vp, vu, Rat.intCast_add]
  have b0 : ab (fval p + fval u) ≤ U 1105 := by
    rw [hs]
    have a := ab_int (n := m + t) (k := 2147483648) (by omega) (by omega)
    have h := U_add 1074 31
    rw [show U 1074 = 1 from by unfold U; exact p2_zero, Rat.mul_one] at h
    rw [show (1105 : Nat) = 1074 + 31 from rfl, h]
    exact a
  obtain ⟨s, es, fs, _, rs⟩ := add_bits fp fu (lim_U b0 (by omega))
  have vs : fval s = ((m + t : Int) : Rat) := by rw [rs.rn.int (m + t) hs (by omega) (by omega), hs]
  obtain ⟨q, hq⟩ : ∃ q : Nat, (q : Int) = 1074 + k := ⟨(1074 + k).toNat, by omega⟩
  have hU : p2 k = U q := by unfold U; rw [show (q : Int) - 1074 = k by omega]
  have b1 : ab (fval s * fval (pwW k)) ≤ U 1200 := by
    rw [vk, hU]
    have h3 := mul_le_U (x := fval s) (y := U q) (p := 1105) (q := q) (r := 31 + q) (by rw [vs, ← hs]; exact b0) (by rw [ab, if_neg (by have := U_pos q; grind)]; exact Rat.le_refl) (by omega)
    have h4 := U_mono (show 31 + q ≤ 1200 by omega)
    grind
  obtain ⟨X, eX, fX, lX, rX⟩ := mul_bits fs fk (lim_U b1 (by omega))
  refine ⟨s, X, es, eX, fX, lX, ?_⟩
  rw [hs, ← vs, ← vk]
  apply rX.rn.exact
  rw [vs, vk, hU]
  exact ⟨q, m + t, rfl, by omega, by omega⟩

theorem sgq_scale {t q : Rat} (ht : 0 < t) : sgq (t * q) = sgq q := by
  unfold sgq
  rcases (by grind : q < 0 ∨ q = 0 ∨ 0 < q) with h | h | h
  · have : t * q < 0 := by have := Rat.mul_pos ht (show 0 < -q by grind); grind
    rw [if_pos this, if_pos h]
  · rw [h, Rat.mul_zero]
  · have := Rat.mul_pos ht h
    rw [if_neg (by grind), if_neg (by grind), if_neg (by grind), if_neg (by grind)]
theorem scale_le {t a x : Rat} (ht : 0 < t) : a * t ≤ x * t ↔ a ≤ x := by
  constructor
  · intro h
    apply Classical.byContradiction
    intro hn
    have := Rat.mul_pos (show 0 < a - x by grind) ht
    grind
  · intro h
    exact Rat.mul_le_mul_of_nonneg_right h (Rat.le_of_lt ht)
theorem btw_scale {a b x u t : Rat} (ht : 0 < t) : Btw ((a + u) * t) ((b + u) * t) ((x + u) * t) ↔ Btw a b x := by
  unfold Btw
  rw [scale_le ht, scale_le ht, scale_le ht, scale_le ht]
  constructor <;> intro h <;> rcases h with h | h <;> grind
/-- Points that were moved and made as large. -/
structure Mv (ax ay dx dy : Nat) (u v t : Rat) : Prop where
  x : fval dx = (fval ax + u) * t
  y : fval dy = (fval ay + v) * t
theorem S3_moved {ax ay bx by' cx cy dx dy ex ey fx fy : Nat} {u v t : Rat} (h1 : Mv ax ay dx dy u v t) (h2 : Mv bx by' ex ey u v t) (h3 : Mv cx cy fx fy u v t) : S3 dx dy ex ey fx fy = t * t * S3 ax ay bx by' cx cy := by
  unfold S3
  rw [h1.x, h1.y, h2.x, h2.y, h3.x, h3.y]
  grind
theorem sg_moved {ax ay bx by' cx cy dx dy ex ey fx fy : Nat} {u v t : Rat} (ht : 0 < t) (h1 : Mv ax ay dx dy u v t) (h2 : Mv bx by' ex ey u v t) (h3 : Mv cx cy fx fy u v t) (p : P3 ax ay bx by' cx cy) (q : P3 dx dy ex ey fx fy) : sg3 dx dy ex ey fx fy = sg3 ax ay bx by' cx cy := by
  rw [sg3_yes p, sg3_yes q, S3_moved h1 h2 h3, sgq_scale (Rat.mul_pos ht ht)]
theorem on_moved {ax ay bx by' cx cy dx dy ex ey fx fy : Nat} {u v t : Rat} (ht : 0 < t) (h1 : Mv ax ay dx dy u v t) (h2 : Mv bx by' ex ey u v t) (h3 : Mv cx cy fx fy u v t) (p : P3 ax ay bx by' cx cy) (q : P3 dx dy ex ey fx fy) : OnP dx dy ex ey fx fy ↔ OnP ax ay bx by' cx cy := by
  unfold OnP
  have hs : S3 dx dy ex ey fx fy = 0 ↔ S3 ax ay bx by' cx cy = 0 := by
    rw [S3_moved h1 h2 h3]
    have := Rat.mul_pos ht ht
    constructor
    · intro h
      rcases Rat.mul_eq_zero.1 h with h | h
      · grind
      · exact h
    · intro h; rw [h, Rat.mul_zero]
  rw [hs, h1.x, h1.y, h2.x, h2.y, h3.x, h3.y, btw_scale ht, btw_scale ht]
  exact ⟨fun h => ⟨p, h.2⟩, fun h => ⟨q, h.2⟩⟩
theorem crd_flip {x : Nat} (hx : x < 18446744073709551616) (h : Crd x) : Crd (fflip x) := by
  refine ⟨by rw [frung_flip hx]; exact h.1, ?_⟩
  rw [fval_flip hx (crd_fin h.1)]
  exact h.2.neg
theorem sg_mirror {ax ay bx by' cx cy : Nat} (hw : W6 ax ay bx by' cx cy) (p : P3 ax ay bx by' cx cy) : sg3 (fflip ax) ay (fflip bx) by' (fflip cx) cy = -sg3 ax ay bx by' cx cy := by
  rw [sg3_yes p, sg3_yes ⟨⟨crd_flip hw.1.1 p.1.1, p.1.2⟩, ⟨crd_flip hw.2.1.1 p.2.1.1, p.2.1.2⟩, crd_flip hw.2.2.1 p.2.2.1, p.2.2.2⟩, ← sgq_minus]
  congr 1
  unfold S3
  rw [fval_flip hw.1.1 (crd_fin p.1.1.1), fval_flip hw.2.1.1 (crd_fin p.2.1.1.1), fval_flip hw.2.2.1 (crd_fin p.2.2.1.1)]
  grind

end Go.Proofs.Ytglcngjllfgdpab
