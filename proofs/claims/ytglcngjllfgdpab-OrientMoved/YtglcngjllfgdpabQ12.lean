/- Own texts, put together: Oi Oj Hd On. -/
import Derived.Test.YtglcngjllfgdpabQ11
/- Package orient: Cross. -/
namespace Go.Proofs.Ytglcngjllfgdpab
open Go.RowKit Go.Shelf

theorem sg3_range (ax ay bx by' cx cy : Nat) : -1 ≤ sg3 ax ay bx by' cx cy ∧ sg3 ax ay bx by' cx cy ≤ 1 := by
  by_cases h : P3 ax ay bx by' cx cy
  · rw [sg3_yes h]
    unfold sgq
    split
    · omega
    · split <;> omega
  · rw [sg3_no h]; omega
theorem mul_small {a b : Int} (h1 : -1 ≤ a ∧ a ≤ 1) (h2 : -1 ≤ b ∧ b ≤ 1) : -1 ≤ a * b ∧ a * b ≤ 1 := by
  have := int_mul_bound (a := a) (b := b) (k := 1) (m := 1) h1.1 h1.2 h2.1 h2.2
  omega
/-- Two segments cross. -/
def CrossP (ax ay bx by' cx cy dx dy : Nat) : Prop := sg3 ax ay bx by' cx cy * sg3 ax ay bx by' dx dy < 0 ∧ sg3 cx cy dx dy ax ay * sg3 cx cy dx dy bx by' < 0
theorem keepX {w W W' : World} {q1 q2 q3 q4 q5 q6 q7 q8 : Addr} {x1 x2 x3 x4 x5 x6 x7 x8 : Value} (h : W.cell? q1 = some x1 ∧ W.cell? q2 = some x2 ∧ W.cell? q3 = some x3 ∧ W.cell? q4 = some x4 ∧ W.cell? q5 = some x5 ∧ W.cell? q6 = some x6 ∧ W.cell? q7 = some x7 ∧ W.cell? q8 = some x8 ∧ Below w.heap.size w W) (hb : Below W.heap.size W W') :
    W'.cell? q1 = some x1 ∧ W'.cell? q2 = some x2 ∧ W'.cell? q3 = some x3 ∧ W'.cell? q4 = some x4 ∧ W'.cell? q5 = some x5 ∧ W'.cell? q6 = some x6 ∧ W'.cell? q7 = some x7 ∧ W'.cell? q8 = some x8 ∧ Below w.heap.size w W' :=
  ⟨box_cell hb h.1, box_cell hb h.2.1, box_cell hb h.2.2.1, box_cell hb h.2.2.2.1, box_cell hb h.2.2.2.2.1, box_cell hb h.2.2.2.2.2.1, box_cell hb h.2.2.2.2.2.2.1, box_cell hb h.2.2.2.2.2.2.2.1, below_step h.2.2.2.2.2.2.2.2 hb⟩

set_option maxRecDepth 100000 in
set_option maxHeartbeats 8000000 in
theorem cross_any (ax ay bx by' cx cy dx dy : Nat) (w : World) (hw : W6 ax ay bx by' cx cy) (hd : dx < 18446744073709551616 ∧ dy < 18446744073709551616) :
    Calls Try.prog 17 #[pv ax ay, pv bx by', pv cx cy, pv dx dy] w fun e w' => (∃ t, e = .returned (.bool t) ∧ (t = true ↔ CrossP ax ay bx by' cx cy dx dy)) ∧ Below w.heap.size w w' := by
  have HW1 : Hid (W6 ax ay bx by' cx cy) := hw
  have HW2 : Hid (W6 ax ay bx by' dx dy) := ⟨hw.1, hw.2.1, hd⟩
  have HW3 : Hid (W6 cx cy dx dy ax ay) := ⟨hw.2.2, hd, hw.1⟩
  have HW4 : Hid (W6 cx cy dx dy bx by') := ⟨hw.2.2, hd, hw.2.1⟩
  clear hw hd
  obtain ⟨s1, es1⟩ : ∃ z, Hid (sg3 ax ay bx by' cx cy = z) := ⟨_, rfl⟩
  obtain ⟨s2, es2⟩ : ∃ z, Hid (sg3 ax ay bx by' dx dy = z) := ⟨_, rfl⟩
  obtain ⟨s3, es3⟩ : ∃ z, Hid (sg3 cx cy dx dy ax ay = z) := ⟨_, rfl⟩
  obtain ⟨s4, es4⟩ : ∃ z, Hid (sg3 cx cy dx dy bx by' = z) := ⟨_, rfl⟩
  obtain ⟨m1, em1⟩ : ∃ z, Hid (s1 * s2 = z) := ⟨_, rfl⟩
  obtain ⟨m2, em2⟩ : ∃ z, Hid (s3 * s4 = z) := ⟨_, rfl⟩
  have HC : Hid (CrossP ax ay bx by' cx cy dx dy ↔ m1 < 0 ∧ m2 < 0) := by
    show CrossP _ _ _ _ _ _ _ _ ↔ _
    unfold CrossP
    rw [es1.out, es2.out, es3.out, es4.out, em1.out, em2.out]
  have r1 := mul_small (sg3_range ax ay bx by' cx cy) (sg3_range ax ay bx by' dx dy)
  have r2 := mul_small (sg3_range cx cy dx dy ax ay) (sg3_range cx cy dx dy bx by')
  rw [es1.out, es2.out, em1.out] at r1
  rw [es3.out, es4.out, em2.out] at r2
  have k1 : IntKind.i64.wrap (s1 * s2) = m1 := by rw [em1.out]; exact wrapE _ (by omega) (by omega)
  have k2 : IntKind.i64.wrap (s3 * s4) = m2 := by rw [em2.out]; exact wrapE _ (by omega) (by omega)
  clear r1 r2 em1 em2
  go_enter Try.func17, Try.ntmps17
  go_wp2_with fail
  have HB0 : Hid (Below w.heap.size w ((((w.alloc (.cells #[.float .f64 ax, .float .f64 ay] 24)).alloc (.cells #[.float .f64 bx, .float .f64 by'] 24)).alloc (.cells #[.float .f64 cx, .float .f64 cy] 24)).alloc (.cells #[.float .f64 dx, .float .f64 dy] 24))) := ((((Below.refl _ w).alloc (Nat.le_refl _) _).alloc (by simp) _).alloc (by simp; omega) _).alloc (by simp; omega) _
  obtain ⟨W0, hW0⟩ : ∃ W0, W0 = ((((w.alloc (.cells #[.float .f64 ax, .float .f64 ay] 24)).alloc (.cells #[.float .f64 bx, .float .f64 by'] 24)).alloc (.cells #[.float .f64 cx, .float .f64 cy] 24)).alloc (.cells #[.float .f64 dx, .float .f64 dy] 24)) := ⟨_, rfl⟩
  have za0 : W0.cell? ⟨w.heap.size, 0, none⟩ = some (.float .f64 ax) := by rw [hW0]; go_simp
  have za1 : W0.cell? ⟨w.heap.size, 1, none⟩ = some (.float .f64 ay) := by rw [hW0]; go_simp
  have zb0 : W0.cell? ⟨w.heap.size + 1, 0, none⟩ = some (.float .f64 bx) := by rw [hW0]; go_simp
  have zb1 : W0.cell? ⟨w.heap.size + 1, 1, none⟩ = some (.float .f64 by') := by rw [hW0]; go_simp
  have zc0 : W0.cell? ⟨w.heap.size + 1 + 1, 0, none⟩ = some (.float .f64 cx) := by rw [hW0]; go_simp
  have zc1 : W0.cell? ⟨w.heap.size + 1 + 1, 1, none⟩ = some (.float .f64 cy) := by rw [hW0]; go_simp
  have zd0 : W0.cell? ⟨w.heap.size + 1 + 1 + 1, 0, none⟩ = some (.float .f64 dx) := by rw [hW0]; go_simp
  have zd1 : W0.cell? ⟨w.heap.size + 1 + 1 + 1, 1, none⟩ = some (.float .f64 dy) := by rw [hW0]; go_simp
  rw [← hW0] at HB0 ⊢
  clear hW0
  by_cases c1 : m1 < 0
  · have d1 : decide (m1 < 0) = true := decide_eq_true c1
    by_cases c2 : m2 < 0
    · have d2 : decide (m2 < 0) = true := decide_eq_true c2
      have HR : Hid (CrossP ax ay bx by' cx cy dx dy) := HC.out.2 ⟨c1, c2⟩
      clear c1 c2
      refine wp_region_held_drew (S := (fun W => W.cell? ⟨w.heap.size, 0, none⟩ = some (.float .f64 ax) ∧ W.cell? ⟨w.heap.size, 1, none⟩ = some (.float .f64 ay) ∧ W.cell? ⟨w.heap.size + 1, 0, none⟩ = some (.float .f64 bx) ∧ W.cell? ⟨w.heap.size + 1, 1, none⟩ = some (.float .f64 by') ∧ W.cell? ⟨w.heap.size + 1 + 1, 0, none⟩ = some (.float .f64 cx) ∧ W.cell? ⟨w.heap.size + 1 + 1, 1, none⟩ = some (.float .f64 cy) ∧ W.cell? ⟨w.heap.size + 1 + 1 + 1, 0, none⟩ = some (.float .f64 dx) ∧ W.cell? ⟨w.heap.size + 1 + 1 + 1, 1, none⟩ = some (.float .f64 dy) ∧ Below w.heap.size w W)) (by kernel_rfl) ⟨za0, za1, zb0, zb1, zc0, zc1, zd0, zd1, HB0.out.drew⟩ (fun hS => ?_)
      refine take_at (i := 0) (d := some 9) (v := .agg #[.float .f64 ax, .float .f64 ay]) (by kernel_rfl) (by kernel_rfl) (by kernel_rfl) (by kernel_rfl) (fun _ _ _ h => h) ?_ hS ?_
      · intro o ho
        simp only [List.getElem?_toArray, List.getElem?_cons_zero, Option.some.injEq] at ho
        subst ho
        refine Or.inl ⟨by rfl, ?_⟩
        intro w hSw
        (try dsimp only at hSw)
        go_simp
      simp only [Act.put, List.setIfInBounds_toArray, List.set_cons_zero, List.set_cons_succ]
      refine take_at (i := 1) (d := some 10) (v := .agg #[.float .f64 bx, .float .f64 by']) (by kernel_rfl) (by kernel_rfl) (by kernel_rfl) (by kernel_rfl) (fun _ _ _ h => h) ?_ hS ?_
      · intro o ho
        simp only [List.getElem?_toArray, List.getElem?_cons_succ, List.getElem?_cons_zero, Option.some.injEq] at ho
        subst ho
        refine Or.inl ⟨by rfl, ?_⟩
        intro w hSw
        (try dsimp only at hSw)
        go_simp
      simp only [Act.put, List.setIfInBounds_toArray, List.set_cons_zero, List.set_cons_succ]
      refine take_at (i := 2) (d := some 11) (v := .agg #[.float .f64 cx, .float .f64 cy]) (by kernel_rfl) (by kernel_rfl) (by kernel_rfl) (by kernel_rfl) (fun _ _ _ h => h) ?_ hS ?_
      · intro o ho
        simp only [List.getElem?_toArray, List.getElem?_cons_succ, List.getElem?_cons_zero, Option.some.injEq] at ho
        subst ho
        refine Or.inl ⟨by rfl, ?_⟩
        intro w hSw
        (try dsimp only at hSw)
        go_simp
      simp only [Act.put, List.setIfInBounds_toArray, List.set_cons_zero, List.set_cons_succ]
      refine take_at (i := 4) (d := some 13) (v := .agg #[.float .f64 ax, .float .f64 ay]) (by kernel_rfl) (by kernel_rfl) (by kernel_rfl) (by kernel_rfl) (fun _ _ _ h => h) ?_ hS ?_
      · intro o ho
        simp only [List.getElem?_toArray, List.getElem?_cons_succ, List.getElem?_cons_zero, Option.some.injEq] at ho
        subst ho
        refine Or.inl ⟨by rfl, ?_⟩
        intro w hSw
        (try dsimp only at hSw)
        go_simp
      simp only [Act.put, List.setIfInBounds_toArray, List.set_cons_zero, List.set_cons_succ]
      refine take_at (i := 5) (d := some 14) (v := .agg #[.float .f64 bx, .float .f64 by']) (by kernel_rfl) (by kernel_rfl) (by kernel_rfl) (by kernel_rfl) (fun _ _ _ h => h) ?_ hS ?_
      · intro o ho
        simp only [List.getElem?_toArray, List.getElem?_cons_succ, List.getElem?_cons_zero, Option.some.injEq] at ho
        subst ho
        refine Or.inl ⟨by rfl, ?_⟩
        intro w hSw
        (try dsimp only at hSw)
        go_simp
      simp only [Act.put, List.setIfInBounds_toArray, List.set_cons_zero, List.set_cons_succ]
      refine take_at (i := 6) (d := some 15) (v := .agg #[.float .f64 dx, .float .f64 dy]) (by kernel_rfl) (by kernel_rfl) (by kernel_rfl) (by kernel_rfl) (fun _ _ _ h => h) ?_ hS ?_
      · intro o ho
        simp only [List.getElem?_toArray, List.getElem?_cons_succ, List.getElem?_cons_zero, Option.some.injEq] at ho
        subst ho
        refine Or.inl ⟨by rfl, ?_⟩
        intro w hSw
        (try dsimp only at hSw)
        go_simp
      simp only [Act.put, List.setIfInBounds_toArray, List.set_cons_zero, List.set_cons_succ]
      refine call_at 3 (by kernel_rfl) (by kernel_rfl) ?_
      intro o ho
      simp only [List.getElem?_toArray, List.getElem?_cons_succ, List.getElem?_cons_zero, Option.some.injEq] at ho
      subst ho
      intro KF hK
      go_simp
      refine (sign_is ax ay bx by' cx cy _ s1 HW1.out es1.out).mono ?_
      rintro e wx ⟨rfl, hbx⟩
      go_wp2_with fail
      refine hK.out _ _ (keepX hS hbx) ?_
      clear hS hbx
      intro hS
      clear hK KF
      try simp only [Act.put, List.setIfInBounds_toArray, List.set_cons_zero, List.set_cons_succ]
      refine call_at 7 (by kernel_rfl) (by kernel_rfl) ?_
      intro o ho
      simp only [List.getElem?_toArray, List.getElem?_cons_succ, List.getElem?_cons_zero, Option.some.injEq] at ho
      subst ho
      intro KF hK
      go_simp
      refine (sign_is ax ay bx by' dx dy _ s2 HW2.out es2.out).mono ?_
      rintro e wx ⟨rfl, hbx⟩
      go_wp2_with fail
      refine hK.out _ _ (keepX hS hbx) ?_
      clear hS hbx
      intro hS
      clear hK KF
      try simp only [Act.put, List.setIfInBounds_toArray, List.set_cons_zero, List.set_cons_succ]
      refine take_at (i := 8) (d := some 17) (v := .int .i64 m1) (by kernel_rfl) (by kernel_rfl) (by kernel_rfl) (by kernel_rfl) (fun _ _ _ h => h) ?_ hS ?_
      · intro o ho
        simp only [List.getElem?_toArray, List.getElem?_cons_succ, List.getElem?_cons_zero, Option.some.injEq] at ho
        subst ho
        refine Or.inl ⟨by rfl, ?_⟩
        intro w hSw
        (try dsimp only at hSw)
        go_simp
      simp only [Act.put, List.setIfInBounds_toArray, List.set_cons_zero, List.set_cons_succ]
      refine take_at (i := 9) (d := some 18) (v := .bool true) (by kernel_rfl) (by kernel_rfl) (by kernel_rfl) (by kernel_rfl) (fun _ _ _ h => h) ?_ hS ?_
      · intro o ho
        simp only [List.getElem?_toArray, List.getElem?_cons_succ, List.getElem?_cons_zero, Option.some.injEq] at ho
        subst ho
        refine Or.inl ⟨by rfl, ?_⟩
        intro w hSw
        (try dsimp only at hSw)
        go_simp
      simp only [Act.put, List.setIfInBounds_toArray, List.set_cons_zero, List.set_cons_succ]
      refine take_at (i := 10) (d := some 19) (v := .bool true) (by kernel_rfl) (by kernel_rfl) (by kernel_rfl) (by kernel_rfl) (fun _ _ _ h => h) ?_ hS ?_
      · intro o ho
        simp only [List.getElem?_toArray, List.getElem?_cons_succ, List.getElem?_cons_zero, Option.some.injEq] at ho
        subst ho
        refine Or.inl ⟨by rfl, ?_⟩
        intro w hSw
        (try dsimp only at hSw)
        go_simp
      simp only [Act.put, List.setIfInBounds_toArray, List.set_cons_zero, List.set_cons_succ]
      refine take_at (i := 11) (d := some 20) (v := .agg #[.float .f64 cx, .float .f64 cy]) (by kernel_rfl) (by kernel_rfl) (by kernel_rfl) (by kernel_rfl) (fun _ _ _ h => h) ?_ hS ?_
      · intro o ho
        simp only [List.getElem?_toArray, List.getElem?_cons_succ, List.getElem?_cons_zero, Option.some.injEq] at ho
        subst ho
        refine Or.inl ⟨by rfl, ?_⟩
        intro w hSw
        (try dsimp only at hSw)
        go_simp
      simp only [Act.put, List.setIfInBounds_toArray, List.set_cons_zero, List.set_cons_succ]
      refine take_at (i := 12) (d := some 21) (v := .agg #[.float .f64 dx, .float .f64 dy]) (by kernel_rfl) (by kernel_rfl) (by kernel_rfl) (by kernel_rfl) (fun _ _ _ h => h) ?_ hS ?_
      · intro o ho
        simp only [List.getElem?_toArray, List.getElem?_cons_succ, List.getElem?_cons_zero, Option.some.injEq] at ho
        subst ho
        refine Or.inl ⟨by rfl, ?_⟩
        intro w hSw
        (try dsimp only at hSw)
        go_simp
      simp only [Act.put, List.setIfInBounds_toArray, List.set_cons_zero, List.set_cons_succ]
      refine take_at (i := 13) (d := some 22) (v := .agg #[.float .f64 ax, .float .f64 ay]) (by kernel_rfl) (by kernel_rfl) (by kernel_rfl) (by kernel_rfl) (fun _ _ _ h => h) ?_ hS ?_
      · intro o ho
        simp only [List.getElem?_toArray, List.getElem?_cons_succ, List.getElem?_cons_zero, Option.some.injEq] at ho
        subst ho
        refine Or.inl ⟨by rfl, ?_⟩
        intro w hSw
        (try dsimp only at hSw)
        go_simp
      simp only [Act.put, List.setIfInBounds_toArray, List.set_cons_zero, List.set_cons_succ]
      refine take_at (i := 15) (d := some 24) (v := .agg #[.float .f64 cx, .float .f64 cy]) (by kernel_rfl) (by kernel_rfl) (by kernel_rfl) (by kernel_rfl) (fun _ _ _ h => h) ?_ hS ?_
      · intro o ho
        simp only [List.getElem?_toArray, List.getElem?_cons_succ, List.getElem?_cons_zero, Option.some.injEq] at ho
        subst ho
        refine Or.inl ⟨by rfl, ?_⟩
        intro w hSw
        (try dsimp only at hSw)
        go_simp
      simp only [Act.put, List.setIfInBounds_toArray, List.set_cons_zero, List.set_cons_succ]
      refine take_at (i := 16) (d := some 25) (v := .agg #[.float .f64 dx, .float .f64 dy]) (by kernel_rfl) (by kernel_rfl) (by kernel_rfl) (by kernel_rfl) (fun _ _ _ h => h) ?_ hS ?_
      · intro o ho
        simp only [List.getElem?_toArray, List.getElem?_cons_succ, List.getElem?_cons_zero, Option.some.injEq] at ho
        subst ho
        refine Or.inl ⟨by rfl, ?_⟩
        intro w hSw
        (try dsimp only at hSw)
        go_simp
      simp only [Act.put, List.setIfInBounds_toArray, List.set_cons_zero, List.set_cons_succ]
      refine take_at (i := 17) (d := some 26) (v := .agg #[.float .f64 bx, .float .f64 by']) (by kernel_rfl) (by kernel_rfl) (by kernel_rfl) (by kernel_rfl) (fun _ _ _ h => h) ?_ hS ?_
      · intro o ho
        simp only [List.getElem?_toArray, List.getElem?_cons_succ, List.getElem?_cons_zero, Option.some.injEq] at ho
        subst ho
        refine Or.inl ⟨by rfl, ?_⟩
        intro w hSw
        (try dsimp only at hSw)
        go_simp
      simp only [Act.put, List.setIfInBounds_toArray, List.set_cons_zero, List.set_cons_succ]
      refine call_at 14 (by kernel_rfl) (by kernel_rfl) ?_
      intro o ho
      simp only [List.getElem?_toArray, List.getElem?_cons_succ, List.getElem?_cons_zero, Option.some.injEq] at ho
      subst ho
      intro KF hK
      go_simp
      refine (sign_is cx cy dx dy ax ay _ s3 HW3.out es3.out).mono ?_
      rintro e wx ⟨rfl, hbx⟩
      go_wp2_with fail
      refine hK.out _ _ (keepX hS hbx) ?_
      clear hS hbx
      intro hS
      clear hK KF
      try simp only [Act.put, List.setIfInBounds_toArray, List.set_cons_zero, List.set_cons_succ]
      refine call_at 18 (by kernel_rfl) (by kernel_rfl) ?_
      intro o ho
      simp only [List.getElem?_toArray, List.getElem?_cons_succ, List.getElem?_cons_zero, Option.some.injEq] at ho
      subst ho
      intro KF hK
      go_simp
      refine (sign_is cx cy dx dy bx by' _ s4 HW4.out es4.out).mono ?_
      rintro e wx ⟨rfl, hbx⟩
      go_wp2_with fail
      refine hK.out _ _ (keepX hS hbx) ?_
      clear hS hbx
      intro hS
      clear hK KF
      try simp only [Act.put, List.setIfInBounds_toArray, List.set_cons_zero, List.set_cons_succ]
      refine take_at (i := 19) (d := some 28) (v := .int .i64 m2) (by kernel_rfl) (by kernel_rfl) (by kernel_rfl) (by kernel_rfl) (fun _ _ _ h => h) ?_ hS ?_
      · intro o ho
        simp only [List.getElem?_toArray, List.getElem?_cons_succ, List.getElem?_cons_zero, Option.some.injEq] at ho
        subst ho
        refine Or.inl ⟨by rfl, ?_⟩
        intro w hSw
        (try dsimp only at hSw)
        go_simp
      simp only [Act.put, List.setIfInBounds_toArray, List.set_cons_zero, List.set_cons_succ]
      refine take_at (i := 20) (d := some 29) (v := .bool true) (by kernel_rfl) (by kernel_rfl) (by kernel_rfl) (by kernel_rfl) (fun _ _ _ h => h) ?_ hS ?_
      · intro o ho
        simp only [List.getElem?_toArray, List.getElem?_cons_succ, List.getElem?_cons_zero, Option.some.injEq] at ho
        subst ho
        refine Or.inl ⟨by rfl, ?_⟩
        intro w hSw
        (try dsimp only at hSw)
        go_simp
      simp only [Act.put, List.setIfInBounds_toArray, List.set_cons_zero, List.set_cons_succ]
      refine take_at (i := 21) (d := some 30) (v := .bool true) (by kernel_rfl) (by kernel_rfl) (by kernel_rfl) (by kernel_rfl) (fun _ _ _ h => h) ?_ hS ?_
      · intro o ho
        simp only [List.getElem?_toArray, List.getElem?_cons_succ, List.getElem?_cons_zero, Option.some.injEq] at ho
        subst ho
        refine Or.inl ⟨by rfl, ?_⟩
        intro w hSw
        (try dsimp only at hSw)
        go_simp
      simp only [Act.put, List.setIfInBounds_toArray, List.set_cons_zero, List.set_cons_succ]
      refine take_at (i := 22) (d := some 8) (v := .bool true) (by kernel_rfl) (by kernel_rfl) (by kernel_rfl) (by kernel_rfl) (fun _ _ _ h => h) ?_ hS ?_
      · intro o ho
        simp only [List.getElem?_toArray, List.getElem?_cons_succ, List.getElem?_cons_zero, Option.some.injEq] at ho
        subst ho
        refine Or.inl ⟨by rfl, ?_⟩
        intro w hSw
        (try dsimp only at hSw)
        go_simp
      simp only [Act.put, List.setIfInBounds_toArray, List.set_cons_zero, List.set_cons_succ]
      refine wpAnyH_done (by kernel_rfl) ?_ _
      go_wp2
      go_ret
      exact ⟨⟨true, rfl, fun _ => HR.out, fun _ => rfl⟩, hS.2.2.2.2.2.2.2.2⟩
    · have d2 : decide (m2 < 0) = false := decide_eq_false c2
      have HR : Hid (¬ CrossP ax ay bx by' cx cy dx dy) := fun h => c2 (HC.out.1 h).2
      clear c1 c2
      refine wp_region_held_drew (S := (fun W => W.cell? ⟨w.heap.size, 0, none⟩ = some (.float .f64 ax) ∧ W.cell? ⟨w.heap.size, 1, none⟩ = some (.float .f64 ay) ∧ W.cell? ⟨w.heap.size + 1, 0, none⟩ = some (.float .f64 bx) ∧ W.cell? ⟨w.heap.size + 1, 1, none⟩ = some (.float .f64 by') ∧ W.cell? ⟨w.heap.size + 1 + 1, 0, none⟩ = some (.float .f64 cx) ∧ W.cell? ⟨w.heap.size + 1 + 1, 1, none⟩ = some (.float .f64 cy) ∧ W.cell? ⟨w.heap.size + 1 + 1 + 1, 0, none⟩ = some (.float .f64 dx) ∧ W.cell? ⟨w.heap.size + 1 + 1 + 1, 1, none⟩ = some (.float .f64 dy) ∧ Below w.heap.size w W)) (by kernel_rfl) ⟨za0, za1, zb0, zb1, zc0, zc1, zd0, zd1, HB0.out.drew⟩ (fun hS => ?_)
      refine take_at (i := 0) (d := some 9) (v := .agg #[.float .f64 ax, .float .f64 ay]) (by kernel_rfl) (by kernel_rfl) (by kernel_rfl) (by kernel_rfl) (fun _ _ _ h => h) ?_ hS ?_
      · intro o ho
        simp only [List.getElem?_toArray, List.getElem?_cons_zero, Option.some.injEq] at ho
        subst ho
        refine Or.inl ⟨by rfl, ?_⟩
        intro w hSw
        (try dsimp only at hSw)
        go_simp
      simp only [Act.put, List.setIfInBounds_toArray, List.set_cons_zero, List.set_cons_succ]
      refine take_at (i := 1) (d := some 10) (v := .agg #[.float .f64 bx, .float .f64 by']) (by kernel_rfl) (by kernel_rfl) (by kernel_rfl) (by kernel_rfl) (fun _ _ _ h => h) ?_ hS ?_
      · intro o ho
        simp only [List.getElem?_toArray, List.getElem?_cons_succ, List.getElem?_cons_zero, Option.some.injEq] at ho
        subst ho
        refine Or.inl ⟨by rfl, ?_⟩
        intro w hSw
        (try dsimp only at hSw)
        go_simp
      simp only [Act.put, List.setIfInBounds_toArray, List.set_cons_zero, List.set_cons_succ]
      refine take_at (i := 2) (d := some 11) (v := .agg #[.float .f64 cx, .float .f64 cy]) (by kernel_rfl) (by kernel_rfl) (by kernel_rfl) (by kernel_rfl) (fun _ _ _ h => h) ?_ hS ?_
      · intro o ho
        simp only [List.getElem?_toArray, List.getElem?_cons_succ, List.getElem?_cons_zero, Option.some.injEq] at ho
        subst ho
        refine Or.inl ⟨by rfl, ?_⟩
        intro w hSw
        (try dsimp only at hSw)
        go_simp
      simp only [Act.put, List.setIfInBounds_toArray, List.set_cons_zero, List.set_cons_succ]
      refine take_at (i := 4) (d := some 13) (v := .agg #[.float .f64 ax, .float .f64 ay]) (by kernel_rfl) (by kernel_rfl) (by kernel_rfl) (by kernel_rfl) (fun _ _ _ h => h) ?_ hS ?_
      · intro o ho
        simp only [List.getElem?_toArray, List.getElem?_cons_succ, List.getElem?_cons_zero, Option.some.injEq] at ho
        subst ho
        refine Or.inl ⟨by rfl, ?_⟩
        intro w hSw
        (try dsimp only at hSw)
        go_simp
      simp only [Act.put, List.setIfInBounds_toArray, List.set_cons_zero, List.set_cons_succ]
      refine take_at (i := 5) (d := some 14) (v := .agg #[.float .f64 bx, .float .f64 by']) (by kernel_rfl) (by kernel_rfl) (by kernel_rfl) (by kernel_rfl) (fun _ _ _ h => h) ?_ hS ?_
      · intro o ho
        simp only [List.getElem?_toArray, List.getElem?_cons_succ, List.getElem?_cons_zero, Option.some.injEq] at ho
        subst ho
        refine Or.inl ⟨by rfl, ?_⟩
        intro w hSw
        (try dsimp only at hSw)
        go_simp
      simp only [Act.put, List.setIfInBounds_toArray, List.set_cons_zero, List.set_cons_succ]
      refine take_at (i := 6) (d := some 15) (v := .agg #[.float .f64 dx, .float .f64 dy]) (by kernel_rfl) (by kernel_rfl) (by kernel_rfl) (by kernel_rfl) (fun _ _ _ h => h) ?_ hS ?_
      · intro o ho
        simp only [List.getElem?_toArray, List.getElem?_cons_succ, List.getElem?_cons_zero, Option.some.injEq] at ho
        subst ho
        refine Or.inl ⟨by rfl, ?_⟩
        intro w hSw
        (try dsimp only at hSw)
        go_simp
      simp only [Act.put, List.setIfInBounds_toArray, List.set_cons_zero, List.set_cons_succ]
      refine call_at 3 (by kernel_rfl) (by kernel_rfl) ?_
      intro o ho
      simp only [List.getElem?_toArray, List.getElem?_cons_succ, List.getElem?_cons_zero, Option.some.injEq] at ho
      subst ho
      intro KF hK
      go_simp
      refine (sign_is ax ay bx by' cx cy _ s1 HW1.out es1.out).mono ?_
      rintro e wx ⟨rfl, hbx⟩
      go_wp2_with fail
      refine hK.out _ _ (keepX hS hbx) ?_
      clear hS hbx
      intro hS
      clear hK KF
      try simp only [Act.put, List.setIfInBounds_toArray, List.set_cons_zero, List.set_cons_succ]
      refine call_at 7 (by kernel_rfl) (by kernel_rfl) ?_
      intro o ho
      simp only [List.getElem?_toArray, List.getElem?_cons_succ, List.getElem?_cons_zero, Option.some.injEq] at ho
      subst ho
      intro KF hK
      go_simp
      refine (sign_is ax ay bx by' dx dy _ s2 HW2.out es2.out).mono ?_
      rintro e wx ⟨rfl, hbx⟩
      go_wp2_with fail
      refine hK.out _ _ (keepX hS hbx) ?_
      clear hS hbx
      intro hS
      clear hK KF
      try simp only [Act.put, List.setIfInBounds_toArray, List.set_cons_zero, List.set_cons_succ]
      refine take_at (i := 8) (d := some 17) (v := .int .i64 m1) (by kernel_rfl) (by kernel_rfl) (by kernel_rfl) (by kernel_rfl) (fun _ _ _ h => h) ?_ hS ?_
      · intro o ho
        simp only [List.getElem?_toArray, List.getElem?_cons_succ, List.getElem?_cons_zero, Option.some.injEq] at ho
        subst ho
        refine Or.inl ⟨by rfl, ?_⟩
        intro w hSw
        (try dsimp only at hSw)
        go_simp
      simp only [Act.put, List.setIfInBounds_toArray, List.set_cons_zero, List.set_cons_succ]
      refine take_at (i := 9) (d := some 18) (v := .bool true) (by kernel_rfl) (by kernel_rfl) (by kernel_rfl) (by kernel_rfl) (fun _ _ _ h => h) ?_ hS ?_
      · intro o ho
        simp only [List.getElem?_toArray, List.getElem?_cons_succ, List.getElem?_cons_zero, Option.some.injEq] at ho
        subst ho
        refine Or.inl ⟨by rfl, ?_⟩
        intro w hSw
        (try dsimp only at hSw)
        go_simp
      simp only [Act.put, List.setIfInBounds_toArray, List.set_cons_zero, List.set_cons_succ]
      refine take_at (i := 10) (d := some 19) (v := .bool true) (by kernel_rfl) (by kernel_rfl) (by kernel_rfl) (by kernel_rfl) (fun _ _ _ h => h) ?_ hS ?_
      · intro o ho
        simp only [List.getElem?_toArray, List.getElem?_cons_succ, List.getElem?_cons_zero, Option.some.injEq] at ho
        subst ho
        refine Or.inl ⟨by rfl, ?_⟩
        intro w hSw
        (try dsimp only at hSw)
        go_simp
      simp only [Act.put, List.setIfInBounds_toArray, List.set_cons_zero, List.set_cons_succ]
      refine take_at (i := 11) (d := some 20) (v := .agg #[.float .f64 cx, .float .f64 cy]) (by kernel_rfl) (by kernel_rfl) (by kernel_rfl) (by kernel_rfl) (fun _ _ _ h => h) ?_ hS ?_
      · intro o ho
        simp only [List.getElem?_toArray, List.getElem?_cons_succ, List.getElem?_cons_zero, Option.some.injEq] at ho
        subst ho
        refine Or.inl ⟨by rfl, ?_⟩
        intro w hSw
        (try dsimp only at hSw)
        go_simp
      simp only [Act.put, List.setIfInBounds_toArray, List.set_cons_zero, List.set_cons_succ]
      refine take_at (i := 12) (d := some 21) (v := .agg #[.float .f64 dx, .float .f64 dy]) (by kernel_rfl) (by kernel_rfl) (by kernel_rfl) (by kernel_rfl) (fun _ _ _ h => h) ?_ hS ?_
      · intro o ho
        simp only [List.getElem?_toArray, List.getElem?_cons_succ, List.getElem?_cons_zero, Option.some.injEq] at ho
        subst ho
        refine Or.inl ⟨by rfl, ?_⟩
        intro w hSw
        (try dsimp only at hSw)
        go_simp
      simp only [Act.put, List.setIfInBounds_toArray, List.set_cons_zero, List.set_cons_succ]
      refine take_at (i := 13) (d := some 22) (v := .agg #[.float .f64 ax, .float .f64 ay]) (by kernel_rfl) (by kernel_rfl) (by kernel_rfl) (by kernel_rfl) (fun _ _ _ h => h) ?_ hS ?_
      · intro o ho
        simp only [List.getElem?_toArray, List.getElem?_cons_succ, List.getElem?_cons_zero, Option.some.injEq] at ho
        subst ho
        refine Or.inl ⟨by rfl, ?_⟩
        intro w hSw
        (try dsimp only at hSw)
        go_simp
      simp only [Act.put, List.setIfInBounds_toArray, List.set_cons_zero, List.set_cons_succ]
      refine take_at (i := 15) (d := some 24) (v := .agg #[.float .f64 cx, .float .f64 cy]) (by kernel_rfl) (by kernel_rfl) (by kernel_rfl) (by kernel_rfl) (fun _ _ _ h => h) ?_ hS ?_
      · intro o ho
        simp only [List.getElem?_toArray, List.getElem?_cons_succ, List.getElem?_cons_zero, Option.some.injEq] at ho
        subst ho
        refine Or.inl ⟨by rfl, ?_⟩
        intro w hSw
        (try dsimp only at hSw)
        go_simp
      simp only [Act.put, List.setIfInBounds_toArray, List.set_cons_zero, List.set_cons_succ]
      refine take_at (i := 16) (d := some 25) (v := .agg #[.float .f64 dx, .float .f64 dy]) (by kernel_rfl) (by kernel_rfl) (by kernel_rfl) (by kernel_rfl) (fun _ _ _ h => h) ?_ hS ?_
      · intro o ho
        simp only [List.getElem?_toArray, List.getElem?_cons_succ, List.getElem?_cons_zero, Option.some.injEq] at ho
        subst ho
        refine Or.inl ⟨by rfl, ?_⟩
        intro w hSw
        (try dsimp only at hSw)
        go_simp
      simp only [Act.put, List.setIfInBounds_toArray, List.set_cons_zero, List.set_cons_succ]
      refine take_at (i := 17) (d := some 26) (v := .agg #[.float .f64 bx, .float .f64 by']) (by kernel_rfl) (by kernel_rfl) (by kernel_rfl) (by kernel_rfl) (fun _ _ _ h => h) ?_ hS ?_
      · intro o ho
        simp only [List.getElem?_toArray, List.getElem?_cons_succ, List.getElem?_cons_zero, Option.some.injEq] at ho
        subst ho
        refine Or.inl ⟨by rfl, ?_⟩
        intro w hSw
        (try dsimp only at hSw)
        go_simp
      simp only [Act.put, List.setIfInBounds_toArray, List.set_cons_zero, List.set_cons_succ]
      refine call_at 14 (by kernel_rfl) (by kernel_rfl) ?_
      intro o ho
      simp only [List.getElem?_toArray, List.getElem?_cons_succ, List.getElem?_cons_zero, Option.some.injEq] at ho
      subst ho
      intro KF hK
      go_simp
      refine (sign_is cx cy dx dy ax ay _ s3 HW3.out es3.out).mono ?_
      rintro e wx ⟨rfl, hbx⟩
      go_wp2_with fail
      refine hK.out _ _ (keepX hS hbx) ?_
      clear hS hbx
      intro hS
      clear hK KF
      try simp only [Act.put, List.setIfInBounds_toArray, List.set_cons_zero, List.set_cons_succ]
      refine call_at 18 (by kernel_rfl) (by kernel_rfl) ?_
      intro o ho
      simp only [List.getElem?_toArray, List.getElem?_cons_succ, List.getElem?_cons_zero, Option.some.injEq] at ho
      subst ho
      intro KF hK
      go_simp
      refine (sign_is cx cy dx dy bx by' _ s4 HW4.out es4.out).mono ?_
      rintro e wx ⟨rfl, hbx⟩
      go_wp2_with fail
      refine hK.out _ _ (keepX hS hbx) ?_
      clear hS hbx
      intro hS
      clear hK KF
      try simp only [Act.put, List.setIfInBounds_toArray, List.set_cons_zero, List.set_cons_succ]
      refine take_at (i := 19) (d := some 28) (v := .int .i64 m2) (by kernel_rfl) (by kernel_rfl) (by kernel_rfl) (by kernel_rfl) (fun _ _ _ h => h) ?_ hS ?_
      · intro o ho
        simp only [List.getElem?_toArray, List.getElem?_cons_succ, List.getElem?_cons_zero, Option.some.injEq] at ho
        subst ho
        refine Or.inl ⟨by rfl, ?_⟩
        intro w hSw
        (try dsimp only at hSw)
        go_simp
      simp only [Act.put, List.setIfInBounds_toArray, List.set_cons_zero, List.set_cons_succ]
      refine take_at (i := 20) (d := some 29) (v := .bool false) (by kernel_rfl) (by kernel_rfl) (by kernel_rfl) (by kernel_rfl) (fun _ _ _ h => h) ?_ hS ?_
      · intro o ho
        simp only [List.getElem?_toArray, List.getElem?_cons_succ, List.getElem?_cons_zero, Option.some.injEq] at ho
        subst ho
        refine Or.inl ⟨by rfl, ?_⟩
        intro w hSw
        (try dsimp only at hSw)
        go_simp
      simp only [Act.put, List.setIfInBounds_toArray, List.set_cons_zero, List.set_cons_succ]
      refine take_at (i := 21) (d := some 30) (v := .bool false) (by kernel_rfl) (by kernel_rfl) (by kernel_rfl) (by kernel_rfl) (fun _ _ _ h => h) ?_ hS ?_
      · intro o ho
        simp only [List.getElem?_toArray, List.getElem?_cons_succ, List.getElem?_cons_zero, Option.some.injEq] at ho
        subst ho
        refine Or.inl ⟨by rfl, ?_⟩
        intro w hSw
        (try dsimp only at hSw)
        go_simp
      simp only [Act.put, List.setIfInBounds_toArray, List.set_cons_zero, List.set_cons_succ]
      refine take_at (i := 22) (d := some 8) (v := .bool false) (by kernel_rfl) (by kernel_rfl) (by kernel_rfl) (by kernel_rfl) (fun _ _ _ h => h) ?_ hS ?_
      · intro o ho
        simp only [List.getElem?_toArray, List.getElem?_cons_succ, List.getElem?_cons_zero, Option.some.injEq] at ho
        subst ho
        refine Or.inl ⟨by rfl, ?_⟩
        intro w hSw
        (try dsimp only at hSw)
        go_simp
      simp only [Act.put, List.setIfInBounds_toArray, List.set_cons_zero, List.set_cons_succ]
      refine wpAnyH_done (by kernel_rfl) ?_ _
      go_wp2
      go_ret
      exact ⟨⟨false, rfl, fun h => Bool.noConfusion h, fun h => absurd h HR.out⟩, hS.2.2.2.2.2.2.2.2⟩
  · have d1 : decide (m1 < 0) = false := decide_eq_false c1
    have HR : Hid (¬ CrossP ax ay bx by' cx cy dx dy) := fun h => c1 (HC.out.1 h).1
    clear c1
    refine wp_region_held_drew (S := (fun W => W.cell? ⟨w.heap.size, 0, none⟩ = some (.float .f64 ax) ∧ W.cell? ⟨w.heap.size, 1, none⟩ = some (.float .f64 ay) ∧ W.cell? ⟨w.heap.size + 1, 0, none⟩ = some (.float .f64 bx) ∧ W.cell? ⟨w.heap.size + 1, 1, none⟩ = some (.float .f64 by') ∧ W.cell? ⟨w.heap.size + 1 + 1, 0, none⟩ = some (.float .f64 cx) ∧ W.cell? ⟨w.heap.size + 1 + 1, 1, none⟩ = some (.float .f64 cy) ∧ W.cell? ⟨w.heap.size + 1 + 1 + 1, 0, none⟩ = some (.float .f64 dx) ∧ W.cell? ⟨w.heap.size + 1 + 1 + 1, 1, none⟩ = some (.float .f64 dy) ∧ Below w.heap.size w W)) (by kernel_rfl) ⟨za0, za1, zb0, zb1, zc0, zc1, zd0, zd1, HB0.out.drew⟩ (fun hS => ?_)
    refine take_at (i := 0) (d := some 9) (v := .agg #[.float .f64 ax, .float .f64 ay]) (by kernel_rfl) (by kernel_rfl) (by kernel_rfl) (by kernel_rfl) (fun _ _ _ h => h) ?_ hS ?_
    · intro o ho
      simp only [List.getElem?_toArray, List.getElem?_cons_zero, Option.some.injEq] at ho
      subst ho
      refine Or.inl ⟨by rfl, ?_⟩
      intro w hSw
      (try dsimp only at hSw)
      go_simp
    simp only [Act.put, List.setIfInBounds_toArray, List.set_cons_zero, List.set_cons_succ]
    refine take_at (i := 1) (d := some 10) (v := .agg #[.float .f64 bx, .float .f64 by']) (by kernel_rfl) (by kernel_rfl) (by kernel_rfl) (by kernel_rfl) (fun _ _ _ h => h) ?_ hS ?_
    · intro o ho
      simp only [List.getElem?_toArray, List.getElem?_cons_succ, List.getElem?_cons_zero, Option.some.injEq] at ho
      subst ho
      refine Or.inl ⟨by rfl, ?_⟩
      intro w hSw
      (try dsimp only at hSw)
      go_simp
    simp only [Act.put, List.setIfInBounds_toArray, List.set_cons_zero, List.set_cons_succ]
    refine take_at (i := 2) (d := some 11) (v := .agg #[.float .f64 cx, .float .f64 cy]) (by kernel_rfl) (by kernel_rfl) (by kernel_rfl) (by kernel_rfl) (fun _ _ _ h => h) ?_ hS ?_
    · intro o ho
      simp only [List.getElem?_toArray, List.getElem?_cons_succ, List.getElem?_cons_zero, Option.some.injEq] at ho
      subst ho
      refine Or.inl ⟨by rfl, ?_⟩
      intro w hSw
      (try dsimp only at hSw)
      go_simp
    simp only [Act.put, List.setIfInBounds_toArray, List.set_cons_zero, List.set_cons_succ]
    refine take_at (i := 4) (d := some 13) (v := .agg #[.float .f64 ax, .float .f64 ay]) (by kernel_rfl) (by kernel_rfl) (by kernel_rfl) (by kernel_rfl) (fun _ _ _ h => h) ?_ hS ?_
    · intro o ho
      simp only [List.getElem?_toArray, List.getElem?_cons_succ, List.getElem?_cons_zero, Option.some.injEq] at ho
      subst ho
      refine Or.inl ⟨by rfl, ?_⟩
      intro w hSw
      (try dsimp only at hSw)
      go_simp
    simp only [Act.put, List.setIfInBounds_toArray, List.set_cons_zero, List.set_cons_succ]
    refine take_at (i := 5) (d := some 14) (v := .agg #[.float .f64 bx, .float .f64 by']) (by kernel_rfl) (by kernel_rfl) (by kernel_rfl) (by kernel_rfl) (fun _ _ _ h => h) ?_ hS ?_
    · intro o ho
      simp only [List.getElem?_toArray, List.getElem?_cons_succ, List.getElem?_cons_zero, Option.some.injEq] at ho
      subst ho
      refine Or.inl ⟨by rfl, ?_⟩
      intro w hSw
      (try dsimp only at hSw)
      go_simp
    simp only [Act.put, List.setIfInBounds_toArray, List.set_cons_zero, List.set_cons_succ]
    refine take_at (i := 6) (d := some 15) (v := .agg #[.float .f64 dx, .float .f64 dy]) (by kernel_rfl) (by kernel_rfl) (by kernel_rfl) (by kernel_rfl) (fun _ _ _ h => h) ?_ hS ?_
    · intro o ho
      simp only [List.getElem?_toArray, List.getElem?_cons_succ, List.getElem?_cons_zero, Option.some.injEq] at ho
      subst ho
      refine Or.inl ⟨by rfl, ?_⟩
      intro w hSw
      (try dsimp only at hSw)
      go_simp
    simp only [Act.put, List.setIfInBounds_toArray, List.set_cons_zero, List.set_cons_succ]
    refine call_at 3 (by kernel_rfl) (by kernel_rfl) ?_
    intro o ho
    simp only [List.getElem?_toArray, List.getElem?_cons_succ, List.getElem?_cons_zero, Option.some.injEq] at ho
    subst ho
    intro KF hK
    go_simp
    refine (sign_is ax ay bx by' cx cy _ s1 HW1.out es1.out).mono ?_
    rintro e wx ⟨rfl, hbx⟩
    go_wp2_with fail
    refine hK.out _ _ (keepX hS hbx) ?_
    clear hS hbx
    intro hS
    clear hK KF
    try simp only [Act.put, List.setIfInBounds_toArray, List.set_cons_zero, List.set_cons_succ]
    refine call_at 7 (by kernel_rfl) (by kernel_rfl) ?_
    intro o ho
    simp only [List.getElem?_toArray, List.getElem?_cons_succ, List.getElem?_cons_zero, Option.some.injEq] at ho
    subst ho
    intro KF hK
    go_simp
    refine (sign_is ax ay bx by' dx dy _ s2 HW2.out es2.out).mono ?_
    rintro e wx ⟨rfl, hbx⟩
    go_wp2_with fail
    refine hK.out _ _ (keepX hS hbx) ?_
    clear hS hbx
    intro hS
    clear hK KF
    try simp only [Act.put, List.setIfInBounds_toArray, List.set_cons_zero, List.set_cons_succ]
    refine take_at (i := 8) (d := some 17) (v := .int .i64 m1) (by kernel_rfl) (by kernel_rfl) (by kernel_rfl) (by kernel_rfl) (fun _ _ _ h => h) ?_ hS ?_
    · intro o ho
      simp only [List.getElem?_toArray, List.getElem?_cons_succ, List.getElem?_cons_zero, Option.some.injEq] at ho
      subst ho
      refine Or.inl ⟨by rfl, ?_⟩
      intro w hSw
      (try dsimp only at hSw)
      go_simp
    simp only [Act.put, List.setIfInBounds_toArray, List.set_cons_zero, List.set_cons_succ]
    refine take_at (i := 9) (d := some 18) (v := .bool false) (by kernel_rfl) (by kernel_rfl) (by kernel_rfl) (by kernel_rfl) (fun _ _ _ h => h) ?_ hS ?_
    · intro o ho
      simp only [List.getElem?_toArray, List.getElem?_cons_succ, List.getElem?_cons_zero, Option.some.injEq] at ho
      subst ho
      refine Or.inl ⟨by rfl, ?_⟩
      intro w hSw
      (try dsimp only at hSw)
      go_simp
    simp only [Act.put, List.setIfInBounds_toArray, List.set_cons_zero, List.set_cons_succ]
    refine take_at (i := 10) (d := some 19) (v := .bool false) (by kernel_rfl) (by kernel_rfl) (by kernel_rfl) (by kernel_rfl) (fun _ _ _ h => h) ?_ hS ?_
    · intro o ho
      simp only [List.getElem?_toArray, List.getElem?_cons_succ, List.getElem?_cons_zero, Option.some.injEq] at ho
      subst ho
      refine Or.inl ⟨by rfl, ?_⟩
      intro w hSw
      (try dsimp only at hSw)
      go_simp
    simp only [Act.put, List.setIfInBounds_toArray, List.set_cons_zero, List.set_cons_succ]
    refine skip_at 11 (d := some 20) (by kernel_rfl) (by kernel_rfl) (by kernel_rfl) (by kernel_rfl) (fun _ _ _ h => h) (by rfl) hS ?_
    simp only [Act.put, List.setIfInBounds_toArray, List.set_cons_zero, List.set_cons_succ]
    refine skip_at 12 (d := some 21) (by kernel_rfl) (by kernel_rfl) (by kernel_rfl) (by kernel_rfl) (fun _ _ _ h => h) (by rfl) hS ?_
    simp only [Act.put, List.setIfInBounds_toArray, List.set_cons_zero, List.set_cons_succ]
    refine skip_at 13 (d := some 22) (by kernel_rfl) (by kernel_rfl) (by kernel_rfl) (by kernel_rfl) (fun _ _ _ h => h) (by rfl) hS ?_
    simp only [Act.put, List.setIfInBounds_toArray, List.set_cons_zero, List.set_cons_succ]
    refine skip_at 14 (d := some 23) (by kernel_rfl) (by kernel_rfl) (by kernel_rfl) (by kernel_rfl) (fun _ _ _ h => h) (by rfl) hS ?_
    simp only [Act.put, List.setIfInBounds_toArray, List.set_cons_zero, List.set_cons_succ]
    refine skip_at 15 (d := some 24) (by kernel_rfl) (by kernel_rfl) (by kernel_rfl) (by kernel_rfl) (fun _ _ _ h => h) (by rfl) hS ?_
    simp only [Act.put, List.setIfInBounds_toArray, List.set_cons_zero, List.set_cons_succ]
    refine skip_at 16 (d := some 25) (by kernel_rfl) (by kernel_rfl) (by kernel_rfl) (by kernel_rfl) (fun _ _ _ h => h) (by rfl) hS ?_
    simp only [Act.put, List.setIfInBounds_toArray, List.set_cons_zero, List.set_cons_succ]
    refine skip_at 17 (d := some 26) (by kernel_rfl) (by kernel_rfl) (by kernel_rfl) (by kernel_rfl) (fun _ _ _ h => h) (by rfl) hS ?_
    simp only [Act.put, List.setIfInBounds_toArray, List.set_cons_zero, List.set_cons_succ]
    refine skip_at 18 (d := some 27) (by kernel_rfl) (by kernel_rfl) (by kernel_rfl) (by kernel_rfl) (fun _ _ _ h => h) (by rfl) hS ?_
    simp only [Act.put, List.setIfInBounds_toArray, List.set_cons_zero, List.set_cons_succ]
    refine skip_at 19 (d := some 28) (by kernel_rfl) (by kernel_rfl) (by kernel_rfl) (by kernel_rfl) (fun _ _ _ h => h) (by rfl) hS ?_
    simp only [Act.put, List.setIfInBounds_toArray, List.set_cons_zero, List.set_cons_succ]
    refine skip_at 20 (d := some 29) (by kernel_rfl) (by kernel_rfl) (by kernel_rfl) (by kernel_rfl) (fun _ _ _ h => h) (by rfl) hS ?_
    simp only [Act.put, List.setIfInBounds_toArray, List.set_cons_zero, List.set_cons_succ]
    refine take_at (i := 21) (d := some 30) (v := .bool false) (by kernel_rfl) (by kernel_rfl) (by kernel_rfl) (by kernel_rfl) (fun _ _ _ h => h) ?_ hS ?_
    · intro o ho
      simp only [List.getElem?_toArray, List.getElem?_cons_succ, List.getElem?_cons_zero, Option.some.injEq] at ho
      subst ho
      refine Or.inl ⟨by rfl, ?_⟩
      intro w hSw
      (try dsimp only at hSw)
      go_simp
    simp only [Act.put, List.setIfInBounds_toArray, List.set_cons_zero, List.set_cons_succ]
    refine take_at (i := 22) (d := some 8) (v := .bool false) (by kernel_rfl) (by kernel_rfl) (by kernel_rfl) (by kernel_rfl) (fun _ _ _ h => h) ?_ hS ?_
    · intro o ho
      simp only [List.getElem?_toArray, List.getElem?_cons_succ, List.getElem?_cons_zero, Option.some.injEq] at ho
      subst ho
      refine Or.inl ⟨by rfl, ?_⟩
      intro w hSw
      (try dsimp only at hSw)
      go_simp
    simp only [Act.put, List.setIfInBounds_toArray, List.set_cons_zero, List.set_cons_succ]
    refine wpAnyH_done (by kernel_rfl) ?_ _
    go_wp2
    go_ret
    exact ⟨⟨false, rfl, fun h => Bool.noConfusion h, fun h => absurd h HR.out⟩, hS.2.2.2.2.2.2.2.2⟩

end Go.Proofs.Ytglcngjllfgdpab

/- Which points may be, by reckoning. -/
namespace Go.Proofs.Ytglcngjllfgdpab

theorem den_one {q : Rat} : q.den = 1 ↔ ∃ k : Int, q = (k : Rat) := by
  constructor
  · intro h
    refine ⟨q.num, ?_⟩
    apply Rat.ext
    · simp
    · simp [h]
  · rintro ⟨k, rfl⟩
    simp
theorem crd_iff (x : Nat) : Crd x ↔ frung x ≤ 5057542381537067008 ∧ (fval x * U 1174).den = 1 := by
  unfold Crd
  rw [den_one, ← M_one, steps_one]
instance (x : Nat) : Decidable (Crd x) := decidable_of_iff _ (crd_iff x).symm
instance (x y : Nat) : Decidable (Pt x y) := by unfold Pt; exact inferInstance
instance (ax ay bx by' cx cy : Nat) : Decidable (P3 ax ay bx by' cx cy) := by unfold P3; exact inferInstance
instance (a b x : Rat) : Decidable (Btw a b x) := by unfold Btw; exact inferInstance
instance (ax ay bx by' cx cy : Nat) : Decidable (OnP ax ay bx by' cx cy) := by unfold OnP; exact inferInstance
theorem sg3_is {ax ay bx by' cx cy : Nat} {z : Int} (h : P3 ax ay bx by' cx cy ∧ sgq (S3 ax ay bx by' cx cy) = z) : sg3 ax ay bx by' cx cy = z := by rw [sg3_yes h.1]; exact h.2

theorem test1 : sg3 0 0 4611686018427387904 0 4607182418800017408 4607182418800017408 = 1 := sg3_is (by decide +kernel)
theorem test2 : sg3 0 0 4611686018427387904 0 4607182418800017408 13380194492917743616 = -1 := sg3_is (by decide +kernel)
theorem test3 : sg3 0 0 4611686018427387904 0 5062045981164437504 4607182418800017408 = 0 := sg3_no (by decide +kernel)
theorem test4 : sg3 4602678819172646954 4602678819172646960 4622945017495814144 4622945017495814144 4627448617123184640 4627448617123184640 = 1 := sg3_is (by decide +kernel)

end Go.Proofs.Ytglcngjllfgdpab

/- The reference's Rounds: is a float the one nearest to a number? -/
namespace Go.Proofs.Ytglcngjllfgdpab
open Go.RowKit
attribute [local go_sem ↓] Go.wp_at_zero Go.wp_at_succ

theorem BoxN.later {w w' : World} {b : Nat} {S E : Int} {sv : Value} (h : BoxN w b S sv E) (hb : Below w.heap.size w w') : BoxN w' b S sv E := h.block (hb.block _ h.cells.2.2.2.2)
theorem BoxN.other3 {W : World} {b b' : Nat} {S E : Int} {sv : Value} (h : BoxN W b' S sv E) (hne : b' ≠ b) (x y z : Value) : BoxN (((W.setCell ⟨b, 0, none⟩ x).setCell ⟨b, 1, none⟩ y).setCell ⟨b, 2, none⟩ z) b' S sv E := ((h.other hne x).other hne y).other hne z
theorem BoxN.set3 {W : World} {b : Nat} {S E S' E' : Int} {sv sv' : Value} (h : BoxN W b S sv E) : BoxN (((W.setCell ⟨b, 0, none⟩ (.int .i64 S')).setCell ⟨b, 1, none⟩ sv').setCell ⟨b, 2, none⟩ (.int .i64 E')) b S' sv' E' := by
  unfold BoxN at *
  simp [World.setCell, Array.getElem?_modify, h]
theorem BoxN.new (W : World) (S E : Int) (sv : Value) : BoxN (W.alloc (.cells #[.int .i64 S, sv, .int .i64 E] 42)) W.heap.size S sv E := heap_alloc_new W _
theorem below_set3 {w W : World} {b : Nat} (h : Below w.heap.size w W) (hb : w.heap.size ≤ b) (x y z : Value) : Below w.heap.size w (((W.setCell ⟨b, 0, none⟩ x).setCell ⟨b, 1, none⟩ y).setCell ⟨b, 2, none⟩ z) := ((h.setCell hb _).setCell hb _).setCell hb _
theorem keepN9 {w W W' : World} {p1 p2 p3 p4 p5 p6 p7 p8 p9 : Addr} {x1 x2 x3 x4 x5 x6 x7 x8 x9 : Value} (h : W.cell? p1 = some x1 ∧ W.cell? p2 = some x2 ∧ W.cell? p3 = some x3 ∧ W.cell? p4 = some x4 ∧ W.cell? p5 = some x5 ∧ W.cell? p6 = some x6 ∧ W.cell? p7 = some x7 ∧ W.cell? p8 = some x8 ∧ W.cell? p9 = some x9 ∧ Below w.heap.size w W) (hb : Below W.heap.size W W') :
    W'.cell? p1 = some x1 ∧ W'.cell? p2 = some x2 ∧ W'.cell? p3 = some x3 ∧ W'.cell? p4 = some x4 ∧ W'.cell? p5 = some x5 ∧ W'.cell? p6 = some x6 ∧ W'.cell? p7 = some x7 ∧ W'.cell? p8 = some x8 ∧ W'.cell? p9 = some x9 ∧ Below w.heap.size w W' :=
  ⟨box_cell hb h.1, box_cell hb h.2.1, box_cell hb h.2.2.1, box_cell hb h.2.2.2.1, box_cell hb h.2.2.2.2.1, box_cell hb h.2.2.2.2.2.1, box_cell hb h.2.2.2.2.2.2.1, box_cell hb h.2.2.2.2.2.2.2.1, box_cell hb h.2.2.2.2.2.2.2.2.1, h.2.2.2.2.2.2.2.2.2.trans (hb.mono h.2.2.2.2.2.2.2.2.2.size)⟩

/-- Two that stand for one number have one place. -/
theorem canon_E {S S' E E' : Int} {ds ds' : List Nat} (k : Canon S ds E) (k' : Canon S' ds' E') (s : ∀ d ∈ ds, d < 16777216) (s' : ∀ d ∈ ds', d < 16777216) (h : (S : Rat) * mag ds E = (S' : Rat) * mag ds' E') (h0 : (S : Rat) * mag ds E ≠ 0) : E = E' := by
  have key : ∀ (S S' E E' : Int) (ds ds' : List Nat), Canon S ds E → Canon S' ds' E' → (∀ d ∈ ds, d < 16777216) → (S : Rat) * mag ds E = (S' : Rat) * mag ds' E' → (S : Rat) * mag ds E ≠ 0 → E' ≤ E := by
    intro S S' E E' ds ds' k k' s h h0
    rcases k with ⟨rfl, rfl, rfl⟩ | ⟨n1, s1, f1, t1⟩
    · exfalso; exact h0 (by rw [mag_nil]; grind)
    · have hm : ∃ n : Int, mag ds E = (n : Rat) * p2 (24 * E') := by
        refine ⟨S * S' * (v24 ds' : Nat), ?_⟩
        have e : mag ds E = (S : Rat) * ((S' : Rat) * mag ds' E') := by
          rw [← h]
          rcases s1 with rfl | rfl
          · rw [show ((1 : Int) : Rat) = 1 from rfl]; grind
          · rw [show ((-1 : Int) : Rat) = -1 from rfl]; grind
        rw [e]
        unfold mag
        rw [Rat.intCast_mul, Rat.intCast_mul]
        show _ = (S : Rat) * (S' : Rat) * ((v24 ds' : Nat) : Rat) * p2 (24 * E')
        grind
      have := mag_low s f1 hm
      omega
  have a := key S S' E E' ds ds' k k' s h h0
  have b := key S' S E' E ds' ds k' k s' h.symm (by rw [← h]; exact h0)
  omega

theorem cmp_less (v1 v2 : Value) (q1 q2 : Rat) (w : World) (h1 : Rf w v1 q1) (h2 : Rf w v2 q2) (b1 : Fit q1) (b2 : Fit q2) (hq : q1 < q2) : Calls Try.prog 44 #[v1, v2] w fun e w' => e = .returned (.int .i64 (-1)) ∧ Below w.heap.size w w' := by
  have h := cmp_rf v1 v2 q1 q2 w h1 h2 b1 b2
  have e : sgq (q1 - q2) = -1 := by unfold sgq; rw [if_pos (by grind)]
  rwa [e] at h
theorem cmp_is (v1 v2 : Value) (q1 q2 : Rat) (A : Int) (w : World) (h1 : Rf w v1 q1) (h2 : Rf w v2 q2) (b1 : Fit q1) (b2 : Fit q2) (hq : sgq (q1 - q2) = A) : Calls Try.prog 44 #[v1, v2] w fun e w' => e = .returned (.int .i64 A) ∧ Below w.heap.size w w' := by
  have h := cmp_rf v1 v2 q1 q2 w h1 h2 b1 b2
  rwa [hq] at h
theorem pow_fit (n : Nat) (k : Int) (hn : n < 18446744073709551616) (h1 : -4000 ≤ k) (h2 : k ≤ 4000) : Fit ((n : Nat) * p2 k) := by
  refine Bd.mono (h := 64 + k) (l := 0 + k) ⟨?_, ?_, (n : Int), ?_⟩ (by omega) (by omega)
  · rw [p2_add]
    refine Rat.mul_lt_mul_of_pos_right ?_ (p2_pos k)
    rw [show (64 : Int) = ((64 : Nat) : Int) from rfl, p2_nat]
    exact Rat.natCast_lt_natCast.2 hn
  · have a := p2_pos (64 + k)
    have b := Rat.mul_nonneg (Rat.natCast_nonneg : (0 : Rat) ≤ (n : Nat)) (Rat.le_of_lt (p2_pos k))
    grind
  · rw [show 0 + k = k by omega]; rfl

/-- The float x is the one nearest to q, which is not below 0. -/
structure RX (q : Rat) (x r : Nat) : Prop where
  near : (q = 0 ∧ r = 0) ∨ (0 < q ∧ Near q r)
  word : x = r ∨ (x = 9223372036854775808 ∧ r = 0)
  lim : r + 1 < 9218868437227405311

end Go.Proofs.Ytglcngjllfgdpab

/- The document's side of layer 4: which points may be. -/
namespace Go.Proofs.Ytglcngjllfgdpab
open Go.RowKit Go.Shelf
attribute [local go_sem] run_store_float

theorem odd_unit {q : Rat} {l m : Int} (h : q = (m : Rat) * p2 l) (hm : m % 2 = 1) : -100 ≤ l ↔ M (U 974) q := by
  have e974 : U 974 = p2 (-100) := rfl
  rw [e974]
  constructor
  · intro hl
    refine ⟨m * ((2 ^ (l + 100).toNat : Nat) : Int), ?_⟩
    rw [h, Rat.intCast_mul, show (((2 ^ (l + 100).toNat : Nat) : Int) : Rat) = ((2 ^ (l + 100).toNat : Nat) : Rat) from rfl, ← p2_nat, Rat.mul_assoc, ← p2_add, show (((l + 100).toNat : Nat) : Int) + -100 = l by omega]
  · rintro ⟨k, hk⟩
    apply Classical.byContradiction
    intro hn
    obtain ⟨j, hj⟩ : ∃ j : Nat, -100 = l + 1 + (j : Int) := ⟨(-101 - l).toNat, by omega⟩
    have e : p2 (-100) = 2 * ((2 ^ j : Nat) : Rat) * p2 l := by
      rw [hj, p2_add, p2_add, p2_nat, p2_one]; grind
    rw [e] at hk
    have h2 : (m : Rat) * p2 l = ((k * (2 * ((2 ^ j : Nat) : Int)) : Int) : Rat) * p2 l := by
      rw [← h, hk, Rat.intCast_mul, Rat.intCast_mul, show (((2 ^ j : Nat) : Int) : Rat) = ((2 ^ j : Nat) : Rat) from rfl, show ((2 : Int) : Rat) = 2 from rfl]
      grind
    have h3 := int_eq (p2_pos l) h2
    have h4 : k * (2 * ((2 ^ j : Nat) : Int)) = 2 * (k * ((2 ^ j : Nat) : Int)) := by
      rw [← Int.mul_assoc, Int.mul_comm k 2, Int.mul_assoc]
    rw [h4] at h3
    omega

theorem crd_top {x : Nat} (hf : Fin64 x) : frung x ≤ 5057542381537067008 ↔ ab (fval x) ≤ U 1174 := by
  constructor
  · exact crd_ab
  · intro h
    rcases Nat.lt_or_ge 5057542381537067008 (frung x) with h1 | h1
    · exfalso
      have f : frung x < 9218868437227405312 := hf
      have := fval_lt h1 f
      rw [top100, ab_fval x hf] at this
      grind
    · exact h1
theorem sgq_nonpos {q : Rat} : sgq q ≤ 0 ↔ q ≤ 0 := by
  unfold sgq
  constructor
  · intro h
    split at h
    · grind
    · split at h
      · grind
      · omega
  · intro h
    split
    · omega
    · split
      · omega
      · grind

set_option maxRecDepth 100000 in
set_option maxHeartbeats 2000000 in
theorem coord_any (x : Nat) (w : World) (hx : x < 18446744073709551616) : Calls Try.prog 28 #[.float .f64 x] w fun e w' => (∃ t, e = .returned (.bool t) ∧ (t = true ↔ Crd x)) ∧ Below w.heap.size w w' := by
  rcases Nat.lt_trichotomy (frung x) 9218868437227405312 with hf | hf | hf
  · have fx : Fin64 x := hf
    obtain ⟨z, hz1, hz2⟩ := self_sub fx
    have rs : ∀ w, (binOp .sub 22 (.float .f64 x) (.float .f64 x)).run Try.prog w = .ok (.float .f64 z) w := fun w => run_float_arith w .sub _ .f64 _ _ _ hz1
    have q0 := order_nan_self fx
    have q1 := eql_zero2 x
    have HX : Hid (x < 18446744073709551616 ∧ Fin64 x) := ⟨hx, fx⟩
    clear hz1 hx hf fx
    by_cases h0 : frung x = 0
    · rw [decide_eq_true h0] at q1
      have HC : Hid (Crd x) := ⟨by omega, by rw [fval_zero_iff.2 h0]; exact M_zero _⟩
      clear h0
      go_enter Try.func28, Try.ntmps28
      go_wp2
      go_ret
      exact ⟨⟨true, rfl, fun _ => HC.out, fun _ => rfl⟩, Below.refl _ _⟩
    · rw [decide_eq_false h0] at q1
      have HN0 : Hid (fval x ≠ 0) := fun h => h0 (fval_zero_iff.1 h)
      clear h0
      go_enter Try.func28, Try.ntmps28
      go_wp2_with fail
      refine (refOf_any x _ HX.out.1).mono ?_
      rintro e w1 ⟨v1, rfl, hr1, hb1⟩
      obtain ⟨S1, a1, n1, c1, E1, rfl⟩ := hr1.agg
      rw [den_fin HX.out.2] at hr1
      have HB1 : Hid (Below w.heap.size w w1) := hb1
      have R1 : Hid (Rf w1 (.agg #[.int .i64 S1, .slice a1 n1 c1, .int .i64 E1]) (fval x)) := hr1
      have HFT : Hid (Fit (fval x)) := by have := den_Fit x; rwa [den_fin HX.out.2] at this
      clear hr1 hb1 rs q0 hz2
      have HAL : Hid (Below w1.heap.size w1 (w1.alloc (.cells #[.int .i64 S1, .slice a1 n1 c1, .int .i64 E1] 42))) := (Below.refl _ w1).alloc (Nat.le_refl _) _
      go_wp2_with fail
      refine (abs_rf _ (fval x) _ (R1.out.later HAL.out)).mono ?_
      rintro e w2 ⟨v2, rfl, hr2, hb2⟩
      have HB2 : Hid (Below w1.heap.size w1 w2) := below_step HAL.out hb2
      have R2 : Hid (Rf w2 v2 (if fval x < 0 then -fval x else fval x)) := hr2
      have X2 : Hid (BoxN w2 w1.heap.size S1 (.slice a1 n1 c1) E1) := (BoxN.new w1 S1 E1 (.slice a1 n1 c1)).later hb2
      clear hr2 hb2
      go_wp2_with fail
      refine (power_walk 1 100 _ (by omega) (by omega) (by omega)).mono ?_
      rintro e w3 ⟨v3, rfl, hr3, hb3⟩
      have R3 : Hid (Rf w3 v3 (((1 : Nat) : Rat) * p2 100) ∧ Rf w3 v2 (if fval x < 0 then -fval x else fval x)) := ⟨hr3, R2.out.later hb3⟩
      have HB3 : Hid (Below w1.heap.size w1 w3) := below_step HB2.out hb3
      have X3 : Hid (BoxN w3 w1.heap.size S1 (.slice a1 n1 c1) E1) := X2.out.later hb3
      clear hr3 hb3 R2 X2
      obtain ⟨A, hA⟩ : ∃ A, Hid (sgq ((if fval x < 0 then -fval x else fval x) - ((1 : Nat) : Rat) * p2 100) = A) := ⟨_, rfl⟩
      have HA : Hid (A ≤ 0 ↔ frung x ≤ 5057542381537067008) := by
        show A ≤ 0 ↔ _
        rw [← hA.out, sgq_nonpos, crd_top HX.out.2, show U 1174 = p2 100 from rfl, show ((1 : Nat) : Rat) = 1 from rfl]
        show ab (fval x) - 1 * p2 100 ≤ 0 ↔ ab (fval x) ≤ p2 100
        constructor <;> intro h <;> grind
      have HF1 : Hid (Fit (if fval x < 0 then -fval x else fval x)) := by
        show Fit _
        split
        · exact HFT.out.neg
        · exact HFT.out
      go_wp2_with fail
      refine (cmp_is _ _ (if fval x < 0 then -fval x else fval x) (((1 : Nat) : Rat) * p2 100) A _ R3.out.2 R3.out.1 HF1.out (pow_fit 1 100 (by omega) (by omega) (by omega)) hA.out).mono ?_
      rintro e w4 ⟨rfl, hb4⟩
      have HB4 : Hid (Below w1.heap.size w1 w4) := below_step HB3.out hb4
      obtain ⟨x0, x1, x2, _, _⟩ := (X3.out.later hb4).cells
      clear hb4 R3 X3
      by_cases hA0 : A ≤ 0
      · go_wp2_with fail
        refine (low_rf _ (fval x) _ (R1.out.later HB4.out) HN0.out HFT.out).mono ?_
        rintro e w5 ⟨⟨l, m, rfl, hl, hm⟩, hb5⟩
        have HB5 : Hid (Below w.heap.size w w5) := below_step (below_step HB1.out HB4.out) hb5
        have HR : Hid (-100 ≤ l ↔ Crd x) := by
          show -100 ≤ l ↔ Crd x
          rw [odd_unit hl hm]
          exact ⟨fun h => ⟨HA.out.1 hA0, h⟩, fun h => h.2⟩
        clear hl hm hb5 x0 x1 x2
        go_wp2
        go_ret
        exact ⟨⟨decide (-100 ≤ l), rfl, by rw [decide_eq_true_iff]; exact HR.out⟩, HB5.out⟩
      · have dA : decide (A ≤ 0) = false := decide_eq_false hA0
        have HR : Hid (¬ Crd x) := fun h => hA0 (HA.out.2 h.1)
        have HB5 : Hid (Below w.heap.size w w4) := below_step HB1.out HB4.out
        clear hA0 x0 x1 x2
        go_wp2
        go_ret
        exact ⟨⟨false, rfl, fun h => Bool.noConfusion h, fun h => absurd h HR.out⟩, HB5.out⟩
  · have HN : Hid (¬ Crd x) := fun h => by have := h.1; omega
    have hx2 : x = 9218868437227405312 ∨ x = 18442240474082181120 := by unfold frung at hf; omega
    have q0 : FloatKind.f64.format.order x x = some .eq := by rcases hx2 with rfl | rfl <;> decide +kernel
    have h2 : floatBits .sub .f64 x x = none := by rcases hx2 with rfl | rfl <;> decide +kernel
    clear hx2
    have rs := run_sub_nan x x h2
    have h3 : ∀ w, FloatKind.f64.format.order (nanW x x w) 0 = none := fun w => nan_order (nanW_nan x x w).1 0
    clear h2 hf hx
    go_enter Try.func28, Try.ntmps28
    go_wp2
    go_ret
    exact ⟨⟨false, rfl, fun h => Bool.noConfusion h, fun h => absurd h HN.out⟩, (Below.refl _ _).drew⟩
  · have HN : Hid (¬ Crd x) := fun h => by have := h.1; omega
    have q0 : FloatKind.f64.format.order x x = none := order_nan_left hf
    clear hf hx
    go_enter Try.func28, Try.ntmps28
    go_wp2
    go_ret
    exact ⟨⟨false, rfl, fun h => Bool.noConfusion h, fun h => absurd h HN.out⟩, Below.refl _ _⟩

set_option maxRecDepth 100000 in
set_option maxHeartbeats 1000000 in
theorem may_any (x y : Nat) (w : World) (hw : x < 18446744073709551616 ∧ y < 18446744073709551616) : Calls Try.prog 12 #[pv x y] w fun e w' => (∃ t, e = .returned (.bool t) ∧ (t = true ↔ Pt x y)) ∧ Below w.heap.size w w' := by
  have HW : Hid (x < 18446744073709551616 ∧ y < 18446744073709551616) := hw
  have HAL : Hid (Below w.heap.size w (w.alloc (.cells #[.float .f64 x, .float .f64 y] 24))) := (Below.refl _ w).alloc (Nat.le_refl _) _
  clear hw
  go_enter Try.func12, Try.ntmps12
  go_wp2_with fail
  refine (coord_any x _ HW.out.1).mono ?_
  rintro e w1 ⟨⟨t, rfl, ht⟩, hb1⟩
  have d1 : w1.cell? ⟨w.heap.size, 1, none⟩ = some (.float .f64 y) := box_cell hb1 (by go_simp)
  have HB1 : Hid (Below w.heap.size w w1) := below_step HAL.out hb1
  have HT : Hid (t = true ↔ Crd x) := ht
  clear ht hb1
  cases t
  · go_wp2
    go_ret
    exact ⟨⟨false, rfl, fun h => Bool.noConfusion h, fun h => Bool.noConfusion (HT.out.2 h.1)⟩, HB1.out⟩
  · have HX : Hid (Crd x) := HT.out.1 rfl
    go_wp2_with fail
    refine (coord_any y _ HW.out.2).mono ?_
    rintro e w2 ⟨⟨t, rfl, ht⟩, hb2⟩
    have HB2 : Hid (Below w.heap.size w w2) := below_step HB1.out hb2
    have HR : Hid (t = true ↔ Pt x y) := by
      show t = true ↔ _
      rw [ht]
      exact ⟨fun h => ⟨HX.out, h⟩, fun h => h.2⟩
    clear ht hb2 d1
    go_wp2
    go_ret
    exact ⟨⟨t, rfl, HR.out⟩, HB2.out⟩

end Go.Proofs.Ytglcngjllfgdpab
