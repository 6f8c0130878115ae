/- Own texts, put together: Oo Ok. -/
import Derived.Test.YtglcngjllfgdpabQ12
/- The document's side of layer 4: Less, Sum, Sign. -/
namespace Go.Proofs.Ytglcngjllfgdpab
open Go.RowKit Go.Shelf
attribute [local go_sem] run_store_float

theorem fval_fit (x : Nat) (h : Fin64 x) : Fit (fval x) := by have := den_Fit x; rwa [den_fin h] at this

set_option maxRecDepth 100000 in
set_option maxHeartbeats 2000000 in
theorem less_any (x y : Nat) (w : World) (hx : x < 18446744073709551616) (hy : y < 18446744073709551616) (fx : Fin64 x) (fy : Fin64 y) :
    Calls Try.prog 33 #[.float .f64 x, .float .f64 y] w fun e w' => RfR w w' (fval x - fval y) e := by
  have H : Hid ((x < 18446744073709551616 ∧ y < 18446744073709551616) ∧ Fin64 x ∧ Fin64 y) := ⟨⟨hx, hy⟩, fx, fy⟩
  clear hx hy fx fy
  have HAL : Hid (Below w.heap.size w (w.alloc (.cells #[.int .i64 0, .slice none 0 0, .int .i64 0] 42))) := (Below.refl _ w).alloc (Nat.le_refl _) _
  go_enter Try.func33, Try.ntmps33
  go_wp2_with fail
  refine (refOf_any x _ H.out.1.1).mono ?_
  rintro e w1 ⟨v1, rfl, hr1, hb1⟩
  rw [den_fin H.out.2.1] at hr1
  have R1 : Hid (Rf w1 v1 (fval x)) := hr1
  have HB1 : Hid (Below w.heap.size w w1) := below_step HAL.out hb1
  have X1 : Hid (BoxN w1 w.heap.size 0 (.slice none 0 0) 0) := (BoxN.new w 0 0 _).later hb1
  clear hr1 hb1
  go_wp2_with fail
  refine (refOf_any y _ H.out.1.2).mono ?_
  rintro e w2 ⟨v2, rfl, hr2, hb2⟩
  rw [den_fin H.out.2.2] at hr2
  have R2 : Hid (Rf w2 v2 (fval y) ∧ Rf w2 v1 (fval x)) := ⟨hr2, R1.out.later hb2⟩
  have HB2 : Hid (Below w.heap.size w w2) := below_step HB1.out hb2
  have X2 : Hid (BoxN w2 w.heap.size 0 (.slice none 0 0) 0) := X1.out.later hb2
  clear hr2 hb2 R1 X1
  go_wp2_with fail
  refine (sub_rf _ _ (fval x) (fval y) _ R2.out.2 R2.out.1 (fval_fit x H.out.2.1) (fval_fit y H.out.2.2)).mono ?_
  rintro e w3 ⟨v3, rfl, hr3, hb3⟩
  obtain ⟨S3, a3, n3, c3, E3, rfl⟩ := hr3.agg
  have R3 : Hid (Rf w3 (.agg #[.int .i64 S3, .slice a3 n3 c3, .int .i64 E3]) (fval x - fval y)) := hr3
  have HB3 : Hid (Below w.heap.size w w3) := below_step HB2.out hb3
  have X3 : Hid (BoxN w3 w.heap.size 0 (.slice none 0 0) 0) := X2.out.later hb3
  clear hr3 hb3 R2 X2
  obtain ⟨t0, t1, t2, tf, _⟩ := X3.out.cells
  have tf0 := tf 0
  have tf1 := tf 1
  have tf2 := tf 2
  clear tf
  go_wp2
  have Y := (X3.out.set3 (S' := S3) (sv' := .slice a3 n3 c3) (E' := E3)).cells
  refine bodyPost_ret (v := .agg #[.int .i64 S3, .slice a3 n3 c3, .int .i64 E3]) (by simp [results, Try.results33, go_sem, Y.1, Y.2.1, Y.2.2.1]) rfl ?_
  refine ⟨_, rfl, R3.out.boxed (other_box X3.out) _ _ _, ?_⟩
  exact ((HB3.out.setCell (Nat.le_refl _) _).setCell (Nat.le_refl _) _).setCell (Nat.le_refl _) _

theorem keepS {w W W' : World} {q1 q2 q3 q4 q5 q6 : Addr} {x1 x2 x3 x4 x5 x6 : Value} {b : Nat} (h : W.cell? q1 = some x1 ∧ W.cell? q2 = some x2 ∧ W.cell? q3 = some x3 ∧ W.cell? q4 = some x4 ∧ W.cell? q5 = some x5 ∧ W.cell? q6 = some x6 ∧ (∃ S E v, BoxN W b S v E) ∧ Below w.heap.size w W) (hb : Below W.heap.size W W') :
    W'.cell? q1 = some x1 ∧ W'.cell? q2 = some x2 ∧ W'.cell? q3 = some x3 ∧ W'.cell? q4 = some x4 ∧ W'.cell? q5 = some x5 ∧ W'.cell? q6 = some x6 ∧ (∃ S E v, BoxN W' b S v E) ∧ Below w.heap.size w W' :=
  ⟨box_cell hb h.1, box_cell hb h.2.1, box_cell hb h.2.2.1, box_cell hb h.2.2.2.1, box_cell hb h.2.2.2.2.1, box_cell hb h.2.2.2.2.2.1, (by obtain ⟨S, E, v, hx⟩ := h.2.2.2.2.2.2.1; exact ⟨S, E, v, hx.later hb⟩), below_step h.2.2.2.2.2.2.2 hb⟩
theorem fval_bd2 {x : Nat} (h : Fin64 x) : Bd 1024 (-1074) (fval x) := by have := den_fit x; rwa [den_fin h] at this
theorem fit_diff {x y : Nat} (hx : Fin64 x) (hy : Fin64 y) : Fit (fval x - fval y) := ((fval_bd2 hx).sub (fval_bd2 hy)).mono (by omega) (by omega)
theorem fit_prod {x y z v : Nat} (hx : Fin64 x) (hy : Fin64 y) (hz : Fin64 z) (hv : Fin64 v) : Fit ((fval x - fval y) * (fval z - fval v)) := (((fval_bd2 hx).sub (fval_bd2 hy)).mul ((fval_bd2 hz).sub (fval_bd2 hv))).mono (by omega) (by omega)

set_option maxRecDepth 100000 in
set_option maxHeartbeats 4000000 in
theorem sum3_rf (ax ay bx by' cx cy : Nat) (w : World) (hw : W6 ax ay bx by' cx cy) (hp : P3 ax ay bx by' cx cy) :
    Calls Try.prog 23 #[pv ax ay, pv bx by', pv cx cy] w fun e w' => RfR w w' (S3 ax ay bx by' cx cy) e := by
  have HW : Hid (W6 ax ay bx by' cx cy) := hw
  have HP : Hid (P3 ax ay bx by' cx cy) := hp
  clear hw hp
  go_enter Try.func23, Try.ntmps23
  go_wp2_with fail
  have hS0 := B3.start w ax ay bx by' cx cy
  obtain ⟨W3, hW3⟩ : ∃ W3, W3 = ((w.alloc (.cells #[.float .f64 ax, .float .f64 ay] 24)).alloc (.cells #[.float .f64 bx, .float .f64 by'] 24)).alloc (.cells #[.float .f64 cx, .float .f64 cy] 24) := ⟨_, rfl⟩
  have hsz : W3.heap.size = w.heap.size + 1 + 1 + 1 := by rw [hW3]; simp
  rw [← hW3] at hS0 ⊢
  have hA : Below W3.heap.size W3 (W3.alloc (.cells #[.int .i64 0, .slice none 0 0, .int .i64 0] 42)) := (Below.refl _ W3).alloc (Nat.le_refl _) _
  have hB := hS0.later hA
  have hX := BoxN.new W3 0 0 (.slice none 0 0)
  rw [hsz] at hX
  obtain ⟨W0, hW0⟩ : ∃ W0, W0 = W3.alloc (.cells #[.int .i64 0, .slice none 0 0, .int .i64 0] 42) := ⟨_, rfl⟩
  rw [← hW0] at hB hX ⊢
  have HB0 : Hid (Below w.heap.size w W0) := hB.bel
  have HX0 : Hid (BoxN W0 (w.heap.size + 1 + 1 + 1) 0 (.slice none 0 0) 0) := hX
  obtain ⟨za0, za1, zb0, zb1, zc0, zc1, _⟩ := hB
  clear hX hA hS0 hW0 hW3 hsz
  refine wp_region_held_drew (S := (fun W => W.cell? ⟨w.heap.size, 0, none⟩ = some (.float .f64 ax) ∧ W.cell? ⟨w.heap.size, 1, none⟩ = some (.float .f64 ay) ∧ W.cell? ⟨w.heap.size + 1, 0, none⟩ = some (.float .f64 bx) ∧ W.cell? ⟨w.heap.size + 1, 1, none⟩ = some (.float .f64 by') ∧ W.cell? ⟨w.heap.size + 1 + 1, 0, none⟩ = some (.float .f64 cx) ∧ W.cell? ⟨w.heap.size + 1 + 1, 1, none⟩ = some (.float .f64 cy) ∧ (∃ S' E' v', BoxN W (w.heap.size + 1 + 1 + 1) S' v' E') ∧ Below w.heap.size w W)) (by kernel_rfl) ⟨za0, za1, zb0, zb1, zc0, zc1, ⟨0, 0, _, HX0.out⟩, HB0.out.drew⟩ (fun hS => ?_)
  refine take_at (i := 0) (d := some 7) (v := .pointer (some ⟨w.heap.size + 1, 0, none⟩)) (by kernel_rfl) (by kernel_rfl) (by kernel_rfl) (by kernel_rfl) (fun _ _ _ h => h) ?_ hS ?_
  · intro o ho
    simp only [List.getElem?_toArray, List.getElem?_cons_zero, Option.some.injEq] at ho
    subst ho
    refine Or.inl ⟨by rfl, ?_⟩
    intro w hSw
    (try dsimp only at hSw)
    go_simp
  simp only [Act.put, List.setIfInBounds_toArray, List.set_cons_zero, List.set_cons_succ]
  refine take_at (i := 1) (d := some 8) (v := .float .f64 bx) (by kernel_rfl) (by kernel_rfl) (by kernel_rfl) (by kernel_rfl) (fun _ _ _ h => h) ?_ hS ?_
  · intro o ho
    simp only [List.getElem?_toArray, List.getElem?_cons_succ, List.getElem?_cons_zero, Option.some.injEq] at ho
    subst ho
    refine Or.inl ⟨by rfl, ?_⟩
    intro w hSw
    (try dsimp only at hSw)
    go_simp
  simp only [Act.put, List.setIfInBounds_toArray, List.set_cons_zero, List.set_cons_succ]
  refine take_at (i := 2) (d := some 9) (v := .pointer (some ⟨w.heap.size, 0, none⟩)) (by kernel_rfl) (by kernel_rfl) (by kernel_rfl) (by kernel_rfl) (fun _ _ _ h => h) ?_ hS ?_
  · intro o ho
    simp only [List.getElem?_toArray, List.getElem?_cons_succ, List.getElem?_cons_zero, Option.some.injEq] at ho
    subst ho
    refine Or.inl ⟨by rfl, ?_⟩
    intro w hSw
    (try dsimp only at hSw)
    go_simp
  simp only [Act.put, List.setIfInBounds_toArray, List.set_cons_zero, List.set_cons_succ]
  refine take_at (i := 3) (d := some 10) (v := .float .f64 ax) (by kernel_rfl) (by kernel_rfl) (by kernel_rfl) (by kernel_rfl) (fun _ _ _ h => h) ?_ hS ?_
  · intro o ho
    simp only [List.getElem?_toArray, List.getElem?_cons_succ, List.getElem?_cons_zero, Option.some.injEq] at ho
    subst ho
    refine Or.inl ⟨by rfl, ?_⟩
    intro w hSw
    (try dsimp only at hSw)
    go_simp
  simp only [Act.put, List.setIfInBounds_toArray, List.set_cons_zero, List.set_cons_succ]
  refine take_at (i := 5) (d := some 12) (v := .pointer (some ⟨w.heap.size + 1 + 1, 1, none⟩)) (by kernel_rfl) (by kernel_rfl) (by kernel_rfl) (by kernel_rfl) (fun _ _ _ h => h) ?_ hS ?_
  · intro o ho
    simp only [List.getElem?_toArray, List.getElem?_cons_succ, List.getElem?_cons_zero, Option.some.injEq] at ho
    subst ho
    refine Or.inl ⟨by rfl, ?_⟩
    intro w hSw
    (try dsimp only at hSw)
    go_simp
  simp only [Act.put, List.setIfInBounds_toArray, List.set_cons_zero, List.set_cons_succ]
  refine take_at (i := 6) (d := some 13) (v := .float .f64 cy) (by kernel_rfl) (by kernel_rfl) (by kernel_rfl) (by kernel_rfl) (fun _ _ _ h => h) ?_ hS ?_
  · intro o ho
    simp only [List.getElem?_toArray, List.getElem?_cons_succ, List.getElem?_cons_zero, Option.some.injEq] at ho
    subst ho
    refine Or.inl ⟨by rfl, ?_⟩
    intro w hSw
    (try dsimp only at hSw)
    go_simp
  simp only [Act.put, List.setIfInBounds_toArray, List.set_cons_zero, List.set_cons_succ]
  refine take_at (i := 7) (d := some 14) (v := .pointer (some ⟨w.heap.size, 1, none⟩)) (by kernel_rfl) (by kernel_rfl) (by kernel_rfl) (by kernel_rfl) (fun _ _ _ h => h) ?_ hS ?_
  · intro o ho
    simp only [List.getElem?_toArray, List.getElem?_cons_succ, List.getElem?_cons_zero, Option.some.injEq] at ho
    subst ho
    refine Or.inl ⟨by rfl, ?_⟩
    intro w hSw
    (try dsimp only at hSw)
    go_simp
  simp only [Act.put, List.setIfInBounds_toArray, List.set_cons_zero, List.set_cons_succ]
  refine take_at (i := 8) (d := some 15) (v := .float .f64 ay) (by kernel_rfl) (by kernel_rfl) (by kernel_rfl) (by kernel_rfl) (fun _ _ _ h => h) ?_ hS ?_
  · intro o ho
    simp only [List.getElem?_toArray, List.getElem?_cons_succ, List.getElem?_cons_zero, Option.some.injEq] at ho
    subst ho
    refine Or.inl ⟨by rfl, ?_⟩
    intro w hSw
    (try dsimp only at hSw)
    go_simp
  simp only [Act.put, List.setIfInBounds_toArray, List.set_cons_zero, List.set_cons_succ]
  refine take_at (i := 11) (d := some 18) (v := .pointer (some ⟨w.heap.size + 1, 1, none⟩)) (by kernel_rfl) (by kernel_rfl) (by kernel_rfl) (by kernel_rfl) (fun _ _ _ h => h) ?_ hS ?_
  · intro o ho
    simp only [List.getElem?_toArray, List.getElem?_cons_succ, List.getElem?_cons_zero, Option.some.injEq] at ho
    subst ho
    refine Or.inl ⟨by rfl, ?_⟩
    intro w hSw
    (try dsimp only at hSw)
    go_simp
  simp only [Act.put, List.setIfInBounds_toArray, List.set_cons_zero, List.set_cons_succ]
  refine take_at (i := 12) (d := some 19) (v := .float .f64 by') (by kernel_rfl) (by kernel_rfl) (by kernel_rfl) (by kernel_rfl) (fun _ _ _ h => h) ?_ hS ?_
  · intro o ho
    simp only [List.getElem?_toArray, List.getElem?_cons_succ, List.getElem?_cons_zero, Option.some.injEq] at ho
    subst ho
    refine Or.inl ⟨by rfl, ?_⟩
    intro w hSw
    (try dsimp only at hSw)
    go_simp
  simp only [Act.put, List.setIfInBounds_toArray, List.set_cons_zero, List.set_cons_succ]
  refine take_at (i := 13) (d := some 20) (v := .pointer (some ⟨w.heap.size, 1, none⟩)) (by kernel_rfl) (by kernel_rfl) (by kernel_rfl) (by kernel_rfl) (fun _ _ _ h => h) ?_ hS ?_
  · intro o ho
    simp only [List.getElem?_toArray, List.getElem?_cons_succ, List.getElem?_cons_zero, Option.some.injEq] at ho
    subst ho
    refine Or.inl ⟨by rfl, ?_⟩
    intro w hSw
    (try dsimp only at hSw)
    go_simp
  simp only [Act.put, List.setIfInBounds_toArray, List.set_cons_zero, List.set_cons_succ]
  refine take_at (i := 14) (d := some 21) (v := .float .f64 ay) (by kernel_rfl) (by kernel_rfl) (by kernel_rfl) (by kernel_rfl) (fun _ _ _ h => h) ?_ hS ?_
  · intro o ho
    simp only [List.getElem?_toArray, List.getElem?_cons_succ, List.getElem?_cons_zero, Option.some.injEq] at ho
    subst ho
    refine Or.inl ⟨by rfl, ?_⟩
    intro w hSw
    (try dsimp only at hSw)
    go_simp
  simp only [Act.put, List.setIfInBounds_toArray, List.set_cons_zero, List.set_cons_succ]
  refine take_at (i := 16) (d := some 23) (v := .pointer (some ⟨w.heap.size + 1 + 1, 0, none⟩)) (by kernel_rfl) (by kernel_rfl) (by kernel_rfl) (by kernel_rfl) (fun _ _ _ h => h) ?_ hS ?_
  · intro o ho
    simp only [List.getElem?_toArray, List.getElem?_cons_succ, List.getElem?_cons_zero, Option.some.injEq] at ho
    subst ho
    refine Or.inl ⟨by rfl, ?_⟩
    intro w hSw
    (try dsimp only at hSw)
    go_simp
  simp only [Act.put, List.setIfInBounds_toArray, List.set_cons_zero, List.set_cons_succ]
  refine take_at (i := 17) (d := some 24) (v := .float .f64 cx) (by kernel_rfl) (by kernel_rfl) (by kernel_rfl) (by kernel_rfl) (fun _ _ _ h => h) ?_ hS ?_
  · intro o ho
    simp only [List.getElem?_toArray, List.getElem?_cons_succ, List.getElem?_cons_zero, Option.some.injEq] at ho
    subst ho
    refine Or.inl ⟨by rfl, ?_⟩
    intro w hSw
    (try dsimp only at hSw)
    go_simp
  simp only [Act.put, List.setIfInBounds_toArray, List.set_cons_zero, List.set_cons_succ]
  refine take_at (i := 18) (d := some 25) (v := .pointer (some ⟨w.heap.size, 0, none⟩)) (by kernel_rfl) (by kernel_rfl) (by kernel_rfl) (by kernel_rfl) (fun _ _ _ h => h) ?_ hS ?_
  · intro o ho
    simp only [List.getElem?_toArray, List.getElem?_cons_succ, List.getElem?_cons_zero, Option.some.injEq] at ho
    subst ho
    refine Or.inl ⟨by rfl, ?_⟩
    intro w hSw
    (try dsimp only at hSw)
    go_simp
  simp only [Act.put, List.setIfInBounds_toArray, List.set_cons_zero, List.set_cons_succ]
  refine take_at (i := 19) (d := some 26) (v := .float .f64 ax) (by kernel_rfl) (by kernel_rfl) (by kernel_rfl) (by kernel_rfl) (fun _ _ _ h => h) ?_ hS ?_
  · intro o ho
    simp only [List.getElem?_toArray, List.getElem?_cons_succ, List.getElem?_cons_zero, Option.some.injEq] at ho
    subst ho
    refine Or.inl ⟨by rfl, ?_⟩
    intro w hSw
    (try dsimp only at hSw)
    go_simp
  simp only [Act.put, List.setIfInBounds_toArray, List.set_cons_zero, List.set_cons_succ]
  refine call_at 4 (by kernel_rfl) (by kernel_rfl) ?_
  intro o ho
  simp only [List.getElem?_toArray, List.getElem?_cons_succ, List.getElem?_cons_zero, Option.some.injEq] at ho
  subst ho
  intro KF hK
  go_simp
  refine (less_any bx ax _ HW.out.2.1.1 HW.out.1.1 (crd_fin HP.out.2.1.1.1) (crd_fin HP.out.1.1.1)).mono ?_
  rintro e wx ⟨v1, rfl, hr1, hbx⟩
  go_wp2_with fail
  refine hK.out _ _ (keepS hS hbx) ?_
  clear hS hbx
  intro hS
  clear hK KF
  try simp only [Act.put, List.setIfInBounds_toArray, List.set_cons_zero, List.set_cons_succ]
  refine call_at 9 (by kernel_rfl) (by kernel_rfl) ?_
  intro o ho
  simp only [List.getElem?_toArray, List.getElem?_cons_succ, List.getElem?_cons_zero, Option.some.injEq] at ho
  subst ho
  intro KF hK
  go_simp
  refine (less_any cy ay _ HW.out.2.2.2 HW.out.1.2 (crd_fin HP.out.2.2.2.1) (crd_fin HP.out.1.2.1)).mono ?_
  rintro e wx ⟨v2, rfl, hr2, hbx⟩
  have hr1 : Rf wx v1 (fval bx - fval ax) := hr1.later hbx
  go_wp2_with fail
  refine hK.out _ _ (keepS hS hbx) ?_
  clear hS hbx
  intro hS
  clear hK KF
  try simp only [Act.put, List.setIfInBounds_toArray, List.set_cons_zero, List.set_cons_succ]
  refine call_at 10 (by kernel_rfl) (by kernel_rfl) ?_
  intro o ho
  simp only [List.getElem?_toArray, List.getElem?_cons_succ, List.getElem?_cons_zero, Option.some.injEq] at ho
  subst ho
  intro KF hK
  go_simp
  refine (mul_rf v1 v2 (fval bx - fval ax) (fval cy - fval ay) _ hr1 hr2 (fit_diff (crd_fin HP.out.2.1.1.1) (crd_fin HP.out.1.1.1)) (fit_diff (crd_fin HP.out.2.2.2.1) (crd_fin HP.out.1.2.1))).mono ?_
  rintro e wx ⟨v5, rfl, hr5, hbx⟩
  go_wp2_with fail
  refine hK.out _ _ (keepS hS hbx) ?_
  clear hS hbx
  intro hS
  clear hK KF
  try simp only [Act.put, List.setIfInBounds_toArray, List.set_cons_zero, List.set_cons_succ]
  refine call_at 15 (by kernel_rfl) (by kernel_rfl) ?_
  intro o ho
  simp only [List.getElem?_toArray, List.getElem?_cons_succ, List.getElem?_cons_zero, Option.some.injEq] at ho
  subst ho
  intro KF hK
  go_simp
  refine (less_any by' ay _ HW.out.2.1.2 HW.out.1.2 (crd_fin HP.out.2.1.2.1) (crd_fin HP.out.1.2.1)).mono ?_
  rintro e wx ⟨v3, rfl, hr3, hbx⟩
  have hr5 : Rf wx v5 ((fval bx - fval ax) * (fval cy - fval ay)) := hr5.later hbx
  go_wp2_with fail
  refine hK.out _ _ (keepS hS hbx) ?_
  clear hS hbx
  intro hS
  clear hK KF
  try simp only [Act.put, List.setIfInBounds_toArray, List.set_cons_zero, List.set_cons_succ]
  refine call_at 20 (by kernel_rfl) (by kernel_rfl) ?_
  intro o ho
  simp only [List.getElem?_toArray, List.getElem?_cons_succ, List.getElem?_cons_zero, Option.some.injEq] at ho
  subst ho
  intro KF hK
  go_simp
  refine (less_any cx ax _ HW.out.2.2.1 HW.out.1.1 (crd_fin HP.out.2.2.1.1) (crd_fin HP.out.1.1.1)).mono ?_
  rintro e wx ⟨v4, rfl, hr4, hbx⟩
  have hr5 : Rf wx v5 ((fval bx - fval ax) * (fval cy - fval ay)) := hr5.later hbx
  have hr3 : Rf wx v3 (fval by' - fval ay) := hr3.later hbx
  go_wp2_with fail
  refine hK.out _ _ (keepS hS hbx) ?_
  clear hS hbx
  intro hS
  clear hK KF
  try simp only [Act.put, List.setIfInBounds_toArray, List.set_cons_zero, List.set_cons_succ]
  refine call_at 21 (by kernel_rfl) (by kernel_rfl) ?_
  intro o ho
  simp only [List.getElem?_toArray, List.getElem?_cons_succ, List.getElem?_cons_zero, Option.some.injEq] at ho
  subst ho
  intro KF hK
  go_simp
  refine (mul_rf v3 v4 (fval by' - fval ay) (fval cx - fval ax) _ hr3 hr4 (fit_diff (crd_fin HP.out.2.1.2.1) (crd_fin HP.out.1.2.1)) (fit_diff (crd_fin HP.out.2.2.1.1) (crd_fin HP.out.1.1.1))).mono ?_
  rintro e wx ⟨v6, rfl, hr6, hbx⟩
  have hr5 : Rf wx v5 ((fval bx - fval ax) * (fval cy - fval ay)) := hr5.later hbx
  go_wp2_with fail
  refine hK.out _ _ (keepS hS hbx) ?_
  clear hS hbx
  intro hS
  clear hK KF
  try simp only [Act.put, List.setIfInBounds_toArray, List.set_cons_zero, List.set_cons_succ]
  refine call_at 22 (by kernel_rfl) (by kernel_rfl) ?_
  intro o ho
  simp only [List.getElem?_toArray, List.getElem?_cons_succ, List.getElem?_cons_zero, Option.some.injEq] at ho
  subst ho
  intro KF hK
  go_simp
  refine (sub_rf v5 v6 ((fval bx - fval ax) * (fval cy - fval ay)) ((fval by' - fval ay) * (fval cx - fval ax)) _ hr5 hr6 (fit_prod (crd_fin HP.out.2.1.1.1) (crd_fin HP.out.1.1.1) (crd_fin HP.out.2.2.2.1) (crd_fin HP.out.1.2.1)) (fit_prod (crd_fin HP.out.2.1.2.1) (crd_fin HP.out.1.2.1) (crd_fin HP.out.2.2.1.1) (crd_fin HP.out.1.1.1))).mono ?_
  rintro e wx ⟨v7, rfl, hr7, hbx⟩
  obtain ⟨S7, a7, n7, c7, E7, rfl⟩ := hr7.agg
  go_wp2_with fail
  refine hK.out _ _ (keepS hS hbx) ?_
  clear hS hbx
  intro hS
  clear hK KF
  try simp only [Act.put, List.setIfInBounds_toArray, List.set_cons_zero, List.set_cons_succ]
  have HR7 : Hid (Rf _ (.agg #[.int .i64 S7, .slice a7 n7 c7, .int .i64 E7]) (S3 ax ay bx by' cx cy)) := hr7
  clear hr7
  obtain ⟨S0, E0, v0, hX⟩ := hS.2.2.2.2.2.2.1
  obtain ⟨t0, t1, t2, tf, _⟩ := hX.cells
  have tf0 := tf 0
  have tf1 := tf 1
  have tf2 := tf 2
  have HSX : Hid (Below w.heap.size w wx) := hS.2.2.2.2.2.2.2
  have HX : Hid (BoxN wx (w.heap.size + 1 + 1 + 1) S0 v0 E0) := hX
  obtain ⟨y0, y1, y2, y3, y4, y5, _⟩ := hS
  clear tf hX
  refine call_at 23 (by kernel_rfl) (by kernel_rfl) ?_
  intro o ho
  simp only [List.getElem?_toArray, List.getElem?_cons_succ, List.getElem?_cons_zero, Option.some.injEq] at ho
  subst ho
  intro KF hK
  go_simp
  go_wp2_with fail
  have hb3 : Below w.heap.size w (((wx.setCell ⟨w.heap.size + 1 + 1 + 1, 0, none⟩ (.int .i64 S7)).setCell ⟨w.heap.size + 1 + 1 + 1, 1, none⟩ (.slice a7 n7 c7)).setCell ⟨w.heap.size + 1 + 1 + 1, 2, none⟩ (.int .i64 E7)) := ((HSX.out.setCell (by show w.heap.size ≤ w.heap.size + 1 + 1 + 1; omega) _).setCell (by show w.heap.size ≤ w.heap.size + 1 + 1 + 1; omega) _).setCell (by show w.heap.size ≤ w.heap.size + 1 + 1 + 1; omega) _
  refine hK.out _ _ ⟨by go_simp, by go_simp, by go_simp, by go_simp, by go_simp, by go_simp, ⟨_, _, _, HX.out.set3⟩, hb3⟩ ?_
  intro _
  clear hK KF
  try simp only [Act.put, List.setIfInBounds_toArray, List.set_cons_zero, List.set_cons_succ]
  refine wpAnyH_done (by kernel_rfl) ?_ _
  have HBF : Hid (Below w.heap.size w (((wx.setCell ⟨w.heap.size + 1 + 1 + 1, 0, none⟩ (.int .i64 S7)).setCell ⟨w.heap.size + 1 + 1 + 1, 1, none⟩ (.slice a7 n7 c7)).setCell ⟨w.heap.size + 1 + 1 + 1, 2, none⟩ (.int .i64 E7))) := hb3
  have Y := (HX.out.set3 (S' := S7) (sv' := .slice a7 n7 c7) (E' := E7)).cells
  clear hb3
  go_wp2
  refine bodyPost_ret (v := .agg #[.int .i64 S7, .slice a7 n7 c7, .int .i64 E7]) (by simp [results, Try.results23, go_sem, Y.1, Y.2.1, Y.2.2.1]) rfl ?_
  exact ⟨_, rfl, HR7.out.boxed (other_box HX.out) _ _ _, HBF.out⟩


theorem sign_rf (v : Value) (q : Rat) (w : World) (h : Rf w v q) : Calls Try.prog 22 #[v] w fun e w' => e = .returned (.int .i64 (sgq q)) ∧ Below w.heap.size w w' := by
  obtain ⟨S, a, n, c, E, rfl, hs⟩ := h.sgn
  have HS : Hid (S = sgq q) := sgq_of hs
  clear hs h
  go_enter Try.func22, Try.ntmps22
  go_wp2
  go_ret
  exact ⟨by rw [← HS.out]; rfl, (Below.refl _ _).alloc (Nat.le_refl _) _⟩

set_option maxRecDepth 100000 in
set_option maxHeartbeats 2000000 in
theorem ref4Sign (ax ay bx by' cx cy : Nat) (w : World) (hw : W6 ax ay bx by' cx cy) :
    Calls Try.prog 9 #[pv ax ay, pv bx by', pv cx cy] w fun e w' => e = .returned (.int .i64 (sg3 ax ay bx by' cx cy)) ∧ Below w.heap.size w w' := by
  have HW : Hid (W6 ax ay bx by' cx cy) := hw
  clear hw
  have HS : Hid (B3 w (((w.alloc (.cells #[.float .f64 ax, .float .f64 ay] 24)).alloc (.cells #[.float .f64 bx, .float .f64 by'] 24)).alloc (.cells #[.float .f64 cx, .float .f64 cy] 24)) ax ay bx by' cx cy) := B3.start w ax ay bx by' cx cy
  go_enter Try.func9, Try.ntmps9
  go_wp2_with fail
  refine (may_any ax ay _ HW.out.1).mono ?_
  rintro e w1 ⟨⟨t, rfl, ht⟩, hb⟩
  have H1 : Hid (B3 w w1 ax ay bx by' cx cy) := HS.out.later hb
  have HT1 : Hid (t = true ↔ Pt ax ay) := ht
  obtain ⟨x0, x1, x2, x3, x4, x5, _⟩ := H1.out
  clear ht hb
  cases t
  · go_wp2
    go_ret
    exact ⟨by rw [sg3_no (fun h => Bool.noConfusion (HT1.out.2 h.1))]; rfl, H1.out.bel⟩
  · have HA : Hid (Pt ax ay) := HT1.out.1 rfl
    go_wp2_with fail
    refine (may_any bx by' _ HW.out.2.1).mono ?_
    rintro e w2 ⟨⟨t, rfl, ht⟩, hb⟩
    have H2 : Hid (B3 w w2 ax ay bx by' cx cy) := H1.out.later hb
    have HT2 : Hid (t = true ↔ Pt bx by') := ht
    clear ht hb x0 x1 x2 x3 x4 x5
    obtain ⟨x0, x1, x2, x3, x4, x5, _⟩ := H2.out
    cases t
    · go_wp2
      go_ret
      exact ⟨by rw [sg3_no (fun h => Bool.noConfusion (HT2.out.2 h.2.1))]; rfl, H2.out.bel⟩
    · have HB : Hid (Pt bx by') := HT2.out.1 rfl
      go_wp2_with fail
      refine (may_any cx cy _ HW.out.2.2).mono ?_
      rintro e w3 ⟨⟨t, rfl, ht⟩, hb⟩
      have H3 : Hid (B3 w w3 ax ay bx by' cx cy) := H2.out.later hb
      have HT3 : Hid (t = true ↔ Pt cx cy) := ht
      clear ht hb x0 x1 x2 x3 x4 x5
      obtain ⟨x0, x1, x2, x3, x4, x5, _⟩ := H3.out
      cases t
      · go_wp2
        go_ret
        exact ⟨by rw [sg3_no (fun h => Bool.noConfusion (HT3.out.2 h.2.2))]; rfl, H3.out.bel⟩
      · have HP : Hid (P3 ax ay bx by' cx cy) := ⟨HA.out, HB.out, HT3.out.1 rfl⟩
        go_wp2_with fail
        refine (sum3_rf ax ay bx by' cx cy _ HW.out HP.out).mono ?_
        rintro e w4 ⟨v4, rfl, hr4, hb4⟩
        have R4 : Hid (Rf w4 v4 (S3 ax ay bx by' cx cy) ∧ Below w.heap.size w w4) := ⟨hr4, below_step H3.out.bel hb4⟩
        clear hr4 hb4
        go_wp2_with fail
        refine (sign_rf v4 (S3 ax ay bx by' cx cy) _ R4.out.1).mono ?_
        rintro e w5 ⟨rfl, hb5⟩
        have HB5 : Hid (Below w.heap.size w w5) := below_step R4.out.2 hb5
        clear hb5 x0 x1 x2 x3 x4 x5
        go_wp2
        go_ret
        exact ⟨by rw [sg3_yes HP.out]; rfl, HB5.out⟩

end Go.Proofs.Ytglcngjllfgdpab

/- The statements' helpers of package orient: at, left, awake. -/
namespace Go.Proofs.Ytglcngjllfgdpab
open Go.RowKit Go.Shelf
attribute [local go_sem] run_store_float

theorem keepX4 {w W W' : World} {q1 q2 q3 q4 : Addr} {x1 x2 x3 x4 : Value} (h : W.cell? q1 = some x1 ∧ W.cell? q2 = some x2 ∧ W.cell? q3 = some x3 ∧ W.cell? q4 = some x4 ∧ Below w.heap.size w W) (hb : Below W.heap.size W W') : W'.cell? q1 = some x1 ∧ W'.cell? q2 = some x2 ∧ W'.cell? q3 = some x3 ∧ W'.cell? q4 = some x4 ∧ Below w.heap.size w W' :=
  ⟨box_cell hb h.1, box_cell hb h.2.1, box_cell hb h.2.2.1, box_cell hb h.2.2.2.1, below_step h.2.2.2.2 hb⟩

set_option maxRecDepth 100000 in
theorem at_any (x y : Nat) (w : World) : Calls Try.prog 21 #[.float .f64 x, .float .f64 y] w fun e w' => e = .returned (pv x y) ∧ Below w.heap.size w w' := by
  go_enter Try.func21, Try.ntmps21
  go_wp2
  refine bodyPost_ret (v := pv x y) (by simp [results, Try.results21, go_sem]) rfl ?_
  exact ⟨rfl, (Below.refl _ _).alloc (Nat.le_refl _) _⟩

set_option maxRecDepth 100000 in
theorem left_any (ax ay bx by' cx cy : Nat) (w : World) (hw : W6 ax ay bx by' cx cy) :
    Calls Try.prog 19 #[pv ax ay, pv bx by', pv cx cy] w fun e w' => e = .returned (.bool (decide (0 < sg3 ax ay bx by' cx cy))) ∧ Below w.heap.size w w' := by
  have HW : Hid (W6 ax ay bx by' cx cy) := hw
  clear hw
  have HS : Hid (B3 w (((w.alloc (.cells #[.float .f64 ax, .float .f64 ay] 24)).alloc (.cells #[.float .f64 bx, .float .f64 by'] 24)).alloc (.cells #[.float .f64 cx, .float .f64 cy] 24)) ax ay bx by' cx cy) := B3.start w ax ay bx by' cx cy
  obtain ⟨z, hz⟩ : ∃ z, Hid (sg3 ax ay bx by' cx cy = z) := ⟨_, rfl⟩
  rw [hz.out]
  go_enter Try.func19, Try.ntmps19
  go_wp2_with fail
  refine (sign_is ax ay bx by' cx cy _ z HW.out hz.out).mono ?_
  rintro e w1 ⟨rfl, hb1⟩
  have HB : Hid (Below w.heap.size w w1) := below_step HS.out.bel hb1
  clear hb1 HS
  go_wp2
  go_ret
  exact ⟨rfl, HB.out⟩

theorem aw0 : sg3 4602678819172646954 4602678819172646960 4622945017495814144 4622945017495814144 4627448617123184640 4627448617123184640 = 1 := sg3_is (by decide +kernel)
theorem aw1 : sg3 0 0 4611686018427387904 0 4607182418800017408 4607182418800017408 = 1 := sg3_is (by decide +kernel)
theorem aw2 : sg3 0 0 4611686018427387904 0 4607182418800017408 13380194492917743616 = -1 := sg3_is (by decide +kernel)
theorem aw3 : sg3 0 0 4611686018427387904 0 4617315517961601024 0 = 0 := sg3_is (by decide +kernel)
theorem aw4 : sg3 0 0 4611686018427387904 0 5062045981164437504 4607182418800017408 = 0 := sg3_no (by decide +kernel)
theorem awx0 : sg3 0 0 4611686018427387904 0 4607182418800017408 13830554455654793216 = -1 := sg3_is (by decide +kernel)
theorem awx1 : sg3 0 0 4611686018427387904 0 4607182418800017408 4607182418800017408 = 1 := sg3_is (by decide +kernel)
theorem awx2 : sg3 4607182418800017408 13830554455654793216 4607182418800017408 4607182418800017408 0 0 = 1 := sg3_is (by decide +kernel)
theorem awx3 : sg3 4607182418800017408 13830554455654793216 4607182418800017408 4607182418800017408 4611686018427387904 0 = -1 := sg3_is (by decide +kernel)
theorem awx : CrossP 0 0 4611686018427387904 0 4607182418800017408 13830554455654793216 4607182418800017408 4607182418800017408 := by
  unfold CrossP
  rw [awx0, awx1, awx2, awx3]
  decide
theorem awy0 : sg3 0 0 4611686018427387904 0 4607182418800017408 0 = 0 := sg3_is (by decide +kernel)
theorem awy1 : sg3 0 0 4611686018427387904 0 4607182418800017408 4607182418800017408 = 1 := sg3_is (by decide +kernel)
theorem awy2 : sg3 4607182418800017408 0 4607182418800017408 4607182418800017408 0 0 = 1 := sg3_is (by decide +kernel)
theorem awy3 : sg3 4607182418800017408 0 4607182418800017408 4607182418800017408 4611686018427387904 0 = -1 := sg3_is (by decide +kernel)
theorem awy : ¬ CrossP 0 0 4611686018427387904 0 4607182418800017408 0 4607182418800017408 4607182418800017408 := by
  unfold CrossP
  rw [awy0, awy1, awy2, awy3]
  decide

set_option maxRecDepth 100000 in
set_option maxHeartbeats 8000000 in
theorem awake_any (w : World) : Calls Try.prog 13 #[] w fun e w' => e = .returned (.bool true) ∧ Below w.heap.size w w' := by
  go_enter Try.func13, Try.ntmps13
  have HB : Hid (Below w.heap.size w w) := Below.refl _ _
  go_wp2_with fail
  refine (at_any 0 0 _).mono ?_
  rintro e w1 ⟨rfl, hb1⟩
  have HB : Hid (Below w.heap.size w w1) := below_step HB.out hb1
  clear hb1
  go_wp2_with fail
  refine (at_any 4611686018427387904 0 _).mono ?_
  rintro e w2 ⟨rfl, hb2⟩
  have HB : Hid (Below w.heap.size w w2) := below_step HB.out hb2
  clear hb2
  go_wp2_with fail
  refine (at_any 13875590451928498176 13875581655835475968 _).mono ?_
  rintro e w3 ⟨rfl, hb3⟩
  have HBB : Hid (Below w2.heap.size w2 ((w2.alloc (.cells #[.float .f64 0, .float .f64 0] 24)).alloc (.cells #[.float .f64 4611686018427387904, .float .f64 0] 24))) := ((Below.refl _ _).alloc (Nat.le_refl _) _).alloc (by simp) _
  have HB : Hid (Below w.heap.size w w3) := below_step (below_step HB.out HBB.out) hb3
  obtain ⟨n0, hn0⟩ : ∃ n0, n0 = w2.heap.size := ⟨_, rfl⟩
  have c0 : w3.cell? ⟨n0, 0, none⟩ = some (.float .f64 0) := by rw [hn0]; exact box_cell hb3 (by go_simp)
  have c1 : w3.cell? ⟨n0, 1, none⟩ = some (.float .f64 0) := by rw [hn0]; exact box_cell hb3 (by go_simp)
  have c2 : w3.cell? ⟨n0 + 1, 0, none⟩ = some (.float .f64 4611686018427387904) := by rw [hn0]; exact box_cell hb3 (by go_simp)
  have c3 : w3.cell? ⟨n0 + 1, 1, none⟩ = some (.float .f64 0) := by rw [hn0]; exact box_cell hb3 (by go_simp)
  rw [← hn0]
  clear hb3 HBB hn0
  go_wp2_with fail
  refine (at_any 4652218415073722368 4652209618980700160 _).mono ?_
  rintro e w4 ⟨rfl, hb4⟩
  have HB : Hid (Below w.heap.size w w4) := below_step HB.out hb4
  have c0 : w4.cell? ⟨n0, 0, none⟩ = some (.float .f64 0) := box_cell hb4 c0
  have c1 : w4.cell? ⟨n0, 1, none⟩ = some (.float .f64 0) := box_cell hb4 c1
  have c2 : w4.cell? ⟨n0 + 1, 0, none⟩ = some (.float .f64 4611686018427387904) := box_cell hb4 c2
  have c3 : w4.cell? ⟨n0 + 1, 1, none⟩ = some (.float .f64 0) := box_cell hb4 c3
  clear hb4
  go_wp2_with fail
  refine (at_any 4652209618980700160 4652200822887677952 _).mono ?_
  rintro e w5 ⟨rfl, hb5⟩
  have HB : Hid (Below w.heap.size w w5) := below_step HB.out hb5
  have c0 : w5.cell? ⟨n0, 0, none⟩ = some (.float .f64 0) := box_cell hb5 c0
  have c1 : w5.cell? ⟨n0, 1, none⟩ = some (.float .f64 0) := box_cell hb5 c1
  have c2 : w5.cell? ⟨n0 + 1, 0, none⟩ = some (.float .f64 4611686018427387904) := box_cell hb5 c2
  have c3 : w5.cell? ⟨n0 + 1, 1, none⟩ = some (.float .f64 0) := box_cell hb5 c3
  clear hb5
  go_wp2_with fail
  refine (fast_any 13875590451928498176 13875581655835475968 4652218415073722368 4652209618980700160 4652209618980700160 4652200822887677952 _ ⟨⟨by omega, by omega⟩, ⟨by omega, by omega⟩, ⟨by omega, by omega⟩⟩).mono ?_
  rintro e w6 ⟨⟨z, t, rfl, hz⟩, hb6⟩
  obtain rfl : t = true := hz.2.2 (by decide +kernel) ⟨-1024, by decide +kernel, by omega, by omega⟩ ⟨-1023, by decide +kernel, by omega, by omega⟩ ⟨1024, by decide +kernel, by omega, by omega⟩ ⟨1023, by decide +kernel, by omega, by omega⟩ ⟨1023, by decide +kernel, by omega, by omega⟩ ⟨1022, by decide +kernel, by omega, by omega⟩ (by decide +kernel)
  obtain rfl : z = -1 := (hz.1 rfl).2.trans (by decide +kernel)
  clear hz
  have HB : Hid (Below w.heap.size w w6) := below_step HB.out hb6
  have c0 : w6.cell? ⟨n0, 0, none⟩ = some (.float .f64 0) := box_cell hb6 c0
  have c1 : w6.cell? ⟨n0, 1, none⟩ = some (.float .f64 0) := box_cell hb6 c1
  have c2 : w6.cell? ⟨n0 + 1, 0, none⟩ = some (.float .f64 4611686018427387904) := box_cell hb6 c2
  have c3 : w6.cell? ⟨n0 + 1, 1, none⟩ = some (.float .f64 0) := box_cell hb6 c3
  clear hb6
  go_wp2_with fail
  refine (at_any 4602678819172646954 4602678819172646960 _).mono ?_
  rintro e w7 ⟨rfl, hb7⟩
  have HB : Hid (Below w.heap.size w w7) := below_step HB.out hb7
  have c0 : w7.cell? ⟨n0, 0, none⟩ = some (.float .f64 0) := box_cell hb7 c0
  have c1 : w7.cell? ⟨n0, 1, none⟩ = some (.float .f64 0) := box_cell hb7 c1
  have c2 : w7.cell? ⟨n0 + 1, 0, none⟩ = some (.float .f64 4611686018427387904) := box_cell hb7 c2
  have c3 : w7.cell? ⟨n0 + 1, 1, none⟩ = some (.float .f64 0) := box_cell hb7 c3
  clear hb7
  go_wp2_with fail
  refine (at_any 4622945017495814144 4622945017495814144 _).mono ?_
  rintro e w8 ⟨rfl, hb8⟩
  have HB : Hid (Below w.heap.size w w8) := below_step HB.out hb8
  have c0 : w8.cell? ⟨n0, 0, none⟩ = some (.float .f64 0) := box_cell hb8 c0
  have c1 : w8.cell? ⟨n0, 1, none⟩ = some (.float .f64 0) := box_cell hb8 c1
  have c2 : w8.cell? ⟨n0 + 1, 0, none⟩ = some (.float .f64 4611686018427387904) := box_cell hb8 c2
  have c3 : w8.cell? ⟨n0 + 1, 1, none⟩ = some (.float .f64 0) := box_cell hb8 c3
  clear hb8
  go_wp2_with fail
  refine (at_any 4627448617123184640 4627448617123184640 _).mono ?_
  rintro e w9 ⟨rfl, hb9⟩
  have HB : Hid (Below w.heap.size w w9) := below_step HB.out hb9
  have c0 : w9.cell? ⟨n0, 0, none⟩ = some (.float .f64 0) := box_cell hb9 c0
  have c1 : w9.cell? ⟨n0, 1, none⟩ = some (.float .f64 0) := box_cell hb9 c1
  have c2 : w9.cell? ⟨n0 + 1, 0, none⟩ = some (.float .f64 4611686018427387904) := box_cell hb9 c2
  have c3 : w9.cell? ⟨n0 + 1, 1, none⟩ = some (.float .f64 0) := box_cell hb9 c3
  clear hb9
  go_wp2_with fail
  refine (sign_is 4602678819172646954 4602678819172646960 4622945017495814144 4622945017495814144 4627448617123184640 4627448617123184640 _ (1) ⟨⟨by omega, by omega⟩, ⟨by omega, by omega⟩, ⟨by omega, by omega⟩⟩ aw0).mono ?_
  rintro e w10 ⟨rfl, hb10⟩
  have HB : Hid (Below w.heap.size w w10) := below_step HB.out hb10
  have c0 : w10.cell? ⟨n0, 0, none⟩ = some (.float .f64 0) := box_cell hb10 c0
  have c1 : w10.cell? ⟨n0, 1, none⟩ = some (.float .f64 0) := box_cell hb10 c1
  have c2 : w10.cell? ⟨n0 + 1, 0, none⟩ = some (.float .f64 4611686018427387904) := box_cell hb10 c2
  have c3 : w10.cell? ⟨n0 + 1, 1, none⟩ = some (.float .f64 0) := box_cell hb10 c3
  clear hb10
  go_wp2_with fail
  refine wp_region_held_drew (S := (fun W => W.cell? ⟨n0, 0, none⟩ = some (.float .f64 0) ∧ W.cell? ⟨n0, 1, none⟩ = some (.float .f64 0) ∧ W.cell? ⟨n0 + 1, 0, none⟩ = some (.float .f64 4611686018427387904) ∧ W.cell? ⟨n0 + 1, 1, none⟩ = some (.float .f64 0) ∧ Below w.heap.size w W)) (by kernel_rfl) ⟨c0, c1, c2, c3, HB.out.drew⟩ (fun hS => ?_)
  refine take_at (i := 0) (d := some 19) (v := .bool true) (by kernel_rfl) (by kernel_rfl) (by kernel_rfl) (by kernel_rfl) (fun _ _ _ h => h) ?_ hS ?_
  · intro o ho
    replace ho := Option.some.inj (Eq.trans (Eq.symm ho) rfl)
    subst ho
    refine Or.inl ⟨by rfl, ?_⟩
    intro w hSw
    (try dsimp only at hSw)
    go_simp
  simp only [Act.put, List.setIfInBounds_toArray, List.set_cons_zero, List.set_cons_succ]
  refine take_at (i := 1) (d := some 20) (v := .bool true) (by kernel_rfl) (by kernel_rfl) (by kernel_rfl) (by kernel_rfl) (fun _ _ _ h => h) ?_ hS ?_
  · intro o ho
    replace ho := Option.some.inj (Eq.trans (Eq.symm ho) rfl)
    subst ho
    refine Or.inl ⟨by rfl, ?_⟩
    intro w hSw
    (try dsimp only at hSw)
    go_simp
  simp only [Act.put, List.setIfInBounds_toArray, List.set_cons_zero, List.set_cons_succ]
  refine take_at (i := 2) (d := some 21) (v := .int .i64 (-1)) (by kernel_rfl) (by kernel_rfl) (by kernel_rfl) (by kernel_rfl) (fun _ _ _ h => h) ?_ hS ?_
  · intro o ho
    replace ho := Option.some.inj (Eq.trans (Eq.symm ho) rfl)
    subst ho
    refine Or.inl ⟨by rfl, ?_⟩
    intro w hSw
    (try dsimp only at hSw)
    go_simp
  simp only [Act.put, List.setIfInBounds_toArray, List.set_cons_zero, List.set_cons_succ]
  refine take_at (i := 3) (d := some 22) (v := .bool true) (by kernel_rfl) (by kernel_rfl) (by kernel_rfl) (by kernel_rfl) (fun _ _ _ h => h) ?_ hS ?_
  · intro o ho
    replace ho := Option.some.inj (Eq.trans (Eq.symm ho) rfl)
    subst ho
    refine Or.inl ⟨by rfl, ?_⟩
    intro w hSw
    (try dsimp only at hSw)
    go_simp
  simp only [Act.put, List.setIfInBounds_toArray, List.set_cons_zero, List.set_cons_succ]
  refine take_at (i := 4) (d := some 23) (v := .bool true) (by kernel_rfl) (by kernel_rfl) (by kernel_rfl) (by kernel_rfl) (fun _ _ _ h => h) ?_ hS ?_
  · intro o ho
    replace ho := Option.some.inj (Eq.trans (Eq.symm ho) rfl)
    subst ho
    refine Or.inl ⟨by rfl, ?_⟩
    intro w hSw
    (try dsimp only at hSw)
    go_simp
  simp only [Act.put, List.setIfInBounds_toArray, List.set_cons_zero, List.set_cons_succ]
  refine take_at (i := 5) (d := some 24) (v := .bool true) (by kernel_rfl) (by kernel_rfl) (by kernel_rfl) (by kernel_rfl) (fun _ _ _ h => h) ?_ hS ?_
  · intro o ho
    replace ho := Option.some.inj (Eq.trans (Eq.symm ho) rfl)
    subst ho
    refine Or.inl ⟨by rfl, ?_⟩
    intro w hSw
    (try dsimp only at hSw)
    go_simp
  simp only [Act.put, List.setIfInBounds_toArray, List.set_cons_zero, List.set_cons_succ]
  refine take_at (i := 6) (d := some 25) (v := .agg #[.float .f64 0, .float .f64 0]) (by kernel_rfl) (by kernel_rfl) (by kernel_rfl) (by kernel_rfl) (fun _ _ _ h => h) ?_ hS ?_
  · intro o ho
    replace ho := Option.some.inj (Eq.trans (Eq.symm ho) rfl)
    subst ho
    refine Or.inl ⟨by rfl, ?_⟩
    intro w hSw
    (try dsimp only at hSw)
    go_simp
  simp only [Act.put, List.setIfInBounds_toArray, List.set_cons_zero, List.set_cons_succ]
  refine take_at (i := 7) (d := some 26) (v := .agg #[.float .f64 4611686018427387904, .float .f64 0]) (by kernel_rfl) (by kernel_rfl) (by kernel_rfl) (by kernel_rfl) (fun _ _ _ h => h) ?_ hS ?_
  · intro o ho
    replace ho := Option.some.inj (Eq.trans (Eq.symm ho) rfl)
    subst ho
    refine Or.inl ⟨by rfl, ?_⟩
    intro w hSw
    (try dsimp only at hSw)
    go_simp
  simp only [Act.put, List.setIfInBounds_toArray, List.set_cons_zero, List.set_cons_succ]
  refine call_at 8 (by kernel_rfl) (by kernel_rfl) ?_
  intro o ho
  replace ho := Option.some.inj (Eq.trans (Eq.symm ho) rfl)
  subst ho
  intro KF hK
  go_simp
  refine (at_any 4607182418800017408 4607182418800017408 _).mono ?_
  rintro e wx ⟨rfl, hbx⟩
  go_wp2_with fail
  refine hK.out _ _ (keepX4 hS hbx) ?_
  clear hS hbx
  intro hS
  clear hK KF
  try simp only [Act.put, List.setIfInBounds_toArray, List.set_cons_zero, List.set_cons_succ]
  refine call_at 9 (by kernel_rfl) (by kernel_rfl) ?_
  intro o ho
  replace ho := Option.some.inj (Eq.trans (Eq.symm ho) rfl)
  subst ho
  intro KF hK
  go_simp
  refine (sign_is 0 0 4611686018427387904 0 4607182418800017408 4607182418800017408 _ (1) ⟨⟨by omega, by omega⟩, ⟨by omega, by omega⟩, ⟨by omega, by omega⟩⟩ aw1).mono ?_
  rintro e wx ⟨rfl, hbx⟩
  go_wp2_with fail
  refine hK.out _ _ (keepX4 hS hbx) ?_
  clear hS hbx
  intro hS
  clear hK KF
  try simp only [Act.put, List.setIfInBounds_toArray, List.set_cons_zero, List.set_cons_succ]
  refine take_at (i := 10) (d := some 29) (v := .bool true) (by kernel_rfl) (by kernel_rfl) (by kernel_rfl) (by kernel_rfl) (fun _ _ _ h => h) ?_ hS ?_
  · intro o ho
    replace ho := Option.some.inj (Eq.trans (Eq.symm ho) rfl)
    subst ho
    refine Or.inl ⟨by rfl, ?_⟩
    intro w hSw
    (try dsimp only at hSw)
    go_simp
  simp only [Act.put, List.setIfInBounds_toArray, List.set_cons_zero, List.set_cons_succ]
  refine take_at (i := 11) (d := some 30) (v := .bool true) (by kernel_rfl) (by kernel_rfl) (by kernel_rfl) (by kernel_rfl) (fun _ _ _ h => h) ?_ hS ?_
  · intro o ho
    replace ho := Option.some.inj (Eq.trans (Eq.symm ho) rfl)
    subst ho
    refine Or.inl ⟨by rfl, ?_⟩
    intro w hSw
    (try dsimp only at hSw)
    go_simp
  simp only [Act.put, List.setIfInBounds_toArray, List.set_cons_zero, List.set_cons_succ]
  refine take_at (i := 12) (d := some 31) (v := .bool true) (by kernel_rfl) (by kernel_rfl) (by kernel_rfl) (by kernel_rfl) (fun _ _ _ h => h) ?_ hS ?_
  · intro o ho
    replace ho := Option.some.inj (Eq.trans (Eq.symm ho) rfl)
    subst ho
    refine Or.inl ⟨by rfl, ?_⟩
    intro w hSw
    (try dsimp only at hSw)
    go_simp
  simp only [Act.put, List.setIfInBounds_toArray, List.set_cons_zero, List.set_cons_succ]
  refine take_at (i := 13) (d := some 32) (v := .agg #[.float .f64 0, .float .f64 0]) (by kernel_rfl) (by kernel_rfl) (by kernel_rfl) (by kernel_rfl) (fun _ _ _ h => h) ?_ hS ?_
  · intro o ho
    replace ho := Option.some.inj (Eq.trans (Eq.symm ho) rfl)
    subst ho
    refine Or.inl ⟨by rfl, ?_⟩
    intro w hSw
    (try dsimp only at hSw)
    go_simp
  simp only [Act.put, List.setIfInBounds_toArray, List.set_cons_zero, List.set_cons_succ]
  refine take_at (i := 14) (d := some 33) (v := .agg #[.float .f64 4611686018427387904, .float .f64 0]) (by kernel_rfl) (by kernel_rfl) (by kernel_rfl) (by kernel_rfl) (fun _ _ _ h => h) ?_ hS ?_
  · intro o ho
    replace ho := Option.some.inj (Eq.trans (Eq.symm ho) rfl)
    subst ho
    refine Or.inl ⟨by rfl, ?_⟩
    intro w hSw
    (try dsimp only at hSw)
    go_simp
  simp only [Act.put, List.setIfInBounds_toArray, List.set_cons_zero, List.set_cons_succ]
  refine call_at 15 (by kernel_rfl) (by kernel_rfl) ?_
  intro o ho
  replace ho := Option.some.inj (Eq.trans (Eq.symm ho) rfl)
  subst ho
  intro KF hK
  go_simp
  refine (at_any 4607182418800017408 13380194492917743616 _).mono ?_
  rintro e wx ⟨rfl, hbx⟩
  go_wp2_with fail
  refine hK.out _ _ (keepX4 hS hbx) ?_
  clear hS hbx
  intro hS
  clear hK KF
  try simp only [Act.put, List.setIfInBounds_toArray, List.set_cons_zero, List.set_cons_succ]
  refine call_at 16 (by kernel_rfl) (by kernel_rfl) ?_
  intro o ho
  replace ho := Option.some.inj (Eq.trans (Eq.symm ho) rfl)
  subst ho
  intro KF hK
  go_simp
  refine (sign_is 0 0 4611686018427387904 0 4607182418800017408 13380194492917743616 _ (-1) ⟨⟨by omega, by omega⟩, ⟨by omega, by omega⟩, ⟨by omega, by omega⟩⟩ aw2).mono ?_
  rintro e wx ⟨rfl, hbx⟩
  go_wp2_with fail
  refine hK.out _ _ (keepX4 hS hbx) ?_
  clear hS hbx
  intro hS
  clear hK KF
  try simp only [Act.put, List.setIfInBounds_toArray, List.set_cons_zero, List.set_cons_succ]
  refine take_at (i := 17) (d := some 36) (v := .bool true) (by kernel_rfl) (by kernel_rfl) (by kernel_rfl) (by kernel_rfl) (fun _ _ _ h => h) ?_ hS ?_
  · intro o ho
    replace ho := Option.some.inj (Eq.trans (Eq.symm ho) rfl)
    subst ho
    refine Or.inl ⟨by rfl, ?_⟩
    intro w hSw
    (try dsimp only at hSw)
    go_simp
  simp only [Act.put, List.setIfInBounds_toArray, List.set_cons_zero, List.set_cons_succ]
  refine take_at (i := 18) (d := some 37) (v := .bool true) (by kernel_rfl) (by kernel_rfl) (by kernel_rfl) (by kernel_rfl) (fun _ _ _ h => h) ?_ hS ?_
  · intro o ho
    replace ho := Option.some.inj (Eq.trans (Eq.symm ho) rfl)
    subst ho
    refine Or.inl ⟨by rfl, ?_⟩
    intro w hSw
    (try dsimp only at hSw)
    go_simp
  simp only [Act.put, List.setIfInBounds_toArray, List.set_cons_zero, List.set_cons_succ]
  refine take_at (i := 19) (d := some 38) (v := .bool true) (by kernel_rfl) (by kernel_rfl) (by kernel_rfl) (by kernel_rfl) (fun _ _ _ h => h) ?_ hS ?_
  · intro o ho
    replace ho := Option.some.inj (Eq.trans (Eq.symm ho) rfl)
    subst ho
    refine Or.inl ⟨by rfl, ?_⟩
    intro w hSw
    (try dsimp only at hSw)
    go_simp
  simp only [Act.put, List.setIfInBounds_toArray, List.set_cons_zero, List.set_cons_succ]
  refine take_at (i := 20) (d := some 39) (v := .agg #[.float .f64 0, .float .f64 0]) (by kernel_rfl) (by kernel_rfl) (by kernel_rfl) (by kernel_rfl) (fun _ _ _ h => h) ?_ hS ?_
  · intro o ho
    replace ho := Option.some.inj (Eq.trans (Eq.symm ho) rfl)
    subst ho
    refine Or.inl ⟨by rfl, ?_⟩
    intro w hSw
    (try dsimp only at hSw)
    go_simp
  simp only [Act.put, List.setIfInBounds_toArray, List.set_cons_zero, List.set_cons_succ]
  refine take_at (i := 21) (d := some 40) (v := .agg #[.float .f64 4611686018427387904, .float .f64 0]) (by kernel_rfl) (by kernel_rfl) (by kernel_rfl) (by kernel_rfl) (fun _ _ _ h => h) ?_ hS ?_
  · intro o ho
    replace ho := Option.some.inj (Eq.trans (Eq.symm ho) rfl)
    subst ho
    refine Or.inl ⟨by rfl, ?_⟩
    intro w hSw
    (try dsimp only at hSw)
    go_simp
  simp only [Act.put, List.setIfInBounds_toArray, List.set_cons_zero, List.set_cons_succ]
  refine call_at 22 (by kernel_rfl) (by kernel_rfl) ?_
  intro o ho
  replace ho := Option.some.inj (Eq.trans (Eq.symm ho) rfl)
  subst ho
  intro KF hK
  go_simp
  refine (at_any 4617315517961601024 0 _).mono ?_
  rintro e wx ⟨rfl, hbx⟩
  go_wp2_with fail
  refine hK.out _ _ (keepX4 hS hbx) ?_
  clear hS hbx
  intro hS
  clear hK KF
  try simp only [Act.put, List.setIfInBounds_toArray, List.set_cons_zero, List.set_cons_succ]
  refine call_at 23 (by kernel_rfl) (by kernel_rfl) ?_
  intro o ho
  replace ho := Option.some.inj (Eq.trans (Eq.symm ho) rfl)
  subst ho
  intro KF hK
  go_simp
  refine (sign_is 0 0 4611686018427387904 0 4617315517961601024 0 _ (0) ⟨⟨by omega, by omega⟩, ⟨by omega, by omega⟩, ⟨by omega, by omega⟩⟩ aw3).mono ?_
  rintro e wx ⟨rfl, hbx⟩
  go_wp2_with fail
  refine hK.out _ _ (keepX4 hS hbx) ?_
  clear hS hbx
  intro hS
  clear hK KF
  try simp only [Act.put, List.setIfInBounds_toArray, List.set_cons_zero, List.set_cons_succ]
  refine take_at (i := 24) (d := some 43) (v := .bool true) (by kernel_rfl) (by kernel_rfl) (by kernel_rfl) (by kernel_rfl) (fun _ _ _ h => h) ?_ hS ?_
  · intro o ho
    replace ho := Option.some.inj (Eq.trans (Eq.symm ho) rfl)
    subst ho
    refine Or.inl ⟨by rfl, ?_⟩
    intro w hSw
    (try dsimp only at hSw)
    go_simp
  simp only [Act.put, List.setIfInBounds_toArray, List.set_cons_zero, List.set_cons_succ]
  refine take_at (i := 25) (d := some 44) (v := .bool true) (by kernel_rfl) (by kernel_rfl) (by kernel_rfl) (by kernel_rfl) (fun _ _ _ h => h) ?_ hS ?_
  · intro o ho
    replace ho := Option.some.inj (Eq.trans (Eq.symm ho) rfl)
    subst ho
    refine Or.inl ⟨by rfl, ?_⟩
    intro w hSw
    (try dsimp only at hSw)
    go_simp
  simp only [Act.put, List.setIfInBounds_toArray, List.set_cons_zero, List.set_cons_succ]
  refine take_at (i := 26) (d := some 45) (v := .bool true) (by kernel_rfl) (by kernel_rfl) (by kernel_rfl) (by kernel_rfl) (fun _ _ _ h => h) ?_ hS ?_
  · intro o ho
    replace ho := Option.some.inj (Eq.trans (Eq.symm ho) rfl)
    subst ho
    refine Or.inl ⟨by rfl, ?_⟩
    intro w hSw
    (try dsimp only at hSw)
    go_simp
  simp only [Act.put, List.setIfInBounds_toArray, List.set_cons_zero, List.set_cons_succ]
  refine take_at (i := 27) (d := some 46) (v := .agg #[.float .f64 0, .float .f64 0]) (by kernel_rfl) (by kernel_rfl) (by kernel_rfl) (by kernel_rfl) (fun _ _ _ h => h) ?_ hS ?_
  · intro o ho
    replace ho := Option.some.inj (Eq.trans (Eq.symm ho) rfl)
    subst ho
    refine Or.inl ⟨by rfl, ?_⟩
    intro w hSw
    (try dsimp only at hSw)
    go_simp
  simp only [Act.put, List.setIfInBounds_toArray, List.set_cons_zero, List.set_cons_succ]
  refine take_at (i := 28) (d := some 47) (v := .agg #[.float .f64 4611686018427387904, .float .f64 0]) (by kernel_rfl) (by kernel_rfl) (by kernel_rfl) (by kernel_rfl) (fun _ _ _ h => h) ?_ hS ?_
  · intro o ho
    replace ho := Option.some.inj (Eq.trans (Eq.symm ho) rfl)
    subst ho
    refine Or.inl ⟨by rfl, ?_⟩
    intro w hSw
    (try dsimp only at hSw)
    go_simp
  simp only [Act.put, List.setIfInBounds_toArray, List.set_cons_zero, List.set_cons_succ]
  refine call_at 29 (by kernel_rfl) (by kernel_rfl) ?_
  intro o ho
  replace ho := Option.some.inj (Eq.trans (Eq.symm ho) rfl)
  subst ho
  intro KF hK
  go_simp
  refine (at_any 5062045981164437504 4607182418800017408 _).mono ?_
  rintro e wx ⟨rfl, hbx⟩
  go_wp2_with fail
  refine hK.out _ _ (keepX4 hS hbx) ?_
  clear hS hbx
  intro hS
  clear hK KF
  try simp only [Act.put, List.setIfInBounds_toArray, List.set_cons_zero, List.set_cons_succ]
  refine call_at 30 (by kernel_rfl) (by kernel_rfl) ?_
  intro o ho
  replace ho := Option.some.inj (Eq.trans (Eq.symm ho) rfl)
  subst ho
  intro KF hK
  go_simp
  refine (sign_is 0 0 4611686018427387904 0 5062045981164437504 4607182418800017408 _ (0) ⟨⟨by omega, by omega⟩, ⟨by omega, by omega⟩, ⟨by omega, by omega⟩⟩ aw4).mono ?_
  rintro e wx ⟨rfl, hbx⟩
  go_wp2_with fail
  refine hK.out _ _ (keepX4 hS hbx) ?_
  clear hS hbx
  intro hS
  clear hK KF
  try simp only [Act.put, List.setIfInBounds_toArray, List.set_cons_zero, List.set_cons_succ]
  refine take_at (i := 31) (d := some 50) (v := .bool true) (by kernel_rfl) (by kernel_rfl) (by kernel_rfl) (by kernel_rfl) (fun _ _ _ h => h) ?_ hS ?_
  · intro o ho
    replace ho := Option.some.inj (Eq.trans (Eq.symm ho) rfl)
    subst ho
    refine Or.inl ⟨by rfl, ?_⟩
    intro w hSw
    (try dsimp only at hSw)
    go_simp
  simp only [Act.put, List.setIfInBounds_toArray, List.set_cons_zero, List.set_cons_succ]
  refine take_at (i := 32) (d := some 51) (v := .bool true) (by kernel_rfl) (by kernel_rfl) (by kernel_rfl) (by kernel_rfl) (fun _ _ _ h => h) ?_ hS ?_
  · intro o ho
    replace ho := Option.some.inj (Eq.trans (Eq.symm ho) rfl)
    subst ho
    refine Or.inl ⟨by rfl, ?_⟩
    intro w hSw
    (try dsimp only at hSw)
    go_simp
  simp only [Act.put, List.setIfInBounds_toArray, List.set_cons_zero, List.set_cons_succ]
  refine take_at (i := 33) (d := some 52) (v := .bool true) (by kernel_rfl) (by kernel_rfl) (by kernel_rfl) (by kernel_rfl) (fun _ _ _ h => h) ?_ hS ?_
  · intro o ho
    replace ho := Option.some.inj (Eq.trans (Eq.symm ho) rfl)
    subst ho
    refine Or.inl ⟨by rfl, ?_⟩
    intro w hSw
    (try dsimp only at hSw)
    go_simp
  simp only [Act.put, List.setIfInBounds_toArray, List.set_cons_zero, List.set_cons_succ]
  refine take_at (i := 34) (d := some 53) (v := .agg #[.float .f64 0, .float .f64 0]) (by kernel_rfl) (by kernel_rfl) (by kernel_rfl) (by kernel_rfl) (fun _ _ _ h => h) ?_ hS ?_
  · intro o ho
    replace ho := Option.some.inj (Eq.trans (Eq.symm ho) rfl)
    subst ho
    refine Or.inl ⟨by rfl, ?_⟩
    intro w hSw
    (try dsimp only at hSw)
    go_simp
  simp only [Act.put, List.setIfInBounds_toArray, List.set_cons_zero, List.set_cons_succ]
  refine take_at (i := 35) (d := some 54) (v := .agg #[.float .f64 4611686018427387904, .float .f64 0]) (by kernel_rfl) (by kernel_rfl) (by kernel_rfl) (by kernel_rfl) (fun _ _ _ h => h) ?_ hS ?_
  · intro o ho
    replace ho := Option.some.inj (Eq.trans (Eq.symm ho) rfl)
    subst ho
    refine Or.inl ⟨by rfl, ?_⟩
    intro w hSw
    (try dsimp only at hSw)
    go_simp
  simp only [Act.put, List.setIfInBounds_toArray, List.set_cons_zero, List.set_cons_succ]
  refine call_at 36 (by kernel_rfl) (by kernel_rfl) ?_
  intro o ho
  replace ho := Option.some.inj (Eq.trans (Eq.symm ho) rfl)
  subst ho
  intro KF hK
  go_simp
  refine (at_any 4607182418800017408 0 _).mono ?_
  rintro e wx ⟨rfl, hbx⟩
  go_wp2_with fail
  refine hK.out _ _ (keepX4 hS hbx) ?_
  clear hS hbx
  intro hS
  clear hK KF
  try simp only [Act.put, List.setIfInBounds_toArray, List.set_cons_zero, List.set_cons_succ]
  refine call_at 37 (by kernel_rfl) (by kernel_rfl) ?_
  intro o ho
  replace ho := Option.some.inj (Eq.trans (Eq.symm ho) rfl)
  subst ho
  intro KF hK
  go_simp
  refine (on_any 0 0 4611686018427387904 0 4607182418800017408 0 _ ⟨⟨by omega, by omega⟩, ⟨by omega, by omega⟩, ⟨by omega, by omega⟩⟩).mono ?_
  rintro e wx ⟨⟨t, rfl, ht⟩, hbx⟩
  obtain rfl : t = true := ht.2 (by decide +kernel)
  clear ht
  go_wp2_with fail
  refine hK.out _ _ (keepX4 hS hbx) ?_
  clear hS hbx
  intro hS
  clear hK KF
  try simp only [Act.put, List.setIfInBounds_toArray, List.set_cons_zero, List.set_cons_succ]
  refine take_at (i := 38) (d := some 57) (v := .bool true) (by kernel_rfl) (by kernel_rfl) (by kernel_rfl) (by kernel_rfl) (fun _ _ _ h => h) ?_ hS ?_
  · intro o ho
    replace ho := Option.some.inj (Eq.trans (Eq.symm ho) rfl)
    subst ho
    refine Or.inl ⟨by rfl, ?_⟩
    intro w hSw
    (try dsimp only at hSw)
    go_simp
  simp only [Act.put, List.setIfInBounds_toArray, List.set_cons_zero, List.set_cons_succ]
  refine take_at (i := 39) (d := some 58) (v := .bool true) (by kernel_rfl) (by kernel_rfl) (by kernel_rfl) (by kernel_rfl) (fun _ _ _ h => h) ?_ hS ?_
  · intro o ho
    replace ho := Option.some.inj (Eq.trans (Eq.symm ho) rfl)
    subst ho
    refine Or.inl ⟨by rfl, ?_⟩
    intro w hSw
    (try dsimp only at hSw)
    go_simp
  simp only [Act.put, List.setIfInBounds_toArray, List.set_cons_zero, List.set_cons_succ]
  refine take_at (i := 40) (d := some 59) (v := .agg #[.float .f64 0, .float .f64 0]) (by kernel_rfl) (by kernel_rfl) (by kernel_rfl) (by kernel_rfl) (fun _ _ _ h => h) ?_ hS ?_
  · intro o ho
    replace ho := Option.some.inj (Eq.trans (Eq.symm ho) rfl)
    subst ho
    refine Or.inl ⟨by rfl, ?_⟩
    intro w hSw
    (try dsimp only at hSw)
    go_simp
  simp only [Act.put, List.setIfInBounds_toArray, List.set_cons_zero, List.set_cons_succ]
  refine take_at (i := 41) (d := some 60) (v := .agg #[.float .f64 4611686018427387904, .float .f64 0]) (by kernel_rfl) (by kernel_rfl) (by kernel_rfl) (by kernel_rfl) (fun _ _ _ h => h) ?_ hS ?_
  · intro o ho
    replace ho := Option.some.inj (Eq.trans (Eq.symm ho) rfl)
    subst ho
    refine Or.inl ⟨by rfl, ?_⟩
    intro w hSw
    (try dsimp only at hSw)
    go_simp
  simp only [Act.put, List.setIfInBounds_toArray, List.set_cons_zero, List.set_cons_succ]
  refine take_at (i := 42) (d := some 61) (v := .agg #[.float .f64 0, .float .f64 0]) (by kernel_rfl) (by kernel_rfl) (by kernel_rfl) (by kernel_rfl) (fun _ _ _ h => h) ?_ hS ?_
  · intro o ho
    replace ho := Option.some.inj (Eq.trans (Eq.symm ho) rfl)
    subst ho
    refine Or.inl ⟨by rfl, ?_⟩
    intro w hSw
    (try dsimp only at hSw)
    go_simp
  simp only [Act.put, List.setIfInBounds_toArray, List.set_cons_zero, List.set_cons_succ]
  refine call_at 43 (by kernel_rfl) (by kernel_rfl) ?_
  intro o ho
  replace ho := Option.some.inj (Eq.trans (Eq.symm ho) rfl)
  subst ho
  intro KF hK
  go_simp
  refine (on_any 0 0 4611686018427387904 0 0 0 _ ⟨⟨by omega, by omega⟩, ⟨by omega, by omega⟩, ⟨by omega, by omega⟩⟩).mono ?_
  rintro e wx ⟨⟨t, rfl, ht⟩, hbx⟩
  obtain rfl : t = true := ht.2 (by decide +kernel)
  clear ht
  go_wp2_with fail
  refine hK.out _ _ (keepX4 hS hbx) ?_
  clear hS hbx
  intro hS
  clear hK KF
  try simp only [Act.put, List.setIfInBounds_toArray, List.set_cons_zero, List.set_cons_succ]
  refine take_at (i := 44) (d := some 63) (v := .bool true) (by kernel_rfl) (by kernel_rfl) (by kernel_rfl) (by kernel_rfl) (fun _ _ _ h => h) ?_ hS ?_
  · intro o ho
    replace ho := Option.some.inj (Eq.trans (Eq.symm ho) rfl)
    subst ho
    refine Or.inl ⟨by rfl, ?_⟩
    intro w hSw
    (try dsimp only at hSw)
    go_simp
  simp only [Act.put, List.setIfInBounds_toArray, List.set_cons_zero, List.set_cons_succ]
  refine take_at (i := 45) (d := some 64) (v := .bool true) (by kernel_rfl) (by kernel_rfl) (by kernel_rfl) (by kernel_rfl) (fun _ _ _ h => h) ?_ hS ?_
  · intro o ho
    replace ho := Option.some.inj (Eq.trans (Eq.symm ho) rfl)
    subst ho
    refine Or.inl ⟨by rfl, ?_⟩
    intro w hSw
    (try dsimp only at hSw)
    go_simp
  simp only [Act.put, List.setIfInBounds_toArray, List.set_cons_zero, List.set_cons_succ]
  refine take_at (i := 46) (d := some 65) (v := .agg #[.float .f64 0, .float .f64 0]) (by kernel_rfl) (by kernel_rfl) (by kernel_rfl) (by kernel_rfl) (fun _ _ _ h => h) ?_ hS ?_
  · intro o ho
    replace ho := Option.some.inj (Eq.trans (Eq.symm ho) rfl)
    subst ho
    refine Or.inl ⟨by rfl, ?_⟩
    intro w hSw
    (try dsimp only at hSw)
    go_simp
  simp only [Act.put, List.setIfInBounds_toArray, List.set_cons_zero, List.set_cons_succ]
  refine take_at (i := 47) (d := some 66) (v := .agg #[.float .f64 4611686018427387904, .float .f64 0]) (by kernel_rfl) (by kernel_rfl) (by kernel_rfl) (by kernel_rfl) (fun _ _ _ h => h) ?_ hS ?_
  · intro o ho
    replace ho := Option.some.inj (Eq.trans (Eq.symm ho) rfl)
    subst ho
    refine Or.inl ⟨by rfl, ?_⟩
    intro w hSw
    (try dsimp only at hSw)
    go_simp
  simp only [Act.put, List.setIfInBounds_toArray, List.set_cons_zero, List.set_cons_succ]
  refine call_at 48 (by kernel_rfl) (by kernel_rfl) ?_
  intro o ho
  replace ho := Option.some.inj (Eq.trans (Eq.symm ho) rfl)
  subst ho
  intro KF hK
  go_simp
  refine (at_any 4613937818241073152 0 _).mono ?_
  rintro e wx ⟨rfl, hbx⟩
  go_wp2_with fail
  refine hK.out _ _ (keepX4 hS hbx) ?_
  clear hS hbx
  intro hS
  clear hK KF
  try simp only [Act.put, List.setIfInBounds_toArray, List.set_cons_zero, List.set_cons_succ]
  refine call_at 49 (by kernel_rfl) (by kernel_rfl) ?_
  intro o ho
  replace ho := Option.some.inj (Eq.trans (Eq.symm ho) rfl)
  subst ho
  intro KF hK
  go_simp
  refine (on_any 0 0 4611686018427387904 0 4613937818241073152 0 _ ⟨⟨by omega, by omega⟩, ⟨by omega, by omega⟩, ⟨by omega, by omega⟩⟩).mono ?_
  rintro e wx ⟨⟨t, rfl, ht⟩, hbx⟩
  obtain rfl : t = false := by
    cases t
    · rfl
    · exact absurd (ht.1 rfl) (by decide +kernel)
  clear ht
  go_wp2_with fail
  refine hK.out _ _ (keepX4 hS hbx) ?_
  clear hS hbx
  intro hS
  clear hK KF
  try simp only [Act.put, List.setIfInBounds_toArray, List.set_cons_zero, List.set_cons_succ]
  refine take_at (i := 50) (d := some 69) (v := .bool true) (by kernel_rfl) (by kernel_rfl) (by kernel_rfl) (by kernel_rfl) (fun _ _ _ h => h) ?_ hS ?_
  · intro o ho
    replace ho := Option.some.inj (Eq.trans (Eq.symm ho) rfl)
    subst ho
    refine Or.inl ⟨by rfl, ?_⟩
    intro w hSw
    (try dsimp only at hSw)
    go_simp
  simp only [Act.put, List.setIfInBounds_toArray, List.set_cons_zero, List.set_cons_succ]
  refine take_at (i := 51) (d := some 70) (v := .bool true) (by kernel_rfl) (by kernel_rfl) (by kernel_rfl) (by kernel_rfl) (fun _ _ _ h => h) ?_ hS ?_
  · intro o ho
    replace ho := Option.some.inj (Eq.trans (Eq.symm ho) rfl)
    subst ho
    refine Or.inl ⟨by rfl, ?_⟩
    intro w hSw
    (try dsimp only at hSw)
    go_simp
  simp only [Act.put, List.setIfInBounds_toArray, List.set_cons_zero, List.set_cons_succ]
  refine take_at (i := 52) (d := some 71) (v := .bool true) (by kernel_rfl) (by kernel_rfl) (by kernel_rfl) (by kernel_rfl) (fun _ _ _ h => h) ?_ hS ?_
  · intro o ho
    replace ho := Option.some.inj (Eq.trans (Eq.symm ho) rfl)
    subst ho
    refine Or.inl ⟨by rfl, ?_⟩
    intro w hSw
    (try dsimp only at hSw)
    go_simp
  simp only [Act.put, List.setIfInBounds_toArray, List.set_cons_zero, List.set_cons_succ]
  refine take_at (i := 53) (d := some 72) (v := .agg #[.float .f64 0, .float .f64 0]) (by kernel_rfl) (by kernel_rfl) (by kernel_rfl) (by kernel_rfl) (fun _ _ _ h => h) ?_ hS ?_
  · intro o ho
    replace ho := Option.some.inj (Eq.trans (Eq.symm ho) rfl)
    subst ho
    refine Or.inl ⟨by rfl, ?_⟩
    intro w hSw
    (try dsimp only at hSw)
    go_simp
  simp only [Act.put, List.setIfInBounds_toArray, List.set_cons_zero, List.set_cons_succ]
  refine take_at (i := 54) (d := some 73) (v := .agg #[.float .f64 4611686018427387904, .float .f64 0]) (by kernel_rfl) (by kernel_rfl) (by kernel_rfl) (by kernel_rfl) (fun _ _ _ h => h) ?_ hS ?_
  · intro o ho
    replace ho := Option.some.inj (Eq.trans (Eq.symm ho) rfl)
    subst ho
    refine Or.inl ⟨by rfl, ?_⟩
    intro w hSw
    (try dsimp only at hSw)
    go_simp
  simp only [Act.put, List.setIfInBounds_toArray, List.set_cons_zero, List.set_cons_succ]
  refine call_at 55 (by kernel_rfl) (by kernel_rfl) ?_
  intro o ho
  replace ho := Option.some.inj (Eq.trans (Eq.symm ho) rfl)
  subst ho
  intro KF hK
  go_simp
  refine (at_any 4607182418800017408 13830554455654793216 _).mono ?_
  rintro e wx ⟨rfl, hbx⟩
  go_wp2_with fail
  refine hK.out _ _ (keepX4 hS hbx) ?_
  clear hS hbx
  intro hS
  clear hK KF
  try simp only [Act.put, List.setIfInBounds_toArray, List.set_cons_zero, List.set_cons_succ]
  refine call_at 56 (by kernel_rfl) (by kernel_rfl) ?_
  intro o ho
  replace ho := Option.some.inj (Eq.trans (Eq.symm ho) rfl)
  subst ho
  intro KF hK
  go_simp
  refine (at_any 4607182418800017408 4607182418800017408 _).mono ?_
  rintro e wx ⟨rfl, hbx⟩
  go_wp2_with fail
  refine hK.out _ _ (keepX4 hS hbx) ?_
  clear hS hbx
  intro hS
  clear hK KF
  try simp only [Act.put, List.setIfInBounds_toArray, List.set_cons_zero, List.set_cons_succ]
  refine call_at 57 (by kernel_rfl) (by kernel_rfl) ?_
  intro o ho
  replace ho := Option.some.inj (Eq.trans (Eq.symm ho) rfl)
  subst ho
  intro KF hK
  go_simp
  refine (cross_any 0 0 4611686018427387904 0 4607182418800017408 13830554455654793216 4607182418800017408 4607182418800017408 _ ⟨⟨by omega, by omega⟩, ⟨by omega, by omega⟩, ⟨by omega, by omega⟩⟩ ⟨by omega, by omega⟩).mono ?_
  rintro e wx ⟨⟨t, rfl, ht⟩, hbx⟩
  obtain rfl : t = true := ht.2 awx
  clear ht
  go_wp2_with fail
  refine hK.out _ _ (keepX4 hS hbx) ?_
  clear hS hbx
  intro hS
  clear hK KF
  try simp only [Act.put, List.setIfInBounds_toArray, List.set_cons_zero, List.set_cons_succ]
  refine take_at (i := 58) (d := some 77) (v := .bool true) (by kernel_rfl) (by kernel_rfl) (by kernel_rfl) (by kernel_rfl) (fun _ _ _ h => h) ?_ hS ?_
  · intro o ho
    replace ho := Option.some.inj (Eq.trans (Eq.symm ho) rfl)
    subst ho
    refine Or.inl ⟨by rfl, ?_⟩
    intro w hSw
    (try dsimp only at hSw)
    go_simp
  simp only [Act.put, List.setIfInBounds_toArray, List.set_cons_zero, List.set_cons_succ]
  refine take_at (i := 59) (d := some 78) (v := .bool true) (by kernel_rfl) (by kernel_rfl) (by kernel_rfl) (by kernel_rfl) (fun _ _ _ h => h) ?_ hS ?_
  · intro o ho
    replace ho := Option.some.inj (Eq.trans (Eq.symm ho) rfl)
    subst ho
    refine Or.inl ⟨by rfl, ?_⟩
    intro w hSw
    (try dsimp only at hSw)
    go_simp
  simp only [Act.put, List.setIfInBounds_toArray, List.set_cons_zero, List.set_cons_succ]
  refine take_at (i := 60) (d := some 79) (v := .agg #[.float .f64 0, .float .f64 0]) (by kernel_rfl) (by kernel_rfl) (by kernel_rfl) (by kernel_rfl) (fun _ _ _ h => h) ?_ hS ?_
  · intro o ho
    replace ho := Option.some.inj (Eq.trans (Eq.symm ho) rfl)
    subst ho
    refine Or.inl ⟨by rfl, ?_⟩
    intro w hSw
    (try dsimp only at hSw)
    go_simp
  simp only [Act.put, List.setIfInBounds_toArray, List.set_cons_zero, List.set_cons_succ]
  refine take_at (i := 61) (d := some 80) (v := .agg #[.float .f64 4611686018427387904, .float .f64 0]) (by kernel_rfl) (by kernel_rfl) (by kernel_rfl) (by kernel_rfl) (fun _ _ _ h => h) ?_ hS ?_
  · intro o ho
    replace ho := Option.some.inj (Eq.trans (Eq.symm ho) rfl)
    subst ho
    refine Or.inl ⟨by rfl, ?_⟩
    intro w hSw
    (try dsimp only at hSw)
    go_simp
  simp only [Act.put, List.setIfInBounds_toArray, List.set_cons_zero, List.set_cons_succ]
  refine call_at 62 (by kernel_rfl) (by kernel_rfl) ?_
  intro o ho
  replace ho := Option.some.inj (Eq.trans (Eq.symm ho) rfl)
  subst ho
  intro KF hK
  go_simp
  refine (at_any 4607182418800017408 0 _).mono ?_
  rintro e wx ⟨rfl, hbx⟩
  go_wp2_with fail
  refine hK.out _ _ (keepX4 hS hbx) ?_
  clear hS hbx
  intro hS
  clear hK KF
  try simp only [Act.put, List.setIfInBounds_toArray, List.set_cons_zero, List.set_cons_succ]
  refine call_at 63 (by kernel_rfl) (by kernel_rfl) ?_
  intro o ho
  replace ho := Option.some.inj (Eq.trans (Eq.symm ho) rfl)
  subst ho
  intro KF hK
  go_simp
  refine (at_any 4607182418800017408 4607182418800017408 _).mono ?_
  rintro e wx ⟨rfl, hbx⟩
  go_wp2_with fail
  refine hK.out _ _ (keepX4 hS hbx) ?_
  clear hS hbx
  intro hS
  clear hK KF
  try simp only [Act.put, List.setIfInBounds_toArray, List.set_cons_zero, List.set_cons_succ]
  refine call_at 64 (by kernel_rfl) (by kernel_rfl) ?_
  intro o ho
  replace ho := Option.some.inj (Eq.trans (Eq.symm ho) rfl)
  subst ho
  intro KF hK
  go_simp
  refine (cross_any 0 0 4611686018427387904 0 4607182418800017408 0 4607182418800017408 4607182418800017408 _ ⟨⟨by omega, by omega⟩, ⟨by omega, by omega⟩, ⟨by omega, by omega⟩⟩ ⟨by omega, by omega⟩).mono ?_
  rintro e wx ⟨⟨t, rfl, ht⟩, hbx⟩
  obtain rfl : t = false := by
    cases t
    · rfl
    · exact absurd (ht.1 rfl) awy
  clear ht
  go_wp2_with fail
  refine hK.out _ _ (keepX4 hS hbx) ?_
  clear hS hbx
  intro hS
  clear hK KF
  try simp only [Act.put, List.setIfInBounds_toArray, List.set_cons_zero, List.set_cons_succ]
  refine take_at (i := 65) (d := some 84) (v := .bool true) (by kernel_rfl) (by kernel_rfl) (by kernel_rfl) (by kernel_rfl) (fun _ _ _ h => h) ?_ hS ?_
  · intro o ho
    replace ho := Option.some.inj (Eq.trans (Eq.symm ho) rfl)
    subst ho
    refine Or.inl ⟨by rfl, ?_⟩
    intro w hSw
    (try dsimp only at hSw)
    go_simp
  simp only [Act.put, List.setIfInBounds_toArray, List.set_cons_zero, List.set_cons_succ]
  refine take_at (i := 66) (d := some 85) (v := .bool true) (by kernel_rfl) (by kernel_rfl) (by kernel_rfl) (by kernel_rfl) (fun _ _ _ h => h) ?_ hS ?_
  · intro o ho
    replace ho := Option.some.inj (Eq.trans (Eq.symm ho) rfl)
    subst ho
    refine Or.inl ⟨by rfl, ?_⟩
    intro w hSw
    (try dsimp only at hSw)
    go_simp
  simp only [Act.put, List.setIfInBounds_toArray, List.set_cons_zero, List.set_cons_succ]
  refine take_at (i := 67) (d := some 0) (v := .bool true) (by kernel_rfl) (by kernel_rfl) (by kernel_rfl) (by kernel_rfl) (fun _ _ _ h => h) ?_ hS ?_
  · intro o ho
    replace ho := Option.some.inj (Eq.trans (Eq.symm ho) rfl)
    subst ho
    refine Or.inl ⟨by rfl, ?_⟩
    intro w hSw
    (try dsimp only at hSw)
    go_simp
  simp only [Act.put, List.setIfInBounds_toArray, List.set_cons_zero]
  refine wpAnyH_done (by kernel_rfl) ?_ _
  go_wp2
  go_ret
  exact ⟨rfl, hS.2.2.2.2⟩

end Go.Proofs.Ytglcngjllfgdpab
