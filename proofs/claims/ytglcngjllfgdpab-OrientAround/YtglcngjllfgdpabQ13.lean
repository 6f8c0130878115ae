/- Own texts, put together: Ok Ol. -/
import Derived.Test.YtglcngjllfgdpabQ12
/- The statements' helpers of package orient: at, left, awake. -/
namespace Go.Proofs.Ytglcngjllfgdpab
open Go.RowKit Go.Shelf
attribute [local go_sem] run_store_float

theorem keepX4 {w W W' : World} {q1 q2 q3 q4 : Addr} {x1 x2 x3 x4 : Value} (h : W.cell? q1 = some x1 ∧ W.cell? q2 = some x2 ∧ W.cell? q3 = some x3 ∧ W.cell? q4 = some x4 ∧ Below w.heap.size w W) (hb : Below W.heap.size W W') : W'.cell? q1 = some x1 ∧ W'.cell? q2 = some x2 ∧ W'.cell? q3 = some x3 ∧ W'.cell? q4 = some x4 ∧ Below w.heap.size w W' :=
  ⟨box_cell hb h.1, box_cell hb h.2.1, box_cell hb h.2.2.1, box_cell hb h.2.2.2.1, below_step h.2.2.2.2 hb⟩

set_option maxRecDepth 100000 in
theorem at_any (x y : Nat) (w : World) : Calls Try.prog 21 #[.float .f64 x, .float .f64 y] w fun e w' => e = .returned (pv x y) ∧ Below w.heap.size w w' := by
  go_enter Try.func21, Try.ntmps21
  go_wp2
  refine bodyPost_ret (v := pv x y) (by simp [results, Try.results21, go_sem]) rfl ?_
  exact ⟨rfl, (Below.refl _ _).alloc (Nat.le_refl _) _⟩

set_option maxRecDepth 100000 in
theorem left_any (ax ay bx by' cx cy : Nat) (w : World) (hw : W6 ax ay bx by' cx cy) :
    Calls Try.prog 19 #[pv ax ay, pv bx by', pv cx cy] w fun e w' => e = .returned (.bool (decide (0 < sg3 ax ay bx by' cx cy))) ∧ Below w.heap.size w w' := by
  have HW : Hid (W6 ax ay bx by' cx cy) := hw
  clear hw
  have HS : Hid (B3 w (((w.alloc (.cells #[.float .f64 ax, .float .f64 ay] 24)).alloc (.cells #[.float .f64 bx, .float .f64 by'] 24)).alloc (.cells #[.float .f64 cx, .float .f64 cy] 24)) ax ay bx by' cx cy) := B3.start w ax ay bx by' cx cy
  obtain ⟨z, hz⟩ : ∃ z, Hid (sg3 ax ay bx by' cx cy = z) := ⟨_, rfl⟩
  rw [hz.out]
  go_enter Try.func19, Try.ntmps19
  go_wp2_with fail
  refine (sign_is ax ay bx by' cx cy _ z HW.out hz.out).mono ?_
  rintro e w1 ⟨rfl, hb1⟩
  have HB : Hid (Below w.heap.size w w1) := below_step HS.out.bel hb1
  clear hb1 HS
  go_wp2
  go_ret
  exact ⟨rfl, HB.out⟩

theorem aw0 : sg3 4602678819172646954 4602678819172646960 4622945017495814144 4622945017495814144 4627448617123184640 4627448617123184640 = 1 := sg3_is (by decide +kernel)
theorem aw1 : sg3 0 0 4611686018427387904 0 4607182418800017408 4607182418800017408 = 1 := sg3_is (by decide +kernel)
theorem aw2 : sg3 0 0 4611686018427387904 0 4607182418800017408 13380194492917743616 = -1 := sg3_is (by decide +kernel)
theorem aw3 : sg3 0 0 4611686018427387904 0 4617315517961601024 0 = 0 := sg3_is (by decide +kernel)
theorem aw4 : sg3 0 0 4611686018427387904 0 5062045981164437504 4607182418800017408 = 0 := sg3_no (by decide +kernel)
theorem awx0 : sg3 0 0 4611686018427387904 0 4607182418800017408 13830554455654793216 = -1 := sg3_is (by decide +kernel)
theorem awx1 : sg3 0 0 4611686018427387904 0 4607182418800017408 4607182418800017408 = 1 := sg3_is (by decide +kernel)
theorem awx2 : sg3 4607182418800017408 13830554455654793216 4607182418800017408 4607182418800017408 0 0 = 1 := sg3_is (by decide +kernel)
theorem awx3 : sg3 4607182418800017408 13830554455654793216 4607182418800017408 4607182418800017408 4611686018427387904 0 = -1 := sg3_is (by decide +kernel)
theorem awx : CrossP 0 0 4611686018427387904 0 4607182418800017408 13830554455654793216 4607182418800017408 4607182418800017408 := by
  unfold CrossP
  rw [awx0, awx1, awx2, awx3]
  decide
theorem awy0 : sg3 0 0 4611686018427387904 0 4607182418800017408 0 = 0 := sg3_is (by decide +kernel)
theorem awy1 : sg3 0 0 4611686018427387904 0 4607182418800017408 4607182418800017408 = 1 := sg3_is (by decide +kernel)
theorem awy2 : sg3 4607182418800017408 0 4607182418800017408 4607182418800017408 0 0 = 1 := sg3_is (by decide +kernel)
theorem awy3 : sg3 4607182418800017408 0 4607182418800017408 4607182418800017408 4611686018427387904 0 = -1 := sg3_is (by decide +kernel)
theorem awy : ¬ CrossP 0 0 4611686018427387904 0 4607182418800017408 0 4607182418800017408 4607182418800017408 := by
  unfold CrossP
  rw [awy0, awy1, awy2, awy3]
  decide

set_option maxRecDepth 100000 in
set_option maxHeartbeats 8000000 in
theorem awake_any (w : World) : Calls Try.prog 13 #[] w fun e w' => e = .returned (.bool true) ∧ Below w.heap.size w w' := by
  go_enter Try.func13, Try.ntmps13
  have HB : Hid (Below w.heap.size w w) := Below.refl _ _
  go_wp2_with fail
  refine (at_any 0 0 _).mono ?_
  rintro e w1 ⟨rfl, hb1⟩
  have HB : Hid (Below w.heap.size w w1) := below_step HB.out hb1
  clear hb1
  go_wp2_with fail
  refine (at_any 4611686018427387904 0 _).mono ?_
  rintro e w2 ⟨rfl, hb2⟩
  have HB : Hid (Below w.heap.size w w2) := below_step HB.out hb2
  clear hb2
  go_wp2_with fail
  refine (at_any 13875590451928498176 13875581655835475968 _).mono ?_
  rintro e w3 ⟨rfl, hb3⟩
  have HBB : Hid (Below w2.heap.size w2 ((w2.alloc (.cells #[.float .f64 0, .float .f64 0] 24)).alloc (.cells #[.float .f64 4611686018427387904, .float .f64 0] 24))) := ((Below.refl _ _).alloc (Nat.le_refl _) _).alloc (by simp) _
  have HB : Hid (Below w.heap.size w w3) := below_step (below_step HB.out HBB.out) hb3
  obtain ⟨n0, hn0⟩ : ∃ n0, n0 = w2.heap.size := ⟨_, rfl⟩
  have c0 : w3.cell? ⟨n0, 0, none⟩ = some (.float .f64 0) := by rw [hn0]; exact box_cell hb3 (by go_simp)
  have c1 : w3.cell? ⟨n0, 1, none⟩ = some (.float .f64 0) := by rw [hn0]; exact box_cell hb3 (by go_simp)
  have c2 : w3.cell? ⟨n0 + 1, 0, none⟩ = some (.float .f64 4611686018427387904) := by rw [hn0]; exact box_cell hb3 (by go_simp)
  have c3 : w3.cell? ⟨n0 + 1, 1, none⟩ = some (.float .f64 0) := by rw [hn0]; exact box_cell hb3 (by go_simp)
  rw [← hn0]
  clear hb3 HBB hn0
  go_wp2_with fail
  refine (at_any 4652218415073722368 4652209618980700160 _).mono ?_
  rintro e w4 ⟨rfl, hb4⟩
  have HB : Hid (Below w.heap.size w w4) := below_step HB.out hb4
  have c0 : w4.cell? ⟨n0, 0, none⟩ = some (.float .f64 0) := box_cell hb4 c0
  have c1 : w4.cell? ⟨n0, 1, none⟩ = some (.float .f64 0) := box_cell hb4 c1
  have c2 : w4.cell? ⟨n0 + 1, 0, none⟩ = some (.float .f64 4611686018427387904) := box_cell hb4 c2
  have c3 : w4.cell? ⟨n0 + 1, 1, none⟩ = some (.float .f64 0) := box_cell hb4 c3
  clear hb4
  go_wp2_with fail
  refine (at_any 4652209618980700160 4652200822887677952 _).mono ?_
  rintro e w5 ⟨rfl, hb5⟩
  have HB : Hid (Below w.heap.size w w5) := below_step HB.out hb5
  have c0 : w5.cell? ⟨n0, 0, none⟩ = some (.float .f64 0) := box_cell hb5 c0
  have c1 : w5.cell? ⟨n0, 1, none⟩ = some (.float .f64 0) := box_cell hb5 c1
  have c2 : w5.cell? ⟨n0 + 1, 0, none⟩ = some (.float .f64 4611686018427387904) := box_cell hb5 c2
  have c3 : w5.cell? ⟨n0 + 1, 1, none⟩ = some (.float .f64 0) := box_cell hb5 c3
  clear hb5
  go_wp2_with fail
  refine (fast_any 13875590451928498176 13875581655835475968 4652218415073722368 4652209618980700160 4652209618980700160 4652200822887677952 _ ⟨⟨by omega, by omega⟩, ⟨by omega, by omega⟩, ⟨by omega, by omega⟩⟩).mono ?_
  rintro e w6 ⟨⟨z, t, rfl, hz⟩, hb6⟩
  obtain rfl : t = true := hz.2.2 (by decide +kernel) ⟨-1024, by decide +kernel, by omega, by omega⟩ ⟨-1023, by decide +kernel, by omega, by omega⟩ ⟨1024, by decide +kernel, by omega, by omega⟩ ⟨1023, by decide +kernel, by omega, by omega⟩ ⟨1023, by decide +kernel, by omega, by omega⟩ ⟨1022, by decide +kernel, by omega, by omega⟩ (by decide +kernel)
  obtain rfl : z = -1 := (hz.1 rfl).2.trans (by decide +kernel)
  clear hz
  have HB : Hid (Below w.heap.size w w6) := below_step HB.out hb6
  have c0 : w6.cell? ⟨n0, 0, none⟩ = some (.float .f64 0) := box_cell hb6 c0
  have c1 : w6.cell? ⟨n0, 1, none⟩ = some (.float .f64 0) := box_cell hb6 c1
  have c2 : w6.cell? ⟨n0 + 1, 0, none⟩ = some (.float .f64 4611686018427387904) := box_cell hb6 c2
  have c3 : w6.cell? ⟨n0 + 1, 1, none⟩ = some (.float .f64 0) := box_cell hb6 c3
  clear hb6
  go_wp2_with fail
  refine (at_any 4602678819172646954 4602678819172646960 _).mono ?_
  rintro e w7 ⟨rfl, hb7⟩
  have HB : Hid (Below w.heap.size w w7) := below_step HB.out hb7
  have c0 : w7.cell? ⟨n0, 0, none⟩ = some (.float .f64 0) := box_cell hb7 c0
  have c1 : w7.cell? ⟨n0, 1, none⟩ = some (.float .f64 0) := box_cell hb7 c1
  have c2 : w7.cell? ⟨n0 + 1, 0, none⟩ = some (.float .f64 4611686018427387904) := box_cell hb7 c2
  have c3 : w7.cell? ⟨n0 + 1, 1, none⟩ = some (.float .f64 0) := box_cell hb7 c3
  clear hb7
  go_wp2_with fail
  refine (at_any 4622945017495814144 4622945017495814144 _).mono ?_
  rintro e w8 ⟨rfl, hb8⟩
  have HB : Hid (Below w.heap.size w w8) := below_step HB.out hb8
  have c0 : w8.cell? ⟨n0, 0, none⟩ = some (.float .f64 0) := box_cell hb8 c0
  have c1 : w8.cell? ⟨n0, 1, none⟩ = some (.float .f64 0) := box_cell hb8 c1
  have c2 : w8.cell? ⟨n0 + 1, 0, none⟩ = some (.float .f64 4611686018427387904) := box_cell hb8 c2
  have c3 : w8.cell? ⟨n0 + 1, 1, none⟩ = some (.float .f64 0) := box_cell hb8 c3
  clear hb8
  go_wp2_with fail
  refine (at_any 4627448617123184640 4627448617123184640 _).mono ?_
  rintro e w9 ⟨rfl, hb9⟩
  have HB : Hid (Below w.heap.size w w9) := below_step HB.out hb9
  have c0 : w9.cell? ⟨n0, 0, none⟩ = some (.float .f64 0) := box_cell hb9 c0
  have c1 : w9.cell? ⟨n0, 1, none⟩ = some (.float .f64 0) := box_cell hb9 c1
  have c2 : w9.cell? ⟨n0 + 1, 0, none⟩ = some (.float .f64 4611686018427387904) := box_cell hb9 c2
  have c3 : w9.cell? ⟨n0 + 1, 1, none⟩ = some (.float .f64 0) := box_cell hb9 c3
  clear hb9
  go_wp2_with fail
  refine (sign_is 4602678819172646954 4602678819172646960 4622945017495814144 4622945017495814144 4627448617123184640 4627448617123184640 _ (1) ⟨⟨by omega, by omega⟩, ⟨by omega, by omega⟩, ⟨by omega, by omega⟩⟩ aw0).mono ?_
  rintro e w10 ⟨rfl, hb10⟩
  have HB : Hid (Below w.heap.size w w10) := below_step HB.out hb10
  have c0 : w10.cell? ⟨n0, 0, none⟩ = some (.float .f64 0) := box_cell hb10 c0
  have c1 : w10.cell? ⟨n0, 1, none⟩ = some (.float .f64 0) := box_cell hb10 c1
  have c2 : w10.cell? ⟨n0 + 1, 0, none⟩ = some (.float .f64 4611686018427387904) := box_cell hb10 c2
  have c3 : w10.cell? ⟨n0 + 1, 1, none⟩ = some (.float .f64 0) := box_cell hb10 c3
  clear hb10
  go_wp2_with fail
  refine wp_region_held_drew (S := (fun W => W.cell? ⟨n0, 0, none⟩ = some (.float .f64 0) ∧ W.cell? ⟨n0, 1, none⟩ = some (.float .f64 0) ∧ W.cell? ⟨n0 + 1, 0, none⟩ = some (.float .f64 4611686018427387904) ∧ W.cell? ⟨n0 + 1, 1, none⟩ = some (.float .f64 0) ∧ Below w.heap.size w W)) (by kernel_rfl) ⟨c0, c1, c2, c3, HB.out.drew⟩ (fun hS => ?_)
  refine take_at (i := 0) (d := some 19) (v := .bool true) (by kernel_rfl) (by kernel_rfl) (by kernel_rfl) (by kernel_rfl) (fun _ _ _ h => h) ?_ hS ?_
  · intro o ho
    replace ho := Option.some.inj (Eq.trans (Eq.symm ho) rfl)
    subst ho
    refine Or.inl ⟨by rfl, ?_⟩
    intro w hSw
    (try dsimp only at hSw)
    go_simp
  simp only [Act.put, List.setIfInBounds_toArray, List.set_cons_zero, List.set_cons_succ]
  refine take_at (i := 1) (d := some 20) (v := .bool true) (by kernel_rfl) (by kernel_rfl) (by kernel_rfl) (by kernel_rfl) (fun _ _ _ h => h) ?_ hS ?_
  · intro o ho
    replace ho := Option.some.inj (Eq.trans (Eq.symm ho) rfl)
    subst ho
    refine Or.inl ⟨by rfl, ?_⟩
    intro w hSw
    (try dsimp only at hSw)
    go_simp
  simp only [Act.put, List.setIfInBounds_toArray, List.set_cons_zero, List.set_cons_succ]
  refine take_at (i := 2) (d := some 21) (v := .int .i64 (-1)) (by kernel_rfl) (by kernel_rfl) (by kernel_rfl) (by kernel_rfl) (fun _ _ _ h => h) ?_ hS ?_
  · intro o ho
    replace ho := Option.some.inj (Eq.trans (Eq.symm ho) rfl)
    subst ho
    refine Or.inl ⟨by rfl, ?_⟩
    intro w hSw
    (try dsimp only at hSw)
    go_simp
  simp only [Act.put, List.setIfInBounds_toArray, List.set_cons_zero, List.set_cons_succ]
  refine take_at (i := 3) (d := some 22) (v := .bool true) (by kernel_rfl) (by kernel_rfl) (by kernel_rfl) (by kernel_rfl) (fun _ _ _ h => h) ?_ hS ?_
  · intro o ho
    replace ho := Option.some.inj (Eq.trans (Eq.symm ho) rfl)
    subst ho
    refine Or.inl ⟨by rfl, ?_⟩
    intro w hSw
    (try dsimp only at hSw)
    go_simp
  simp only [Act.put, List.setIfInBounds_toArray, List.set_cons_zero, List.set_cons_succ]
  refine take_at (i := 4) (d := some 23) (v := .bool true) (by kernel_rfl) (by kernel_rfl) (by kernel_rfl) (by kernel_rfl) (fun _ _ _ h => h) ?_ hS ?_
  · intro o ho
    replace ho := Option.some.inj (Eq.trans (Eq.symm ho) rfl)
    subst ho
    refine Or.inl ⟨by rfl, ?_⟩
    intro w hSw
    (try dsimp only at hSw)
    go_simp
  simp only [Act.put, List.setIfInBounds_toArray, List.set_cons_zero, List.set_cons_succ]
  refine take_at (i := 5) (d := some 24) (v := .bool true) (by kernel_rfl) (by kernel_rfl) (by kernel_rfl) (by kernel_rfl) (fun _ _ _ h => h) ?_ hS ?_
  · intro o ho
    replace ho := Option.some.inj (Eq.trans (Eq.symm ho) rfl)
    subst ho
    refine Or.inl ⟨by rfl, ?_⟩
    intro w hSw
    (try dsimp only at hSw)
    go_simp
  simp only [Act.put, List.setIfInBounds_toArray, List.set_cons_zero, List.set_cons_succ]
  refine take_at (i := 6) (d := some 25) (v := .agg #[.float .f64 0, .float .f64 0]) (by kernel_rfl) (by kernel_rfl) (by kernel_rfl) (by kernel_rfl) (fun _ _ _ h => h) ?_ hS ?_
  · intro o ho
    replace ho := Option.some.inj (Eq.trans (Eq.symm ho) rfl)
    subst ho
    refine Or.inl ⟨by rfl, ?_⟩
    intro w hSw
    (try dsimp only at hSw)
    go_simp
  simp only [Act.put, List.setIfInBounds_toArray, List.set_cons_zero, List.set_cons_succ]
  refine take_at (i := 7) (d := some 26) (v := .agg #[.float .f64 4611686018427387904, .float .f64 0]) (by kernel_rfl) (by kernel_rfl) (by kernel_rfl) (by kernel_rfl) (fun _ _ _ h => h) ?_ hS ?_
  · intro o ho
    replace ho := Option.some.inj (Eq.trans (Eq.symm ho) rfl)
    subst ho
    refine Or.inl ⟨by rfl, ?_⟩
    intro w hSw
    (try dsimp only at hSw)
    go_simp
  simp only [Act.put, List.setIfInBounds_toArray, List.set_cons_zero, List.set_cons_succ]
  refine call_at 8 (by kernel_rfl) (by kernel_rfl) ?_
  intro o ho
  replace ho := Option.some.inj (Eq.trans (Eq.symm ho) rfl)
  subst ho
  intro KF hK
  go_simp
  refine (at_any 4607182418800017408 4607182418800017408 _).mono ?_
  rintro e wx ⟨rfl, hbx⟩
  go_wp2_with fail
  refine hK.out _ _ (keepX4 hS hbx) ?_
  clear hS hbx
  intro hS
  clear hK KF
  try simp only [Act.put, List.setIfInBounds_toArray, List.set_cons_zero, List.set_cons_succ]
  refine call_at 9 (by kernel_rfl) (by kernel_rfl) ?_
  intro o ho
  replace ho := Option.some.inj (Eq.trans (Eq.symm ho) rfl)
  subst ho
  intro KF hK
  go_simp
  refine (sign_is 0 0 4611686018427387904 0 4607182418800017408 4607182418800017408 _ (1) ⟨⟨by omega, by omega⟩, ⟨by omega, by omega⟩, ⟨by omega, by omega⟩⟩ aw1).mono ?_
  rintro e wx ⟨rfl, hbx⟩
  go_wp2_with fail
  refine hK.out _ _ (keepX4 hS hbx) ?_
  clear hS hbx
  intro hS
  clear hK KF
  try simp only [Act.put, List.setIfInBounds_toArray, List.set_cons_zero, List.set_cons_succ]
  refine take_at (i := 10) (d := some 29) (v := .bool true) (by kernel_rfl) (by kernel_rfl) (by kernel_rfl) (by kernel_rfl) (fun _ _ _ h => h) ?_ hS ?_
  · intro o ho
    replace ho := Option.some.inj (Eq.trans (Eq.symm ho) rfl)
    subst ho
    refine Or.inl ⟨by rfl, ?_⟩
    intro w hSw
    (try dsimp only at hSw)
    go_simp
  simp only [Act.put, List.setIfInBounds_toArray, List.set_cons_zero, List.set_cons_succ]
  refine take_at (i := 11) (d := some 30) (v := .bool true) (by kernel_rfl) (by kernel_rfl) (by kernel_rfl) (by kernel_rfl) (fun _ _ _ h => h) ?_ hS ?_
  · intro o ho
    replace ho := Option.some.inj (Eq.trans (Eq.symm ho) rfl)
    subst ho
    refine Or.inl ⟨by rfl, ?_⟩
    intro w hSw
    (try dsimp only at hSw)
    go_simp
  simp only [Act.put, List.setIfInBounds_toArray, List.set_cons_zero, List.set_cons_succ]
  refine take_at (i := 12) (d := some 31) (v := .bool true) (by kernel_rfl) (by kernel_rfl) (by kernel_rfl) (by kernel_rfl) (fun _ _ _ h => h) ?_ hS ?_
  · intro o ho
    replace ho := Option.some.inj (Eq.trans (Eq.symm ho) rfl)
    subst ho
    refine Or.inl ⟨by rfl, ?_⟩
    intro w hSw
    (try dsimp only at hSw)
    go_simp
  simp only [Act.put, List.setIfInBounds_toArray, List.set_cons_zero, List.set_cons_succ]
  refine take_at (i := 13) (d := some 32) (v := .agg #[.float .f64 0, .float .f64 0]) (by kernel_rfl) (by kernel_rfl) (by kernel_rfl) (by kernel_rfl) (fun _ _ _ h => h) ?_ hS ?_
  · intro o ho
    replace ho := Option.some.inj (Eq.trans (Eq.symm ho) rfl)
    subst ho
    refine Or.inl ⟨by rfl, ?_⟩
    intro w hSw
    (try dsimp only at hSw)
    go_simp
  simp only [Act.put, List.setIfInBounds_toArray, List.set_cons_zero, List.set_cons_succ]
  refine take_at (i := 14) (d := some 33) (v := .agg #[.float .f64 4611686018427387904, .float .f64 0]) (by kernel_rfl) (by kernel_rfl) (by kernel_rfl) (by kernel_rfl) (fun _ _ _ h => h) ?_ hS ?_
  · intro o ho
    replace ho := Option.some.inj (Eq.trans (Eq.symm ho) rfl)
    subst ho
    refine Or.inl ⟨by rfl, ?_⟩
    intro w hSw
    (try dsimp only at hSw)
    go_simp
  simp only [Act.put, List.setIfInBounds_toArray, List.set_cons_zero, List.set_cons_succ]
  refine call_at 15 (by kernel_rfl) (by kernel_rfl) ?_
  intro o ho
  replace ho := Option.some.inj (Eq.trans (Eq.symm ho) rfl)
  subst ho
  intro KF hK
  go_simp
  refine (at_any 4607182418800017408 13380194492917743616 _).mono ?_
  rintro e wx ⟨rfl, hbx⟩
  go_wp2_with fail
  refine hK.out _ _ (keepX4 hS hbx) ?_
  clear hS hbx
  intro hS
  clear hK KF
  try simp only [Act.put, List.setIfInBounds_toArray, List.set_cons_zero, List.set_cons_succ]
  refine call_at 16 (by kernel_rfl) (by kernel_rfl) ?_
  intro o ho
  replace ho := Option.some.inj (Eq.trans (Eq.symm ho) rfl)
  subst ho
  intro KF hK
  go_simp
  refine (sign_is 0 0 4611686018427387904 0 4607182418800017408 13380194492917743616 _ (-1) ⟨⟨by omega, by omega⟩, ⟨by omega, by omega⟩, ⟨by omega, by omega⟩⟩ aw2).mono ?_
  rintro e wx ⟨rfl, hbx⟩
  go_wp2_with fail
  refine hK.out _ _ (keepX4 hS hbx) ?_
  clear hS hbx
  intro hS
  clear hK KF
  try simp only [Act.put, List.setIfInBounds_toArray, List.set_cons_zero, List.set_cons_succ]
  refine take_at (i := 17) (d := some 36) (v := .bool true) (by kernel_rfl) (by kernel_rfl) (by kernel_rfl) (by kernel_rfl) (fun _ _ _ h => h) ?_ hS ?_
  · intro o ho
    replace ho := Option.some.inj (Eq.trans (Eq.symm ho) rfl)
    subst ho
    refine Or.inl ⟨by rfl, ?_⟩
    intro w hSw
    (try dsimp only at hSw)
    go_simp
  simp only [Act.put, List.setIfInBounds_toArray, List.set_cons_zero, List.set_cons_succ]
  refine take_at (i := 18) (d := some 37) (v := .bool true) (by kernel_rfl) (by kernel_rfl) (by kernel_rfl) (by kernel_rfl) (fun _ _ _ h => h) ?_ hS ?_
  · intro o ho
    replace ho := Option.some.inj (Eq.trans (Eq.symm ho) rfl)
    subst ho
    refine Or.inl ⟨by rfl, ?_⟩
    intro w hSw
    (try dsimp only at hSw)
    go_simp
  simp only [Act.put, List.setIfInBounds_toArray, List.set_cons_zero, List.set_cons_succ]
  refine take_at (i := 19) (d := some 38) (v := .bool true) (by kernel_rfl) (by kernel_rfl) (by kernel_rfl) (by kernel_rfl) (fun _ _ _ h => h) ?_ hS ?_
  · intro o ho
    replace ho := Option.some.inj (Eq.trans (Eq.symm ho) rfl)
    subst ho
    refine Or.inl ⟨by rfl, ?_⟩
    intro w hSw
    (try dsimp only at hSw)
    go_simp
  simp only [Act.put, List.setIfInBounds_toArray, List.set_cons_zero, List.set_cons_succ]
  refine take_at (i := 20) (d := some 39) (v := .agg #[.float .f64 0, .float .f64 0]) (by kernel_rfl) (by kernel_rfl) (by kernel_rfl) (by kernel_rfl) (fun _ _ _ h => h) ?_ hS ?_
  · intro o ho
    replace ho := Option.some.inj (Eq.trans (Eq.symm ho) rfl)
    subst ho
    refine Or.inl ⟨by rfl, ?_⟩
    intro w hSw
    (try dsimp only at hSw)
    go_simp
  simp only [Act.put, List.setIfInBounds_toArray, List.set_cons_zero, List.set_cons_succ]
  refine take_at (i := 21) (d := some 40) (v := .agg #[.float .f64 4611686018427387904, .float .f64 0]) (by kernel_rfl) (by kernel_rfl) (by kernel_rfl) (by kernel_rfl) (fun _ _ _ h => h) ?_ hS ?_
  · intro o ho
    replace ho := Option.some.inj (Eq.trans (Eq.symm ho) rfl)
    subst ho
    refine Or.inl ⟨by rfl, ?_⟩
    intro w hSw
    (try dsimp only at hSw)
    go_simp
  simp only [Act.put, List.setIfInBounds_toArray, List.set_cons_zero, List.set_cons_succ]
  refine call_at 22 (by kernel_rfl) (by kernel_rfl) ?_
  intro o ho
  replace ho := Option.some.inj (Eq.trans (Eq.symm ho) rfl)
  subst ho
  intro KF hK
  go_simp
  refine (at_any 4617315517961601024 0 _).mono ?_
  rintro e wx ⟨rfl, hbx⟩
  go_wp2_with fail
  refine hK.out _ _ (keepX4 hS hbx) ?_
  clear hS hbx
  intro hS
  clear hK KF
  try simp only [Act.put, List.setIfInBounds_toArray, List.set_cons_zero, List.set_cons_succ]
  refine call_at 23 (by kernel_rfl) (by kernel_rfl) ?_
  intro o ho
  replace ho := Option.some.inj (Eq.trans (Eq.symm ho) rfl)
  subst ho
  intro KF hK
  go_simp
  refine (sign_is 0 0 4611686018427387904 0 4617315517961601024 0 _ (0) ⟨⟨by omega, by omega⟩, ⟨by omega, by omega⟩, ⟨by omega, by omega⟩⟩ aw3).mono ?_
  rintro e wx ⟨rfl, hbx⟩
  go_wp2_with fail
  refine hK.out _ _ (keepX4 hS hbx) ?_
  clear hS hbx
  intro hS
  clear hK KF
  try simp only [Act.put, List.setIfInBounds_toArray, List.set_cons_zero, List.set_cons_succ]
  refine take_at (i := 24) (d := some 43) (v := .bool true) (by kernel_rfl) (by kernel_rfl) (by kernel_rfl) (by kernel_rfl) (fun _ _ _ h => h) ?_ hS ?_
  · intro o ho
    replace ho := Option.some.inj (Eq.trans (Eq.symm ho) rfl)
    subst ho
    refine Or.inl ⟨by rfl, ?_⟩
    intro w hSw
    (try dsimp only at hSw)
    go_simp
  simp only [Act.put, List.setIfInBounds_toArray, List.set_cons_zero, List.set_cons_succ]
  refine take_at (i := 25) (d := some 44) (v := .bool true) (by kernel_rfl) (by kernel_rfl) (by kernel_rfl) (by kernel_rfl) (fun _ _ _ h => h) ?_ hS ?_
  · intro o ho
    replace ho := Option.some.inj (Eq.trans (Eq.symm ho) rfl)
    subst ho
    refine Or.inl ⟨by rfl, ?_⟩
    intro w hSw
    (try dsimp only at hSw)
    go_simp
  simp only [Act.put, List.setIfInBounds_toArray, List.set_cons_zero, List.set_cons_succ]
  refine take_at (i := 26) (d := some 45) (v := .bool true) (by kernel_rfl) (by kernel_rfl) (by kernel_rfl) (by kernel_rfl) (fun _ _ _ h => h) ?_ hS ?_
  · intro o ho
    replace ho := Option.some.inj (Eq.trans (Eq.symm ho) rfl)
    subst ho
    refine Or.inl ⟨by rfl, ?_⟩
    intro w hSw
    (try dsimp only at hSw)
    go_simp
  simp only [Act.put, List.setIfInBounds_toArray, List.set_cons_zero, List.set_cons_succ]
  refine take_at (i := 27) (d := some 46) (v := .agg #[.float .f64 0, .float .f64 0]) (by kernel_rfl) (by kernel_rfl) (by kernel_rfl) (by kernel_rfl) (fun _ _ _ h => h) ?_ hS ?_
  · intro o ho
    replace ho := Option.some.inj (Eq.trans (Eq.symm ho) rfl)
    subst ho
    refine Or.inl ⟨by rfl, ?_⟩
    intro w hSw
    (try dsimp only at hSw)
    go_simp
  simp only [Act.put, List.setIfInBounds_toArray, List.set_cons_zero, List.set_cons_succ]
  refine take_at (i := 28) (d := some 47) (v := .agg #[.float .f64 4611686018427387904, .float .f64 0]) (by kernel_rfl) (by kernel_rfl) (by kernel_rfl) (by kernel_rfl) (fun _ _ _ h => h) ?_ hS ?_
  · intro o ho
    replace ho := Option.some.inj (Eq.trans (Eq.symm ho) rfl)
    subst ho
    refine Or.inl ⟨by rfl, ?_⟩
    intro w hSw
    (try dsimp only at hSw)
    go_simp
  simp only [Act.put, List.setIfInBounds_toArray, List.set_cons_zero, List.set_cons_succ]
  refine call_at 29 (by kernel_rfl) (by kernel_rfl) ?_
  intro o ho
  replace ho := Option.some.inj (Eq.trans (Eq.symm ho) rfl)
  subst ho
  intro KF hK
  go_simp
  refine (at_any 5062045981164437504 4607182418800017408 _).mono ?_
  rintro e wx ⟨rfl, hbx⟩
  go_wp2_with fail
  refine hK.out _ _ (keepX4 hS hbx) ?_
  clear hS hbx
  intro hS
  clear hK KF
  try simp only [Act.put, List.setIfInBounds_toArray, List.set_cons_zero, List.set_cons_succ]
  refine call_at 30 (by kernel_rfl) (by kernel_rfl) ?_
  intro o ho
  replace ho := Option.some.inj (Eq.trans (Eq.symm ho) rfl)
  subst ho
  intro KF hK
  go_simp
  refine (sign_is 0 0 4611686018427387904 0 5062045981164437504 4607182418800017408 _ (0) ⟨⟨by omega, by omega⟩, ⟨by omega, by omega⟩, ⟨by omega, by omega⟩⟩ aw4).mono ?_
  rintro e wx ⟨rfl, hbx⟩
  go_wp2_with fail
  refine hK.out _ _ (keepX4 hS hbx) ?_
  clear hS hbx
  intro hS
  clear hK KF
  try simp only [Act.put, List.setIfInBounds_toArray, List.set_cons_zero, List.set_cons_succ]
  refine take_at (i := 31) (d := some 50) (v := .bool true) (by kernel_rfl) (by kernel_rfl) (by kernel_rfl) (by kernel_rfl) (fun _ _ _ h => h) ?_ hS ?_
  · intro o ho
    replace ho := Option.some.inj (Eq.trans (Eq.symm ho) rfl)
    subst ho
    refine Or.inl ⟨by rfl, ?_⟩
    intro w hSw
    (try dsimp only at hSw)
    go_simp
  simp only [Act.put, List.setIfInBounds_toArray, List.set_cons_zero, List.set_cons_succ]
  refine take_at (i := 32) (d := some 51) (v := .bool true) (by kernel_rfl) (by kernel_rfl) (by kernel_rfl) (by kernel_rfl) (fun _ _ _ h => h) ?_ hS ?_
  · intro o ho
    replace ho := Option.some.inj (Eq.trans (Eq.symm ho) rfl)
    subst ho
    refine Or.inl ⟨by rfl, ?_⟩
    intro w hSw
    (try dsimp only at hSw)
    go_simp
  simp only [Act.put, List.setIfInBounds_toArray, List.set_cons_zero, List.set_cons_succ]
  refine take_at (i := 33) (d := some 52) (v := .bool true) (by kernel_rfl) (by kernel_rfl) (by kernel_rfl) (by kernel_rfl) (fun _ _ _ h => h) ?_ hS ?_
  · intro o ho
    replace ho := Option.some.inj (Eq.trans (Eq.symm ho) rfl)
    subst ho
    refine Or.inl ⟨by rfl, ?_⟩
    intro w hSw
    (try dsimp only at hSw)
    go_simp
  simp only [Act.put, List.setIfInBounds_toArray, List.set_cons_zero, List.set_cons_succ]
  refine take_at (i := 34) (d := some 53) (v := .agg #[.float .f64 0, .float .f64 0]) (by kernel_rfl) (by kernel_rfl) (by kernel_rfl) (by kernel_rfl) (fun _ _ _ h => h) ?_ hS ?_
  · intro o ho
    replace ho := Option.some.inj (Eq.trans (Eq.symm ho) rfl)
    subst ho
    refine Or.inl ⟨by rfl, ?_⟩
    intro w hSw
    (try dsimp only at hSw)
    go_simp
  simp only [Act.put, List.setIfInBounds_toArray, List.set_cons_zero, List.set_cons_succ]
  refine take_at (i := 35) (d := some 54) (v := .agg #[.float .f64 4611686018427387904, .float .f64 0]) (by kernel_rfl) (by kernel_rfl) (by kernel_rfl) (by kernel_rfl) (fun _ _ _ h => h) ?_ hS ?_
  · intro o ho
    replace ho := Option.some.inj (Eq.trans (Eq.symm ho) rfl)
    subst ho
    refine Or.inl ⟨by rfl, ?_⟩
    intro w hSw
    (try dsimp only at hSw)
    go_simp
  simp only [Act.put, List.setIfInBounds_toArray, List.set_cons_zero, List.set_cons_succ]
  refine call_at 36 (by kernel_rfl) (by kernel_rfl) ?_
  intro o ho
  replace ho := Option.some.inj (Eq.trans (Eq.symm ho) rfl)
  subst ho
  intro KF hK
  go_simp
  refine (at_any 4607182418800017408 0 _).mono ?_
  rintro e wx ⟨rfl, hbx⟩
  go_wp2_with fail
  refine hK.out _ _ (keepX4 hS hbx) ?_
  clear hS hbx
  intro hS
  clear hK KF
  try simp only [Act.put, List.setIfInBounds_toArray, List.set_cons_zero, List.set_cons_succ]
  refine call_at 37 (by kernel_rfl) (by kernel_rfl) ?_
  intro o ho
  replace ho := Option.some.inj (Eq.trans (Eq.symm ho) rfl)
  subst ho
  intro KF hK
  go_simp
  refine (on_any 0 0 4611686018427387904 0 4607182418800017408 0 _ ⟨⟨by omega, by omega⟩, ⟨by omega, by omega⟩, ⟨by omega, by omega⟩⟩).mono ?_
  rintro e wx ⟨⟨t, rfl, ht⟩, hbx⟩
  obtain rfl : t = true := ht.2 (by decide +kernel)
  clear ht
  go_wp2_with fail
  refine hK.out _ _ (keepX4 hS hbx) ?_
  clear hS hbx
  intro hS
  clear hK KF
  try simp only [Act.put, List.setIfInBounds_toArray, List.set_cons_zero, List.set_cons_succ]
  refine take_at (i := 38) (d := some 57) (v := .bool true) (by kernel_rfl) (by kernel_rfl) (by kernel_rfl) (by kernel_rfl) (fun _ _ _ h => h) ?_ hS ?_
  · intro o ho
    replace ho := Option.some.inj (Eq.trans (Eq.symm ho) rfl)
    subst ho
    refine Or.inl ⟨by rfl, ?_⟩
    intro w hSw
    (try dsimp only at hSw)
    go_simp
  simp only [Act.put, List.setIfInBounds_toArray, List.set_cons_zero, List.set_cons_succ]
  refine take_at (i := 39) (d := some 58) (v := .bool true) (by kernel_rfl) (by kernel_rfl) (by kernel_rfl) (by kernel_rfl) (fun _ _ _ h => h) ?_ hS ?_
  · intro o ho
    replace ho := Option.some.inj (Eq.trans (Eq.symm ho) rfl)
    subst ho
    refine Or.inl ⟨by rfl, ?_⟩
    intro w hSw
    (try dsimp only at hSw)
    go_simp
  simp only [Act.put, List.setIfInBounds_toArray, List.set_cons_zero, List.set_cons_succ]
  refine take_at (i := 40) (d := some 59) (v := .agg #[.float .f64 0, .float .f64 0]) (by kernel_rfl) (by kernel_rfl) (by kernel_rfl) (by kernel_rfl) (fun _ _ _ h => h) ?_ hS ?_
  · intro o ho
    replace ho := Option.some.inj (Eq.trans (Eq.symm ho) rfl)
    subst ho
    refine Or.inl ⟨by rfl, ?_⟩
    intro w hSw
    (try dsimp only at hSw)
    go_simp
  simp only [Act.put, List.setIfInBounds_toArray, List.set_cons_zero, List.set_cons_succ]
  refine take_at (i := 41) (d := some 60) (v := .agg #[.float .f64 4611686018427387904, .float .f64 0]) (by kernel_rfl) (by kernel_rfl) (by kernel_rfl) (by kernel_rfl) (fun _ _ _ h => h) ?_ hS ?_
  · intro o ho
    replace ho := Option.some.inj (Eq.trans (Eq.symm ho) rfl)
    subst ho
    refine Or.inl ⟨by rfl, ?_⟩
    intro w hSw
    (try dsimp only at hSw)
    go_simp
  simp only [Act.put, List.setIfInBounds_toArray, List.set_cons_zero, List.set_cons_succ]
  refine take_at (i := 42) (d := some 61) (v := .agg #[.float .f64 0, .float .f64 0]) (by kernel_rfl) (by kernel_rfl) (by kernel_rfl) (by kernel_rfl) (fun _ _ _ h => h) ?_ hS ?_
  · intro o ho
    replace ho := Option.some.inj (Eq.trans (Eq.symm ho) rfl)
    subst ho
    refine Or.inl ⟨by rfl, ?_⟩
    intro w hSw
    (try dsimp only at hSw)
    go_simp
  simp only [Act.put, List.setIfInBounds_toArray, List.set_cons_zero, List.set_cons_succ]
  refine call_at 43 (by kernel_rfl) (by kernel_rfl) ?_
  intro o ho
  replace ho := Option.some.inj (Eq.trans (Eq.symm ho) rfl)
  subst ho
  intro KF hK
  go_simp
  refine (on_any 0 0 4611686018427387904 0 0 0 _ ⟨⟨by omega, by omega⟩, ⟨by omega, by omega⟩, ⟨by omega, by omega⟩⟩).mono ?_
  rintro e wx ⟨⟨t, rfl, ht⟩, hbx⟩
  obtain rfl : t = true := ht.2 (by decide +kernel)
  clear ht
  go_wp2_with fail
  refine hK.out _ _ (keepX4 hS hbx) ?_
  clear hS hbx
  intro hS
  clear hK KF
  try simp only [Act.put, List.setIfInBounds_toArray, List.set_cons_zero, List.set_cons_succ]
  refine take_at (i := 44) (d := some 63) (v := .bool true) (by kernel_rfl) (by kernel_rfl) (by kernel_rfl) (by kernel_rfl) (fun _ _ _ h => h) ?_ hS ?_
  · intro o ho
    replace ho := Option.some.inj (Eq.trans (Eq.symm ho) rfl)
    subst ho
    refine Or.inl ⟨by rfl, ?_⟩
    intro w hSw
    (try dsimp only at hSw)
    go_simp
  simp only [Act.put, List.setIfInBounds_toArray, List.set_cons_zero, List.set_cons_succ]
  refine take_at (i := 45) (d := some 64) (v := .bool true) (by kernel_rfl) (by kernel_rfl) (by kernel_rfl) (by kernel_rfl) (fun _ _ _ h => h) ?_ hS ?_
  · intro o ho
    replace ho := Option.some.inj (Eq.trans (Eq.symm ho) rfl)
    subst ho
    refine Or.inl ⟨by rfl, ?_⟩
    intro w hSw
    (try dsimp only at hSw)
    go_simp
  simp only [Act.put, List.setIfInBounds_toArray, List.set_cons_zero, List.set_cons_succ]
  refine take_at (i := 46) (d := some 65) (v := .agg #[.float .f64 0, .float .f64 0]) (by kernel_rfl) (by kernel_rfl) (by kernel_rfl) (by kernel_rfl) (fun _ _ _ h => h) ?_ hS ?_
  · intro o ho
    replace ho := Option.some.inj (Eq.trans (Eq.symm ho) rfl)
    subst ho
    refine Or.inl ⟨by rfl, ?_⟩
    intro w hSw
    (try dsimp only at hSw)
    go_simp
  simp only [Act.put, List.setIfInBounds_toArray, List.set_cons_zero, List.set_cons_succ]
  refine take_at (i := 47) (d := some 66) (v := .agg #[.float .f64 4611686018427387904, .float .f64 0]) (by kernel_rfl) (by kernel_rfl) (by kernel_rfl) (by kernel_rfl) (fun _ _ _ h => h) ?_ hS ?_
  · intro o ho
    replace ho := Option.some.inj (Eq.trans (Eq.symm ho) rfl)
    subst ho
    refine Or.inl ⟨by rfl, ?_⟩
    intro w hSw
    (try dsimp only at hSw)
    go_simp
  simp only [Act.put, List.setIfInBounds_toArray, List.set_cons_zero, List.set_cons_succ]
  refine call_at 48 (by kernel_rfl) (by kernel_rfl) ?_
  intro o ho
  replace ho := Option.some.inj (Eq.trans (Eq.symm ho) rfl)
  subst ho
  intro KF hK
  go_simp
  refine (at_any 4613937818241073152 0 _).mono ?_
  rintro e wx ⟨rfl, hbx⟩
  go_wp2_with fail
  refine hK.out _ _ (keepX4 hS hbx) ?_
  clear hS hbx
  intro hS
  clear hK KF
  try simp only [Act.put, List.setIfInBounds_toArray, List.set_cons_zero, List.set_cons_succ]
  refine call_at 49 (by kernel_rfl) (by kernel_rfl) ?_
  intro o ho
  replace ho := Option.some.inj (Eq.trans (Eq.symm ho) rfl)
  subst ho
  intro KF hK
  go_simp
  refine (on_any 0 0 4611686018427387904 0 4613937818241073152 0 _ ⟨⟨by omega, by omega⟩, ⟨by omega, by omega⟩, ⟨by omega, by omega⟩⟩).mono ?_
  rintro e wx ⟨⟨t, rfl, ht⟩, hbx⟩
  obtain rfl : t = false := by
    cases t
    · rfl
    · exact absurd (ht.1 rfl) (by decide +kernel)
  clear ht
  go_wp2_with fail
  refine hK.out _ _ (keepX4 hS hbx) ?_
  clear hS hbx
  intro hS
  clear hK KF
  try simp only [Act.put, List.setIfInBounds_toArray, List.set_cons_zero, List.set_cons_succ]
  refine take_at (i := 50) (d := some 69) (v := .bool true) (by kernel_rfl) (by kernel_rfl) (by kernel_rfl) (by kernel_rfl) (fun _ _ _ h => h) ?_ hS ?_
  · intro o ho
    replace ho := Option.some.inj (Eq.trans (Eq.symm ho) rfl)
    subst ho
    refine Or.inl ⟨by rfl, ?_⟩
    intro w hSw
    (try dsimp only at hSw)
    go_simp
  simp only [Act.put, List.setIfInBounds_toArray, List.set_cons_zero, List.set_cons_succ]
  refine take_at (i := 51) (d := some 70) (v := .bool true) (by kernel_rfl) (by kernel_rfl) (by kernel_rfl) (by kernel_rfl) (fun _ _ _ h => h) ?_ hS ?_
  · intro o ho
    replace ho := Option.some.inj (Eq.trans (Eq.symm ho) rfl)
    subst ho
    refine Or.inl ⟨by rfl, ?_⟩
    intro w hSw
    (try dsimp only at hSw)
    go_simp
  simp only [Act.put, List.setIfInBounds_toArray, List.set_cons_zero, List.set_cons_succ]
  refine take_at (i := 52) (d := some 71) (v := .bool true) (by kernel_rfl) (by kernel_rfl) (by kernel_rfl) (by kernel_rfl) (fun _ _ _ h => h) ?_ hS ?_
  · intro o ho
    replace ho := Option.some.inj (Eq.trans (Eq.symm ho) rfl)
    subst ho
    refine Or.inl ⟨by rfl, ?_⟩
    intro w hSw
    (try dsimp only at hSw)
    go_simp
  simp only [Act.put, List.setIfInBounds_toArray, List.set_cons_zero, List.set_cons_succ]
  refine take_at (i := 53) (d := some 72) (v := .agg #[.float .f64 0, .float .f64 0]) (by kernel_rfl) (by kernel_rfl) (by kernel_rfl) (by kernel_rfl) (fun _ _ _ h => h) ?_ hS ?_
  · intro o ho
    replace ho := Option.some.inj (Eq.trans (Eq.symm ho) rfl)
    subst ho
    refine Or.inl ⟨by rfl, ?_⟩
    intro w hSw
    (try dsimp only at hSw)
    go_simp
  simp only [Act.put, List.setIfInBounds_toArray, List.set_cons_zero, List.set_cons_succ]
  refine take_at (i := 54) (d := some 73) (v := .agg #[.float .f64 4611686018427387904, .float .f64 0]) (by kernel_rfl) (by kernel_rfl) (by kernel_rfl) (by kernel_rfl) (fun _ _ _ h => h) ?_ hS ?_
  · intro o ho
    replace ho := Option.some.inj (Eq.trans (Eq.symm ho) rfl)
    subst ho
    refine Or.inl ⟨by rfl, ?_⟩
    intro w hSw
    (try dsimp only at hSw)
    go_simp
  simp only [Act.put, List.setIfInBounds_toArray, List.set_cons_zero, List.set_cons_succ]
  refine call_at 55 (by kernel_rfl) (by kernel_rfl) ?_
  intro o ho
  replace ho := Option.some.inj (Eq.trans (Eq.symm ho) rfl)
  subst ho
  intro KF hK
  go_simp
  refine (at_any 4607182418800017408 13830554455654793216 _).mono ?_
  rintro e wx ⟨rfl, hbx⟩
  go_wp2_with fail
  refine hK.out _ _ (keepX4 hS hbx) ?_
  clear hS hbx
  intro hS
  clear hK KF
  try simp only [Act.put, List.setIfInBounds_toArray, List.set_cons_zero, List.set_cons_succ]
  refine call_at 56 (by kernel_rfl) (by kernel_rfl) ?_
  intro o ho
  replace ho := Option.some.inj (Eq.trans (Eq.symm ho) rfl)
  subst ho
  intro KF hK
  go_simp
  refine (at_any 4607182418800017408 4607182418800017408 _).mono ?_
  rintro e wx ⟨rfl, hbx⟩
  go_wp2_with fail
  refine hK.out _ _ (keepX4 hS hbx) ?_
  clear hS hbx
  intro hS
  clear hK KF
  try simp only [Act.put, List.setIfInBounds_toArray, List.set_cons_zero, List.set_cons_succ]
  refine call_at 57 (by kernel_rfl) (by kernel_rfl) ?_
  intro o ho
  replace ho := Option.some.inj (Eq.trans (Eq.symm ho) rfl)
  subst ho
  intro KF hK
  go_simp
  refine (cross_any 0 0 4611686018427387904 0 4607182418800017408 13830554455654793216 4607182418800017408 4607182418800017408 _ ⟨⟨by omega, by omega⟩, ⟨by omega, by omega⟩, ⟨by omega, by omega⟩⟩ ⟨by omega, by omega⟩).mono ?_
  rintro e wx ⟨⟨t, rfl, ht⟩, hbx⟩
  obtain rfl : t = true := ht.2 awx
  clear ht
  go_wp2_with fail
  refine hK.out _ _ (keepX4 hS hbx) ?_
  clear hS hbx
  intro hS
  clear hK KF
  try simp only [Act.put, List.setIfInBounds_toArray, List.set_cons_zero, List.set_cons_succ]
  refine take_at (i := 58) (d := some 77) (v := .bool true) (by kernel_rfl) (by kernel_rfl) (by kernel_rfl) (by kernel_rfl) (fun _ _ _ h => h) ?_ hS ?_
  · intro o ho
    replace ho := Option.some.inj (Eq.trans (Eq.symm ho) rfl)
    subst ho
    refine Or.inl ⟨by rfl, ?_⟩
    intro w hSw
    (try dsimp only at hSw)
    go_simp
  simp only [Act.put, List.setIfInBounds_toArray, List.set_cons_zero, List.set_cons_succ]
  refine take_at (i := 59) (d := some 78) (v := .bool true) (by kernel_rfl) (by kernel_rfl) (by kernel_rfl) (by kernel_rfl) (fun _ _ _ h => h) ?_ hS ?_
  · intro o ho
    replace ho := Option.some.inj (Eq.trans (Eq.symm ho) rfl)
    subst ho
    refine Or.inl ⟨by rfl, ?_⟩
    intro w hSw
    (try dsimp only at hSw)
    go_simp
  simp only [Act.put, List.setIfInBounds_toArray, List.set_cons_zero, List.set_cons_succ]
  refine take_at (i := 60) (d := some 79) (v := .agg #[.float .f64 0, .float .f64 0]) (by kernel_rfl) (by kernel_rfl) (by kernel_rfl) (by kernel_rfl) (fun _ _ _ h => h) ?_ hS ?_
  · intro o ho
    replace ho := Option.some.inj (Eq.trans (Eq.symm ho) rfl)
    subst ho
    refine Or.inl ⟨by rfl, ?_⟩
    intro w hSw
    (try dsimp only at hSw)
    go_simp
  simp only [Act.put, List.setIfInBounds_toArray, List.set_cons_zero, List.set_cons_succ]
  refine take_at (i := 61) (d := some 80) (v := .agg #[.float .f64 4611686018427387904, .float .f64 0]) (by kernel_rfl) (by kernel_rfl) (by kernel_rfl) (by kernel_rfl) (fun _ _ _ h => h) ?_ hS ?_
  · intro o ho
    replace ho := Option.some.inj (Eq.trans (Eq.symm ho) rfl)
    subst ho
    refine Or.inl ⟨by rfl, ?_⟩
    intro w hSw
    (try dsimp only at hSw)
    go_simp
  simp only [Act.put, List.setIfInBounds_toArray, List.set_cons_zero, List.set_cons_succ]
  refine call_at 62 (by kernel_rfl) (by kernel_rfl) ?_
  intro o ho
  replace ho := Option.some.inj (Eq.trans (Eq.symm ho) rfl)
  subst ho
  intro KF hK
  go_simp
  refine (at_any 4607182418800017408 0 _).mono ?_
  rintro e wx ⟨rfl, hbx⟩
  go_wp2_with fail
  refine hK.out _ _ (keepX4 hS hbx) ?_
  clear hS hbx
  intro hS
  clear hK KF
  try simp only [Act.put, List.setIfInBounds_toArray, List.set_cons_zero, List.set_cons_succ]
  refine call_at 63 (by kernel_rfl) (by kernel_rfl) ?_
  intro o ho
  replace ho := Option.some.inj (Eq.trans (Eq.symm ho) rfl)
  subst ho
  intro KF hK
  go_simp
  refine (at_any 4607182418800017408 4607182418800017408 _).mono ?_
  rintro e wx ⟨rfl, hbx⟩
  go_wp2_with fail
  refine hK.out _ _ (keepX4 hS hbx) ?_
  clear hS hbx
  intro hS
  clear hK KF
  try simp only [Act.put, List.setIfInBounds_toArray, List.set_cons_zero, List.set_cons_succ]
  refine call_at 64 (by kernel_rfl) (by kernel_rfl) ?_
  intro o ho
  replace ho := Option.some.inj (Eq.trans (Eq.symm ho) rfl)
  subst ho
  intro KF hK
  go_simp
  refine (cross_any 0 0 4611686018427387904 0 4607182418800017408 0 4607182418800017408 4607182418800017408 _ ⟨⟨by omega, by omega⟩, ⟨by omega, by omega⟩, ⟨by omega, by omega⟩⟩ ⟨by omega, by omega⟩).mono ?_
  rintro e wx ⟨⟨t, rfl, ht⟩, hbx⟩
  obtain rfl : t = false := by
    cases t
    · rfl
    · exact absurd (ht.1 rfl) awy
  clear ht
  go_wp2_with fail
  refine hK.out _ _ (keepX4 hS hbx) ?_
  clear hS hbx
  intro hS
  clear hK KF
  try simp only [Act.put, List.setIfInBounds_toArray, List.set_cons_zero, List.set_cons_succ]
  refine take_at (i := 65) (d := some 84) (v := .bool true) (by kernel_rfl) (by kernel_rfl) (by kernel_rfl) (by kernel_rfl) (fun _ _ _ h => h) ?_ hS ?_
  · intro o ho
    replace ho := Option.some.inj (Eq.trans (Eq.symm ho) rfl)
    subst ho
    refine Or.inl ⟨by rfl, ?_⟩
    intro w hSw
    (try dsimp only at hSw)
    go_simp
  simp only [Act.put, List.setIfInBounds_toArray, List.set_cons_zero, List.set_cons_succ]
  refine take_at (i := 66) (d := some 85) (v := .bool true) (by kernel_rfl) (by kernel_rfl) (by kernel_rfl) (by kernel_rfl) (fun _ _ _ h => h) ?_ hS ?_
  · intro o ho
    replace ho := Option.some.inj (Eq.trans (Eq.symm ho) rfl)
    subst ho
    refine Or.inl ⟨by rfl, ?_⟩
    intro w hSw
    (try dsimp only at hSw)
    go_simp
  simp only [Act.put, List.setIfInBounds_toArray, List.set_cons_zero, List.set_cons_succ]
  refine take_at (i := 67) (d := some 0) (v := .bool true) (by kernel_rfl) (by kernel_rfl) (by kernel_rfl) (by kernel_rfl) (fun _ _ _ h => h) ?_ hS ?_
  · intro o ho
    replace ho := Option.some.inj (Eq.trans (Eq.symm ho) rfl)
    subst ho
    refine Or.inl ⟨by rfl, ?_⟩
    intro w hSw
    (try dsimp only at hSw)
    go_simp
  simp only [Act.put, List.setIfInBounds_toArray, List.set_cons_zero]
  refine wpAnyH_done (by kernel_rfl) ?_ _
  go_wp2
  go_ret
  exact ⟨rfl, hS.2.2.2.2⟩

end Go.Proofs.Ytglcngjllfgdpab

/- OrientTurns, OrientAround: the laws' walks. -/
namespace Go.Proofs.Ytglcngjllfgdpab
open Go.RowKit Go.Shelf

theorem sgq_minus (q : Rat) : sgq (-q) = -sgq q := by
  unfold sgq
  rcases (by grind : q < 0 ∨ q = 0 ∨ 0 < q) with h | h | h
  · rw [if_neg (by grind), if_neg (by grind), if_pos h]; omega
  · rw [h]; decide +kernel
  · rw [if_pos (by grind), if_neg (by grind), if_neg (by grind)]
theorem sg3_round (ax ay bx by' cx cy : Nat) : sg3 bx by' cx cy ax ay = sg3 ax ay bx by' cx cy := by
  by_cases h : P3 ax ay bx by' cx cy
  · rw [sg3_yes h, sg3_yes ⟨h.2.1, h.2.2, h.1⟩]
    congr 1
    unfold S3
    grind
  · rw [sg3_no h, sg3_no (fun h' => h ⟨h'.2.2, h'.1, h'.2.1⟩)]
theorem sg3_swap (ax ay bx by' cx cy : Nat) : sg3 bx by' ax ay cx cy = -sg3 ax ay bx by' cx cy := by
  by_cases h : P3 ax ay bx by' cx cy
  · rw [sg3_yes h, sg3_yes ⟨h.2.1, h.1, h.2.2⟩, ← sgq_minus]
    congr 1
    unfold S3
    grind
  · rw [sg3_no h, sg3_no (fun h' => h ⟨h'.2.1, h'.1, h'.2.2⟩)]; omega
theorem sg3_twice (ax ay bx by' : Nat) : sg3 ax ay ax ay bx by' = 0 := by
  by_cases h : P3 ax ay ax ay bx by'
  · rw [sg3_yes h, sgq_zero]
    unfold S3
    grind
  · rw [sg3_no h]

set_option maxRecDepth 100000 in
set_option maxHeartbeats 4000000 in
theorem turns_law (ax ay bx by' cx cy : Nat) (w : World) (hw : W6 ax ay bx by' cx cy) :
    Calls Try.prog 6 #[pv ax ay, pv bx by', pv cx cy] w fun e w' => e = .returned (.bool true) ∧ Below w.heap.size w w' := by
  have HW : Hid (W6 ax ay bx by' cx cy) := hw
  clear hw
  have HS : Hid (B3 w (((w.alloc (.cells #[.float .f64 ax, .float .f64 ay] 24)).alloc (.cells #[.float .f64 bx, .float .f64 by'] 24)).alloc (.cells #[.float .f64 cx, .float .f64 cy] 24)) ax ay bx by' cx cy) := B3.start w ax ay bx by' cx cy
  obtain ⟨z, hz⟩ : ∃ z, Hid (sg3 ax ay bx by' cx cy = z) := ⟨_, rfl⟩
  obtain ⟨h1, h2⟩ := sg3_range ax ay bx by' cx cy
  rw [hz.out] at h1 h2
  have n1 : IntKind.i64.wrap (-z) = -z := wrapE _ (by omega) (by omega)
  go_enter Try.func6, Try.ntmps6
  go_wp2_with fail
  refine (sign_is ax ay bx by' cx cy _ (z) ⟨HW.out.1, HW.out.2.1, HW.out.2.2⟩ (by exact hz.out)).mono ?_
  rintro e w1 ⟨rfl, hb1⟩
  have H1 : Hid (B3 w w1 ax ay bx by' cx cy) := HS.out.later hb1
  clear hb1
  obtain ⟨u0, u1, u2, u3, u4, u5, _⟩ := H1.out
  go_wp2_with fail
  refine (sign_is bx by' cx cy ax ay _ (z) ⟨HW.out.2.1, HW.out.2.2, HW.out.1⟩ (by rw [sg3_round]; exact hz.out)).mono ?_
  rintro e w2 ⟨rfl, hb2⟩
  have H2 : Hid (B3 w w2 ax ay bx by' cx cy) := H1.out.later hb2
  clear u0 u1 u2 u3 u4 u5 H1
  clear hb2
  obtain ⟨u0, u1, u2, u3, u4, u5, _⟩ := H2.out
  go_wp2_with fail
  refine (sign_is cx cy ax ay bx by' _ (z) ⟨HW.out.2.2, HW.out.1, HW.out.2.1⟩ (by rw [sg3_round, sg3_round]; exact hz.out)).mono ?_
  rintro e w3 ⟨rfl, hb3⟩
  have H3 : Hid (B3 w w3 ax ay bx by' cx cy) := H2.out.later hb3
  clear u0 u1 u2 u3 u4 u5 H2
  clear hb3
  obtain ⟨u0, u1, u2, u3, u4, u5, _⟩ := H3.out
  go_wp2_with fail
  refine (sign_is bx by' ax ay cx cy _ (-z) ⟨HW.out.2.1, HW.out.1, HW.out.2.2⟩ (by rw [sg3_swap, hz.out])).mono ?_
  rintro e w4 ⟨rfl, hb4⟩
  have H4 : Hid (B3 w w4 ax ay bx by' cx cy) := H3.out.later hb4
  clear u0 u1 u2 u3 u4 u5 H3
  clear hb4
  obtain ⟨u0, u1, u2, u3, u4, u5, _⟩ := H4.out
  go_wp2_with fail
  refine (sign_is ax ay cx cy bx by' _ (-z) ⟨HW.out.1, HW.out.2.2, HW.out.2.1⟩ (by rw [sg3_swap, sg3_round, sg3_round, hz.out])).mono ?_
  rintro e w5 ⟨rfl, hb5⟩
  have H5 : Hid (B3 w w5 ax ay bx by' cx cy) := H4.out.later hb5
  clear u0 u1 u2 u3 u4 u5 H4
  clear hb5
  obtain ⟨u0, u1, u2, u3, u4, u5, _⟩ := H5.out
  go_wp2_with fail
  refine (sign_is cx cy bx by' ax ay _ (-z) ⟨HW.out.2.2, HW.out.2.1, HW.out.1⟩ (by rw [sg3_swap, sg3_round, hz.out])).mono ?_
  rintro e w6 ⟨rfl, hb6⟩
  have H6 : Hid (B3 w w6 ax ay bx by' cx cy) := H5.out.later hb6
  clear u0 u1 u2 u3 u4 u5 H5
  clear hb6
  obtain ⟨u0, u1, u2, u3, u4, u5, _⟩ := H6.out
  go_wp2_with fail
  refine (sign_is ax ay ax ay bx by' _ (0) ⟨HW.out.1, HW.out.1, HW.out.2.1⟩ (by exact sg3_twice _ _ _ _)).mono ?_
  rintro e w7 ⟨rfl, hb7⟩
  have H7 : Hid (B3 w w7 ax ay bx by' cx cy) := H6.out.later hb7
  clear u0 u1 u2 u3 u4 u5 H6
  clear hb7
  obtain ⟨u0, u1, u2, u3, u4, u5, _⟩ := H7.out
  go_wp2_with fail
  refine (awake_any _).mono ?_
  rintro e w8 ⟨rfl, hb8⟩
  have H8 : Hid (Below w.heap.size w w8) := below_step H7.out.bel hb8
  clear hb8 u0 u1 u2 u3 u4 u5
  go_wp2
  go_ret
  exact ⟨rfl, H8.out⟩

end Go.Proofs.Ytglcngjllfgdpab
