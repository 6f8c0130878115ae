/- Own texts, put together: Ox. -/
import Derived.Test.YtglcngjllfgdpabQ16
import Derived.Deep.DeepCutAuto
/- OrientMoved: the law's walk. -/
namespace Go.Proofs.Ytglcngjllfgdpab
open Go.RowKit Go.Shelf
attribute [local go_sem ↓] Go.wp_at_zero Go.wp_at_succ
attribute [local go_sem] run_store_float

theorem keep12c {w W W' : World} {q0 : Addr} {x0 : Value} {q1 : Addr} {x1 : Value} {q2 : Addr} {x2 : Value} {q3 : Addr} {x3 : Value} {q4 : Addr} {x4 : Value} {q5 : Addr} {x5 : Value} {q6 : Addr} {x6 : Value} {q7 : Addr} {x7 : Value} {q8 : Addr} {x8 : Value} {q9 : Addr} {x9 : Value} {q10 : Addr} {x10 : Value} {q11 : Addr} {x11 : Value} (h : W.cell? q0 = some x0 ∧ W.cell? q1 = some x1 ∧ W.cell? q2 = some x2 ∧ W.cell? q3 = some x3 ∧ W.cell? q4 = some x4 ∧ W.cell? q5 = some x5 ∧ W.cell? q6 = some x6 ∧ W.cell? q7 = some x7 ∧ W.cell? q8 = some x8 ∧ W.cell? q9 = some x9 ∧ W.cell? q10 = some x10 ∧ W.cell? q11 = some x11 ∧ Below w.heap.size w W) (hb : Below W.heap.size W W') : W'.cell? q0 = some x0 ∧ W'.cell? q1 = some x1 ∧ W'.cell? q2 = some x2 ∧ W'.cell? q3 = some x3 ∧ W'.cell? q4 = some x4 ∧ W'.cell? q5 = some x5 ∧ W'.cell? q6 = some x6 ∧ W'.cell? q7 = some x7 ∧ W'.cell? q8 = some x8 ∧ W'.cell? q9 = some x9 ∧ W'.cell? q10 = some x10 ∧ W'.cell? q11 = some x11 ∧ Below w.heap.size w W' :=
  ⟨box_cell hb h.1, box_cell hb h.2.1, box_cell hb h.2.2.1, box_cell hb h.2.2.2.1, box_cell hb h.2.2.2.2.1, box_cell hb h.2.2.2.2.2.1, box_cell hb h.2.2.2.2.2.2.1, box_cell hb h.2.2.2.2.2.2.2.1, box_cell hb h.2.2.2.2.2.2.2.2.1, box_cell hb h.2.2.2.2.2.2.2.2.2.1, box_cell hb h.2.2.2.2.2.2.2.2.2.2.1, box_cell hb h.2.2.2.2.2.2.2.2.2.2.2.1, below_step h.2.2.2.2.2.2.2.2.2.2.2.2 hb⟩
theorem tmod_60 (x : Int) : -60 < x.tmod 60 ∧ x.tmod 60 < 60 := by
  have a := Int.tmod_lt_of_pos x (show (0 : Int) < 60 by omega)
  have b := Int.tmod_lt_of_pos (-x) (show (0 : Int) < 60 by omega)
  rw [Int.neg_tmod] at b
  omega
theorem tmod_30 (x : Int) : -1073741824 < x.tmod 1073741824 ∧ x.tmod 1073741824 < 1073741824 := by
  have a := Int.tmod_lt_of_pos x (show (0 : Int) < 1073741824 by omega)
  have b := Int.tmod_lt_of_pos (-x) (show (0 : Int) < 1073741824 by omega)
  rw [Int.neg_tmod] at b
  omega
theorem frame_name {P : Program} {md : Region.Mode} {ops : Array Oper} {Q : Exit → Act → World → Prop} {S : World → Prop} {f : Nat} {l : Array Bool} {a : Act} {w : World} (h : ∀ A, A = a → wpAnyH P md ops Q S f l A w) : wpAnyH P md ops Q S f l a w := h a rfl

set_option maxRecDepth 100000 in
set_option maxHeartbeats 1000000 in
theorem moved_any (px py u v b s1 X s2 Y : Nat) (w : World) (h1 : floatBits .add .f64 px u = some s1) (h2 : floatBits .mul .f64 s1 b = some X) (h3 : floatBits .add .f64 py v = some s2) (h4 : floatBits .mul .f64 s2 b = some Y) :
    Calls Try.prog 20 #[pv px py, .float .f64 u, .float .f64 v, .float .f64 b] w fun e w' => e = .returned (pv X Y) ∧ Below w.heap.size w w' := by
  have r1 : ∀ w, (binOp .add 22 (.float .f64 px) (.float .f64 u)).run Try.prog w = .ok (.float .f64 s1) w := fun w => run_float_arith w .add _ .f64 _ _ _ h1
  have r2 : ∀ w, (binOp .mul 22 (.float .f64 s1) (.float .f64 b)).run Try.prog w = .ok (.float .f64 X) w := fun w => run_float_arith w .mul _ .f64 _ _ _ h2
  have r3 : ∀ w, (binOp .add 22 (.float .f64 py) (.float .f64 v)).run Try.prog w = .ok (.float .f64 s2) w := fun w => run_float_arith w .add _ .f64 _ _ _ h3
  have r4 : ∀ w, (binOp .mul 22 (.float .f64 s2) (.float .f64 b)).run Try.prog w = .ok (.float .f64 Y) w := fun w => run_float_arith w .mul _ .f64 _ _ _ h4
  clear h1 h2 h3 h4
  have HAL : Hid (Below w.heap.size w ((w.alloc (.cells #[.float .f64 px, .float .f64 py] 24)).alloc (.cells #[.float .f64 0, .float .f64 0] 24))) := ((Below.refl _ w).alloc (Nat.le_refl _) _).alloc (by simp) _
  have HPB : Hid (PB ((w.alloc (.cells #[.float .f64 px, .float .f64 py] 24)).alloc (.cells #[.float .f64 0, .float .f64 0] 24)) (w.heap.size + 1) 0 0) := by
    have := PB.new (w.alloc (.cells #[.float .f64 px, .float .f64 py] 24)) 0 0
    show PB _ _ _ _
    simpa using this
  go_enter Try.func20, Try.ntmps20
  go_wp2_with fail
  refine (at_any X Y _).mono ?_
  rintro e w1 ⟨rfl, hb1⟩
  have HB1 : Hid (Below w.heap.size w w1) := below_step HAL.out hb1
  have P1 : Hid (PB w1 (w.heap.size + 1) 0 0) := HPB.out.later hb1
  obtain ⟨x0, x1, xf⟩ := P1.out.cells
  have xf0 := xf 0
  have xf1 := xf 1
  clear xf hb1
  go_wp2
  have hY := (P1.out.set2 X Y).cells
  refine bodyPost_ret (v := pv X Y) (by simp [results, Try.results20, go_sem, hY.1, hY.2.1]) rfl ?_
  exact ⟨rfl, (HB1.out.setCell (by show w.heap.size ≤ w.heap.size + 1; omega) _).setCell (by show w.heap.size ≤ w.heap.size + 1; omega) _⟩

theorem small_is (x y : Int) (w : World) {a b : Nat} (ha : fw (x.tmod 1025) = a) (hb : fw (y.tmod 1025) = b) : Calls Try.prog 14 #[.int .i64 x, .int .i64 y] w fun e w' => e = .returned (pv a b) ∧ Below w.heap.size w w' := by
  rw [← ha, ← hb]
  exact small_any x y w

set_option maxRecDepth 100000 in
set_option maxHeartbeats 16000000 in
theorem moved_law (n0 n1 n2 n3 n4 n5 kx ky kk0 : Int) (w : World) :
    Calls Try.prog 8 #[.agg #[.int .i64 n0, .int .i64 n1, .int .i64 n2, .int .i64 n3, .int .i64 n4, .int .i64 n5], .int .i64 kx, .int .i64 ky, .int .i64 kk0] w fun e w' => e = .returned (.bool true) ∧ Below w.heap.size w w' := by
  obtain ⟨ax, E0⟩ : ∃ a, Hid (fw (n0.tmod 1025) = a) := ⟨_, rfl⟩
  obtain ⟨ay, E1⟩ : ∃ a, Hid (fw (n1.tmod 1025) = a) := ⟨_, rfl⟩
  obtain ⟨bx, E2⟩ : ∃ a, Hid (fw (n2.tmod 1025) = a) := ⟨_, rfl⟩
  obtain ⟨by', E3⟩ : ∃ a, Hid (fw (n3.tmod 1025) = a) := ⟨_, rfl⟩
  obtain ⟨cx, E4⟩ : ∃ a, Hid (fw (n4.tmod 1025) = a) := ⟨_, rfl⟩
  obtain ⟨cy, E5⟩ : ∃ a, Hid (fw (n5.tmod 1025) = a) := ⟨_, rfl⟩
  go_enter Try.func8, Try.ntmps8
  go_upto_region 1 with fail
  obtain ⟨W0, hW0⟩ : ∃ W0, W0 = w.alloc (.cells #[.int .i64 n0, .int .i64 n1, .int .i64 n2, .int .i64 n3, .int .i64 n4, .int .i64 n5] 31) := ⟨_, rfl⟩
  have HB0 : Hid (Below w.heap.size w W0) := by rw [hW0]; exact (Below.refl _ w).alloc (Nat.le_refl _) _
  have z0 : W0.cell? ⟨w.heap.size, 0, none⟩ = some (.int .i64 n0) := by rw [hW0]; go_simp
  have z1 : W0.cell? ⟨w.heap.size, 1, none⟩ = some (.int .i64 n1) := by rw [hW0]; go_simp
  have z2 : W0.cell? ⟨w.heap.size, 2, none⟩ = some (.int .i64 n2) := by rw [hW0]; go_simp
  have z3 : W0.cell? ⟨w.heap.size, 3, none⟩ = some (.int .i64 n3) := by rw [hW0]; go_simp
  have z4 : W0.cell? ⟨w.heap.size, 4, none⟩ = some (.int .i64 n4) := by rw [hW0]; go_simp
  have z5 : W0.cell? ⟨w.heap.size, 5, none⟩ = some (.int .i64 n5) := by rw [hW0]; go_simp
  rw [← hW0]
  clear hW0
  have lt0 : w.heap.size < W0.heap.size := World.block_lt_of_cell? _ _ z0
  go_cut [9, 10, 11] (fun p q r wx => ∃ b3 b4 b5 : Nat, p = .pointer (some ⟨b3, 0, none⟩) ∧ q = .pointer (some ⟨b4, 0, none⟩) ∧ r = .pointer (some ⟨b5, 0, none⟩) ∧ Hid ((PB wx b3 ax ay ∧ PB wx b4 bx by' ∧ PB wx b5 cx cy) ∧ Below w.heap.size w wx))
  case first =>
    refine wp_region_held_drew (S := (fun W => W.cell? ⟨w.heap.size, 0, none⟩ = some (.int .i64 n0) ∧ W.cell? ⟨w.heap.size, 1, none⟩ = some (.int .i64 n1) ∧ W.cell? ⟨w.heap.size, 2, none⟩ = some (.int .i64 n2) ∧ W.cell? ⟨w.heap.size, 3, none⟩ = some (.int .i64 n3) ∧ W.cell? ⟨w.heap.size, 4, none⟩ = some (.int .i64 n4) ∧ W.cell? ⟨w.heap.size, 5, none⟩ = some (.int .i64 n5) ∧ Below W0.heap.size W0 W)) (by kernel_rfl) ⟨z0, z1, z2, z3, z4, z5, (Below.refl _ _).drew⟩ (fun hS => ?_)
    refine take_at (i := 0) (d := some 21) (v := .pointer (some ⟨w.heap.size, 0, none⟩)) (by kernel_rfl) (by kernel_rfl) (by kernel_rfl) (by kernel_rfl) (fun _ _ _ h => h) ?_ hS ?_
    · intro o ho
      simp only [List.getElem?_toArray, List.getElem?_cons_zero, Option.some.injEq] at ho
      subst ho
      refine Or.inl ⟨by rfl, ?_⟩
      intro w hSw
      (try dsimp only at hSw)
      go_simp
    simp only [Act.put, List.setIfInBounds_toArray, List.set_cons_zero, List.set_cons_succ]
    refine take_at (i := 1) (d := some 22) (v := .int .i64 n0) (by kernel_rfl) (by kernel_rfl) (by kernel_rfl) (by kernel_rfl) (fun _ _ _ h => h) ?_ hS ?_
    · intro o ho
      simp only [List.getElem?_toArray, List.getElem?_cons_succ, List.getElem?_cons_zero, Option.some.injEq] at ho
      subst ho
      refine Or.inl ⟨by rfl, ?_⟩
      intro w hSw
      (try dsimp only at hSw)
      go_simp
    simp only [Act.put, List.setIfInBounds_toArray, List.set_cons_zero, List.set_cons_succ]
    refine take_at (i := 2) (d := some 23) (v := .pointer (some ⟨w.heap.size, 1, none⟩)) (by kernel_rfl) (by kernel_rfl) (by kernel_rfl) (by kernel_rfl) (fun _ _ _ h => h) ?_ hS ?_
    · intro o ho
      simp only [List.getElem?_toArray, List.getElem?_cons_succ, List.getElem?_cons_zero, Option.some.injEq] at ho
      subst ho
      refine Or.inl ⟨by rfl, ?_⟩
      intro w hSw
      (try dsimp only at hSw)
      go_simp
    simp only [Act.put, List.setIfInBounds_toArray, List.set_cons_zero, List.set_cons_succ]
    refine take_at (i := 3) (d := some 24) (v := .int .i64 n1) (by kernel_rfl) (by kernel_rfl) (by kernel_rfl) (by kernel_rfl) (fun _ _ _ h => h) ?_ hS ?_
    · intro o ho
      simp only [List.getElem?_toArray, List.getElem?_cons_succ, List.getElem?_cons_zero, Option.some.injEq] at ho
      subst ho
      refine Or.inl ⟨by rfl, ?_⟩
      intro w hSw
      (try dsimp only at hSw)
      go_simp
    simp only [Act.put, List.setIfInBounds_toArray, List.set_cons_zero, List.set_cons_succ]
    refine take_at (i := 5) (d := some 26) (v := .pointer (some ⟨w.heap.size, 2, none⟩)) (by kernel_rfl) (by kernel_rfl) (by kernel_rfl) (by kernel_rfl) (fun _ _ _ h => h) ?_ hS ?_
    · intro o ho
      simp only [List.getElem?_toArray, List.getElem?_cons_succ, List.getElem?_cons_zero, Option.some.injEq] at ho
      subst ho
      refine Or.inl ⟨by rfl, ?_⟩
      intro w hSw
      (try dsimp only at hSw)
      go_simp
    simp only [Act.put, List.setIfInBounds_toArray, List.set_cons_zero, List.set_cons_succ]
    refine take_at (i := 6) (d := some 27) (v := .int .i64 n2) (by kernel_rfl) (by kernel_rfl) (by kernel_rfl) (by kernel_rfl) (fun _ _ _ h => h) ?_ hS ?_
    · intro o ho
      simp only [List.getElem?_toArray, List.getElem?_cons_succ, List.getElem?_cons_zero, Option.some.injEq] at ho
      subst ho
      refine Or.inl ⟨by rfl, ?_⟩
      intro w hSw
      (try dsimp only at hSw)
      go_simp
    simp only [Act.put, List.setIfInBounds_toArray, List.set_cons_zero, List.set_cons_succ]
    refine take_at (i := 7) (d := some 28) (v := .pointer (some ⟨w.heap.size, 3, none⟩)) (by kernel_rfl) (by kernel_rfl) (by kernel_rfl) (by kernel_rfl) (fun _ _ _ h => h) ?_ hS ?_
    · intro o ho
      simp only [List.getElem?_toArray, List.getElem?_cons_succ, List.getElem?_cons_zero, Option.some.injEq] at ho
      subst ho
      refine Or.inl ⟨by rfl, ?_⟩
      intro w hSw
      (try dsimp only at hSw)
      go_simp
    simp only [Act.put, List.setIfInBounds_toArray, List.set_cons_zero, List.set_cons_succ]
    refine take_at (i := 8) (d := some 29) (v := .int .i64 n3) (by kernel_rfl) (by kernel_rfl) (by kernel_rfl) (by kernel_rfl) (fun _ _ _ h => h) ?_ hS ?_
    · intro o ho
      simp only [List.getElem?_toArray, List.getElem?_cons_succ, List.getElem?_cons_zero, Option.some.injEq] at ho
      subst ho
      refine Or.inl ⟨by rfl, ?_⟩
      intro w hSw
      (try dsimp only at hSw)
      go_simp
    simp only [Act.put, List.setIfInBounds_toArray, List.set_cons_zero, List.set_cons_succ]
    refine take_at (i := 10) (d := some 31) (v := .pointer (some ⟨w.heap.size, 4, none⟩)) (by kernel_rfl) (by kernel_rfl) (by kernel_rfl) (by kernel_rfl) (fun _ _ _ h => h) ?_ hS ?_
    · intro o ho
      simp only [List.getElem?_toArray, List.getElem?_cons_succ, List.getElem?_cons_zero, Option.some.injEq] at ho
      subst ho
      refine Or.inl ⟨by rfl, ?_⟩
      intro w hSw
      (try dsimp only at hSw)
      go_simp
    simp only [Act.put, List.setIfInBounds_toArray, List.set_cons_zero, List.set_cons_succ]
    refine take_at (i := 11) (d := some 32) (v := .int .i64 n4) (by kernel_rfl) (by kernel_rfl) (by kernel_rfl) (by kernel_rfl) (fun _ _ _ h => h) ?_ hS ?_
    · intro o ho
      simp only [List.getElem?_toArray, List.getElem?_cons_succ, List.getElem?_cons_zero, Option.some.injEq] at ho
      subst ho
      refine Or.inl ⟨by rfl, ?_⟩
      intro w hSw
      (try dsimp only at hSw)
      go_simp
    simp only [Act.put, List.setIfInBounds_toArray, List.set_cons_zero, List.set_cons_succ]
    refine take_at (i := 12) (d := some 33) (v := .pointer (some ⟨w.heap.size, 5, none⟩)) (by kernel_rfl) (by kernel_rfl) (by kernel_rfl) (by kernel_rfl) (fun _ _ _ h => h) ?_ hS ?_
    · intro o ho
      simp only [List.getElem?_toArray, List.getElem?_cons_succ, List.getElem?_cons_zero, Option.some.injEq] at ho
      subst ho
      refine Or.inl ⟨by rfl, ?_⟩
      intro w hSw
      (try dsimp only at hSw)
      go_simp
    simp only [Act.put, List.setIfInBounds_toArray, List.set_cons_zero, List.set_cons_succ]
    refine take_at (i := 13) (d := some 34) (v := .int .i64 n5) (by kernel_rfl) (by kernel_rfl) (by kernel_rfl) (by kernel_rfl) (fun _ _ _ h => h) ?_ hS ?_
    · intro o ho
      simp only [List.getElem?_toArray, List.getElem?_cons_succ, List.getElem?_cons_zero, Option.some.injEq] at ho
      subst ho
      refine Or.inl ⟨by rfl, ?_⟩
      intro w hSw
      (try dsimp only at hSw)
      go_simp
    simp only [Act.put, List.setIfInBounds_toArray, List.set_cons_zero, List.set_cons_succ]
    refine frame_name (fun A hA => ?_)
    refine draw3 (f := 3) (n := 3) (fun (x y z : Bool) (k : Nat) => #[true, true, true, true, decide (1 ≤ k), true, true, true, true, decide (2 ≤ k), true, true, true, true, decide (3 ≤ k), x, y, z, false, false, false]) (fun (x y z : Bool) (k : Nat) (a : Act) (W : World) => ∃ (v3 v4 v5 c1 c2 c3 : Value) (b3 b4 b5 : Nat), a = ((((((A.put (some 9) v3).put (some 10) v4).put (some 11) v5).put (some 25) c1).put (some 30) c2).put (some 35) c3) ∧ (W.cell? ⟨w.heap.size, 0, none⟩ = some (.int .i64 n0) ∧ W.cell? ⟨w.heap.size, 1, none⟩ = some (.int .i64 n1) ∧ W.cell? ⟨w.heap.size, 2, none⟩ = some (.int .i64 n2) ∧ W.cell? ⟨w.heap.size, 3, none⟩ = some (.int .i64 n3) ∧ W.cell? ⟨w.heap.size, 4, none⟩ = some (.int .i64 n4) ∧ W.cell? ⟨w.heap.size, 5, none⟩ = some (.int .i64 n5) ∧ Below W0.heap.size W0 W) ∧ (x = true → v3 = .pointer (some ⟨b3, 0, none⟩) ∧ PB W b3 0 0 ∧ W0.heap.size ≤ b3) ∧ (y = true → v4 = .pointer (some ⟨b4, 0, none⟩) ∧ PB W b4 0 0 ∧ W0.heap.size ≤ b4) ∧ (z = true → v5 = .pointer (some ⟨b5, 0, none⟩) ∧ PB W b5 0 0 ∧ W0.heap.size ≤ b5) ∧ (x = true → y = true → b3 ≠ b4) ∧ (x = true → z = true → b3 ≠ b5) ∧ (y = true → z = true → b4 ≠ b5) ∧ (1 ≤ k → c1 = (pv ax ay)) ∧ (2 ≤ k → c2 = (pv bx by')) ∧ (3 ≤ k → c3 = (pv cx cy))) ?_ ?_ 6 false false false 0 _ _ (by omega) rfl ?_
    · intro x y z k hk hlt
      refine ⟨rdy x y z k, ?_, rdy_ne hk hlt, ?_⟩
      · have h4 : k = 0 ∨ k = 1 ∨ k = 2 ∨ k = 3 := by omega
        rcases h4 with rfl | rfl | rfl | rfl <;> cases x <;> cases y <;> cases z <;> first | exact absurd hlt (by decide) | (show _ = _; kernel_rfl)
      · intro i hi
        rcases rdy_mem hi with ⟨rfl, rfl⟩ | ⟨rfl, rfl⟩ | ⟨rfl, rfl⟩ | ⟨rfl, rfl⟩ | ⟨rfl, rfl⟩ | ⟨rfl, rfl⟩
        · refine ⟨x, y, z, 1, by omega, by cases x <;> cases y <;> cases z <;> rfl, (far_set x y z 0).2.2.2, _, rfl, ?_⟩
          intro a W hI K' hK
          obtain ⟨v3, v4, v5, c1, c2, c3, b3, b4, b5, rfl, hS, h3, h4, h5, h34, h35, h45, k1, k2, k3⟩ := hI
          have H : Hid ((x = true → v3 = .pointer (some ⟨b3, 0, none⟩) ∧ PB W b3 0 0 ∧ W0.heap.size ≤ b3) ∧ (y = true → v4 = .pointer (some ⟨b4, 0, none⟩) ∧ PB W b4 0 0 ∧ W0.heap.size ≤ b4) ∧ (z = true → v5 = .pointer (some ⟨b5, 0, none⟩) ∧ PB W b5 0 0 ∧ W0.heap.size ≤ b5)) := ⟨h3, h4, h5⟩
          clear h3 h4 h5 k1 k2 k3
          rw [hA]
          simp only [Act.put, List.setIfInBounds_toArray, List.set_cons_zero, List.set_cons_succ]
          go_simp
          go_wp2_with fail
          refine (small_is n0 n1 _ E0.out E1.out).mono ?_
          rintro e wx ⟨rfl, hb⟩
          have hS2 : wx.cell? ⟨w.heap.size, 0, none⟩ = some (.int .i64 n0) ∧ wx.cell? ⟨w.heap.size, 1, none⟩ = some (.int .i64 n1) ∧ wx.cell? ⟨w.heap.size, 2, none⟩ = some (.int .i64 n2) ∧ wx.cell? ⟨w.heap.size, 3, none⟩ = some (.int .i64 n3) ∧ wx.cell? ⟨w.heap.size, 4, none⟩ = some (.int .i64 n4) ∧ wx.cell? ⟨w.heap.size, 5, none⟩ = some (.int .i64 n5) ∧ Below W0.heap.size W0 wx := ⟨box_cell hb hS.1, box_cell hb hS.2.1, box_cell hb hS.2.2.1, box_cell hb hS.2.2.2.1, box_cell hb hS.2.2.2.2.1, box_cell hb hS.2.2.2.2.2.1, below_step hS.2.2.2.2.2.2 hb⟩
          go_wp2_with fail
          refine hK.out _ _ hS2 ⟨v3, v4, v5, (pv ax ay), c2, c3, b3, b4, b5, by rw [hA]; rfl, hS2, fun h => ⟨(H.out.1 h).1, (H.out.1 h).2.1.later hb, (H.out.1 h).2.2⟩, fun h => ⟨(H.out.2.1 h).1, (H.out.2.1 h).2.1.later hb, (H.out.2.1 h).2.2⟩, fun h => ⟨(H.out.2.2 h).1, (H.out.2.2 h).2.1.later hb, (H.out.2.2 h).2.2⟩, h34, h35, h45, fun _ => rfl, fun h => by omega, fun h => by omega⟩
        · refine ⟨x, y, z, 2, by omega, by cases x <;> cases y <;> cases z <;> rfl, (far_set x y z 1).2.2.2, _, rfl, ?_⟩
          intro a W hI K' hK
          obtain ⟨v3, v4, v5, c1, c2, c3, b3, b4, b5, rfl, hS, h3, h4, h5, h34, h35, h45, k1, k2, k3⟩ := hI
          obtain rfl := k1 (by omega)
          have H : Hid ((x = true → v3 = .pointer (some ⟨b3, 0, none⟩) ∧ PB W b3 0 0 ∧ W0.heap.size ≤ b3) ∧ (y = true → v4 = .pointer (some ⟨b4, 0, none⟩) ∧ PB W b4 0 0 ∧ W0.heap.size ≤ b4) ∧ (z = true → v5 = .pointer (some ⟨b5, 0, none⟩) ∧ PB W b5 0 0 ∧ W0.heap.size ≤ b5)) := ⟨h3, h4, h5⟩
          clear h3 h4 h5 k1 k2 k3
          rw [hA]
          simp only [Act.put, List.setIfInBounds_toArray, List.set_cons_zero, List.set_cons_succ]
          go_simp
          go_wp2_with fail
          refine (small_is n2 n3 _ E2.out E3.out).mono ?_
          rintro e wx ⟨rfl, hb⟩
          have hS2 : wx.cell? ⟨w.heap.size, 0, none⟩ = some (.int .i64 n0) ∧ wx.cell? ⟨w.heap.size, 1, none⟩ = some (.int .i64 n1) ∧ wx.cell? ⟨w.heap.size, 2, none⟩ = some (.int .i64 n2) ∧ wx.cell? ⟨w.heap.size, 3, none⟩ = some (.int .i64 n3) ∧ wx.cell? ⟨w.heap.size, 4, none⟩ = some (.int .i64 n4) ∧ wx.cell? ⟨w.heap.size, 5, none⟩ = some (.int .i64 n5) ∧ Below W0.heap.size W0 wx := ⟨box_cell hb hS.1, box_cell hb hS.2.1, box_cell hb hS.2.2.1, box_cell hb hS.2.2.2.1, box_cell hb hS.2.2.2.2.1, box_cell hb hS.2.2.2.2.2.1, below_step hS.2.2.2.2.2.2 hb⟩
          go_wp2_with fail
          refine hK.out _ _ hS2 ⟨v3, v4, v5, (pv ax ay), (pv bx by'), c3, b3, b4, b5, by rw [hA]; rfl, hS2, fun h => ⟨(H.out.1 h).1, (H.out.1 h).2.1.later hb, (H.out.1 h).2.2⟩, fun h => ⟨(H.out.2.1 h).1, (H.out.2.1 h).2.1.later hb, (H.out.2.1 h).2.2⟩, fun h => ⟨(H.out.2.2 h).1, (H.out.2.2 h).2.1.later hb, (H.out.2.2 h).2.2⟩, h34, h35, h45, fun _ => rfl, fun _ => rfl, fun h => by omega⟩
        · refine ⟨x, y, z, 3, by omega, by cases x <;> cases y <;> cases z <;> rfl, (far_set x y z 2).2.2.2, _, rfl, ?_⟩
          intro a W hI K' hK
          obtain ⟨v3, v4, v5, c1, c2, c3, b3, b4, b5, rfl, hS, h3, h4, h5, h34, h35, h45, k1, k2, k3⟩ := hI
          obtain rfl := k1 (by omega)
          obtain rfl := k2 (by omega)
          have H : Hid ((x = true → v3 = .pointer (some ⟨b3, 0, none⟩) ∧ PB W b3 0 0 ∧ W0.heap.size ≤ b3) ∧ (y = true → v4 = .pointer (some ⟨b4, 0, none⟩) ∧ PB W b4 0 0 ∧ W0.heap.size ≤ b4) ∧ (z = true → v5 = .pointer (some ⟨b5, 0, none⟩) ∧ PB W b5 0 0 ∧ W0.heap.size ≤ b5)) := ⟨h3, h4, h5⟩
          clear h3 h4 h5 k1 k2 k3
          rw [hA]
          simp only [Act.put, List.setIfInBounds_toArray, List.set_cons_zero, List.set_cons_succ]
          go_simp
          go_wp2_with fail
          refine (small_is n4 n5 _ E4.out E5.out).mono ?_
          rintro e wx ⟨rfl, hb⟩
          have hS2 : wx.cell? ⟨w.heap.size, 0, none⟩ = some (.int .i64 n0) ∧ wx.cell? ⟨w.heap.size, 1, none⟩ = some (.int .i64 n1) ∧ wx.cell? ⟨w.heap.size, 2, none⟩ = some (.int .i64 n2) ∧ wx.cell? ⟨w.heap.size, 3, none⟩ = some (.int .i64 n3) ∧ wx.cell? ⟨w.heap.size, 4, none⟩ = some (.int .i64 n4) ∧ wx.cell? ⟨w.heap.size, 5, none⟩ = some (.int .i64 n5) ∧ Below W0.heap.size W0 wx := ⟨box_cell hb hS.1, box_cell hb hS.2.1, box_cell hb hS.2.2.1, box_cell hb hS.2.2.2.1, box_cell hb hS.2.2.2.2.1, box_cell hb hS.2.2.2.2.2.1, below_step hS.2.2.2.2.2.2 hb⟩
          go_wp2_with fail
          refine hK.out _ _ hS2 ⟨v3, v4, v5, (pv ax ay), (pv bx by'), (pv cx cy), b3, b4, b5, by rw [hA]; rfl, hS2, fun h => ⟨(H.out.1 h).1, (H.out.1 h).2.1.later hb, (H.out.1 h).2.2⟩, fun h => ⟨(H.out.2.1 h).1, (H.out.2.1 h).2.1.later hb, (H.out.2.1 h).2.2⟩, fun h => ⟨(H.out.2.2 h).1, (H.out.2.2 h).2.1.later hb, (H.out.2.2 h).2.2⟩, h34, h35, h45, fun _ => rfl, fun _ => rfl, fun _ => rfl⟩
        · refine ⟨true, y, z, k, hk, rfl, (far_set true y z k).1, _, rfl, ?_⟩
          intro a W hI K' hK
          obtain ⟨v3, v4, v5, c1, c2, c3, b3, b4, b5, rfl, hS, h3, h4, h5, h34, h35, h45, k1, k2, k3⟩ := hI
          have H : Hid ((false = true → v3 = .pointer (some ⟨b3, 0, none⟩) ∧ PB W b3 0 0 ∧ W0.heap.size ≤ b3) ∧ (y = true → v4 = .pointer (some ⟨b4, 0, none⟩) ∧ PB W b4 0 0 ∧ W0.heap.size ≤ b4) ∧ (z = true → v5 = .pointer (some ⟨b5, 0, none⟩) ∧ PB W b5 0 0 ∧ W0.heap.size ≤ b5)) := ⟨h3, h4, h5⟩
          have HK : Hid ((1 ≤ k → c1 = (pv ax ay)) ∧ (2 ≤ k → c2 = (pv bx by')) ∧ (3 ≤ k → c3 = (pv cx cy))) := ⟨k1, k2, k3⟩
          clear h3 h4 h5 k1 k2 k3
          have hb : Below W.heap.size W (W.alloc (.cells #[.float .f64 0, .float .f64 0] 24)) := (Below.refl _ W).alloc (Nat.le_refl _) _
          have hS2 : (W.alloc (.cells #[.float .f64 0, .float .f64 0] 24)).cell? ⟨w.heap.size, 0, none⟩ = some (.int .i64 n0) ∧ (W.alloc (.cells #[.float .f64 0, .float .f64 0] 24)).cell? ⟨w.heap.size, 1, none⟩ = some (.int .i64 n1) ∧ (W.alloc (.cells #[.float .f64 0, .float .f64 0] 24)).cell? ⟨w.heap.size, 2, none⟩ = some (.int .i64 n2) ∧ (W.alloc (.cells #[.float .f64 0, .float .f64 0] 24)).cell? ⟨w.heap.size, 3, none⟩ = some (.int .i64 n3) ∧ (W.alloc (.cells #[.float .f64 0, .float .f64 0] 24)).cell? ⟨w.heap.size, 4, none⟩ = some (.int .i64 n4) ∧ (W.alloc (.cells #[.float .f64 0, .float .f64 0] 24)).cell? ⟨w.heap.size, 5, none⟩ = some (.int .i64 n5) ∧ Below W0.heap.size W0 (W.alloc (.cells #[.float .f64 0, .float .f64 0] 24)) := ⟨box_cell hb hS.1, box_cell hb hS.2.1, box_cell hb hS.2.2.1, box_cell hb hS.2.2.2.1, box_cell hb hS.2.2.2.2.1, box_cell hb hS.2.2.2.2.2.1, below_step hS.2.2.2.2.2.2 hb⟩
          rw [hA]
          simp only [Act.put, List.setIfInBounds_toArray, List.set_cons_zero, List.set_cons_succ]
          go_simp
          go_wp2_with fail
          exact hK.out _ _ hS2 ⟨_, v4, v5, c1, c2, c3, W.heap.size, b4, b5, by rw [hA]; rfl, hS2, fun _ => ⟨rfl, PB.new W 0 0, hS.2.2.2.2.2.2.size⟩, fun h => ⟨(H.out.2.1 h).1, (H.out.2.1 h).2.1.later hb, (H.out.2.1 h).2.2⟩, fun h => ⟨(H.out.2.2 h).1, (H.out.2.2 h).2.1.later hb, (H.out.2.2 h).2.2⟩, fun _ h => Nat.ne_of_gt (H.out.2.1 h).2.1.lt, fun _ h => Nat.ne_of_gt (H.out.2.2 h).2.1.lt, h45, HK.out⟩
        · refine ⟨x, true, z, k, hk, rfl, (far_set x true z k).2.1, _, rfl, ?_⟩
          intro a W hI K' hK
          obtain ⟨v3, v4, v5, c1, c2, c3, b3, b4, b5, rfl, hS, h3, h4, h5, h34, h35, h45, k1, k2, k3⟩ := hI
          have H : Hid ((x = true → v3 = .pointer (some ⟨b3, 0, none⟩) ∧ PB W b3 0 0 ∧ W0.heap.size ≤ b3) ∧ (false = true → v4 = .pointer (some ⟨b4, 0, none⟩) ∧ PB W b4 0 0 ∧ W0.heap.size ≤ b4) ∧ (z = true → v5 = .pointer (some ⟨b5, 0, none⟩) ∧ PB W b5 0 0 ∧ W0.heap.size ≤ b5)) := ⟨h3, h4, h5⟩
          have HK : Hid ((1 ≤ k → c1 = (pv ax ay)) ∧ (2 ≤ k → c2 = (pv bx by')) ∧ (3 ≤ k → c3 = (pv cx cy))) := ⟨k1, k2, k3⟩
          clear h3 h4 h5 k1 k2 k3
          have hb : Below W.heap.size W (W.alloc (.cells #[.float .f64 0, .float .f64 0] 24)) := (Below.refl _ W).alloc (Nat.le_refl _) _
          have hS2 : (W.alloc (.cells #[.float .f64 0, .float .f64 0] 24)).cell? ⟨w.heap.size, 0, none⟩ = some (.int .i64 n0) ∧ (W.alloc (.cells #[.float .f64 0, .float .f64 0] 24)).cell? ⟨w.heap.size, 1, none⟩ = some (.int .i64 n1) ∧ (W.alloc (.cells #[.float .f64 0, .float .f64 0] 24)).cell? ⟨w.heap.size, 2, none⟩ = some (.int .i64 n2) ∧ (W.alloc (.cells #[.float .f64 0, .float .f64 0] 24)).cell? ⟨w.heap.size, 3, none⟩ = some (.int .i64 n3) ∧ (W.alloc (.cells #[.float .f64 0, .float .f64 0] 24)).cell? ⟨w.heap.size, 4, none⟩ = some (.int .i64 n4) ∧ (W.alloc (.cells #[.float .f64 0, .float .f64 0] 24)).cell? ⟨w.heap.size, 5, none⟩ = some (.int .i64 n5) ∧ Below W0.heap.size W0 (W.alloc (.cells #[.float .f64 0, .float .f64 0] 24)) := ⟨box_cell hb hS.1, box_cell hb hS.2.1, box_cell hb hS.2.2.1, box_cell hb hS.2.2.2.1, box_cell hb hS.2.2.2.2.1, box_cell hb hS.2.2.2.2.2.1, below_step hS.2.2.2.2.2.2 hb⟩
          rw [hA]
          simp only [Act.put, List.setIfInBounds_toArray, List.set_cons_zero, List.set_cons_succ]
          go_simp
          go_wp2_with fail
          exact hK.out _ _ hS2 ⟨v3, _, v5, c1, c2, c3, b3, W.heap.size, b5, by rw [hA]; rfl, hS2, fun h => ⟨(H.out.1 h).1, (H.out.1 h).2.1.later hb, (H.out.1 h).2.2⟩, fun _ => ⟨rfl, PB.new W 0 0, hS.2.2.2.2.2.2.size⟩, fun h => ⟨(H.out.2.2 h).1, (H.out.2.2 h).2.1.later hb, (H.out.2.2 h).2.2⟩, fun h _ => Nat.ne_of_lt (H.out.1 h).2.1.lt, h35, fun _ h => Nat.ne_of_gt (H.out.2.2 h).2.1.lt, HK.out⟩
        · refine ⟨x, y, true, k, hk, rfl, (far_set x y true k).2.2.1, _, rfl, ?_⟩
          intro a W hI K' hK
          obtain ⟨v3, v4, v5, c1, c2, c3, b3, b4, b5, rfl, hS, h3, h4, h5, h34, h35, h45, k1, k2, k3⟩ := hI
          have H : Hid ((x = true → v3 = .pointer (some ⟨b3, 0, none⟩) ∧ PB W b3 0 0 ∧ W0.heap.size ≤ b3) ∧ (y = true → v4 = .pointer (some ⟨b4, 0, none⟩) ∧ PB W b4 0 0 ∧ W0.heap.size ≤ b4) ∧ (false = true → v5 = .pointer (some ⟨b5, 0, none⟩) ∧ PB W b5 0 0 ∧ W0.heap.size ≤ b5)) := ⟨h3, h4, h5⟩
          have HK : Hid ((1 ≤ k → c1 = (pv ax ay)) ∧ (2 ≤ k → c2 = (pv bx by')) ∧ (3 ≤ k → c3 = (pv cx cy))) := ⟨k1, k2, k3⟩
          clear h3 h4 h5 k1 k2 k3
          have hb : Below W.heap.size W (W.alloc (.cells #[.float .f64 0, .float .f64 0] 24)) := (Below.refl _ W).alloc (Nat.le_refl _) _
          have hS2 : (W.alloc (.cells #[.float .f64 0, .float .f64 0] 24)).cell? ⟨w.heap.size, 0, none⟩ = some (.int .i64 n0) ∧ (W.alloc (.cells #[.float .f64 0, .float .f64 0] 24)).cell? ⟨w.heap.size, 1, none⟩ = some (.int .i64 n1) ∧ (W.alloc (.cells #[.float .f64 0, .float .f64 0] 24)).cell? ⟨w.heap.size, 2, none⟩ = some (.int .i64 n2) ∧ (W.alloc (.cells #[.float .f64 0, .float .f64 0] 24)).cell? ⟨w.heap.size, 3, none⟩ = some (.int .i64 n3) ∧ (W.alloc (.cells #[.float .f64 0, .float .f64 0] 24)).cell? ⟨w.heap.size, 4, none⟩ = some (.int .i64 n4) ∧ (W.alloc (.cells #[.float .f64 0, .float .f64 0] 24)).cell? ⟨w.heap.size, 5, none⟩ = some (.int .i64 n5) ∧ Below W0.heap.size W0 (W.alloc (.cells #[.float .f64 0, .float .f64 0] 24)) := ⟨box_cell hb hS.1, box_cell hb hS.2.1, box_cell hb hS.2.2.1, box_cell hb hS.2.2.2.1, box_cell hb hS.2.2.2.2.1, box_cell hb hS.2.2.2.2.2.1, below_step hS.2.2.2.2.2.2 hb⟩
          rw [hA]
          simp only [Act.put, List.setIfInBounds_toArray, List.set_cons_zero, List.set_cons_succ]
          go_simp
          go_wp2_with fail
          exact hK.out _ _ hS2 ⟨v3, v4, _, c1, c2, c3, b3, b4, W.heap.size, by rw [hA]; rfl, hS2, fun h => ⟨(H.out.1 h).1, (H.out.1 h).2.1.later hb, (H.out.1 h).2.2⟩, fun h => ⟨(H.out.2.1 h).1, (H.out.2.1 h).2.1.later hb, (H.out.2.1 h).2.2⟩, fun _ => ⟨rfl, PB.new W 0 0, hS.2.2.2.2.2.2.size⟩, h34, fun h _ => Nat.ne_of_lt (H.out.1 h).2.1.lt, fun h _ => Nat.ne_of_lt (H.out.2.1 h).2.1.lt, HK.out⟩
    · intro a W hI
      obtain ⟨v3, v4, v5, c1, c2, c3, b3, b4, b5, rfl, hS, h3, h4, h5, h34, h35, h45, k1, k2, k3⟩ := hI
      obtain ⟨e3, p3, l3⟩ := h3 rfl
      obtain ⟨e4, p4, l4⟩ := h4 rfl
      obtain ⟨e5, p5, l5⟩ := h5 rfl
      have n34 := h34 rfl rfl
      have n35 := h35 rfl rfl
      have n45 := h45 rfl rfl
      obtain rfl := k1 (by omega)
      obtain rfl := k2 (by omega)
      obtain rfl := k3 (by omega)
      subst e3 e4 e5
      clear h3 h4 h5 h34 h35 h45 k1 k2 k3
      subst hA
      simp only [Act.put, List.setIfInBounds_toArray, List.set_cons_zero, List.set_cons_succ]
      obtain ⟨x0, x1, xf⟩ := p3.cells
      have xf0 := xf 0
      have xf1 := xf 1
      clear xf
      have hBb3 : Below W0.heap.size W0 ((W.setCell ⟨b3, 0, none⟩ (.float .f64 ax)).setCell ⟨b3, 1, none⟩ (.float .f64 ay)) := (hS.2.2.2.2.2.2.setCell l3 _).setCell l3 _
      refine call_at 18 (by kernel_rfl) (by kernel_rfl) ?_
      intro o ho
      simp only [List.getElem?_toArray, List.getElem?_cons_succ, List.getElem?_cons_zero, Option.some.injEq] at ho
      subst ho
      intro KF hK
      go_simp
      go_wp2_with fail
      refine hK.out _ _ ⟨far2 hS.1 (Nat.ne_of_lt (Nat.lt_of_lt_of_le lt0 l3)), far2 hS.2.1 (Nat.ne_of_lt (Nat.lt_of_lt_of_le lt0 l3)), far2 hS.2.2.1 (Nat.ne_of_lt (Nat.lt_of_lt_of_le lt0 l3)), far2 hS.2.2.2.1 (Nat.ne_of_lt (Nat.lt_of_lt_of_le lt0 l3)), far2 hS.2.2.2.2.1 (Nat.ne_of_lt (Nat.lt_of_lt_of_le lt0 l3)), far2 hS.2.2.2.2.2.1 (Nat.ne_of_lt (Nat.lt_of_lt_of_le lt0 l3)), hBb3⟩ ?_
      clear hS
      intro hS
      clear hK KF x0 x1 xf0 xf1
      try simp only [List.setIfInBounds_toArray, List.set_cons_zero, List.set_cons_succ]
      obtain ⟨WA, hWA⟩ : ∃ W', W' = (W.setCell ⟨b3, 0, none⟩ (.float .f64 ax)).setCell ⟨b3, 1, none⟩ (.float .f64 ay) := ⟨_, rfl⟩
      have p3' := p3.set2 ax ay
      have p4 := p4.other2 n34.symm (.float .f64 ax) (.float .f64 ay)
      have p5 := p5.other2 n35.symm (.float .f64 ax) (.float .f64 ay)
      rw [← hWA] at hS p3' p4 p5 ⊢
      clear hWA hBb3
      obtain ⟨x0, x1, xf⟩ := p4.cells
      have xf0 := xf 0
      have xf1 := xf 1
      clear xf
      have hBb4 : Below W0.heap.size W0 ((WA.setCell ⟨b4, 0, none⟩ (.float .f64 bx)).setCell ⟨b4, 1, none⟩ (.float .f64 by')) := (hS.2.2.2.2.2.2.setCell l4 _).setCell l4 _
      refine call_at 19 (by kernel_rfl) (by kernel_rfl) ?_
      intro o ho
      simp only [List.getElem?_toArray, List.getElem?_cons_succ, List.getElem?_cons_zero, Option.some.injEq] at ho
      subst ho
      intro KF hK
      go_simp
      go_wp2_with fail
      refine hK.out _ _ ⟨far2 hS.1 (Nat.ne_of_lt (Nat.lt_of_lt_of_le lt0 l4)), far2 hS.2.1 (Nat.ne_of_lt (Nat.lt_of_lt_of_le lt0 l4)), far2 hS.2.2.1 (Nat.ne_of_lt (Nat.lt_of_lt_of_le lt0 l4)), far2 hS.2.2.2.1 (Nat.ne_of_lt (Nat.lt_of_lt_of_le lt0 l4)), far2 hS.2.2.2.2.1 (Nat.ne_of_lt (Nat.lt_of_lt_of_le lt0 l4)), far2 hS.2.2.2.2.2.1 (Nat.ne_of_lt (Nat.lt_of_lt_of_le lt0 l4)), hBb4⟩ ?_
      clear hS
      intro hS
      clear hK KF x0 x1 xf0 xf1
      try simp only [List.setIfInBounds_toArray, List.set_cons_zero, List.set_cons_succ]
      obtain ⟨WB, hWB⟩ : ∃ W', W' = (WA.setCell ⟨b4, 0, none⟩ (.float .f64 bx)).setCell ⟨b4, 1, none⟩ (.float .f64 by') := ⟨_, rfl⟩
      have p4' := p4.set2 bx by'
      have p3' := p3'.other2 n34 (.float .f64 bx) (.float .f64 by')
      have p5 := p5.other2 n45.symm (.float .f64 bx) (.float .f64 by')
      rw [← hWB] at hS p4' p3' p5 ⊢
      clear hWB hBb4
      obtain ⟨x0, x1, xf⟩ := p5.cells
      have xf0 := xf 0
      have xf1 := xf 1
      clear xf
      have hBb5 : Below W0.heap.size W0 ((WB.setCell ⟨b5, 0, none⟩ (.float .f64 cx)).setCell ⟨b5, 1, none⟩ (.float .f64 cy)) := (hS.2.2.2.2.2.2.setCell l5 _).setCell l5 _
      refine call_at 20 (by kernel_rfl) (by kernel_rfl) ?_
      intro o ho
      simp only [List.getElem?_toArray, List.getElem?_cons_succ, List.getElem?_cons_zero, Option.some.injEq] at ho
      subst ho
      intro KF hK
      go_simp
      go_wp2_with fail
      refine hK.out _ _ ⟨far2 hS.1 (Nat.ne_of_lt (Nat.lt_of_lt_of_le lt0 l5)), far2 hS.2.1 (Nat.ne_of_lt (Nat.lt_of_lt_of_le lt0 l5)), far2 hS.2.2.1 (Nat.ne_of_lt (Nat.lt_of_lt_of_le lt0 l5)), far2 hS.2.2.2.1 (Nat.ne_of_lt (Nat.lt_of_lt_of_le lt0 l5)), far2 hS.2.2.2.2.1 (Nat.ne_of_lt (Nat.lt_of_lt_of_le lt0 l5)), far2 hS.2.2.2.2.2.1 (Nat.ne_of_lt (Nat.lt_of_lt_of_le lt0 l5)), hBb5⟩ ?_
      clear hS
      intro hS
      clear hK KF x0 x1 xf0 xf1
      try simp only [List.setIfInBounds_toArray, List.set_cons_zero, List.set_cons_succ]
      obtain ⟨WL, hWL⟩ : ∃ W', W' = (WB.setCell ⟨b5, 0, none⟩ (.float .f64 cx)).setCell ⟨b5, 1, none⟩ (.float .f64 cy) := ⟨_, rfl⟩
      have p5' := p5.set2 cx cy
      have p3' := p3'.other2 n35 (.float .f64 cx) (.float .f64 cy)
      have p4' := p4'.other2 n45 (.float .f64 cx) (.float .f64 cy)
      rw [← hWL] at hS p5' p3' p4' ⊢
      clear hWL hBb5
      refine wpAnyH_done (by kernel_rfl) ?_ _
      have HB : Hid (Below w.heap.size w WL) := below_step HB0.out hS.2.2.2.2.2.2
      have HQ : Hid (PB WL b3 ax ay ∧ PB WL b4 bx by' ∧ PB WL b5 cx cy) := ⟨p3', p4', p5'⟩
      clear hS p3 p4 p5 p3' p4' p5'
      go_wp2_with fail
      go_meet
      exact ⟨b3, b4, b5, rfl, rfl, rfl, HQ.out, HB.out⟩
    · exact ⟨undef, undef, undef, undef, undef, undef, 0, 0, 0, by rw [hA]; rfl, hS, fun h => Bool.noConfusion h, fun h => Bool.noConfusion h, fun h => Bool.noConfusion h, fun h => Bool.noConfusion h, fun h => Bool.noConfusion h, fun h => Bool.noConfusion h, fun h => by omega, fun h => by omega, fun h => by omega⟩
  case rest =>
    obtain ⟨ga, gb, gc, rfl, rfl, rfl, hQ⟩ := hcut
    obtain ⟨W1, rfl⟩ : ∃ W1, W1 = wc := ⟨wc, rfl⟩
    clear z0 z1 z2 z3 z4 z5 lt0 HB0
    obtain ⟨kk, hkk⟩ : ∃ k, kk0.tmod 60 = k := ⟨_, rfl⟩
    have hr := tmod_60 kk0
    rw [hkk] at hr
    obtain ⟨hr1, hr2⟩ := hr
    obtain ⟨K0, hK0⟩ : ∃ K0 : Nat, Hid ((0 ≤ kk → (K0 : Int) = kk) ∧ (kk < 0 → K0 = 0)) := ⟨kk.toNat, by show _ ∧ _; omega⟩
    obtain ⟨J0, hJ0⟩ : ∃ J0 : Nat, Hid ((kk < 0 → (J0 : Int) = -kk) ∧ (0 ≤ kk → J0 = 0)) := ⟨(-kk).toNat, by show _ ∧ _; omega⟩
    obtain ⟨u, hu⟩ : ∃ u, floatOfInt .f64 (kx.tmod 1073741824) = u := ⟨_, rfl⟩
    obtain ⟨v, hv⟩ : ∃ v, floatOfInt .f64 (ky.tmod 1073741824) = v := ⟨_, rfl⟩
    have HU : Hid (Fin64 u ∧ fval u = ((kx.tmod 1073741824 : Int) : Rat) ∧ -1073741824 ≤ kx.tmod 1073741824 ∧ kx.tmod 1073741824 ≤ 1073741824) := by
      have := tmod_30 kx
      have h := fw_val (n := kx.tmod 1073741824) (by omega) (by omega)
      unfold fw at h
      rw [hu] at h
      exact ⟨h.1, h.2.2, by omega, by omega⟩
    have HV : Hid (Fin64 v ∧ fval v = ((ky.tmod 1073741824 : Int) : Rat) ∧ -1073741824 ≤ ky.tmod 1073741824 ∧ ky.tmod 1073741824 ≤ 1073741824) := by
      have := tmod_30 ky
      have h := fw_val (n := ky.tmod 1073741824) (by omega) (by omega)
      unfold fw at h
      rw [hv] at h
      exact ⟨h.1, h.2.2, by omega, by omega⟩
    go_wp2
    go_loop [12, 13] (fun b i => ∃ j : Nat, i = .int .i64 (j : Nat) ∧ b = .float .f64 (pwW (j : Nat)) ∧ j ≤ K0) (fun _ i => K0 - (intOf i).toNat)
    case atStart => exact ⟨0, rfl, rfl, Nat.zero_le _⟩
    case round =>
      obtain ⟨j, rfl, rfl, hj⟩ := hrel
      by_cases hlt : (j : Int) < kk
      · have hjK : j < K0 := by have := hK0.out.1 (by omega); omega
        have rd : ∀ w, (binOp .mul 22 (.float .f64 (pwW (j : Nat))) (.float .f64 4611686018427387904)).run Try.prog w = .ok (.float .f64 (pwW ((j + 1 : Nat) : Int))) w := fun w => run_float_arith w .mul _ .f64 _ _ _ (pw_dbl j (by omega))
        have j1 : (0 : Int) ≤ (j : Int) := by omega
        have j2 : (j : Int) < 60 := by omega
        obtain ⟨pa, ha⟩ : ∃ p, Hid (p = pwW (j : Nat)) := ⟨_, rfl⟩
        obtain ⟨pb, hb⟩ : ∃ p, Hid (p = pwW ((j + 1 : Nat) : Int)) := ⟨_, rfl⟩
        rw [← ha.out, ← hb.out] at rd
        rw [← ha.out]
        go_wp2
        go_round
        case rel => exact ⟨j + 1, by go_num, by rw [hb.out], by omega⟩
        case measure => simp [intOf]; omega
      · have hltb : decide ((j : Int) < kk) = false := decide_eq_false hlt
        obtain rfl : j = K0 := by
          rcases Int.lt_or_le kk 0 with h | h
          · have := hK0.out.2 h; omega
          · have := hK0.out.1 h; omega
        obtain ⟨pa, ha⟩ : ∃ p, Hid (p = pwW (j : Nat)) := ⟨_, rfl⟩
        rw [← ha.out]
        clear hlt
        go_wp2
        go_loop [12, 14] (fun b i => ∃ q : Nat, i = .int .i64 (-(q : Int)) ∧ b = .float .f64 (pwW ((j : Int) - (q : Int))) ∧ q ≤ J0) (fun _ i => J0 - (-intOf i).toNat)
        case atStart => exact ⟨0, rfl, by rw [ha.out]; simp, Nat.zero_le _⟩
        case round =>
          obtain ⟨q, rfl, rfl, hq⟩ := hrel
          clear ha
          by_cases hgt : kk < -(q : Int)
          · have hqJ : q < J0 := by have := hJ0.out.1 (by omega); omega
            have hj0 : j = 0 := hK0.out.2 (by omega)
            have e1 : (j : Int) - (q : Int) = -((q : Nat) : Int) := by omega
            have rd : ∀ w, (binOp .quo 22 (.float .f64 (pwW (-((q : Nat) : Int)))) (.float .f64 4611686018427387904)).run Try.prog w = .ok (.float .f64 (pwW (-((q + 1 : Nat) : Int)))) w := fun w => run_float_arith w .quo _ .f64 _ _ _ (pw_hlf q (by omega))
            have j1 : (0 : Int) ≤ (q : Int) := by omega
            have j2 : (q : Int) < 60 := by omega
            obtain ⟨pc, hc⟩ : ∃ p, Hid (p = pwW (-((q : Nat) : Int))) := ⟨_, rfl⟩
            obtain ⟨pd, hd⟩ : ∃ p, Hid (p = pwW (-((q + 1 : Nat) : Int))) := ⟨_, rfl⟩
            rw [← hc.out, ← hd.out] at rd
            rw [e1, ← hc.out]
            have HJ : Hid (j = 0) := hj0
            clear e1 hj0
            go_wp2
            go_round
            case rel => exact ⟨q + 1, by go_num, by rw [hd.out, HJ.out]; simp, by omega⟩
            case measure => simp [intOf]; omega
          · have hgtb : decide (kk < -(q : Int)) = false := decide_eq_false hgt
            have e1 : (j : Int) - (q : Int) = kk := by
              rcases Int.lt_or_le kk 0 with h | h
              · have := hK0.out.2 h; have := hJ0.out.1 h; omega
              · have := hK0.out.1 h; have := hJ0.out.2 h; omega
            rw [e1]
            have HPW : Hid (Fin64 (pwW kk) ∧ fval (pwW kk) = p2 kk) := by have := pw_val (k := kk) (by omega) (by omega); exact ⟨this.1, this.2.2⟩
            have HKB : Hid (-60 < kk ∧ kk < 60) := ⟨hr1, hr2⟩
            clear hgt e1
            obtain ⟨sdx, dx, hdx1, hdx2, fdx, ldx, vdx⟩ : ∃ s X, floatBits .add .f64 ax u = some s ∧ floatBits .mul .f64 s (pwW kk) = some X ∧ Fin64 X ∧ X < 18446744073709551616 ∧ fval X = (fval ax + fval u) * p2 kk := by
              have hf := FW n0
              have ht := tmod_small n0
              rw [E0.out] at hf
              exact moved_word (crd_fin hf.2.1.1) hf.2.2.2 (by omega) (by omega) HU.out.1 HU.out.2.1 HU.out.2.2.1 HU.out.2.2.2 HKB.out.1 HKB.out.2
            obtain ⟨sdy, dy, hdy1, hdy2, fdy, ldy, vdy⟩ : ∃ s X, floatBits .add .f64 ay v = some s ∧ floatBits .mul .f64 s (pwW kk) = some X ∧ Fin64 X ∧ X < 18446744073709551616 ∧ fval X = (fval ay + fval v) * p2 kk := by
              have hf := FW n1
              have ht := tmod_small n1
              rw [E1.out] at hf
              exact moved_word (crd_fin hf.2.1.1) hf.2.2.2 (by omega) (by omega) HV.out.1 HV.out.2.1 HV.out.2.2.1 HV.out.2.2.2 HKB.out.1 HKB.out.2
            obtain ⟨sex, ex, hex1, hex2, fex, lex, vex⟩ : ∃ s X, floatBits .add .f64 bx u = some s ∧ floatBits .mul .f64 s (pwW kk) = some X ∧ Fin64 X ∧ X < 18446744073709551616 ∧ fval X = (fval bx + fval u) * p2 kk := by
              have hf := FW n2
              have ht := tmod_small n2
              rw [E2.out] at hf
              exact moved_word (crd_fin hf.2.1.1) hf.2.2.2 (by omega) (by omega) HU.out.1 HU.out.2.1 HU.out.2.2.1 HU.out.2.2.2 HKB.out.1 HKB.out.2
            obtain ⟨sey, ey, hey1, hey2, fey, ley, vey⟩ : ∃ s X, floatBits .add .f64 by' v = some s ∧ floatBits .mul .f64 s (pwW kk) = some X ∧ Fin64 X ∧ X < 18446744073709551616 ∧ fval X = (fval by' + fval v) * p2 kk := by
              have hf := FW n3
              have ht := tmod_small n3
              rw [E3.out] at hf
              exact moved_word (crd_fin hf.2.1.1) hf.2.2.2 (by omega) (by omega) HV.out.1 HV.out.2.1 HV.out.2.2.1 HV.out.2.2.2 HKB.out.1 HKB.out.2
            obtain ⟨sfx, fx, hfx1, hfx2, ffx, lfx, vfx⟩ : ∃ s X, floatBits .add .f64 cx u = some s ∧ floatBits .mul .f64 s (pwW kk) = some X ∧ Fin64 X ∧ X < 18446744073709551616 ∧ fval X = (fval cx + fval u) * p2 kk := by
              have hf := FW n4
              have ht := tmod_small n4
              rw [E4.out] at hf
              exact moved_word (crd_fin hf.2.1.1) hf.2.2.2 (by omega) (by omega) HU.out.1 HU.out.2.1 HU.out.2.2.1 HU.out.2.2.2 HKB.out.1 HKB.out.2
            obtain ⟨sfy, fy, hfy1, hfy2, ffy, lfy, vfy⟩ : ∃ s X, floatBits .add .f64 cy v = some s ∧ floatBits .mul .f64 s (pwW kk) = some X ∧ Fin64 X ∧ X < 18446744073709551616 ∧ fval X = (fval cy + fval v) * p2 kk := by
              have hf := FW n5
              have ht := tmod_small n5
              rw [E5.out] at hf
              exact moved_word (crd_fin hf.2.1.1) hf.2.2.2 (by omega) (by omega) HV.out.1 HV.out.2.1 HV.out.2.2.1 HV.out.2.2.2 HKB.out.1 HKB.out.2
            have HM : Hid (Mv ax ay dx dy (fval u) (fval v) (p2 kk) ∧ Mv bx by' ex ey (fval u) (fval v) (p2 kk) ∧ Mv cx cy fx fy (fval u) (fval v) (p2 kk)) := ⟨⟨vdx, vdy⟩, ⟨vex, vey⟩, ⟨vfx, vfy⟩⟩
            have HWD : Hid (W6 dx dy ex ey fx fy) := ⟨⟨ldx, ldy⟩, ⟨lex, ley⟩, lfx, lfy⟩
            have HFB : Hid ((floatBits .add .f64 ax u = some sdx ∧ floatBits .mul .f64 sdx (pwW kk) = some dx ∧ floatBits .add .f64 ay v = some sdy ∧ floatBits .mul .f64 sdy (pwW kk) = some dy) ∧ (floatBits .add .f64 bx u = some sex ∧ floatBits .mul .f64 sex (pwW kk) = some ex ∧ floatBits .add .f64 by' v = some sey ∧ floatBits .mul .f64 sey (pwW kk) = some ey) ∧ floatBits .add .f64 cx u = some sfx ∧ floatBits .mul .f64 sfx (pwW kk) = some fx ∧ floatBits .add .f64 cy v = some sfy ∧ floatBits .mul .f64 sfy (pwW kk) = some fy) := ⟨⟨hdx1, hdx2, hdy1, hdy2⟩, ⟨hex1, hex2, hey1, hey2⟩, hfx1, hfx2, hfy1, hfy2⟩
            clear hdx1 hdx2 fdx ldx vdx hdy1 hdy2 fdy ldy vdy hex1 hex2 fex lex vex hey1 hey2 fey ley vey hfx1 hfx2 ffx lfx vfx hfy1 hfy2 ffy lfy vfy
            generalize pwW kk = pw at *
            obtain ⟨z6, z7, _⟩ := hQ.out.1.1.cells
            obtain ⟨z8, z9, _⟩ := hQ.out.1.2.1.cells
            obtain ⟨z10, z11, _⟩ := hQ.out.1.2.2.cells
            have lta : ga < W1.heap.size := hQ.out.1.1.lt
            have ltb : gb < W1.heap.size := hQ.out.1.2.1.lt
            have ltc : gc < W1.heap.size := hQ.out.1.2.2.lt
            go_upto_region 12 with fail
            go_cut [17, 18, 19] (fun p q r wx => ∃ gd ge gf : Nat, p = .pointer (some ⟨gd, 0, none⟩) ∧ q = .pointer (some ⟨ge, 0, none⟩) ∧ r = .pointer (some ⟨gf, 0, none⟩) ∧ Hid ((PB wx gd dx dy ∧ PB wx ge ex ey ∧ PB wx gf fx fy) ∧ (PB wx ga ax ay ∧ PB wx gb bx by' ∧ PB wx gc cx cy) ∧ Below w.heap.size w wx))
            case first =>
              refine wp_region_held_drew (S := (fun W => W.cell? ⟨ga, 0, none⟩ = some (.float .f64 ax) ∧ W.cell? ⟨ga, 1, none⟩ = some (.float .f64 ay) ∧ W.cell? ⟨gb, 0, none⟩ = some (.float .f64 bx) ∧ W.cell? ⟨gb, 1, none⟩ = some (.float .f64 by') ∧ W.cell? ⟨gc, 0, none⟩ = some (.float .f64 cx) ∧ W.cell? ⟨gc, 1, none⟩ = some (.float .f64 cy) ∧ Below W1.heap.size W1 W)) (by kernel_rfl) ⟨z6, z7, z8, z9, z10, z11, (Below.refl _ _).drew⟩ (fun hS => ?_)
              refine take_at (i := 0) (d := some 58) (v := .agg #[.float .f64 ax, .float .f64 ay]) (by kernel_rfl) (by kernel_rfl) (by kernel_rfl) (by kernel_rfl) (fun _ _ _ h => h) ?_ hS ?_
              · intro o ho
                simp only [List.getElem?_toArray, List.getElem?_cons_zero, Option.some.injEq] at ho
                subst ho
                refine Or.inl ⟨by rfl, ?_⟩
                intro w hSw
                (try dsimp only at hSw)
                go_simp
              simp only [Act.put, List.setIfInBounds_toArray, List.set_cons_zero, List.set_cons_succ]
              refine take_at (i := 1) (d := some 59) (v := .float .f64 u) (by kernel_rfl) (by kernel_rfl) (by kernel_rfl) (by kernel_rfl) (fun _ _ _ h => h) ?_ hS ?_
              · intro o ho
                simp only [List.getElem?_toArray, List.getElem?_cons_succ, List.getElem?_cons_zero, Option.some.injEq] at ho
                subst ho
                refine Or.inl ⟨by rfl, ?_⟩
                intro w hSw
                (try dsimp only at hSw)
                go_simp
              simp only [Act.put, List.setIfInBounds_toArray, List.set_cons_zero, List.set_cons_succ]
              refine take_at (i := 2) (d := some 60) (v := .float .f64 v) (by kernel_rfl) (by kernel_rfl) (by kernel_rfl) (by kernel_rfl) (fun _ _ _ h => h) ?_ hS ?_
              · intro o ho
                simp only [List.getElem?_toArray, List.getElem?_cons_succ, List.getElem?_cons_zero, Option.some.injEq] at ho
                subst ho
                refine Or.inl ⟨by rfl, ?_⟩
                intro w hSw
                (try dsimp only at hSw)
                go_simp
              simp only [Act.put, List.setIfInBounds_toArray, List.set_cons_zero, List.set_cons_succ]
              refine take_at (i := 3) (d := some 61) (v := .float .f64 pw) (by kernel_rfl) (by kernel_rfl) (by kernel_rfl) (by kernel_rfl) (fun _ _ _ h => h) ?_ hS ?_
              · intro o ho
                simp only [List.getElem?_toArray, List.getElem?_cons_succ, List.getElem?_cons_zero, Option.some.injEq] at ho
                subst ho
                refine Or.inl ⟨by rfl, ?_⟩
                intro w hSw
                (try dsimp only at hSw)
                go_simp
              simp only [Act.put, List.setIfInBounds_toArray, List.set_cons_zero, List.set_cons_succ]
              refine take_at (i := 5) (d := some 63) (v := .agg #[.float .f64 bx, .float .f64 by']) (by kernel_rfl) (by kernel_rfl) (by kernel_rfl) (by kernel_rfl) (fun _ _ _ h => h) ?_ hS ?_
              · intro o ho
                simp only [List.getElem?_toArray, List.getElem?_cons_succ, List.getElem?_cons_zero, Option.some.injEq] at ho
                subst ho
                refine Or.inl ⟨by rfl, ?_⟩
                intro w hSw
                (try dsimp only at hSw)
                go_simp
              simp only [Act.put, List.setIfInBounds_toArray, List.set_cons_zero, List.set_cons_succ]
              refine take_at (i := 6) (d := some 64) (v := .float .f64 u) (by kernel_rfl) (by kernel_rfl) (by kernel_rfl) (by kernel_rfl) (fun _ _ _ h => h) ?_ hS ?_
              · intro o ho
                simp only [List.getElem?_toArray, List.getElem?_cons_succ, List.getElem?_cons_zero, Option.some.injEq] at ho
                subst ho
                refine Or.inl ⟨by rfl, ?_⟩
                intro w hSw
                (try dsimp only at hSw)
                go_simp
              simp only [Act.put, List.setIfInBounds_toArray, List.set_cons_zero, List.set_cons_succ]
              refine take_at (i := 7) (d := some 65) (v := .float .f64 v) (by kernel_rfl) (by kernel_rfl) (by kernel_rfl) (by kernel_rfl) (fun _ _ _ h => h) ?_ hS ?_
              · intro o ho
                simp only [List.getElem?_toArray, List.getElem?_cons_succ, List.getElem?_cons_zero, Option.some.injEq] at ho
                subst ho
                refine Or.inl ⟨by rfl, ?_⟩
                intro w hSw
                (try dsimp only at hSw)
                go_simp
              simp only [Act.put, List.setIfInBounds_toArray, List.set_cons_zero, List.set_cons_succ]
              refine take_at (i := 8) (d := some 66) (v := .float .f64 pw) (by kernel_rfl) (by kernel_rfl) (by kernel_rfl) (by kernel_rfl) (fun _ _ _ h => h) ?_ hS ?_
              · intro o ho
                simp only [List.getElem?_toArray, List.getElem?_cons_succ, List.getElem?_cons_zero, Option.some.injEq] at ho
                subst ho
                refine Or.inl ⟨by rfl, ?_⟩
                intro w hSw
                (try dsimp only at hSw)
                go_simp
              simp only [Act.put, List.setIfInBounds_toArray, List.set_cons_zero, List.set_cons_succ]
              refine take_at (i := 10) (d := some 68) (v := .agg #[.float .f64 cx, .float .f64 cy]) (by kernel_rfl) (by kernel_rfl) (by kernel_rfl) (by kernel_rfl) (fun _ _ _ h => h) ?_ hS ?_
              · intro o ho
                simp only [List.getElem?_toArray, List.getElem?_cons_succ, List.getElem?_cons_zero, Option.some.injEq] at ho
                subst ho
                refine Or.inl ⟨by rfl, ?_⟩
                intro w hSw
                (try dsimp only at hSw)
                go_simp
              simp only [Act.put, List.setIfInBounds_toArray, List.set_cons_zero, List.set_cons_succ]
              refine take_at (i := 11) (d := some 69) (v := .float .f64 u) (by kernel_rfl) (by kernel_rfl) (by kernel_rfl) (by kernel_rfl) (fun _ _ _ h => h) ?_ hS ?_
              · intro o ho
                simp only [List.getElem?_toArray, List.getElem?_cons_succ, List.getElem?_cons_zero, Option.some.injEq] at ho
                subst ho
                refine Or.inl ⟨by rfl, ?_⟩
                intro w hSw
                (try dsimp only at hSw)
                go_simp
              simp only [Act.put, List.setIfInBounds_toArray, List.set_cons_zero, List.set_cons_succ]
              refine take_at (i := 12) (d := some 70) (v := .float .f64 v) (by kernel_rfl) (by kernel_rfl) (by kernel_rfl) (by kernel_rfl) (fun _ _ _ h => h) ?_ hS ?_
              · intro o ho
                simp only [List.getElem?_toArray, List.getElem?_cons_succ, List.getElem?_cons_zero, Option.some.injEq] at ho
                subst ho
                refine Or.inl ⟨by rfl, ?_⟩
                intro w hSw
                (try dsimp only at hSw)
                go_simp
              simp only [Act.put, List.setIfInBounds_toArray, List.set_cons_zero, List.set_cons_succ]
              refine take_at (i := 13) (d := some 71) (v := .float .f64 pw) (by kernel_rfl) (by kernel_rfl) (by kernel_rfl) (by kernel_rfl) (fun _ _ _ h => h) ?_ hS ?_
              · intro o ho
                simp only [List.getElem?_toArray, List.getElem?_cons_succ, List.getElem?_cons_zero, Option.some.injEq] at ho
                subst ho
                refine Or.inl ⟨by rfl, ?_⟩
                intro w hSw
                (try dsimp only at hSw)
                go_simp
              simp only [Act.put, List.setIfInBounds_toArray, List.set_cons_zero, List.set_cons_succ]
              refine frame_name (fun A hA => ?_)
              refine draw3 (f := 3) (n := 3) (fun (x y z : Bool) (k : Nat) => #[true, true, true, true, decide (1 ≤ k), true, true, true, true, decide (2 ≤ k), true, true, true, true, decide (3 ≤ k), x, y, z, false, false, false]) (fun (x y z : Bool) (k : Nat) (a : Act) (W : World) => ∃ (v3 v4 v5 c1 c2 c3 : Value) (b3 b4 b5 : Nat), a = ((((((A.put (some 17) v3).put (some 18) v4).put (some 19) v5).put (some 62) c1).put (some 67) c2).put (some 72) c3) ∧ (W.cell? ⟨ga, 0, none⟩ = some (.float .f64 ax) ∧ W.cell? ⟨ga, 1, none⟩ = some (.float .f64 ay) ∧ W.cell? ⟨gb, 0, none⟩ = some (.float .f64 bx) ∧ W.cell? ⟨gb, 1, none⟩ = some (.float .f64 by') ∧ W.cell? ⟨gc, 0, none⟩ = some (.float .f64 cx) ∧ W.cell? ⟨gc, 1, none⟩ = some (.float .f64 cy) ∧ Below W1.heap.size W1 W) ∧ (x = true → v3 = .pointer (some ⟨b3, 0, none⟩) ∧ PB W b3 0 0 ∧ W1.heap.size ≤ b3) ∧ (y = true → v4 = .pointer (some ⟨b4, 0, none⟩) ∧ PB W b4 0 0 ∧ W1.heap.size ≤ b4) ∧ (z = true → v5 = .pointer (some ⟨b5, 0, none⟩) ∧ PB W b5 0 0 ∧ W1.heap.size ≤ b5) ∧ (x = true → y = true → b3 ≠ b4) ∧ (x = true → z = true → b3 ≠ b5) ∧ (y = true → z = true → b4 ≠ b5) ∧ (1 ≤ k → c1 = (pv dx dy)) ∧ (2 ≤ k → c2 = (pv ex ey)) ∧ (3 ≤ k → c3 = (pv fx fy))) ?_ ?_ 6 false false false 0 _ _ (by omega) rfl ?_
              · intro x y z k hk hlt
                refine ⟨rdy x y z k, ?_, rdy_ne hk hlt, ?_⟩
                · have h4 : k = 0 ∨ k = 1 ∨ k = 2 ∨ k = 3 := by omega
                  rcases h4 with rfl | rfl | rfl | rfl <;> cases x <;> cases y <;> cases z <;> first | exact absurd hlt (by decide) | (show _ = _; kernel_rfl)
                · intro i hi
                  rcases rdy_mem hi with ⟨rfl, rfl⟩ | ⟨rfl, rfl⟩ | ⟨rfl, rfl⟩ | ⟨rfl, rfl⟩ | ⟨rfl, rfl⟩ | ⟨rfl, rfl⟩
                  · refine ⟨x, y, z, 1, by omega, by cases x <;> cases y <;> cases z <;> rfl, (far_set x y z 0).2.2.2, _, rfl, ?_⟩
                    intro a W hI K' hK
                    obtain ⟨v3, v4, v5, c1, c2, c3, b3, b4, b5, rfl, hS, h3, h4, h5, h34, h35, h45, k1, k2, k3⟩ := hI
                    have H : Hid ((x = true → v3 = .pointer (some ⟨b3, 0, none⟩) ∧ PB W b3 0 0 ∧ W1.heap.size ≤ b3) ∧ (y = true → v4 = .pointer (some ⟨b4, 0, none⟩) ∧ PB W b4 0 0 ∧ W1.heap.size ≤ b4) ∧ (z = true → v5 = .pointer (some ⟨b5, 0, none⟩) ∧ PB W b5 0 0 ∧ W1.heap.size ≤ b5)) := ⟨h3, h4, h5⟩
                    clear h3 h4 h5 k1 k2 k3
                    rw [hA]
                    simp only [Act.put, List.setIfInBounds_toArray, List.set_cons_zero, List.set_cons_succ]
                    go_simp
                    go_wp2_with fail
                    refine (moved_any ax ay u v pw sdx dx sdy dy _ HFB.out.1.1 HFB.out.1.2.1 HFB.out.1.2.2.1 HFB.out.1.2.2.2).mono ?_
                    rintro e wx ⟨rfl, hb⟩
                    have hS2 : wx.cell? ⟨ga, 0, none⟩ = some (.float .f64 ax) ∧ wx.cell? ⟨ga, 1, none⟩ = some (.float .f64 ay) ∧ wx.cell? ⟨gb, 0, none⟩ = some (.float .f64 bx) ∧ wx.cell? ⟨gb, 1, none⟩ = some (.float .f64 by') ∧ wx.cell? ⟨gc, 0, none⟩ = some (.float .f64 cx) ∧ wx.cell? ⟨gc, 1, none⟩ = some (.float .f64 cy) ∧ Below W1.heap.size W1 wx := ⟨box_cell hb hS.1, box_cell hb hS.2.1, box_cell hb hS.2.2.1, box_cell hb hS.2.2.2.1, box_cell hb hS.2.2.2.2.1, box_cell hb hS.2.2.2.2.2.1, below_step hS.2.2.2.2.2.2 hb⟩
                    go_wp2_with fail
                    refine hK.out _ _ hS2 ⟨v3, v4, v5, (pv dx dy), c2, c3, b3, b4, b5, by rw [hA]; rfl, hS2, fun h => ⟨(H.out.1 h).1, (H.out.1 h).2.1.later hb, (H.out.1 h).2.2⟩, fun h => ⟨(H.out.2.1 h).1, (H.out.2.1 h).2.1.later hb, (H.out.2.1 h).2.2⟩, fun h => ⟨(H.out.2.2 h).1, (H.out.2.2 h).2.1.later hb, (H.out.2.2 h).2.2⟩, h34, h35, h45, fun _ => rfl, fun h => by omega, fun h => by omega⟩
                  · refine ⟨x, y, z, 2, by omega, by cases x <;> cases y <;> cases z <;> rfl, (far_set x y z 1).2.2.2, _, rfl, ?_⟩
                    intro a W hI K' hK
                    obtain ⟨v3, v4, v5, c1, c2, c3, b3, b4, b5, rfl, hS, h3, h4, h5, h34, h35, h45, k1, k2, k3⟩ := hI
                    obtain rfl := k1 (by omega)
                    have H : Hid ((x = true → v3 = .pointer (some ⟨b3, 0, none⟩) ∧ PB W b3 0 0 ∧ W1.heap.size ≤ b3) ∧ (y = true → v4 = .pointer (some ⟨b4, 0, none⟩) ∧ PB W b4 0 0 ∧ W1.heap.size ≤ b4) ∧ (z = true → v5 = .pointer (some ⟨b5, 0, none⟩) ∧ PB W b5 0 0 ∧ W1.heap.size ≤ b5)) := ⟨h3, h4, h5⟩
                    clear h3 h4 h5 k1 k2 k3
                    rw [hA]
                    simp only [Act.put, List.setIfInBounds_toArray, List.set_cons_zero, List.set_cons_succ]
                    go_simp
                    go_wp2_with fail
                    refine (moved_any bx by' u v pw sex ex sey ey _ HFB.out.2.1.1 HFB.out.2.1.2.1 HFB.out.2.1.2.2.1 HFB.out.2.1.2.2.2).mono ?_
                    rintro e wx ⟨rfl, hb⟩
                    have hS2 : wx.cell? ⟨ga, 0, none⟩ = some (.float .f64 ax) ∧ wx.cell? ⟨ga, 1, none⟩ = some (.float .f64 ay) ∧ wx.cell? ⟨gb, 0, none⟩ = some (.float .f64 bx) ∧ wx.cell? ⟨gb, 1, none⟩ = some (.float .f64 by') ∧ wx.cell? ⟨gc, 0, none⟩ = some (.float .f64 cx) ∧ wx.cell? ⟨gc, 1, none⟩ = some (.float .f64 cy) ∧ Below W1.heap.size W1 wx := ⟨box_cell hb hS.1, box_cell hb hS.2.1, box_cell hb hS.2.2.1, box_cell hb hS.2.2.2.1, box_cell hb hS.2.2.2.2.1, box_cell hb hS.2.2.2.2.2.1, below_step hS.2.2.2.2.2.2 hb⟩
                    go_wp2_with fail
                    refine hK.out _ _ hS2 ⟨v3, v4, v5, (pv dx dy), (pv ex ey), c3, b3, b4, b5, by rw [hA]; rfl, hS2, fun h => ⟨(H.out.1 h).1, (H.out.1 h).2.1.later hb, (H.out.1 h).2.2⟩, fun h => ⟨(H.out.2.1 h).1, (H.out.2.1 h).2.1.later hb, (H.out.2.1 h).2.2⟩, fun h => ⟨(H.out.2.2 h).1, (H.out.2.2 h).2.1.later hb, (H.out.2.2 h).2.2⟩, h34, h35, h45, fun _ => rfl, fun _ => rfl, fun h => by omega⟩
                  · refine ⟨x, y, z, 3, by omega, by cases x <;> cases y <;> cases z <;> rfl, (far_set x y z 2).2.2.2, _, rfl, ?_⟩
                    intro a W hI K' hK
                    obtain ⟨v3, v4, v5, c1, c2, c3, b3, b4, b5, rfl, hS, h3, h4, h5, h34, h35, h45, k1, k2, k3⟩ := hI
                    obtain rfl := k1 (by omega)
                    obtain rfl := k2 (by omega)
                    have H : Hid ((x = true → v3 = .pointer (some ⟨b3, 0, none⟩) ∧ PB W b3 0 0 ∧ W1.heap.size ≤ b3) ∧ (y = true → v4 = .pointer (some ⟨b4, 0, none⟩) ∧ PB W b4 0 0 ∧ W1.heap.size ≤ b4) ∧ (z = true → v5 = .pointer (some ⟨b5, 0, none⟩) ∧ PB W b5 0 0 ∧ W1.heap.size ≤ b5)) := ⟨h3, h4, h5⟩
                    clear h3 h4 h5 k1 k2 k3
                    rw [hA]
                    simp only [Act.put, List.setIfInBounds_toArray, List.set_cons_zero, List.set_cons_succ]
                    go_simp
                    go_wp2_with fail
                    refine (moved_any cx cy u v pw sfx fx sfy fy _ HFB.out.2.2.1 HFB.out.2.2.2.1 HFB.out.2.2.2.2.1 HFB.out.2.2.2.2.2).mono ?_
                    rintro e wx ⟨rfl, hb⟩
                    have hS2 : wx.cell? ⟨ga, 0, none⟩ = some (.float .f64 ax) ∧ wx.cell? ⟨ga, 1, none⟩ = some (.float .f64 ay) ∧ wx.cell? ⟨gb, 0, none⟩ = some (.float .f64 bx) ∧ wx.cell? ⟨gb, 1, none⟩ = some (.float .f64 by') ∧ wx.cell? ⟨gc, 0, none⟩ = some (.float .f64 cx) ∧ wx.cell? ⟨gc, 1, none⟩ = some (.float .f64 cy) ∧ Below W1.heap.size W1 wx := ⟨box_cell hb hS.1, box_cell hb hS.2.1, box_cell hb hS.2.2.1, box_cell hb hS.2.2.2.1, box_cell hb hS.2.2.2.2.1, box_cell hb hS.2.2.2.2.2.1, below_step hS.2.2.2.2.2.2 hb⟩
                    go_wp2_with fail
                    refine hK.out _ _ hS2 ⟨v3, v4, v5, (pv dx dy), (pv ex ey), (pv fx fy), b3, b4, b5, by rw [hA]; rfl, hS2, fun h => ⟨(H.out.1 h).1, (H.out.1 h).2.1.later hb, (H.out.1 h).2.2⟩, fun h => ⟨(H.out.2.1 h).1, (H.out.2.1 h).2.1.later hb, (H.out.2.1 h).2.2⟩, fun h => ⟨(H.out.2.2 h).1, (H.out.2.2 h).2.1.later hb, (H.out.2.2 h).2.2⟩, h34, h35, h45, fun _ => rfl, fun _ => rfl, fun _ => rfl⟩
                  · refine ⟨true, y, z, k, hk, rfl, (far_set true y z k).1, _, rfl, ?_⟩
                    intro a W hI K' hK
                    obtain ⟨v3, v4, v5, c1, c2, c3, b3, b4, b5, rfl, hS, h3, h4, h5, h34, h35, h45, k1, k2, k3⟩ := hI
                    have H : Hid ((false = true → v3 = .pointer (some ⟨b3, 0, none⟩) ∧ PB W b3 0 0 ∧ W1.heap.size ≤ b3) ∧ (y = true → v4 = .pointer (some ⟨b4, 0, none⟩) ∧ PB W b4 0 0 ∧ W1.heap.size ≤ b4) ∧ (z = true → v5 = .pointer (some ⟨b5, 0, none⟩) ∧ PB W b5 0 0 ∧ W1.heap.size ≤ b5)) := ⟨h3, h4, h5⟩
                    have HK : Hid ((1 ≤ k → c1 = (pv dx dy)) ∧ (2 ≤ k → c2 = (pv ex ey)) ∧ (3 ≤ k → c3 = (pv fx fy))) := ⟨k1, k2, k3⟩
                    clear h3 h4 h5 k1 k2 k3
                    have hb : Below W.heap.size W (W.alloc (.cells #[.float .f64 0, .float .f64 0] 24)) := (Below.refl _ W).alloc (Nat.le_refl _) _
                    have hS2 : (W.alloc (.cells #[.float .f64 0, .float .f64 0] 24)).cell? ⟨ga, 0, none⟩ = some (.float .f64 ax) ∧ (W.alloc (.cells #[.float .f64 0, .float .f64 0] 24)).cell? ⟨ga, 1, none⟩ = some (.float .f64 ay) ∧ (W.alloc (.cells #[.float .f64 0, .float .f64 0] 24)).cell? ⟨gb, 0, none⟩ = some (.float .f64 bx) ∧ (W.alloc (.cells #[.float .f64 0, .float .f64 0] 24)).cell? ⟨gb, 1, none⟩ = some (.float .f64 by') ∧ (W.alloc (.cells #[.float .f64 0, .float .f64 0] 24)).cell? ⟨gc, 0, none⟩ = some (.float .f64 cx) ∧ (W.alloc (.cells #[.float .f64 0, .float .f64 0] 24)).cell? ⟨gc, 1, none⟩ = some (.float .f64 cy) ∧ Below W1.heap.size W1 (W.alloc (.cells #[.float .f64 0, .float .f64 0] 24)) := ⟨box_cell hb hS.1, box_cell hb hS.2.1, box_cell hb hS.2.2.1, box_cell hb hS.2.2.2.1, box_cell hb hS.2.2.2.2.1, box_cell hb hS.2.2.2.2.2.1, below_step hS.2.2.2.2.2.2 hb⟩
                    rw [hA]
                    simp only [Act.put, List.setIfInBounds_toArray, List.set_cons_zero, List.set_cons_succ]
                    go_simp
                    go_wp2_with fail
                    exact hK.out _ _ hS2 ⟨_, v4, v5, c1, c2, c3, W.heap.size, b4, b5, by rw [hA]; rfl, hS2, fun _ => ⟨rfl, PB.new W 0 0, hS.2.2.2.2.2.2.size⟩, fun h => ⟨(H.out.2.1 h).1, (H.out.2.1 h).2.1.later hb, (H.out.2.1 h).2.2⟩, fun h => ⟨(H.out.2.2 h).1, (H.out.2.2 h).2.1.later hb, (H.out.2.2 h).2.2⟩, fun _ h => Nat.ne_of_gt (H.out.2.1 h).2.1.lt, fun _ h => Nat.ne_of_gt (H.out.2.2 h).2.1.lt, h45, HK.out⟩
                  · refine ⟨x, true, z, k, hk, rfl, (far_set x true z k).2.1, _, rfl, ?_⟩
                    intro a W hI K' hK
                    obtain ⟨v3, v4, v5, c1, c2, c3, b3, b4, b5, rfl, hS, h3, h4, h5, h34, h35, h45, k1, k2, k3⟩ := hI
                    have H : Hid ((x = true → v3 = .pointer (some ⟨b3, 0, none⟩) ∧ PB W b3 0 0 ∧ W1.heap.size ≤ b3) ∧ (false = true → v4 = .pointer (some ⟨b4, 0, none⟩) ∧ PB W b4 0 0 ∧ W1.heap.size ≤ b4) ∧ (z = true → v5 = .pointer (some ⟨b5, 0, none⟩) ∧ PB W b5 0 0 ∧ W1.heap.size ≤ b5)) := ⟨h3, h4, h5⟩
                    have HK : Hid ((1 ≤ k → c1 = (pv dx dy)) ∧ (2 ≤ k → c2 = (pv ex ey)) ∧ (3 ≤ k → c3 = (pv fx fy))) := ⟨k1, k2, k3⟩
                    clear h3 h4 h5 k1 k2 k3
                    have hb : Below W.heap.size W (W.alloc (.cells #[.float .f64 0, .float .f64 0] 24)) := (Below.refl _ W).alloc (Nat.le_refl _) _
                    have hS2 : (W.alloc (.cells #[.float .f64 0, .float .f64 0] 24)).cell? ⟨ga, 0, none⟩ = some (.float .f64 ax) ∧ (W.alloc (.cells #[.float .f64 0, .float .f64 0] 24)).cell? ⟨ga, 1, none⟩ = some (.float .f64 ay) ∧ (W.alloc (.cells #[.float .f64 0, .float .f64 0] 24)).cell? ⟨gb, 0, none⟩ = some (.float .f64 bx) ∧ (W.alloc (.cells #[.float .f64 0, .float .f64 0] 24)).cell? ⟨gb, 1, none⟩ = some (.float .f64 by') ∧ (W.alloc (.cells #[.float .f64 0, .float .f64 0] 24)).cell? ⟨gc, 0, none⟩ = some (.float .f64 cx) ∧ (W.alloc (.cells #[.float .f64 0, .float .f64 0] 24)).cell? ⟨gc, 1, none⟩ = some (.float .f64 cy) ∧ Below W1.heap.size W1 (W.alloc (.cells #[.float .f64 0, .float .f64 0] 24)) := ⟨box_cell hb hS.1, box_cell hb hS.2.1, box_cell hb hS.2.2.1, box_cell hb hS.2.2.2.1, box_cell hb hS.2.2.2.2.1, box_cell hb hS.2.2.2.2.2.1, below_step hS.2.2.2.2.2.2 hb⟩
                    rw [hA]
                    simp only [Act.put, List.setIfInBounds_toArray, List.set_cons_zero, List.set_cons_succ]
                    go_simp
                    go_wp2_with fail
                    exact hK.out _ _ hS2 ⟨v3, _, v5, c1, c2, c3, b3, W.heap.size, b5, by rw [hA]; rfl, hS2, fun h => ⟨(H.out.1 h).1, (H.out.1 h).2.1.later hb, (H.out.1 h).2.2⟩, fun _ => ⟨rfl, PB.new W 0 0, hS.2.2.2.2.2.2.size⟩, fun h => ⟨(H.out.2.2 h).1, (H.out.2.2 h).2.1.later hb, (H.out.2.2 h).2.2⟩, fun h _ => Nat.ne_of_lt (H.out.1 h).2.1.lt, h35, fun _ h => Nat.ne_of_gt (H.out.2.2 h).2.1.lt, HK.out⟩
                  · refine ⟨x, y, true, k, hk, rfl, (far_set x y true k).2.2.1, _, rfl, ?_⟩
                    intro a W hI K' hK
                    obtain ⟨v3, v4, v5, c1, c2, c3, b3, b4, b5, rfl, hS, h3, h4, h5, h34, h35, h45, k1, k2, k3⟩ := hI
                    have H : Hid ((x = true → v3 = .pointer (some ⟨b3, 0, none⟩) ∧ PB W b3 0 0 ∧ W1.heap.size ≤ b3) ∧ (y = true → v4 = .pointer (some ⟨b4, 0, none⟩) ∧ PB W b4 0 0 ∧ W1.heap.size ≤ b4) ∧ (false = true → v5 = .pointer (some ⟨b5, 0, none⟩) ∧ PB W b5 0 0 ∧ W1.heap.size ≤ b5)) := ⟨h3, h4, h5⟩
                    have HK : Hid ((1 ≤ k → c1 = (pv dx dy)) ∧ (2 ≤ k → c2 = (pv ex ey)) ∧ (3 ≤ k → c3 = (pv fx fy))) := ⟨k1, k2, k3⟩
                    clear h3 h4 h5 k1 k2 k3
                    have hb : Below W.heap.size W (W.alloc (.cells #[.float .f64 0, .float .f64 0] 24)) := (Below.refl _ W).alloc (Nat.le_refl _) _
                    have hS2 : (W.alloc (.cells #[.float .f64 0, .float .f64 0] 24)).cell? ⟨ga, 0, none⟩ = some (.float .f64 ax) ∧ (W.alloc (.cells #[.float .f64 0, .float .f64 0] 24)).cell? ⟨ga, 1, none⟩ = some (.float .f64 ay) ∧ (W.alloc (.cells #[.float .f64 0, .float .f64 0] 24)).cell? ⟨gb, 0, none⟩ = some (.float .f64 bx) ∧ (W.alloc (.cells #[.float .f64 0, .float .f64 0] 24)).cell? ⟨gb, 1, none⟩ = some (.float .f64 by') ∧ (W.alloc (.cells #[.float .f64 0, .float .f64 0] 24)).cell? ⟨gc, 0, none⟩ = some (.float .f64 cx) ∧ (W.alloc (.cells #[.float .f64 0, .float .f64 0] 24)).cell? ⟨gc, 1, none⟩ = some (.float .f64 cy) ∧ Below W1.heap.size W1 (W.alloc (.cells #[.float .f64 0, .float .f64 0] 24)) := ⟨box_cell hb hS.1, box_cell hb hS.2.1, box_cell hb hS.2.2.1, box_cell hb hS.2.2.2.1, box_cell hb hS.2.2.2.2.1, box_cell hb hS.2.2.2.2.2.1, below_step hS.2.2.2.2.2.2 hb⟩
                    rw [hA]
                    simp only [Act.put, List.setIfInBounds_toArray, List.set_cons_zero, List.set_cons_succ]
                    go_simp
                    go_wp2_with fail
                    exact hK.out _ _ hS2 ⟨v3, v4, _, c1, c2, c3, b3, b4, W.heap.size, by rw [hA]; rfl, hS2, fun h => ⟨(H.out.1 h).1, (H.out.1 h).2.1.later hb, (H.out.1 h).2.2⟩, fun h => ⟨(H.out.2.1 h).1, (H.out.2.1 h).2.1.later hb, (H.out.2.1 h).2.2⟩, fun _ => ⟨rfl, PB.new W 0 0, hS.2.2.2.2.2.2.size⟩, h34, fun h _ => Nat.ne_of_lt (H.out.1 h).2.1.lt, fun h _ => Nat.ne_of_lt (H.out.2.1 h).2.1.lt, HK.out⟩
              · intro a W hI
                obtain ⟨v3, v4, v5, c1, c2, c3, b3, b4, b5, rfl, hS, h3, h4, h5, h34, h35, h45, k1, k2, k3⟩ := hI
                obtain ⟨e3, p3, l3⟩ := h3 rfl
                obtain ⟨e4, p4, l4⟩ := h4 rfl
                obtain ⟨e5, p5, l5⟩ := h5 rfl
                have n34 := h34 rfl rfl
                have n35 := h35 rfl rfl
                have n45 := h45 rfl rfl
                obtain rfl := k1 (by omega)
                obtain rfl := k2 (by omega)
                obtain rfl := k3 (by omega)
                subst e3 e4 e5
                clear h3 h4 h5 h34 h35 h45 k1 k2 k3
                subst hA
                simp only [Act.put, List.setIfInBounds_toArray, List.set_cons_zero, List.set_cons_succ]
                obtain ⟨x0, x1, xf⟩ := p3.cells
                have xf0 := xf 0
                have xf1 := xf 1
                clear xf
                have hBb3 : Below W1.heap.size W1 ((W.setCell ⟨b3, 0, none⟩ (.float .f64 dx)).setCell ⟨b3, 1, none⟩ (.float .f64 dy)) := (hS.2.2.2.2.2.2.setCell l3 _).setCell l3 _
                refine call_at 18 (by kernel_rfl) (by kernel_rfl) ?_
                intro o ho
                simp only [List.getElem?_toArray, List.getElem?_cons_succ, List.getElem?_cons_zero, Option.some.injEq] at ho
                subst ho
                intro KF hK
                go_simp
                go_wp2_with fail
                refine hK.out _ _ ⟨far2 hS.1 (Nat.ne_of_lt (Nat.lt_of_lt_of_le lta l3)), far2 hS.2.1 (Nat.ne_of_lt (Nat.lt_of_lt_of_le lta l3)), far2 hS.2.2.1 (Nat.ne_of_lt (Nat.lt_of_lt_of_le ltb l3)), far2 hS.2.2.2.1 (Nat.ne_of_lt (Nat.lt_of_lt_of_le ltb l3)), far2 hS.2.2.2.2.1 (Nat.ne_of_lt (Nat.lt_of_lt_of_le ltc l3)), far2 hS.2.2.2.2.2.1 (Nat.ne_of_lt (Nat.lt_of_lt_of_le ltc l3)), hBb3⟩ ?_
                clear hS
                intro hS
                clear hK KF x0 x1 xf0 xf1
                try simp only [List.setIfInBounds_toArray, List.set_cons_zero, List.set_cons_succ]
                obtain ⟨WA, hWA⟩ : ∃ W', W' = (W.setCell ⟨b3, 0, none⟩ (.float .f64 dx)).setCell ⟨b3, 1, none⟩ (.float .f64 dy) := ⟨_, rfl⟩
                have p3' := p3.set2 dx dy
                have p4 := p4.other2 n34.symm (.float .f64 dx) (.float .f64 dy)
                have p5 := p5.other2 n35.symm (.float .f64 dx) (.float .f64 dy)
                rw [← hWA] at hS p3' p4 p5 ⊢
                clear hWA hBb3
                obtain ⟨x0, x1, xf⟩ := p4.cells
                have xf0 := xf 0
                have xf1 := xf 1
                clear xf
                have hBb4 : Below W1.heap.size W1 ((WA.setCell ⟨b4, 0, none⟩ (.float .f64 ex)).setCell ⟨b4, 1, none⟩ (.float .f64 ey)) := (hS.2.2.2.2.2.2.setCell l4 _).setCell l4 _
                refine call_at 19 (by kernel_rfl) (by kernel_rfl) ?_
                intro o ho
                simp only [List.getElem?_toArray, List.getElem?_cons_succ, List.getElem?_cons_zero, Option.some.injEq] at ho
                subst ho
                intro KF hK
                go_simp
                go_wp2_with fail
                refine hK.out _ _ ⟨far2 hS.1 (Nat.ne_of_lt (Nat.lt_of_lt_of_le lta l4)), far2 hS.2.1 (Nat.ne_of_lt (Nat.lt_of_lt_of_le lta l4)), far2 hS.2.2.1 (Nat.ne_of_lt (Nat.lt_of_lt_of_le ltb l4)), far2 hS.2.2.2.1 (Nat.ne_of_lt (Nat.lt_of_lt_of_le ltb l4)), far2 hS.2.2.2.2.1 (Nat.ne_of_lt (Nat.lt_of_lt_of_le ltc l4)), far2 hS.2.2.2.2.2.1 (Nat.ne_of_lt (Nat.lt_of_lt_of_le ltc l4)), hBb4⟩ ?_
                clear hS
                intro hS
                clear hK KF x0 x1 xf0 xf1
                try simp only [List.setIfInBounds_toArray, List.set_cons_zero, List.set_cons_succ]
                obtain ⟨WB, hWB⟩ : ∃ W', W' = (WA.setCell ⟨b4, 0, none⟩ (.float .f64 ex)).setCell ⟨b4, 1, none⟩ (.float .f64 ey) := ⟨_, rfl⟩
                have p4' := p4.set2 ex ey
                have p3' := p3'.other2 n34 (.float .f64 ex) (.float .f64 ey)
                have p5 := p5.other2 n45.symm (.float .f64 ex) (.float .f64 ey)
                rw [← hWB] at hS p4' p3' p5 ⊢
                clear hWB hBb4
                obtain ⟨x0, x1, xf⟩ := p5.cells
                have xf0 := xf 0
                have xf1 := xf 1
                clear xf
                have hBb5 : Below W1.heap.size W1 ((WB.setCell ⟨b5, 0, none⟩ (.float .f64 fx)).setCell ⟨b5, 1, none⟩ (.float .f64 fy)) := (hS.2.2.2.2.2.2.setCell l5 _).setCell l5 _
                refine call_at 20 (by kernel_rfl) (by kernel_rfl) ?_
                intro o ho
                simp only [List.getElem?_toArray, List.getElem?_cons_succ, List.getElem?_cons_zero, Option.some.injEq] at ho
                subst ho
                intro KF hK
                go_simp
                go_wp2_with fail
                refine hK.out _ _ ⟨far2 hS.1 (Nat.ne_of_lt (Nat.lt_of_lt_of_le lta l5)), far2 hS.2.1 (Nat.ne_of_lt (Nat.lt_of_lt_of_le lta l5)), far2 hS.2.2.1 (Nat.ne_of_lt (Nat.lt_of_lt_of_le ltb l5)), far2 hS.2.2.2.1 (Nat.ne_of_lt (Nat.lt_of_lt_of_le ltb l5)), far2 hS.2.2.2.2.1 (Nat.ne_of_lt (Nat.lt_of_lt_of_le ltc l5)), far2 hS.2.2.2.2.2.1 (Nat.ne_of_lt (Nat.lt_of_lt_of_le ltc l5)), hBb5⟩ ?_
                clear hS
                intro hS
                clear hK KF x0 x1 xf0 xf1
                try simp only [List.setIfInBounds_toArray, List.set_cons_zero, List.set_cons_succ]
                obtain ⟨WL, hWL⟩ : ∃ W', W' = (WB.setCell ⟨b5, 0, none⟩ (.float .f64 fx)).setCell ⟨b5, 1, none⟩ (.float .f64 fy) := ⟨_, rfl⟩
                have p5' := p5.set2 fx fy
                have p3' := p3'.other2 n35 (.float .f64 fx) (.float .f64 fy)
                have p4' := p4'.other2 n45 (.float .f64 fx) (.float .f64 fy)
                rw [← hWL] at hS p5' p3' p4' ⊢
                clear hWL hBb5
                refine wpAnyH_done (by kernel_rfl) ?_ _
                have HB : Hid (Below W1.heap.size W1 WL) := hS.2.2.2.2.2.2
                have HQ : Hid (PB WL b3 dx dy ∧ PB WL b4 ex ey ∧ PB WL b5 fx fy) := ⟨p3', p4', p5'⟩
                clear hS p3 p4 p5 p3' p4' p5'
                go_wp2_with fail
                go_meet
                exact ⟨b3, b4, b5, rfl, rfl, rfl, HQ.out, ⟨hQ.out.1.1.later HB.out, hQ.out.1.2.1.later HB.out, hQ.out.1.2.2.later HB.out⟩, below_step hQ.out.2 HB.out⟩
              · exact ⟨undef, undef, undef, u62, u67, u72, 0, 0, 0, by rw [hA]; rfl, hS, fun h => Bool.noConfusion h, fun h => Bool.noConfusion h, fun h => Bool.noConfusion h, fun h => Bool.noConfusion h, fun h => Bool.noConfusion h, fun h => Bool.noConfusion h, fun h => by omega, fun h => by omega, fun h => by omega⟩
            case rest =>
              obtain ⟨gd, ge, gf, rfl, rfl, rfl, hR⟩ := hcut
              obtain ⟨W2, rfl⟩ : ∃ W2, W2 = wc := ⟨wc, rfl⟩
              clear z6 z7 z8 z9 z10 z11 lta ltb ltc
              obtain ⟨yd0, yd1, _⟩ := hR.out.1.1.cells
              obtain ⟨ye0, ye1, _⟩ := hR.out.1.2.1.cells
              obtain ⟨yf0, yf1, _⟩ := hR.out.1.2.2.cells
              go_wp2_with fail
              refine (may_any dx dy _ HWD.out.1).mono ?_
              rintro e V1 ⟨⟨t, rfl, ht⟩, hb⟩
              have HV1 : Hid ((PB V1 gd dx dy ∧ PB V1 ge ex ey ∧ PB V1 gf fx fy) ∧ (PB V1 ga ax ay ∧ PB V1 gb bx by' ∧ PB V1 gc cx cy) ∧ Below w.heap.size w V1) := ⟨⟨hR.out.1.1.later hb, hR.out.1.2.1.later hb, hR.out.1.2.2.later hb⟩, ⟨hR.out.2.1.1.later hb, hR.out.2.1.2.1.later hb, hR.out.2.1.2.2.later hb⟩, below_step hR.out.2.2 hb⟩
              have HT0 : Hid (t = true ↔ Pt dx dy) := ht
              clear ht hb yd0 yd1 ye0 ye1 yf0 yf1
              obtain ⟨yd0, yd1, _⟩ := HV1.out.1.1.cells
              obtain ⟨ye0, ye1, _⟩ := HV1.out.1.2.1.cells
              obtain ⟨yf0, yf1, _⟩ := HV1.out.1.2.2.cells
              cases t
              · go_wp2_with fail
                refine (awake_any _).mono ?_
                rintro e wz ⟨rfl, hb⟩
                have HZ : Hid (Below w.heap.size w wz) := below_step HV1.out.2.2 hb
                clear hb yd0 yd1 ye0 ye1 yf0 yf1
                go_wp2
                go_ret
                exact ⟨rfl, HZ.out⟩
              · have HP0 : Hid (Pt dx dy) := HT0.out.1 rfl
                go_wp2_with fail
                refine (may_any ex ey _ HWD.out.2.1).mono ?_
                rintro e V2 ⟨⟨t, rfl, ht⟩, hb⟩
                have HV2 : Hid ((PB V2 gd dx dy ∧ PB V2 ge ex ey ∧ PB V2 gf fx fy) ∧ (PB V2 ga ax ay ∧ PB V2 gb bx by' ∧ PB V2 gc cx cy) ∧ Below w.heap.size w V2) := ⟨⟨HV1.out.1.1.later hb, HV1.out.1.2.1.later hb, HV1.out.1.2.2.later hb⟩, ⟨HV1.out.2.1.1.later hb, HV1.out.2.1.2.1.later hb, HV1.out.2.1.2.2.later hb⟩, below_step HV1.out.2.2 hb⟩
                have HT1 : Hid (t = true ↔ Pt ex ey) := ht
                clear ht hb yd0 yd1 ye0 ye1 yf0 yf1
                obtain ⟨yd0, yd1, _⟩ := HV2.out.1.1.cells
                obtain ⟨ye0, ye1, _⟩ := HV2.out.1.2.1.cells
                obtain ⟨yf0, yf1, _⟩ := HV2.out.1.2.2.cells
                cases t
                · go_wp2_with fail
                  refine (awake_any _).mono ?_
                  rintro e wz ⟨rfl, hb⟩
                  have HZ : Hid (Below w.heap.size w wz) := below_step HV2.out.2.2 hb
                  clear hb yd0 yd1 ye0 ye1 yf0 yf1
                  go_wp2
                  go_ret
                  exact ⟨rfl, HZ.out⟩
                · have HP1 : Hid (Pt ex ey) := HT1.out.1 rfl
                  go_wp2_with fail
                  refine (may_any fx fy _ HWD.out.2.2).mono ?_
                  rintro e V3 ⟨⟨t, rfl, ht⟩, hb⟩
                  have HV3 : Hid ((PB V3 gd dx dy ∧ PB V3 ge ex ey ∧ PB V3 gf fx fy) ∧ (PB V3 ga ax ay ∧ PB V3 gb bx by' ∧ PB V3 gc cx cy) ∧ Below w.heap.size w V3) := ⟨⟨HV2.out.1.1.later hb, HV2.out.1.2.1.later hb, HV2.out.1.2.2.later hb⟩, ⟨HV2.out.2.1.1.later hb, HV2.out.2.1.2.1.later hb, HV2.out.2.1.2.2.later hb⟩, below_step HV2.out.2.2 hb⟩
                  have HT2 : Hid (t = true ↔ Pt fx fy) := ht
                  clear ht hb yd0 yd1 ye0 ye1 yf0 yf1
                  obtain ⟨yd0, yd1, _⟩ := HV3.out.1.1.cells
                  obtain ⟨ye0, ye1, _⟩ := HV3.out.1.2.1.cells
                  obtain ⟨yf0, yf1, _⟩ := HV3.out.1.2.2.cells
                  cases t
                  · go_wp2_with fail
                    refine (awake_any _).mono ?_
                    rintro e wz ⟨rfl, hb⟩
                    have HZ : Hid (Below w.heap.size w wz) := below_step HV3.out.2.2 hb
                    clear hb yd0 yd1 ye0 ye1 yf0 yf1
                    go_wp2
                    go_ret
                    exact ⟨rfl, HZ.out⟩
                  · have HP2 : Hid (Pt fx fy) := HT2.out.1 rfl
                    have HPD : Hid (P3 dx dy ex ey fx fy) := ⟨HP0.out, HP1.out, HP2.out⟩
                    have HPA : Hid (P3 ax ay bx by' cx cy) := by
                      refine ⟨⟨?_, ?_⟩, ⟨?_, ?_⟩, ?_, ?_⟩
                      · rw [← E0.out]; exact (FW n0).2.1
                      · rw [← E1.out]; exact (FW n1).2.1
                      · rw [← E2.out]; exact (FW n2).2.1
                      · rw [← E3.out]; exact (FW n3).2.1
                      · rw [← E4.out]; exact (FW n4).2.1
                      · rw [← E5.out]; exact (FW n5).2.1
                    have HWA : Hid (W6 ax ay bx by' cx cy) := by
                      refine ⟨⟨?_, ?_⟩, ⟨?_, ?_⟩, ?_, ?_⟩
                      · rw [← E0.out]; exact (FW n0).2.2.1
                      · rw [← E1.out]; exact (FW n1).2.2.1
                      · rw [← E2.out]; exact (FW n2).2.2.1
                      · rw [← E3.out]; exact (FW n3).2.2.1
                      · rw [← E4.out]; exact (FW n4).2.2.1
                      · rw [← E5.out]; exact (FW n5).2.2.1
                    obtain ⟨z, hz⟩ : ∃ z, Hid (sg3 ax ay bx by' cx cy = z) := ⟨_, rfl⟩
                    have HZD : Hid (sg3 dx dy ex ey fx fy = z) := by
                      show _ = z
                      rw [sg_moved (p2_pos kk) HM.out.1 HM.out.2.1 HM.out.2.2 HPA.out HPD.out]; exact hz.out
                    have HZM : Hid (sg3 (fflip ax) ay (fflip bx) by' (fflip cx) cy = -z) := by
                      show _ = -z
                      rw [sg_mirror HWA.out HPA.out, hz.out]
                    have HWM : Hid (W6 (fflip ax) ay (fflip bx) by' (fflip cx) cy) := ⟨⟨flip_lt HWA.out.1.1, HWA.out.1.2⟩, ⟨flip_lt HWA.out.2.1.1, HWA.out.2.1.2⟩, flip_lt HWA.out.2.2.1, HWA.out.2.2.2⟩
                    obtain ⟨o1, HON⟩ := bool_of (OnP ax ay bx by' cx cy)
                    have HOD : Hid (o1 = true ↔ OnP dx dy ex ey fx fy) := by
                      show o1 = true ↔ _
                      rw [on_moved (p2_pos kk) HM.out.1 HM.out.2.1 HM.out.2.2 HPA.out HPD.out]; exact HON.out
                    obtain ⟨h1, h2⟩ := sg3_range ax ay bx by' cx cy
                    rw [hz.out] at h1 h2
                    have nz : IntKind.i64.wrap (-z) = -z := wrapE _ (by omega) (by omega)
                    have rna := run_negF ax HWA.out.1.1
                    have rnb := run_negF bx HWA.out.2.1.1
                    have rnc := run_negF cx HWA.out.2.2.1
                    clear h1 h2
                    obtain ⟨ya0, ya1, _⟩ := HV3.out.2.1.1.cells
                    obtain ⟨yb0, yb1, _⟩ := HV3.out.2.1.2.1.cells
                    obtain ⟨yc0, yc1, _⟩ := HV3.out.2.1.2.2.cells
                    go_wp2_with fail
                    refine (sign_is ax ay bx by' cx cy _ z HWA.out hz.out).mono ?_
                    rintro e V4 ⟨rfl, hb⟩
                    have HV4 : Hid ((PB V4 gd dx dy ∧ PB V4 ge ex ey ∧ PB V4 gf fx fy) ∧ (PB V4 ga ax ay ∧ PB V4 gb bx by' ∧ PB V4 gc cx cy) ∧ Below w.heap.size w V4) := ⟨⟨HV3.out.1.1.later hb, HV3.out.1.2.1.later hb, HV3.out.1.2.2.later hb⟩, ⟨HV3.out.2.1.1.later hb, HV3.out.2.1.2.1.later hb, HV3.out.2.1.2.2.later hb⟩, below_step HV3.out.2.2 hb⟩
                    clear hb ya0 ya1 yb0 yb1 yc0 yc1 yd0 yd1 ye0 ye1 yf0 yf1
                    obtain ⟨ya0, ya1, _⟩ := HV4.out.2.1.1.cells
                    obtain ⟨yb0, yb1, _⟩ := HV4.out.2.1.2.1.cells
                    obtain ⟨yc0, yc1, _⟩ := HV4.out.2.1.2.2.cells
                    obtain ⟨yd0, yd1, _⟩ := HV4.out.1.1.cells
                    obtain ⟨ye0, ye1, _⟩ := HV4.out.1.2.1.cells
                    obtain ⟨yf0, yf1, _⟩ := HV4.out.1.2.2.cells
                    generalize fflip ax = mx at *
                    generalize fflip bx = nx at *
                    generalize fflip cx = ox at *
                    have HB4 : Hid (Below w.heap.size w V4) := HV4.out.2.2
                    go_upto_region 16 with fail
                    refine wp_region_held_drew (S := (fun W => W.cell? ⟨ga, 0, none⟩ = some (.float .f64 ax) ∧ W.cell? ⟨ga, 1, none⟩ = some (.float .f64 ay) ∧ W.cell? ⟨gb, 0, none⟩ = some (.float .f64 bx) ∧ W.cell? ⟨gb, 1, none⟩ = some (.float .f64 by') ∧ W.cell? ⟨gc, 0, none⟩ = some (.float .f64 cx) ∧ W.cell? ⟨gc, 1, none⟩ = some (.float .f64 cy) ∧ W.cell? ⟨gd, 0, none⟩ = some (.float .f64 dx) ∧ W.cell? ⟨gd, 1, none⟩ = some (.float .f64 dy) ∧ W.cell? ⟨ge, 0, none⟩ = some (.float .f64 ex) ∧ W.cell? ⟨ge, 1, none⟩ = some (.float .f64 ey) ∧ W.cell? ⟨gf, 0, none⟩ = some (.float .f64 fx) ∧ W.cell? ⟨gf, 1, none⟩ = some (.float .f64 fy) ∧ Below w.heap.size w W)) (by kernel_rfl) ⟨ya0, ya1, yb0, yb1, yc0, yc1, yd0, yd1, ye0, ye1, yf0, yf1, HB4.out.drew⟩ (fun hS => ?_)
                    refine take_at (i := 0) (d := some 91) (v := .agg #[.float .f64 dx, .float .f64 dy]) (by kernel_rfl) (by kernel_rfl) (by kernel_rfl) (by kernel_rfl) (fun _ _ _ h => h) ?_ hS ?_
                    · intro o ho
                      simp only [List.getElem?_toArray, List.getElem?_cons_zero, Option.some.injEq] at ho
                      subst ho
                      refine Or.inl ⟨by rfl, ?_⟩
                      intro w hSw
                      (try dsimp only at hSw)
                      go_simp
                    simp only [Act.put, List.setIfInBounds_toArray, List.set_cons_zero, List.set_cons_succ]
                    refine take_at (i := 1) (d := some 92) (v := .agg #[.float .f64 ex, .float .f64 ey]) (by kernel_rfl) (by kernel_rfl) (by kernel_rfl) (by kernel_rfl) (fun _ _ _ h => h) ?_ hS ?_
                    · intro o ho
                      simp only [List.getElem?_toArray, List.getElem?_cons_succ, List.getElem?_cons_zero, Option.some.injEq] at ho
                      subst ho
                      refine Or.inl ⟨by rfl, ?_⟩
                      intro w hSw
                      (try dsimp only at hSw)
                      go_simp
                    simp only [Act.put, List.setIfInBounds_toArray, List.set_cons_zero, List.set_cons_succ]
                    refine take_at (i := 2) (d := some 93) (v := .agg #[.float .f64 fx, .float .f64 fy]) (by kernel_rfl) (by kernel_rfl) (by kernel_rfl) (by kernel_rfl) (fun _ _ _ h => h) ?_ hS ?_
                    · intro o ho
                      simp only [List.getElem?_toArray, List.getElem?_cons_succ, List.getElem?_cons_zero, Option.some.injEq] at ho
                      subst ho
                      refine Or.inl ⟨by rfl, ?_⟩
                      intro w hSw
                      (try dsimp only at hSw)
                      go_simp
                    simp only [Act.put, List.setIfInBounds_toArray, List.set_cons_zero, List.set_cons_succ]
                    refine take_at (i := 4) (d := some 95) (v := .int .i64 z) (by kernel_rfl) (by kernel_rfl) (by kernel_rfl) (by kernel_rfl) (fun _ _ _ h => h) ?_ hS ?_
                    · intro o ho
                      simp only [List.getElem?_toArray, List.getElem?_cons_succ, List.getElem?_cons_zero, Option.some.injEq] at ho
                      subst ho
                      refine Or.inl ⟨by rfl, ?_⟩
                      intro w hSw
                      (try dsimp only at hSw)
                      go_simp
                    simp only [Act.put, List.setIfInBounds_toArray, List.set_cons_zero, List.set_cons_succ]
                    refine call_at 3 (by kernel_rfl) (by kernel_rfl) ?_
                    intro o ho
                    simp only [List.getElem?_toArray, List.getElem?_cons_succ, List.getElem?_cons_zero, Option.some.injEq] at ho
                    subst ho
                    intro KF hK
                    go_simp
                    refine (sign_is dx dy ex ey fx fy _ z HWD.out HZD.out).mono ?_
                    rintro e wx ⟨rfl, hbx⟩
                    go_wp2_with fail
                    refine hK.out _ _ (keep12c hS hbx) ?_
                    clear hS hbx
                    intro hS
                    clear hK KF
                    try simp only [Act.put, List.setIfInBounds_toArray, List.set_cons_zero, List.set_cons_succ]
                    refine take_at (i := 5) (d := some 96) (v := .bool true) (by kernel_rfl) (by kernel_rfl) (by kernel_rfl) (by kernel_rfl) (fun _ _ _ h => h) ?_ hS ?_
                    · intro o ho
                      simp only [List.getElem?_toArray, List.getElem?_cons_succ, List.getElem?_cons_zero, Option.some.injEq] at ho
                      subst ho
                      refine Or.inl ⟨by rfl, ?_⟩
                      intro w hSw
                      (try dsimp only at hSw)
                      go_simp
                    simp only [Act.put, List.setIfInBounds_toArray, List.set_cons_zero, List.set_cons_succ]
                    refine take_at (i := 6) (d := some 97) (v := .bool true) (by kernel_rfl) (by kernel_rfl) (by kernel_rfl) (by kernel_rfl) (fun _ _ _ h => h) ?_ hS ?_
                    · intro o ho
                      simp only [List.getElem?_toArray, List.getElem?_cons_succ, List.getElem?_cons_zero, Option.some.injEq] at ho
                      subst ho
                      refine Or.inl ⟨by rfl, ?_⟩
                      intro w hSw
                      (try dsimp only at hSw)
                      go_simp
                    simp only [Act.put, List.setIfInBounds_toArray, List.set_cons_zero, List.set_cons_succ]
                    refine take_at (i := 7) (d := some 98) (v := .agg #[.float .f64 dx, .float .f64 dy]) (by kernel_rfl) (by kernel_rfl) (by kernel_rfl) (by kernel_rfl) (fun _ _ _ h => h) ?_ hS ?_
                    · intro o ho
                      simp only [List.getElem?_toArray, List.getElem?_cons_succ, List.getElem?_cons_zero, Option.some.injEq] at ho
                      subst ho
                      refine Or.inl ⟨by rfl, ?_⟩
                      intro w hSw
                      (try dsimp only at hSw)
                      go_simp
                    simp only [Act.put, List.setIfInBounds_toArray, List.set_cons_zero, List.set_cons_succ]
                    refine take_at (i := 8) (d := some 99) (v := .agg #[.float .f64 ex, .float .f64 ey]) (by kernel_rfl) (by kernel_rfl) (by kernel_rfl) (by kernel_rfl) (fun _ _ _ h => h) ?_ hS ?_
                    · intro o ho
                      simp only [List.getElem?_toArray, List.getElem?_cons_succ, List.getElem?_cons_zero, Option.some.injEq] at ho
                      subst ho
                      refine Or.inl ⟨by rfl, ?_⟩
                      intro w hSw
                      (try dsimp only at hSw)
                      go_simp
                    simp only [Act.put, List.setIfInBounds_toArray, List.set_cons_zero, List.set_cons_succ]
                    refine take_at (i := 9) (d := some 100) (v := .agg #[.float .f64 fx, .float .f64 fy]) (by kernel_rfl) (by kernel_rfl) (by kernel_rfl) (by kernel_rfl) (fun _ _ _ h => h) ?_ hS ?_
                    · intro o ho
                      simp only [List.getElem?_toArray, List.getElem?_cons_succ, List.getElem?_cons_zero, Option.some.injEq] at ho
                      subst ho
                      refine Or.inl ⟨by rfl, ?_⟩
                      intro w hSw
                      (try dsimp only at hSw)
                      go_simp
                    simp only [Act.put, List.setIfInBounds_toArray, List.set_cons_zero, List.set_cons_succ]
                    refine take_at (i := 11) (d := some 102) (v := .agg #[.float .f64 ax, .float .f64 ay]) (by kernel_rfl) (by kernel_rfl) (by kernel_rfl) (by kernel_rfl) (fun _ _ _ h => h) ?_ hS ?_
                    · intro o ho
                      simp only [List.getElem?_toArray, List.getElem?_cons_succ, List.getElem?_cons_zero, Option.some.injEq] at ho
                      subst ho
                      refine Or.inl ⟨by rfl, ?_⟩
                      intro w hSw
                      (try dsimp only at hSw)
                      go_simp
                    simp only [Act.put, List.setIfInBounds_toArray, List.set_cons_zero, List.set_cons_succ]
                    refine take_at (i := 12) (d := some 103) (v := .agg #[.float .f64 bx, .float .f64 by']) (by kernel_rfl) (by kernel_rfl) (by kernel_rfl) (by kernel_rfl) (fun _ _ _ h => h) ?_ hS ?_
                    · intro o ho
                      simp only [List.getElem?_toArray, List.getElem?_cons_succ, List.getElem?_cons_zero, Option.some.injEq] at ho
                      subst ho
                      refine Or.inl ⟨by rfl, ?_⟩
                      intro w hSw
                      (try dsimp only at hSw)
                      go_simp
                    simp only [Act.put, List.setIfInBounds_toArray, List.set_cons_zero, List.set_cons_succ]
                    refine take_at (i := 13) (d := some 104) (v := .agg #[.float .f64 cx, .float .f64 cy]) (by kernel_rfl) (by kernel_rfl) (by kernel_rfl) (by kernel_rfl) (fun _ _ _ h => h) ?_ hS ?_
                    · intro o ho
                      simp only [List.getElem?_toArray, List.getElem?_cons_succ, List.getElem?_cons_zero, Option.some.injEq] at ho
                      subst ho
                      refine Or.inl ⟨by rfl, ?_⟩
                      intro w hSw
                      (try dsimp only at hSw)
                      go_simp
                    simp only [Act.put, List.setIfInBounds_toArray, List.set_cons_zero, List.set_cons_succ]
                    refine call_at 10 (by kernel_rfl) (by kernel_rfl) ?_
                    intro o ho
                    simp only [List.getElem?_toArray, List.getElem?_cons_succ, List.getElem?_cons_zero, Option.some.injEq] at ho
                    subst ho
                    intro KF hK
                    go_simp
                    refine (on_any dx dy ex ey fx fy _ HWD.out).mono ?_
                    rintro e wx ⟨⟨t, rfl, ht⟩, hbx⟩
                    obtain rfl : o1 = t := (bool_iff4 ht HOD.out).symm
                    clear ht
                    go_wp2_with fail
                    refine hK.out _ _ (keep12c hS hbx) ?_
                    clear hS hbx
                    intro hS
                    clear hK KF
                    try simp only [Act.put, List.setIfInBounds_toArray, List.set_cons_zero, List.set_cons_succ]
                    refine call_at 14 (by kernel_rfl) (by kernel_rfl) ?_
                    intro o ho
                    simp only [List.getElem?_toArray, List.getElem?_cons_succ, List.getElem?_cons_zero, Option.some.injEq] at ho
                    subst ho
                    intro KF hK
                    go_simp
                    refine (on_any ax ay bx by' cx cy _ HWA.out).mono ?_
                    rintro e wx ⟨⟨t, rfl, ht⟩, hbx⟩
                    obtain rfl : o1 = t := (bool_iff4 ht HON.out).symm
                    clear ht
                    go_wp2_with fail
                    refine hK.out _ _ (keep12c hS hbx) ?_
                    clear hS hbx
                    intro hS
                    clear hK KF
                    try simp only [Act.put, List.setIfInBounds_toArray, List.set_cons_zero, List.set_cons_succ]
                    refine take_at (i := 15) (d := some 106) (v := .bool true) (by kernel_rfl) (by kernel_rfl) (by kernel_rfl) (by kernel_rfl) (fun _ _ _ h => h) ?_ hS ?_
                    · intro o ho
                      simp only [List.getElem?_toArray, List.getElem?_cons_succ, List.getElem?_cons_zero, Option.some.injEq] at ho
                      subst ho
                      refine Or.inl ⟨by rfl, ?_⟩
                      intro w hSw
                      (try dsimp only at hSw)
                      go_simp
                    simp only [Act.put, List.setIfInBounds_toArray, List.set_cons_zero, List.set_cons_succ]
                    refine take_at (i := 16) (d := some 107) (v := .bool true) (by kernel_rfl) (by kernel_rfl) (by kernel_rfl) (by kernel_rfl) (fun _ _ _ h => h) ?_ hS ?_
                    · intro o ho
                      simp only [List.getElem?_toArray, List.getElem?_cons_succ, List.getElem?_cons_zero, Option.some.injEq] at ho
                      subst ho
                      refine Or.inl ⟨by rfl, ?_⟩
                      intro w hSw
                      (try dsimp only at hSw)
                      go_simp
                    simp only [Act.put, List.setIfInBounds_toArray, List.set_cons_zero, List.set_cons_succ]
                    refine take_at (i := 17) (d := some 108) (v := .bool true) (by kernel_rfl) (by kernel_rfl) (by kernel_rfl) (by kernel_rfl) (fun _ _ _ h => h) ?_ hS ?_
                    · intro o ho
                      simp only [List.getElem?_toArray, List.getElem?_cons_succ, List.getElem?_cons_zero, Option.some.injEq] at ho
                      subst ho
                      refine Or.inl ⟨by rfl, ?_⟩
                      intro w hSw
                      (try dsimp only at hSw)
                      go_simp
                    simp only [Act.put, List.setIfInBounds_toArray, List.set_cons_zero, List.set_cons_succ]
                    refine take_at (i := 18) (d := some 109) (v := .pointer (some ⟨ga, 0, none⟩)) (by kernel_rfl) (by kernel_rfl) (by kernel_rfl) (by kernel_rfl) (fun _ _ _ h => h) ?_ hS ?_
                    · intro o ho
                      simp only [List.getElem?_toArray, List.getElem?_cons_succ, List.getElem?_cons_zero, Option.some.injEq] at ho
                      subst ho
                      refine Or.inl ⟨by rfl, ?_⟩
                      intro w hSw
                      (try dsimp only at hSw)
                      go_simp
                    simp only [Act.put, List.setIfInBounds_toArray, List.set_cons_zero, List.set_cons_succ]
                    refine take_at (i := 19) (d := some 110) (v := .float .f64 ax) (by kernel_rfl) (by kernel_rfl) (by kernel_rfl) (by kernel_rfl) (fun _ _ _ h => h) ?_ hS ?_
                    · intro o ho
                      simp only [List.getElem?_toArray, List.getElem?_cons_succ, List.getElem?_cons_zero, Option.some.injEq] at ho
                      subst ho
                      refine Or.inl ⟨by rfl, ?_⟩
                      intro w hSw
                      (try dsimp only at hSw)
                      go_simp
                    simp only [Act.put, List.setIfInBounds_toArray, List.set_cons_zero, List.set_cons_succ]
                    refine take_at (i := 20) (d := some 111) (v := .float .f64 mx) (by kernel_rfl) (by kernel_rfl) (by kernel_rfl) (by kernel_rfl) (fun _ _ _ h => h) ?_ hS ?_
                    · intro o ho
                      simp only [List.getElem?_toArray, List.getElem?_cons_succ, List.getElem?_cons_zero, Option.some.injEq] at ho
                      subst ho
                      refine Or.inl ⟨by rfl, ?_⟩
                      intro w hSw
                      (try dsimp only at hSw)
                      go_simp
                    simp only [Act.put, List.setIfInBounds_toArray, List.set_cons_zero, List.set_cons_succ]
                    refine take_at (i := 21) (d := some 112) (v := .pointer (some ⟨ga, 1, none⟩)) (by kernel_rfl) (by kernel_rfl) (by kernel_rfl) (by kernel_rfl) (fun _ _ _ h => h) ?_ hS ?_
                    · intro o ho
                      simp only [List.getElem?_toArray, List.getElem?_cons_succ, List.getElem?_cons_zero, Option.some.injEq] at ho
                      subst ho
                      refine Or.inl ⟨by rfl, ?_⟩
                      intro w hSw
                      (try dsimp only at hSw)
                      go_simp
                    simp only [Act.put, List.setIfInBounds_toArray, List.set_cons_zero, List.set_cons_succ]
                    refine take_at (i := 22) (d := some 113) (v := .float .f64 ay) (by kernel_rfl) (by kernel_rfl) (by kernel_rfl) (by kernel_rfl) (fun _ _ _ h => h) ?_ hS ?_
                    · intro o ho
                      simp only [List.getElem?_toArray, List.getElem?_cons_succ, List.getElem?_cons_zero, Option.some.injEq] at ho
                      subst ho
                      refine Or.inl ⟨by rfl, ?_⟩
                      intro w hSw
                      (try dsimp only at hSw)
                      go_simp
                    simp only [Act.put, List.setIfInBounds_toArray, List.set_cons_zero, List.set_cons_succ]
                    refine take_at (i := 24) (d := some 115) (v := .pointer (some ⟨gb, 0, none⟩)) (by kernel_rfl) (by kernel_rfl) (by kernel_rfl) (by kernel_rfl) (fun _ _ _ h => h) ?_ hS ?_
                    · intro o ho
                      simp only [List.getElem?_toArray, List.getElem?_cons_succ, List.getElem?_cons_zero, Option.some.injEq] at ho
                      subst ho
                      refine Or.inl ⟨by rfl, ?_⟩
                      intro w hSw
                      (try dsimp only at hSw)
                      go_simp
                    simp only [Act.put, List.setIfInBounds_toArray, List.set_cons_zero, List.set_cons_succ]
                    refine take_at (i := 25) (d := some 116) (v := .float .f64 bx) (by kernel_rfl) (by kernel_rfl) (by kernel_rfl) (by kernel_rfl) (fun _ _ _ h => h) ?_ hS ?_
                    · intro o ho
                      simp only [List.getElem?_toArray, List.getElem?_cons_succ, List.getElem?_cons_zero, Option.some.injEq] at ho
                      subst ho
                      refine Or.inl ⟨by rfl, ?_⟩
                      intro w hSw
                      (try dsimp only at hSw)
                      go_simp
                    simp only [Act.put, List.setIfInBounds_toArray, List.set_cons_zero, List.set_cons_succ]
                    refine take_at (i := 26) (d := some 117) (v := .float .f64 nx) (by kernel_rfl) (by kernel_rfl) (by kernel_rfl) (by kernel_rfl) (fun _ _ _ h => h) ?_ hS ?_
                    · intro o ho
                      simp only [List.getElem?_toArray, List.getElem?_cons_succ, List.getElem?_cons_zero, Option.some.injEq] at ho
                      subst ho
                      refine Or.inl ⟨by rfl, ?_⟩
                      intro w hSw
                      (try dsimp only at hSw)
                      go_simp
                    simp only [Act.put, List.setIfInBounds_toArray, List.set_cons_zero, List.set_cons_succ]
                    refine take_at (i := 27) (d := some 118) (v := .pointer (some ⟨gb, 1, none⟩)) (by kernel_rfl) (by kernel_rfl) (by kernel_rfl) (by kernel_rfl) (fun _ _ _ h => h) ?_ hS ?_
                    · intro o ho
                      simp only [List.getElem?_toArray, List.getElem?_cons_succ, List.getElem?_cons_zero, Option.some.injEq] at ho
                      subst ho
                      refine Or.inl ⟨by rfl, ?_⟩
                      intro w hSw
                      (try dsimp only at hSw)
                      go_simp
                    simp only [Act.put, List.setIfInBounds_toArray, List.set_cons_zero, List.set_cons_succ]
                    refine take_at (i := 28) (d := some 119) (v := .float .f64 by') (by kernel_rfl) (by kernel_rfl) (by kernel_rfl) (by kernel_rfl) (fun _ _ _ h => h) ?_ hS ?_
                    · intro o ho
                      simp only [List.getElem?_toArray, List.getElem?_cons_succ, List.getElem?_cons_zero, Option.some.injEq] at ho
                      subst ho
                      refine Or.inl ⟨by rfl, ?_⟩
                      intro w hSw
                      (try dsimp only at hSw)
                      go_simp
                    simp only [Act.put, List.setIfInBounds_toArray, List.set_cons_zero, List.set_cons_succ]
                    refine take_at (i := 30) (d := some 121) (v := .pointer (some ⟨gc, 0, none⟩)) (by kernel_rfl) (by kernel_rfl) (by kernel_rfl) (by kernel_rfl) (fun _ _ _ h => h) ?_ hS ?_
                    · intro o ho
                      simp only [List.getElem?_toArray, List.getElem?_cons_succ, List.getElem?_cons_zero, Option.some.injEq] at ho
                      subst ho
                      refine Or.inl ⟨by rfl, ?_⟩
                      intro w hSw
                      (try dsimp only at hSw)
                      go_simp
                    simp only [Act.put, List.setIfInBounds_toArray, List.set_cons_zero, List.set_cons_succ]
                    refine take_at (i := 31) (d := some 122) (v := .float .f64 cx) (by kernel_rfl) (by kernel_rfl) (by kernel_rfl) (by kernel_rfl) (fun _ _ _ h => h) ?_ hS ?_
                    · intro o ho
                      simp only [List.getElem?_toArray, List.getElem?_cons_succ, List.getElem?_cons_zero, Option.some.injEq] at ho
                      subst ho
                      refine Or.inl ⟨by rfl, ?_⟩
                      intro w hSw
                      (try dsimp only at hSw)
                      go_simp
                    simp only [Act.put, List.setIfInBounds_toArray, List.set_cons_zero, List.set_cons_succ]
                    refine take_at (i := 32) (d := some 123) (v := .float .f64 ox) (by kernel_rfl) (by kernel_rfl) (by kernel_rfl) (by kernel_rfl) (fun _ _ _ h => h) ?_ hS ?_
                    · intro o ho
                      simp only [List.getElem?_toArray, List.getElem?_cons_succ, List.getElem?_cons_zero, Option.some.injEq] at ho
                      subst ho
                      refine Or.inl ⟨by rfl, ?_⟩
                      intro w hSw
                      (try dsimp only at hSw)
                      go_simp
                    simp only [Act.put, List.setIfInBounds_toArray, List.set_cons_zero, List.set_cons_succ]
                    refine take_at (i := 33) (d := some 124) (v := .pointer (some ⟨gc, 1, none⟩)) (by kernel_rfl) (by kernel_rfl) (by kernel_rfl) (by kernel_rfl) (fun _ _ _ h => h) ?_ hS ?_
                    · intro o ho
                      simp only [List.getElem?_toArray, List.getElem?_cons_succ, List.getElem?_cons_zero, Option.some.injEq] at ho
                      subst ho
                      refine Or.inl ⟨by rfl, ?_⟩
                      intro w hSw
                      (try dsimp only at hSw)
                      go_simp
                    simp only [Act.put, List.setIfInBounds_toArray, List.set_cons_zero, List.set_cons_succ]
                    refine take_at (i := 34) (d := some 125) (v := .float .f64 cy) (by kernel_rfl) (by kernel_rfl) (by kernel_rfl) (by kernel_rfl) (fun _ _ _ h => h) ?_ hS ?_
                    · intro o ho
                      simp only [List.getElem?_toArray, List.getElem?_cons_succ, List.getElem?_cons_zero, Option.some.injEq] at ho
                      subst ho
                      refine Or.inl ⟨by rfl, ?_⟩
                      intro w hSw
                      (try dsimp only at hSw)
                      go_simp
                    simp only [Act.put, List.setIfInBounds_toArray, List.set_cons_zero, List.set_cons_succ]
                    refine take_at (i := 37) (d := some 128) (v := .int .i64 z) (by kernel_rfl) (by kernel_rfl) (by kernel_rfl) (by kernel_rfl) (fun _ _ _ h => h) ?_ hS ?_
                    · intro o ho
                      simp only [List.getElem?_toArray, List.getElem?_cons_succ, List.getElem?_cons_zero, Option.some.injEq] at ho
                      subst ho
                      refine Or.inl ⟨by rfl, ?_⟩
                      intro w hSw
                      (try dsimp only at hSw)
                      go_simp
                    simp only [Act.put, List.setIfInBounds_toArray, List.set_cons_zero, List.set_cons_succ]
                    refine take_at (i := 38) (d := some 129) (v := .int .i64 (-z)) (by kernel_rfl) (by kernel_rfl) (by kernel_rfl) (by kernel_rfl) (fun _ _ _ h => h) ?_ hS ?_
                    · intro o ho
                      simp only [List.getElem?_toArray, List.getElem?_cons_succ, List.getElem?_cons_zero, Option.some.injEq] at ho
                      subst ho
                      refine Or.inl ⟨by rfl, ?_⟩
                      intro w hSw
                      (try dsimp only at hSw)
                      go_simp
                    simp only [Act.put, List.setIfInBounds_toArray, List.set_cons_zero, List.set_cons_succ]
                    refine call_at 23 (by kernel_rfl) (by kernel_rfl) ?_
                    intro o ho
                    simp only [List.getElem?_toArray, List.getElem?_cons_succ, List.getElem?_cons_zero, Option.some.injEq] at ho
                    subst ho
                    intro KF hK
                    go_simp
                    refine (at_any mx ay _).mono ?_
                    rintro e wx ⟨rfl, hbx⟩
                    go_wp2_with fail
                    refine hK.out _ _ (keep12c hS hbx) ?_
                    clear hS hbx
                    intro hS
                    clear hK KF
                    try simp only [Act.put, List.setIfInBounds_toArray, List.set_cons_zero, List.set_cons_succ]
                    refine call_at 29 (by kernel_rfl) (by kernel_rfl) ?_
                    intro o ho
                    simp only [List.getElem?_toArray, List.getElem?_cons_succ, List.getElem?_cons_zero, Option.some.injEq] at ho
                    subst ho
                    intro KF hK
                    go_simp
                    refine (at_any nx by' _).mono ?_
                    rintro e wx ⟨rfl, hbx⟩
                    go_wp2_with fail
                    refine hK.out _ _ (keep12c hS hbx) ?_
                    clear hS hbx
                    intro hS
                    clear hK KF
                    try simp only [Act.put, List.setIfInBounds_toArray, List.set_cons_zero, List.set_cons_succ]
                    refine call_at 35 (by kernel_rfl) (by kernel_rfl) ?_
                    intro o ho
                    simp only [List.getElem?_toArray, List.getElem?_cons_succ, List.getElem?_cons_zero, Option.some.injEq] at ho
                    subst ho
                    intro KF hK
                    go_simp
                    refine (at_any ox cy _).mono ?_
                    rintro e wx ⟨rfl, hbx⟩
                    go_wp2_with fail
                    refine hK.out _ _ (keep12c hS hbx) ?_
                    clear hS hbx
                    intro hS
                    clear hK KF
                    try simp only [Act.put, List.setIfInBounds_toArray, List.set_cons_zero, List.set_cons_succ]
                    refine call_at 36 (by kernel_rfl) (by kernel_rfl) ?_
                    intro o ho
                    simp only [List.getElem?_toArray, List.getElem?_cons_succ, List.getElem?_cons_zero, Option.some.injEq] at ho
                    subst ho
                    intro KF hK
                    go_simp
                    refine (sign_is mx ay nx by' ox cy _ (-z) HWM.out HZM.out).mono ?_
                    rintro e wx ⟨rfl, hbx⟩
                    go_wp2_with fail
                    refine hK.out _ _ (keep12c hS hbx) ?_
                    clear hS hbx
                    intro hS
                    clear hK KF
                    try simp only [Act.put, List.setIfInBounds_toArray, List.set_cons_zero, List.set_cons_succ]
                    refine take_at (i := 39) (d := some 130) (v := .bool true) (by kernel_rfl) (by kernel_rfl) (by kernel_rfl) (by kernel_rfl) (fun _ _ _ h => h) ?_ hS ?_
                    · intro o ho
                      simp only [List.getElem?_toArray, List.getElem?_cons_succ, List.getElem?_cons_zero, Option.some.injEq] at ho
                      subst ho
                      refine Or.inl ⟨by rfl, ?_⟩
                      intro w hSw
                      (try dsimp only at hSw)
                      go_simp
                    simp only [Act.put, List.setIfInBounds_toArray, List.set_cons_zero, List.set_cons_succ]
                    refine take_at (i := 40) (d := some 131) (v := .bool true) (by kernel_rfl) (by kernel_rfl) (by kernel_rfl) (by kernel_rfl) (fun _ _ _ h => h) ?_ hS ?_
                    · intro o ho
                      simp only [List.getElem?_toArray, List.getElem?_cons_succ, List.getElem?_cons_zero, Option.some.injEq] at ho
                      subst ho
                      refine Or.inl ⟨by rfl, ?_⟩
                      intro w hSw
                      (try dsimp only at hSw)
                      go_simp
                    simp only [Act.put, List.setIfInBounds_toArray, List.set_cons_zero, List.set_cons_succ]
                    refine take_at (i := 41) (d := some 132) (v := .bool true) (by kernel_rfl) (by kernel_rfl) (by kernel_rfl) (by kernel_rfl) (fun _ _ _ h => h) ?_ hS ?_
                    · intro o ho
                      simp only [List.getElem?_toArray, List.getElem?_cons_succ, List.getElem?_cons_zero, Option.some.injEq] at ho
                      subst ho
                      refine Or.inl ⟨by rfl, ?_⟩
                      intro w hSw
                      (try dsimp only at hSw)
                      go_simp
                    simp only [Act.put, List.setIfInBounds_toArray, List.set_cons_zero, List.set_cons_succ]
                    refine call_at 42 (by kernel_rfl) (by kernel_rfl) ?_
                    intro o ho
                    simp only [List.getElem?_toArray, List.getElem?_cons_succ, List.getElem?_cons_zero, Option.some.injEq] at ho
                    subst ho
                    intro KF hK
                    go_simp
                    refine (awake_any _).mono ?_
                    rintro e wx ⟨rfl, hbx⟩
                    go_wp2_with fail
                    refine hK.out _ _ (keep12c hS hbx) ?_
                    clear hS hbx
                    intro hS
                    clear hK KF
                    try simp only [Act.put, List.setIfInBounds_toArray, List.set_cons_zero, List.set_cons_succ]
                    refine take_at (i := 43) (d := some 134) (v := .bool true) (by kernel_rfl) (by kernel_rfl) (by kernel_rfl) (by kernel_rfl) (fun _ _ _ h => h) ?_ hS ?_
                    · intro o ho
                      simp only [List.getElem?_toArray, List.getElem?_cons_succ, List.getElem?_cons_zero, Option.some.injEq] at ho
                      subst ho
                      refine Or.inl ⟨by rfl, ?_⟩
                      intro w hSw
                      (try dsimp only at hSw)
                      go_simp
                    simp only [Act.put, List.setIfInBounds_toArray, List.set_cons_zero, List.set_cons_succ]
                    refine take_at (i := 44) (d := some 8) (v := .bool true) (by kernel_rfl) (by kernel_rfl) (by kernel_rfl) (by kernel_rfl) (fun _ _ _ h => h) ?_ hS ?_
                    · intro o ho
                      simp only [List.getElem?_toArray, List.getElem?_cons_succ, List.getElem?_cons_zero, Option.some.injEq] at ho
                      subst ho
                      refine Or.inl ⟨by rfl, ?_⟩
                      intro w hSw
                      (try dsimp only at hSw)
                      go_simp
                    simp only [Act.put, List.setIfInBounds_toArray, List.set_cons_zero, List.set_cons_succ]
                    refine wpAnyH_done (by kernel_rfl) ?_ _
                    go_wp2
                    go_ret
                    exact ⟨rfl, hS.2.2.2.2.2.2.2.2.2.2.2.2⟩

end Go.Proofs.Ytglcngjllfgdpab
