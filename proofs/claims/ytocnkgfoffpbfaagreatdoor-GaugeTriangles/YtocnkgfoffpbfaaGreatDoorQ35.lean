/- Own texts, put together: Gf. -/
import Derived.Test.YtocnkgfoffpbfaaGreatDoorQ3
import Derived.Test.YtocnkgfoffpbfaaGreatDoorQ33
/- Lengths and angles in floats: the functions. -/
namespace Go.Proofs.YtocnkgfoffpbfaaGreatDoor
open Go.RowKit Go.Shelf
attribute [local go_sem ↓] Go.wp_at_zero Go.wp_at_succ
attribute [local go_sem] run_store_float

set_option maxHeartbeats 1000000 in
theorem told_no (x z v : Nat) (w : World) (hx : x < 18446744073709551616) (hv : floatBits .mul .f64 4386506037058863104 z = some v) (ho : (FloatKind.f64.format.order (frung x) v == some .gt) = false) :
   Calls Tryz.prog 27 #[.float .f64 x, .float .f64 z] w fun e w' => e = .returned (.tuple #[.int .i64 0, .bool false]) ∧ w' = w := by
 have r1 : ∀ w, (binOp .mul 22 (.float .f64 4386506037058863104) (.float .f64 z)).run Tryz.prog w = .ok (.float .f64 v) w := fun w => run_float_arith w .mul _ .f64 _ _ _ hv
 have HA : Hid (∀ w, Calls Tryz.prog 42 #[.float .f64 x] w fun e w' => e = .returned (.float .f64 (frung x)) ∧ w' = w) := fun w => abs_any x w hx
 generalize frung x = fx at *
 clear hv hx
 go_enter Tryz.func27, Tryz.ntmps27
 go_wp2_with fail
 refine (HA.out _).mono ?_
 rintro e wx ⟨rfl, hbx⟩
 subst hbx
 go_wp2
 go_ret2
 exact ⟨rfl, rfl⟩

set_option maxHeartbeats 1000000 in
theorem told_yes (x z v : Nat) (w : World) (hx : x < 18446744073709551616) (fx : Fin64 x) (hv : floatBits .mul .f64 4386506037058863104 z = some v) (ho : (FloatKind.f64.format.order (frung x) v == some .gt) = true) :
   Calls Tryz.prog 27 #[.float .f64 x, .float .f64 z] w fun e w' => e = .returned (.tuple #[.int .i64 (sgq (fval x)), .bool true]) ∧ w' = w := by
 have r1 : ∀ w, (binOp .mul 22 (.float .f64 4386506037058863104) (.float .f64 z)).run Tryz.prog w = .ok (.float .f64 v) w := fun w => run_float_arith w .mul _ .f64 _ _ _ hv
 have HA : Hid (∀ w, Calls Tryz.prog 42 #[.float .f64 x] w fun e w' => e = .returned (.float .f64 (frung x)) ∧ w' = w) := fun w => abs_any x w hx
 have HC : Hid (∀ w, Calls Tryz.prog 67 #[.float .f64 x, .float .f64 0] w fun e w' => e = .returned (.int .i64 (sgq (fval x))) ∧ w' = w) := fun w => compare_zero x w fx
 generalize frung x = fx' at *
 generalize sgq (fval x) = sg at *
 clear hv hx fx
 go_enter Tryz.func27, Tryz.ntmps27
 go_wp2_with fail
 refine (HA.out _).mono ?_
 rintro e wx ⟨rfl, hbx⟩
 subst hbx
 go_wp2_with fail
 refine (HC.out _).mono ?_
 rintro e wx ⟨rfl, hbx⟩
 subst hbx
 go_wp2
 go_ret2
 exact ⟨rfl, rfl⟩

set_option maxRecDepth 100000 in
set_option maxHeartbeats 2000000 in
theorem nearWay_is (ax ay bx by' x y : Nat) (w : World) (h1 : floatBits .sub .f64 bx ax = some x) (h2 : floatBits .sub .f64 by' ay = some y) :
   Calls Tryz.prog 35 #[pv ax ay, pv bx by'] w fun e w' => e = .returned (.agg #[.float .f64 x, .float .f64 y]) ∧ Below w.heap.size w w' := by
 have r1 : ∀ w, (binOp .sub 22 (.float .f64 bx) (.float .f64 ax)).run Tryz.prog w = .ok (.float .f64 x) w := fun w => run_float_arith w .sub _ .f64 _ _ _ h1
 have r2 : ∀ w, (binOp .sub 22 (.float .f64 by') (.float .f64 ay)).run Tryz.prog w = .ok (.float .f64 y) w := fun w => run_float_arith w .sub _ .f64 _ _ _ h2
 clear h1 h2
 go_enter Tryz.func35, Tryz.ntmps35
 go_wp2
 refine bodyPost_ret (v := .agg #[.float .f64 x, .float .f64 y]) (by simp [results, Tryz.results35, go_sem]) rfl ?_
 exact ⟨rfl, (((Below.refl _ w).alloc (Nat.le_refl _) _).alloc (by simp) _).alloc (by simp; omega) _⟩

set_option maxRecDepth 100000 in
set_option maxHeartbeats 2000000 in
theorem nearAcross_is (x y : Nat) (w : World) (hx : x < 18446744073709551616) :
   Calls Tryz.prog 41 #[.agg #[.float .f64 x, .float .f64 y]] w fun e w' => e = .returned (.agg #[.float .f64 y, .float .f64 (fflip x)]) ∧ Below w.heap.size w w' := by
 have r1 := run_negF x hx
 go_enter Tryz.func41, Tryz.ntmps41
 go_wp2
 refine bodyPost_ret (v := .agg #[.float .f64 y, .float .f64 (fflip x)]) (by simp [results, Tryz.results41, go_sem]) rfl ?_
 exact ⟨rfl, ((Below.refl _ w).alloc (Nat.le_refl _) _).alloc (by simp) _⟩

set_option maxRecDepth 100000 in
set_option maxHeartbeats 4000000 in
theorem nearProduct_is (u0 u1 v0 v1 s z : Nat) (w : World) (h : ProdE u0 u1 v0 v1 s z) :
   Calls Tryz.prog 34 #[.agg #[.float .f64 u0, .float .f64 u1], .agg #[.float .f64 v0, .float .f64 v1]] w fun e w' => e = .returned (.tuple #[.float .f64 s, .float .f64 z]) ∧ Below w.heap.size w w' := by
 obtain ⟨l0, l1, s1, z1, e1, e2, e3, e4, e5, e6, w0, w1⟩ := h
 have HA0 : Hid (∀ w, Calls Tryz.prog 42 #[.float .f64 l0] w fun e w' => e = .returned (.float .f64 (frung l0)) ∧ w' = w) := fun w => abs_any l0 w w0
 have HA1 : Hid (∀ w, Calls Tryz.prog 42 #[.float .f64 l1] w fun e w' => e = .returned (.float .f64 (frung l1)) ∧ w' = w) := fun w => abs_any l1 w w1
 generalize frung l0 = f0 at *
 generalize frung l1 = f1 at *
 have r1 : ∀ w, (binOp .mul 22 (.float .f64 u0) (.float .f64 v0)).run Tryz.prog w = .ok (.float .f64 l0) w := fun w => run_float_arith w .mul _ .f64 _ _ _ e1
 have r2 : ∀ w, (binOp .mul 22 (.float .f64 u1) (.float .f64 v1)).run Tryz.prog w = .ok (.float .f64 l1) w := fun w => run_float_arith w .mul _ .f64 _ _ _ e2
 have r3 : ∀ w, (binOp .add 22 (.float .f64 0) (.float .f64 l0)).run Tryz.prog w = .ok (.float .f64 s1) w := fun w => run_float_arith w .add _ .f64 _ _ _ e3
 have r4 : ∀ w, (binOp .add 22 (.float .f64 0) (.float .f64 f0)).run Tryz.prog w = .ok (.float .f64 z1) w := fun w => run_float_arith w .add _ .f64 _ _ _ e4
 have r5 : ∀ w, (binOp .add 22 (.float .f64 s1) (.float .f64 l1)).run Tryz.prog w = .ok (.float .f64 s) w := fun w => run_float_arith w .add _ .f64 _ _ _ e5
 have r6 : ∀ w, (binOp .add 22 (.float .f64 z1) (.float .f64 f1)).run Tryz.prog w = .ok (.float .f64 z) w := fun w => run_float_arith w .add _ .f64 _ _ _ e6
 have ix0 : ∀ w, (Instr.index 62 (.agg #[.float .f64 u0, .float .f64 u1]) (.int .i64 0)).run Tryz.prog w = .ok (.float .f64 u0) w := fun _ => by kernel_rfl
 have ix1 : ∀ w, (Instr.index 62 (.agg #[.float .f64 u0, .float .f64 u1]) (.int .i64 1)).run Tryz.prog w = .ok (.float .f64 u1) w := fun _ => by kernel_rfl
 clear e1 e2 e3 e4 e5 e6 w0 w1
 go_enter Tryz.func34, Tryz.ntmps34
 go_wp2_with fail
 go_loopw [4, 5, 10] (fun s' z' i wr => ((i = .int .i64 0 ∧ s' = .float .f64 0 ∧ z' = .float .f64 0) ∨ (i = .int .i64 1 ∧ s' = .float .f64 s1 ∧ z' = .float .f64 z1) ∨ (i = .int .i64 2 ∧ s' = .float .f64 s ∧ z' = .float .f64 z)) ∧ wr = (w.alloc (.cells #[.float .f64 u0, .float .f64 u1] 62)).alloc (.cells #[.float .f64 v0, .float .f64 v1] 62)) (fun _ _ i _ => 2 - (intOf i).toNat)
 case atStart => exact ⟨Or.inl ⟨rfl, rfl, rfl⟩, rfl⟩
 case round =>
   obtain ⟨hcase, rfl⟩ := hrel
   rcases hcase with ⟨rfl, rfl, rfl⟩ | ⟨rfl, rfl, rfl⟩ | ⟨rfl, rfl, rfl⟩
   · go_wp2_with fail
     refine (HA0.out _).mono ?_
     rintro e wx ⟨rfl, hbx⟩
     subst hbx
     go_wp2
     exact ⟨⟨Or.inr (Or.inl ⟨rfl, rfl, rfl⟩), trivial⟩, by simp [intOf]⟩
   · go_wp2_with fail
     refine (HA1.out _).mono ?_
     rintro e wx ⟨rfl, hbx⟩
     subst hbx
     go_wp2
     exact ⟨⟨Or.inr (Or.inr ⟨rfl, rfl, rfl⟩), trivial⟩, by simp [intOf]⟩
   · go_wp2
     go_ret2
     exact ⟨rfl, ((Below.refl _ w).alloc (Nat.le_refl _) _).alloc (by simp) _⟩

set_option maxRecDepth 100000 in
set_option maxHeartbeats 2000000 in
theorem nearSquare_is (ax ay bx by' x y s z : Nat) (w : World) (h1 : floatBits .sub .f64 bx ax = some x) (h2 : floatBits .sub .f64 by' ay = some y) (h : ProdE x y x y s z) :
   Calls Tryz.prog 26 #[pv ax ay, pv bx by'] w fun e w' => e = .returned (.float .f64 s) ∧ Below w.heap.size w w' := by
 have HB0 : Hid (Below w.heap.size w ((w.alloc (.cells #[.float .f64 ax, .float .f64 ay] 24)).alloc (.cells #[.float .f64 bx, .float .f64 by'] 24))) := ((Below.refl _ w).alloc (Nat.le_refl _) _).alloc (by simp) _
 have HN : Hid (floatBits .sub .f64 bx ax = some x ∧ floatBits .sub .f64 by' ay = some y ∧ ProdE x y x y s z) := ⟨h1, h2, h⟩
 clear h1 h2 h
 go_enter Tryz.func26, Tryz.ntmps26
 go_wp2_with fail
 refine (nearWay_is ax ay bx by' x y _ HN.out.1 HN.out.2.1).mono ?_
 rintro e w1 ⟨rfl, hb1⟩
 have HB1 : Hid (Below w.heap.size w w1) := below_step HB0.out hb1
 clear hb1
 go_wp2_with fail
 refine (nearProduct_is x y x y s z _ HN.out.2.2).mono ?_
 rintro e w2 ⟨rfl, hb2⟩
 have HB2 : Hid (Below w.heap.size w w2) := below_step (HB1.out.alloc HB1.out.size _) hb2
 clear hb2
 go_wp2
 go_ret
 exact ⟨rfl, HB2.out⟩

set_option maxHeartbeats 1000000 in
theorem finite_any (g : Nat) (w : World) (hg : g < 18446744073709551616) :
   Calls Tryz.prog 40 #[.float .f64 g] w fun e w' => (∃ t, e = .returned (.bool t) ∧ (t = true ↔ Fin64 g)) ∧ w' = w := by
 have HA : Hid (∀ w, Calls Tryz.prog 42 #[.float .f64 g] w fun e w' => e = .returned (.float .f64 (frung g)) ∧ w' = w) := fun w => abs_any g w hg
 have hl := leq_word (r := frung g) (c := 9218868437227405311) (by unfold frung; omega) (by omega)
 obtain ⟨t, ht⟩ : ∃ t, decide (frung g ≤ 9218868437227405311) = t := ⟨_, rfl⟩
 have HK : Hid (t = true ↔ Fin64 g) := by
   rw [← ht]
   unfold Fin64
   constructor
   · intro h; have := of_decide_eq_true h; omega
   · intro h; exact decide_eq_true (by omega)
 rw [ht] at hl
 clear ht hg
 generalize frung g = fg at *
 go_enter Tryz.func40, Tryz.ntmps40
 go_wp2_with fail
 refine (HA.out _).mono ?_
 rintro e wx ⟨rfl, hbx⟩
 subst hbx
 go_wp2
 go_ret
 exact ⟨⟨t, rfl, HK.out⟩, rfl⟩

def nm0 (b : Nat) : Nat := if frung b = 0 then 0 else b
theorem nm0_lt {b : Nat} (h : b < 18446744073709551616) : nm0 b < 18446744073709551616 := by unfold nm0; split <;> omega
set_option maxHeartbeats 1000000 in
theorem noMinus0_any (b : Nat) (w : World) :
   Calls Tryz.prog 87 #[.float .f64 b] w fun e w' => e = .returned (.float .f64 (nm0 b)) ∧ w' = w := by
 have h := eql_zero2 b
 unfold nm0
 by_cases hz : frung b = 0
 · rw [decide_eq_true hz] at h
   rw [if_pos hz]
   go_enter Tryz.func87, Tryz.ntmps87
   go_wp2
   go_ret
   exact ⟨rfl, rfl⟩
 · rw [decide_eq_false hz] at h
   rw [if_neg hz]
   go_enter Tryz.func87, Tryz.ntmps87
   go_wp2
   go_ret
   exact ⟨rfl, rfl⟩

theorem has1 (x y : Nat) (w : World) (hx : x < 18446744073709551616) (hy : y < 18446744073709551616) :
   Calls Tryz.prog 25 #[.slice (some ⟨w.heap.size, 0, none⟩) 1 1] (w.alloc (.cells #[.float .f64 x, .float .f64 y] 24)) fun e w' => (∃ t, e = .returned (.bool t) ∧ (t = true ↔ Pt x y)) ∧ Below w.heap.size w w' := by
 have hb : Below w.heap.size w (w.alloc (.cells #[.float .f64 x, .float .f64 y] 24)) := (Below.refl _ w).alloc (Nat.le_refl _) _
 refine (has_walk w.heap.size 1 1 (fun _ => x) (fun _ => y) _ (fun k hk => ?_) (fun k => ⟨hx, hy⟩) (by omega)).mono ?_
 · obtain rfl : k = 0 := by omega
   exact ⟨by go_simp, by go_simp⟩
 · rintro e w' ⟨⟨t, rfl, ht⟩, hb'⟩
   refine ⟨⟨t, rfl, ?_⟩, below_step hb hb'⟩
   rw [ht]
   exact ⟨fun h => h 0 (by omega), fun h j hj => h⟩
theorem has2 (ax ay bx by' : Nat) (w : World) (ha : ax < 18446744073709551616 ∧ ay < 18446744073709551616) (hc : bx < 18446744073709551616 ∧ by' < 18446744073709551616) :
   Calls Tryz.prog 25 #[.slice (some ⟨w.heap.size, 0, none⟩) 2 2] (w.alloc (.cells #[.float .f64 ax, .float .f64 ay, .float .f64 bx, .float .f64 by'] 24)) fun e w' => (∃ t, e = .returned (.bool t) ∧ (t = true ↔ Pt ax ay ∧ Pt bx by')) ∧ Below w.heap.size w w' := by
 have hb : Below w.heap.size w (w.alloc (.cells #[.float .f64 ax, .float .f64 ay, .float .f64 bx, .float .f64 by'] 24)) := (Below.refl _ w).alloc (Nat.le_refl _) _
 refine (has_walk w.heap.size 2 2 (fun k => if k = 0 then ax else bx) (fun k => if k = 0 then ay else by') _ (fun k hk => ?_) (fun k => ?_) (by omega)).mono ?_
 · have : k = 0 ∨ k = 1 := by omega
   rcases this with rfl | rfl <;> exact ⟨by go_simp, by go_simp⟩
 · constructor
   · show (if k = 0 then ax else bx) < _
     split
     · exact ha.1
     · exact hc.1
   · show (if k = 0 then ay else by') < _
     split
     · exact ha.2
     · exact hc.2
 · rintro e w' ⟨⟨t, rfl, ht⟩, hb'⟩
   refine ⟨⟨t, rfl, ?_⟩, below_step hb hb'⟩
   rw [ht]
   exact ⟨fun h => ⟨h 0 (by omega), h 1 (by omega)⟩, fun h j hj => by
     have : j = 0 ∨ j = 1 := by omega
     rcases this with rfl | rfl
     · exact h.1
     · exact h.2⟩

theorem has1' (x y : Nat) (W : World) (k : Nat) (hk : W.heap.size = k) (hx : x < 18446744073709551616) (hy : y < 18446744073709551616) :
   Calls Tryz.prog 25 #[.slice (some ⟨k, 0, none⟩) 1 1] (W.alloc (.cells #[.float .f64 x, .float .f64 y] 24)) fun e w' => (∃ t, e = .returned (.bool t) ∧ (t = true ↔ Pt x y)) ∧ Below W.heap.size W w' := by
 subst hk; exact has1 x y W hx hy
theorem has2' (ax ay bx by' : Nat) (W : World) (k : Nat) (hk : W.heap.size = k) (ha : ax < 18446744073709551616 ∧ ay < 18446744073709551616) (hc : bx < 18446744073709551616 ∧ by' < 18446744073709551616) :
   Calls Tryz.prog 25 #[.slice (some ⟨k, 0, none⟩) 2 2] (W.alloc (.cells #[.float .f64 ax, .float .f64 ay, .float .f64 bx, .float .f64 by'] 24)) fun e w' => (∃ t, e = .returned (.bool t) ∧ (t = true ↔ Pt ax ay ∧ Pt bx by')) ∧ Below W.heap.size W w' := by
 subst hk; exact has2 ax ay bx by' W ha hc

def StR (x y u v : Nat) (t : Bool) : Prop := (t = true ∧ Pt (nm0 x) (nm0 y) ∧ u = nm0 x ∧ v = nm0 y) ∨ (t = false ∧ ¬ Pt (nm0 x) (nm0 y) ∧ u = 0 ∧ v = 0)

set_option maxRecDepth 100000 in
set_option maxHeartbeats 2000000 in
theorem standing_any (x y : Nat) (w : World) (hx : x < 18446744073709551616) (hy : y < 18446744073709551616) :
   Calls Tryz.prog 54 #[.float .f64 x, .float .f64 y] w fun e w' => (∃ u v t, e = .returned (.tuple #[pv u v, .bool t]) ∧ StR x y u v t) ∧ Below w.heap.size w w' := by
 have HX : Hid (∀ w, Calls Tryz.prog 87 #[.float .f64 x] w fun e w' => e = .returned (.float .f64 (nm0 x)) ∧ w' = w) := noMinus0_any x
 have HY : Hid (∀ w, Calls Tryz.prog 87 #[.float .f64 y] w fun e w' => e = .returned (.float .f64 (nm0 y)) ∧ w' = w) := noMinus0_any y
 have HW : Hid (nm0 x < 18446744073709551616 ∧ nm0 y < 18446744073709551616) := ⟨nm0_lt hx, nm0_lt hy⟩
 unfold StR
 generalize nm0 x = x' at *
 generalize nm0 y = y' at *
 clear hx hy
 go_enter Tryz.func54, Tryz.ntmps54
 go_wp2_with fail
 refine (HX.out _).mono ?_
 rintro e wx ⟨rfl, hbx⟩
 subst hbx
 go_wp2_with fail
 refine (HY.out _).mono ?_
 rintro e wx ⟨rfl, hbx⟩
 subst hbx
 go_wp2_with fail
 refine (has1' x' y' _ _ (by simp) HW.out.1 HW.out.2).mono ?_
 rintro e w1 ⟨⟨t, rfl, ht⟩, hb1⟩
 have HC : Hid (CB w1 w.heap.size #[.float .f64 0, .float .f64 0] 24) := CB.later (CB.later (CB.new w _ _) ((Below.refl _ _).alloc (Nat.le_refl _) _)) hb1
 have HB : Hid (Below w.heap.size w w1) := below_step (((Below.refl _ w).alloc (Nat.le_refl _) _).alloc (by simp) _) hb1
 have x0 : w1.cell? ⟨w.heap.size + 1, 0, none⟩ = some (.float .f64 x') := box_cell hb1 (by go_simp)
 have x1 : w1.cell? ⟨w.heap.size + 1, 1, none⟩ = some (.float .f64 y') := box_cell hb1 (by go_simp)
 have HT : Hid (t = true ↔ Pt x' y') := ht
 have f0 := HC.out.frozen 0
 have f1 := HC.out.frozen 1
 have k0 := HC.out.cell 0 (by decide)
 have k1 := HC.out.cell 1 (by decide)
 clear hb1 ht
 cases t
 · go_wp2
   have Y := HC.out.set2 (.float .f64 0) (.float .f64 0)
   have y0 := Y.cell 0 (by simp)
   have y1 := Y.cell 1 (by simp)
   refine bodyPost_ret (v := .tuple #[.agg #[.float .f64 0, .float .f64 0], .bool false]) (by simp [results, Tryz.results54, go_sem, y0, y1]) rfl ?_
   exact ⟨⟨0, 0, false, rfl, Or.inr ⟨rfl, fun h => Bool.noConfusion (HT.out.2 h), rfl, rfl⟩⟩, below_set2 HB.out (Nat.le_refl _) _ _⟩
 · go_wp2
   have Y := HC.out.set2 (.float .f64 x') (.float .f64 y')
   have y0 := Y.cell 0 (by simp)
   have y1 := Y.cell 1 (by simp)
   refine bodyPost_ret (v := .tuple #[.agg #[.float .f64 x', .float .f64 y'], .bool true]) (by simp [results, Tryz.results54, go_sem, y0, y1]) rfl ?_
   exact ⟨⟨x', y', true, rfl, Or.inl ⟨rfl, HT.out.1 (by simp), rfl, rfl⟩⟩, below_set2 HB.out (Nat.le_refl _) _ _⟩

def StepE (t a b x : Nat) : Prop := ∃ d s, floatBits .sub .f64 b a = some d ∧ floatBits .mul .f64 t d = some s ∧ floatBits .add .f64 a s = some x

set_option maxRecDepth 100000 in
set_option maxHeartbeats 2000000 in
theorem along_is (g t a b x : Nat) (w : World) (hg : w.cell? ⟨g, 0, none⟩ = some (.float .f64 t)) (h : StepE t a b x) :
   Calls Tryz.prog 62 #[.float .f64 a, .float .f64 b, .pointer (some ⟨g, 0, none⟩)] w fun e w' => e = .returned (.float .f64 x) ∧ w' = w := by
 obtain ⟨d, s, e1, e2, e3⟩ := h
 have r1 : ∀ w, (binOp .sub 22 (.float .f64 b) (.float .f64 a)).run Tryz.prog w = .ok (.float .f64 d) w := fun w => run_float_arith w .sub _ .f64 _ _ _ e1
 have r2 : ∀ w, (binOp .mul 22 (.float .f64 t) (.float .f64 d)).run Tryz.prog w = .ok (.float .f64 s) w := fun w => run_float_arith w .mul _ .f64 _ _ _ e2
 have r3 : ∀ w, (binOp .add 22 (.float .f64 a) (.float .f64 s)).run Tryz.prog w = .ok (.float .f64 x) w := fun w => run_float_arith w .add _ .f64 _ _ _ e3
 clear e1 e2 e3
 go_enter Tryz.func62, Tryz.ntmps62
 go_wp2
 go_ret
 exact ⟨rfl, rfl⟩

end Go.Proofs.YtocnkgfoffpbfaaGreatDoor
