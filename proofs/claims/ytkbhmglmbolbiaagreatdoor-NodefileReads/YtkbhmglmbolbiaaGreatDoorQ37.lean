/- Own texts, put together: Od Oe Qm Of Og Oh Oi Oj On. -/
import Derived.Test.YtkbhmglmbolbiaaGreatDoorQ4
import Derived.Test.YtkbhmglmbolbiaaGreatDoorQ32
import Derived.Test.YtkbhmglmbolbiaaGreatDoorQ34
namespace Go.Proofs.YtkbhmglmbolbiaaGreatDoor
/- Signs that are told fast: the floats that are reckoned. -/
section
open Go.RowKit
def S3 (ax ay bx by' cx cy : Nat) : Rat := (fval bx - fval ax) * (fval cy - fval ay) - (fval by' - fval ay) * (fval cx - fval ax)
theorem RN.le {q x : Rat} {p : Nat} (h : RN q x) (hq : ab q ≤ U p) : ab x ≤ U p := by
 obtain ⟨_, _, R⟩ := h
 exact R.le_pow' hq
theorem M.ab {u x : Rat} (h : M u x) : M u (ab x) := by
 unfold Go.Proofs.YtkbhmglmbolbiaaGreatDoor.ab
 split
 · exact h.neg
 · exact h
theorem RN.int {q x : Rat} (h : RN q x) (n : Int) (e : q = (n : Rat)) (h1 : -9007199254740992 ≤ n) (h2 : n ≤ 9007199254740992) : x = q := h.exact (by rw [e]; exact F_int n h1 h2)
end

/- Package orient: Fast. -/
section
open Go.RowKit Go.Shelf
attribute [local go_sem ↓] Go.wp_at_zero Go.wp_at_succ
attribute [local go_sem] run_store_float
abbrev pv (x y : Nat) : Value := .agg #[.float .f64 x, .float .f64 y]
def P3 (ax ay bx by' cx cy : Nat) : Prop := Pt ax ay ∧ Pt bx by' ∧ Pt cx cy
def W6 (ax ay bx by' cx cy : Nat) : Prop := (ax < 18446744073709551616 ∧ ay < 18446744073709551616) ∧ (bx < 18446744073709551616 ∧ by' < 18446744073709551616) ∧ cx < 18446744073709551616 ∧ cy < 18446744073709551616
structure B3 (w W : World) (ax ay bx by' cx cy : Nat) : Prop where
 a0 : W.cell? ⟨w.heap.size, 0, none⟩ = some (.float .f64 ax)
 a1 : W.cell? ⟨w.heap.size, 1, none⟩ = some (.float .f64 ay)
 b0 : W.cell? ⟨w.heap.size + 1, 0, none⟩ = some (.float .f64 bx)
 b1 : W.cell? ⟨w.heap.size + 1, 1, none⟩ = some (.float .f64 by')
 c0 : W.cell? ⟨w.heap.size + 1 + 1, 0, none⟩ = some (.float .f64 cx)
 c1 : W.cell? ⟨w.heap.size + 1 + 1, 1, none⟩ = some (.float .f64 cy)
 bel : Below w.heap.size w W
theorem B3.later {w W W' : World} {ax ay bx by' cx cy : Nat} (h : B3 w W ax ay bx by' cx cy) (hb : Below W.heap.size W W') : B3 w W' ax ay bx by' cx cy :=
 ⟨box_cell hb h.a0, box_cell hb h.a1, box_cell hb h.b0, box_cell hb h.b1, box_cell hb h.c0, box_cell hb h.c1, below_step h.bel hb⟩
theorem B3.start (w : World) (ax ay bx by' cx cy : Nat) : B3 w (((w.alloc (.cells #[.float .f64 ax, .float .f64 ay] 50)).alloc (.cells #[.float .f64 bx, .float .f64 by'] 50)).alloc (.cells #[.float .f64 cx, .float .f64 cy] 50)) ax ay bx by' cx cy :=
 ⟨by go_simp, by go_simp, by go_simp, by go_simp, by go_simp, by go_simp, (((Below.refl _ w).alloc (Nat.le_refl _) _).alloc (by simp) _).alloc (by simp; omega) _⟩
end

/- Which points may be: admit.May. -/
section
open Go.RowKit Go.Shelf
attribute [local go_sem ↓] Go.wp_at_zero Go.wp_at_succ
attribute [local go_sem] run_store_float
def WdP (p : Nat × Nat) : Prop := p.1 < 18446744073709551616 ∧ p.2 < 18446744073709551616
theorem has1 (ax ay : Nat) (w : World) (hw : WdP (ax, ay)) :
   Calls Tryz.prog 99 #[.slice (some ⟨w.heap.size, 0, none⟩) 1 1] (w.alloc (.cells #[.float .f64 ax, .float .f64 ay] 50)) fun e w' => (∃ t, e = .returned (.bool t) ∧ (t = true ↔ Pt ax ay)) ∧ Below w.heap.size w w' := by
 have hb : Below w.heap.size w (w.alloc (.cells #[.float .f64 ax, .float .f64 ay] 50)) := (Below.refl _ w).alloc (Nat.le_refl _) _
 refine (has_walk w.heap.size 1 1 (fun _ => ax) (fun _ => ay) _ (fun k hk => ?_) (fun k => hw) (by omega)).mono ?_
 · obtain rfl : k = 0 := by omega
   exact ⟨by go_simp, by go_simp⟩
 · rintro e w' ⟨⟨t, rfl, ht⟩, hb'⟩
   refine ⟨⟨t, rfl, ?_⟩, below_step hb hb'⟩
   rw [ht]
   exact ⟨fun h => h 0 (by omega), fun h j hj => h⟩
set_option maxRecDepth 100000 in
theorem may1_any (x y : Nat) (w : World) (hw : WdP (x, y)) : Calls Tryz.prog 64 #[pv x y] w fun e w' => (∃ t, e = .returned (.bool t) ∧ (t = true ↔ Pt x y)) ∧ Below w.heap.size w w' := by
 have HW : Hid (WdP (x, y)) := hw
 clear hw
 go_enter Tryz.func64, Tryz.ntmps64
 go_wp2_with fail
 have hb : Below w.heap.size w (w.alloc (.cells #[.float .f64 x, .float .f64 y] 50)) := (Below.refl _ w).alloc (Nat.le_refl _) _
 have hh := has1 x y (w.alloc (.cells #[.float .f64 x, .float .f64 y] 50)) HW.out
 have e1 : (w.alloc (.cells #[.float .f64 x, .float .f64 y] 50)).heap.size = w.heap.size + 1 := by simp
 rw [e1] at hh
 refine hh.mono ?_
 rintro e w' ⟨⟨t, rfl, ht⟩, hb'⟩
 have HT : Hid (t = true ↔ Pt x y) := ht
 have HB : Hid (Below w.heap.size w w') := hb.trans (hb'.mono (by simp))
 clear ht hb hb' hh e1
 go_wp2
 go_ret
 exact ⟨⟨t, rfl, HT.out⟩, HB.out⟩
end

/- Package orient: grown, differences as lists. -/
section
open Go.RowKit Go.Shelf
attribute [local go_sem ↓] Go.wp_at_zero Go.wp_at_succ
attribute [local go_sem] run_store_float
end

/- Package orient: exactSign, Sign. -/
section
open Go.RowKit Go.Shelf
attribute [local go_sem ↓] Go.wp_at_zero Go.wp_at_succ
attribute [local go_sem] run_store_float
end

/- Package orient: On, Cross. -/
section
open Go.RowKit Go.Shelf
attribute [local go_sem ↓] Go.wp_at_zero Go.wp_at_succ
attribute [local go_sem] run_store_float
def Btw (a b x : Rat) : Prop := (a ≤ x ∧ x ≤ b) ∨ (b ≤ x ∧ x ≤ a)
def OnP (ax ay bx by' px py : Nat) : Prop := P3 ax ay bx by' px py ∧ Btw (fval ax) (fval bx) (fval px) ∧ Btw (fval ay) (fval by') (fval py) ∧ S3 ax ay bx by' px py = 0
end

/- Package orient: Cross. -/
section
open Go.RowKit Go.Shelf
end

/- Which points may be, by reckoning. -/
section
theorem den_one {q : Rat} : q.den = 1 ↔ ∃ k : Int, q = (k : Rat) := by
 constructor
 · intro h
   refine ⟨q.num, ?_⟩
   apply Rat.ext
   · simp
   · simp [h]
 · rintro ⟨k, rfl⟩
   simp
theorem crd_iff (x : Nat) : Crd x ↔ frung x ≤ 5057542381537067008 ∧ (fval x * U 1174).den = 1 := by
 unfold Crd
 rw [den_one, ← M_one, steps_one]
instance (x : Nat) : Decidable (Crd x) := decidable_of_iff _ (crd_iff x).symm
instance (x y : Nat) : Decidable (Pt x y) := by unfold Pt; exact inferInstance
instance (ax ay bx by' cx cy : Nat) : Decidable (P3 ax ay bx by' cx cy) := by unfold P3; exact inferInstance
instance (a b x : Rat) : Decidable (Btw a b x) := by unfold Btw; exact inferInstance
instance (ax ay bx by' cx cy : Nat) : Decidable (OnP ax ay bx by' cx cy) := by unfold OnP; exact inferInstance
end

/- The document's side of layer 4: which points may be. -/
section
open Go.RowKit Go.Shelf
attribute [local go_sem] run_store_float
theorem odd_unit {q : Rat} {l m : Int} (h : q = (m : Rat) * p2 l) (hm : m % 2 = 1) : -100 ≤ l ↔ M (U 974) q := by
 have e974 : U 974 = p2 (-100) := rfl
 rw [e974]
 constructor
 · intro hl
   refine ⟨m * ((2 ^ (l + 100).toNat : Nat) : Int), ?_⟩
   rw [h, Rat.intCast_mul, show (((2 ^ (l + 100).toNat : Nat) : Int) : Rat) = ((2 ^ (l + 100).toNat : Nat) : Rat) from rfl, ← p2_nat, Rat.mul_assoc, ← p2_add, show (((l + 100).toNat : Nat) : Int) + -100 = l by omega]
 · rintro ⟨k, hk⟩
   apply Classical.byContradiction
   intro hn
   obtain ⟨j, hj⟩ : ∃ j : Nat, -100 = l + 1 + (j : Int) := ⟨(-101 - l).toNat, by omega⟩
   have e : p2 (-100) = 2 * ((2 ^ j : Nat) : Rat) * p2 l := by
     rw [hj, p2_add, p2_add, p2_nat, p2_one]; grind
   rw [e] at hk
   have h2 : (m : Rat) * p2 l = ((k * (2 * ((2 ^ j : Nat) : Int)) : Int) : Rat) * p2 l := by
     rw [← h, hk, Rat.intCast_mul, Rat.intCast_mul, show (((2 ^ j : Nat) : Int) : Rat) = ((2 ^ j : Nat) : Rat) from rfl, show ((2 : Int) : Rat) = 2 from rfl]
     grind
   have h3 := int_eq (p2_pos l) h2
   have h4 : k * (2 * ((2 ^ j : Nat) : Int)) = 2 * (k * ((2 ^ j : Nat) : Int)) := by
     rw [← Int.mul_assoc, Int.mul_comm k 2, Int.mul_assoc]
   rw [h4] at h3
   omega
theorem crd_top {x : Nat} (hf : Fin64 x) : frung x ≤ 5057542381537067008 ↔ ab (fval x) ≤ U 1174 := by
 constructor
 · exact crd_ab
 · intro h
   rcases Nat.lt_or_ge 5057542381537067008 (frung x) with h1 | h1
   · exfalso
     have f : frung x < 9218868437227405312 := hf
     have := fval_lt h1 f
     rw [top100, ab_fval x hf] at this
     grind
   · exact h1
theorem sgq_nonpos {q : Rat} : sgq q ≤ 0 ↔ q ≤ 0 := by
 unfold sgq
 constructor
 · intro h
   split at h
   · grind
   · split at h
     · grind
     · omega
 · intro h
   split
   · omega
   · split
     · omega
     · grind
set_option maxRecDepth 100000 in
set_option maxHeartbeats 2000000 in
theorem coord_any (x : Nat) (w : World) (hx : x < 18446744073709551616) : Calls Tryz.prog 82 #[.float .f64 x] w fun e w' => (∃ t, e = .returned (.bool t) ∧ (t = true ↔ Crd x)) ∧ Below w.heap.size w w' := by
 rcases Nat.lt_trichotomy (frung x) 9218868437227405312 with hf | hf | hf
 · have fx : Fin64 x := hf
   obtain ⟨z, hz1, hz2⟩ := self_sub fx
   have rs : ∀ w, (binOp .sub 48 (.float .f64 x) (.float .f64 x)).run Tryz.prog w = .ok (.float .f64 z) w := fun w => run_float_arith w .sub _ .f64 _ _ _ hz1
   have q0 := order_nan_self fx
   have q1 := eql_zero2 x
   have HX : Hid (x < 18446744073709551616 ∧ Fin64 x) := ⟨hx, fx⟩
   clear hz1 hx hf fx
   by_cases h0 : frung x = 0
   · rw [decide_eq_true h0] at q1
     have HC : Hid (Crd x) := ⟨by omega, by rw [fval_zero_iff.2 h0]; exact M_zero _⟩
     clear h0
     go_enter Tryz.func82, Tryz.ntmps82
     go_wp2
     go_ret
     exact ⟨⟨true, rfl, fun _ => HC.out, fun _ => rfl⟩, Below.refl _ _⟩
   · rw [decide_eq_false h0] at q1
     have HN0 : Hid (fval x ≠ 0) := fun h => h0 (fval_zero_iff.1 h)
     clear h0
     go_enter Tryz.func82, Tryz.ntmps82
     go_wp2_with fail
     refine (refOf_any x _ HX.out.1).mono ?_
     rintro e w1 ⟨v1, rfl, hr1, hb1⟩
     obtain ⟨S1, a1, n1, c1, E1, rfl⟩ := hr1.agg
     rw [den_fin HX.out.2] at hr1
     have HB1 : Hid (Below w.heap.size w w1) := hb1
     have R1 : Hid (Rf w1 (.agg #[.int .i64 S1, .slice a1 n1 c1, .int .i64 E1]) (fval x)) := hr1
     have HFT : Hid (Fit (fval x)) := by have := den_Fit x; rwa [den_fin HX.out.2] at this
     clear hr1 hb1 rs q0 hz2
     have HAL : Hid (Below w1.heap.size w1 (w1.alloc (.cells #[.int .i64 S1, .slice a1 n1 c1, .int .i64 E1] 145))) := (Below.refl _ w1).alloc (Nat.le_refl _) _
     go_wp2_with fail
     refine (abs_rf _ (fval x) _ (R1.out.later HAL.out)).mono ?_
     rintro e w2 ⟨v2, rfl, hr2, hb2⟩
     have HB2 : Hid (Below w1.heap.size w1 w2) := below_step HAL.out hb2
     have R2 : Hid (Rf w2 v2 (if fval x < 0 then -fval x else fval x)) := hr2
     have X2 : Hid (BoxN w2 w1.heap.size S1 (.slice a1 n1 c1) E1) := (BoxN.new w1 S1 E1 (.slice a1 n1 c1)).later hb2
     clear hr2 hb2
     go_wp2_with fail
     refine (power_walk 1 100 _ (by omega) (by omega) (by omega)).mono ?_
     rintro e w3 ⟨v3, rfl, hr3, hb3⟩
     have R3 : Hid (Rf w3 v3 (((1 : Nat) : Rat) * p2 100) ∧ Rf w3 v2 (if fval x < 0 then -fval x else fval x)) := ⟨hr3, R2.out.later hb3⟩
     have HB3 : Hid (Below w1.heap.size w1 w3) := below_step HB2.out hb3
     have X3 : Hid (BoxN w3 w1.heap.size S1 (.slice a1 n1 c1) E1) := X2.out.later hb3
     clear hr3 hb3 R2 X2
     obtain ⟨A, hA⟩ : ∃ A, Hid (sgq ((if fval x < 0 then -fval x else fval x) - ((1 : Nat) : Rat) * p2 100) = A) := ⟨_, rfl⟩
     have HA : Hid (A ≤ 0 ↔ frung x ≤ 5057542381537067008) := by
       show A ≤ 0 ↔ _
       rw [← hA.out, sgq_nonpos, crd_top HX.out.2, show U 1174 = p2 100 from rfl, show ((1 : Nat) : Rat) = 1 from rfl]
       show ab (fval x) - 1 * p2 100 ≤ 0 ↔ ab (fval x) ≤ p2 100
       constructor <;> intro h <;> grind
     have HF1 : Hid (Fit (if fval x < 0 then -fval x else fval x)) := by
       show Fit _
       split
       · exact HFT.out.neg
       · exact HFT.out
     go_wp2_with fail
     refine (cmp_is _ _ (if fval x < 0 then -fval x else fval x) (((1 : Nat) : Rat) * p2 100) A _ R3.out.2 R3.out.1 HF1.out (pow_fit 1 100 (by omega) (by omega) (by omega)) hA.out).mono ?_
     rintro e w4 ⟨rfl, hb4⟩
     have HB4 : Hid (Below w1.heap.size w1 w4) := below_step HB3.out hb4
     obtain ⟨x0, x1, x2, _, _⟩ := (X3.out.later hb4).cells
     clear hb4 R3 X3
     by_cases hA0 : A ≤ 0
     · go_wp2_with fail
       refine (low_rf _ (fval x) _ (R1.out.later HB4.out) HN0.out HFT.out).mono ?_
       rintro e w5 ⟨⟨l, m, rfl, hl, hm⟩, hb5⟩
       have HB5 : Hid (Below w.heap.size w w5) := below_step (below_step HB1.out HB4.out) hb5
       have HR : Hid (-100 ≤ l ↔ Crd x) := by
         show -100 ≤ l ↔ Crd x
         rw [odd_unit hl hm]
         exact ⟨fun h => ⟨HA.out.1 hA0, h⟩, fun h => h.2⟩
       clear hl hm hb5 x0 x1 x2
       go_wp2
       go_ret
       exact ⟨⟨decide (-100 ≤ l), rfl, by rw [decide_eq_true_iff]; exact HR.out⟩, HB5.out⟩
     · have dA : decide (A ≤ 0) = false := decide_eq_false hA0
       have HR : Hid (¬ Crd x) := fun h => hA0 (HA.out.2 h.1)
       have HB5 : Hid (Below w.heap.size w w4) := below_step HB1.out HB4.out
       clear hA0 x0 x1 x2
       go_wp2
       go_ret
       exact ⟨⟨false, rfl, fun h => Bool.noConfusion h, fun h => absurd h HR.out⟩, HB5.out⟩
 · have HN : Hid (¬ Crd x) := fun h => by have := h.1; omega
   have hx2 : x = 9218868437227405312 ∨ x = 18442240474082181120 := by unfold frung at hf; omega
   have q0 : FloatKind.f64.format.order x x = some .eq := by rcases hx2 with rfl | rfl <;> decide +kernel
   have h2 : floatBits .sub .f64 x x = none := by rcases hx2 with rfl | rfl <;> decide +kernel
   clear hx2
   have rs := run_sub_nan x x h2
   have h3 : ∀ w, FloatKind.f64.format.order (nanW x x w) 0 = none := fun w => nan_order (nanW_nan x x w).1 0
   clear h2 hf hx
   go_enter Tryz.func82, Tryz.ntmps82
   go_wp2
   go_ret
   exact ⟨⟨false, rfl, fun h => Bool.noConfusion h, fun h => absurd h HN.out⟩, (Below.refl _ _).drew⟩
 · have HN : Hid (¬ Crd x) := fun h => by have := h.1; omega
   have q0 : FloatKind.f64.format.order x x = none := order_nan_left hf
   clear hf hx
   go_enter Tryz.func82, Tryz.ntmps82
   go_wp2
   go_ret
   exact ⟨⟨false, rfl, fun h => Bool.noConfusion h, fun h => absurd h HN.out⟩, Below.refl _ _⟩
set_option maxRecDepth 100000 in
set_option maxHeartbeats 1000000 in
theorem may_any (x y : Nat) (w : World) (hw : x < 18446744073709551616 ∧ y < 18446744073709551616) : Calls Tryz.prog 40 #[pv x y] w fun e w' => (∃ t, e = .returned (.bool t) ∧ (t = true ↔ Pt x y)) ∧ Below w.heap.size w w' := by
 have HW : Hid (x < 18446744073709551616 ∧ y < 18446744073709551616) := hw
 have HAL : Hid (Below w.heap.size w (w.alloc (.cells #[.float .f64 x, .float .f64 y] 50))) := (Below.refl _ w).alloc (Nat.le_refl _) _
 clear hw
 go_enter Tryz.func40, Tryz.ntmps40
 go_wp2_with fail
 refine (coord_any x _ HW.out.1).mono ?_
 rintro e w1 ⟨⟨t, rfl, ht⟩, hb1⟩
 have d1 : w1.cell? ⟨w.heap.size, 1, none⟩ = some (.float .f64 y) := box_cell hb1 (by go_simp)
 have HB1 : Hid (Below w.heap.size w w1) := below_step HAL.out hb1
 have HT : Hid (t = true ↔ Crd x) := ht
 clear ht hb1
 cases t
 · go_wp2
   go_ret
   exact ⟨⟨false, rfl, fun h => Bool.noConfusion h, fun h => Bool.noConfusion (HT.out.2 h.1)⟩, HB1.out⟩
 · have HX : Hid (Crd x) := HT.out.1 rfl
   go_wp2_with fail
   refine (coord_any y _ HW.out.2).mono ?_
   rintro e w2 ⟨⟨t, rfl, ht⟩, hb2⟩
   have HB2 : Hid (Below w.heap.size w w2) := below_step HB1.out hb2
   have HR : Hid (t = true ↔ Pt x y) := by
     show t = true ↔ _
     rw [ht]
     exact ⟨fun h => ⟨HX.out, h⟩, fun h => h.2⟩
   clear ht hb2 d1
   go_wp2
   go_ret
   exact ⟨⟨t, rfl, HR.out⟩, HB2.out⟩
end
end Go.Proofs.YtkbhmglmbolbiaaGreatDoor
