/- Own texts, put together: Eg. -/
import Derived.Test.YtcgbnjoajieggaaGreatQ17
/- The steps of sums, halves and products: each is the float that the language has of it. -/
namespace Go.Proofs.YtcgbnjoajieggaaGreat
open Go.RowKit
structure TwoSum (a b x fb fa lb la y : Nat) : Prop where
 s0 : floatBits .add .f64 a b = some x
 s1 : floatBits .sub .f64 x a = some fb
 s2 : floatBits .sub .f64 x fb = some fa
 s3 : floatBits .sub .f64 b fb = some lb
 s4 : floatBits .sub .f64 a fa = some la
 s5 : floatBits .add .f64 la lb = some y
structure Halves (a c d x y : Nat) : Prop where
 s0 : floatBits .mul .f64 4728779608772575232 a = some c
 s1 : floatBits .sub .f64 c a = some d
 s2 : floatBits .sub .f64 c d = some x
 s3 : floatBits .sub .f64 a x = some y
structure TwoProd (a b x a1 a2 b1 b2 p1 l1 p2 l2 p3 l3 p4 y : Nat) : Prop where
 s0 : floatBits .mul .f64 a b = some x
 s1 : floatBits .mul .f64 a1 b1 = some p1
 s2 : floatBits .sub .f64 x p1 = some l1
 s3 : floatBits .mul .f64 a2 b1 = some p2
 s4 : floatBits .sub .f64 l1 p2 = some l2
 s5 : floatBits .mul .f64 a1 b2 = some p3
 s6 : floatBits .sub .f64 l2 p3 = some l3
 s7 : floatBits .mul .f64 a2 b2 = some p4
 s8 : floatBits .sub .f64 p4 l3 = some y
theorem twoSum_any (a b x fb fa lb la y : Nat) (w : World) (h : TwoSum a b x fb fa lb la y) :
   Calls Tryz.prog 132 #[.float .f64 a, .float .f64 b] w fun e w' => e = .returned (.tuple #[.float .f64 x, .float .f64 y]) ∧ w' = w := by
 have r0 : ∀ w, (binOp .add 33 (.float .f64 a) (.float .f64 b)).run Tryz.prog w = .ok (.float .f64 x) w := fun w => run_float_arith w .add _ .f64 _ _ _ h.s0
 have r1 : ∀ w, (binOp .sub 33 (.float .f64 x) (.float .f64 a)).run Tryz.prog w = .ok (.float .f64 fb) w := fun w => run_float_arith w .sub _ .f64 _ _ _ h.s1
 have r2 : ∀ w, (binOp .sub 33 (.float .f64 x) (.float .f64 fb)).run Tryz.prog w = .ok (.float .f64 fa) w := fun w => run_float_arith w .sub _ .f64 _ _ _ h.s2
 have r3 : ∀ w, (binOp .sub 33 (.float .f64 b) (.float .f64 fb)).run Tryz.prog w = .ok (.float .f64 lb) w := fun w => run_float_arith w .sub _ .f64 _ _ _ h.s3
 have r4 : ∀ w, (binOp .sub 33 (.float .f64 a) (.float .f64 fa)).run Tryz.prog w = .ok (.float .f64 la) w := fun w => run_float_arith w .sub _ .f64 _ _ _ h.s4
 have r5 : ∀ w, (binOp .add 33 (.float .f64 la) (.float .f64 lb)).run Tryz.prog w = .ok (.float .f64 y) w := fun w => run_float_arith w .add _ .f64 _ _ _ h.s5
 clear h
 go_enter Tryz.func132, Tryz.ntmps132
 go_wp2
 go_ret2
 exact ⟨rfl, rfl⟩
theorem halves_any (a c d x y : Nat) (w : World) (h : Halves a c d x y) :
   Calls Tryz.prog 199 #[.float .f64 a] w fun e w' => e = .returned (.tuple #[.float .f64 x, .float .f64 y]) ∧ w' = w := by
 have r0 : ∀ w, (binOp .mul 33 (.float .f64 4728779608772575232) (.float .f64 a)).run Tryz.prog w = .ok (.float .f64 c) w := fun w => run_float_arith w .mul _ .f64 _ _ _ h.s0
 have r1 : ∀ w, (binOp .sub 33 (.float .f64 c) (.float .f64 a)).run Tryz.prog w = .ok (.float .f64 d) w := fun w => run_float_arith w .sub _ .f64 _ _ _ h.s1
 have r2 : ∀ w, (binOp .sub 33 (.float .f64 c) (.float .f64 d)).run Tryz.prog w = .ok (.float .f64 x) w := fun w => run_float_arith w .sub _ .f64 _ _ _ h.s2
 have r3 : ∀ w, (binOp .sub 33 (.float .f64 a) (.float .f64 x)).run Tryz.prog w = .ok (.float .f64 y) w := fun w => run_float_arith w .sub _ .f64 _ _ _ h.s3
 clear h
 go_enter Tryz.func199, Tryz.ntmps199
 go_wp2
 go_ret2
 exact ⟨rfl, rfl⟩
set_option maxHeartbeats 1000000 in
theorem twoProd_any (a b x a1 a2 b1 b2 p1 l1 p2 l2 p3 l3 p4 y c d c' d' : Nat) (w : World) (ha : Halves a c d a1 a2) (hb : Halves b c' d' b1 b2) (h : TwoProd a b x a1 a2 b1 b2 p1 l1 p2 l2 p3 l3 p4 y) :
   Calls Tryz.prog 193 #[.float .f64 a, .float .f64 b] w fun e w' => e = .returned (.tuple #[.float .f64 x, .float .f64 y]) ∧ w' = w := by
 have r0 : ∀ w, (binOp .mul 33 (.float .f64 a) (.float .f64 b)).run Tryz.prog w = .ok (.float .f64 x) w := fun w => run_float_arith w .mul _ .f64 _ _ _ h.s0
 have r1 : ∀ w, (binOp .mul 33 (.float .f64 a1) (.float .f64 b1)).run Tryz.prog w = .ok (.float .f64 p1) w := fun w => run_float_arith w .mul _ .f64 _ _ _ h.s1
 have r2 : ∀ w, (binOp .sub 33 (.float .f64 x) (.float .f64 p1)).run Tryz.prog w = .ok (.float .f64 l1) w := fun w => run_float_arith w .sub _ .f64 _ _ _ h.s2
 have r3 : ∀ w, (binOp .mul 33 (.float .f64 a2) (.float .f64 b1)).run Tryz.prog w = .ok (.float .f64 p2) w := fun w => run_float_arith w .mul _ .f64 _ _ _ h.s3
 have r4 : ∀ w, (binOp .sub 33 (.float .f64 l1) (.float .f64 p2)).run Tryz.prog w = .ok (.float .f64 l2) w := fun w => run_float_arith w .sub _ .f64 _ _ _ h.s4
 have r5 : ∀ w, (binOp .mul 33 (.float .f64 a1) (.float .f64 b2)).run Tryz.prog w = .ok (.float .f64 p3) w := fun w => run_float_arith w .mul _ .f64 _ _ _ h.s5
 have r6 : ∀ w, (binOp .sub 33 (.float .f64 l2) (.float .f64 p3)).run Tryz.prog w = .ok (.float .f64 l3) w := fun w => run_float_arith w .sub _ .f64 _ _ _ h.s6
 have r7 : ∀ w, (binOp .mul 33 (.float .f64 a2) (.float .f64 b2)).run Tryz.prog w = .ok (.float .f64 p4) w := fun w => run_float_arith w .mul _ .f64 _ _ _ h.s7
 have r8 : ∀ w, (binOp .sub 33 (.float .f64 p4) (.float .f64 l3)).run Tryz.prog w = .ok (.float .f64 y) w := fun w => run_float_arith w .sub _ .f64 _ _ _ h.s8
 clear h
 have HA : Hid (Halves a c d a1 a2) := ha
 have HB : Hid (Halves b c' d' b1 b2) := hb
 clear ha hb
 go_enter Tryz.func193, Tryz.ntmps193
 go_wp2_with fail
 refine (halves_any _ _ _ _ _ _ HA.out).mono ?_
 rintro e w1 ⟨rfl, rfl⟩
 go_wp2_with fail
 refine (halves_any _ _ _ _ _ _ HB.out).mono ?_
 rintro e w2 ⟨rfl, rfl⟩
 go_wp2
 go_ret2
 exact ⟨rfl, rfl⟩
set_option maxHeartbeats 1000000 in
theorem sum_yes (a b x fb fa lb la y : Nat) (w : World) (ha : a < 18446744073709551616) (hb : b < 18446744073709551616) (ta : frung a ≤ 9110782046170513408) (tb : frung b ≤ 9110782046170513408) (h : TwoSum a b x fb fa lb la y) :
   Calls Tryz.prog 172 #[.float .f64 a, .float .f64 b] w fun e w' => e = .returned (.tuple #[.float .f64 x, .float .f64 y]) ∧ Below w.heap.size w w' := by
 have HR : Hid (∀ W g, (∀ j, j < 2 → W.cell? ⟨g, j, none⟩ = some (.float .f64 (if j = 0 then a else b))) → Calls Tryz.prog 130 #[.func (Fn.func 131) #[] #[], .slice (some ⟨g, 0, none⟩) 2 2] W fun e w' => e = .returned (.bool false) ∧ Below W.heap.size W w') := fun W g hc =>
   (refused_tame 2 (fun j => if j = 0 then a else b) (fun _ => true) g W (by omega) hc (fun j hj w => by
     by_cases e : j = 0
     · simp only [e, if_true]
       have := tame_any a w ha
       rwa [decide_eq_true ta] at this
     · simp only [e, if_false]
       have := tame_any b w hb
       rwa [decide_eq_true tb] at this)).mono (by
     rintro e w' ⟨⟨x, rfl, hx⟩, hbel⟩
     rcases hx with ⟨rfl, _⟩ | ⟨_, j, _, hj⟩
     · exact ⟨rfl, hbel⟩
     · cases hj)
 have HI : Hid (TwoSum a b x fb fa lb la y) := h
 clear ha hb ta tb h
 go_enter Tryz.func172, Tryz.ntmps172
 go_wp2_with fail
 refine (HR.out _ _ (fun j hj => by rcases (by omega : j = 0 ∨ j = 1) with rfl | rfl <;> go_simp)).mono ?_
 rintro e w1 ⟨rfl, hb1⟩
 have HB : Hid (Below w.heap.size w w1) := ((Below.refl _ _).alloc (Nat.le_refl _) _).trans (hb1.mono (by simp))
 clear hb1
 go_wp2_with fail
 refine (twoSum_any _ _ _ _ _ _ _ _ _ HI.out).mono ?_
 rintro e w2 ⟨rfl, rfl⟩
 go_wp2
 go_ret2
 exact ⟨rfl, HB.out⟩
set_option maxHeartbeats 1000000 in
theorem sum_no (a b : Nat) (w : World) (ha : a < 18446744073709551616) (hb : b < 18446744073709551616) (hno : ¬ (frung a ≤ 9110782046170513408 ∧ frung b ≤ 9110782046170513408)) :
   Calls Tryz.prog 172 #[.float .f64 a, .float .f64 b] w fun e w' => e = .returned (.tuple #[.float .f64 0, .float .f64 0]) ∧ Below w.heap.size w w' := by
 have HR : Hid (∀ W g, (∀ j, j < 2 → W.cell? ⟨g, j, none⟩ = some (.float .f64 (if j = 0 then a else b))) → Calls Tryz.prog 130 #[.func (Fn.func 131) #[] #[], .slice (some ⟨g, 0, none⟩) 2 2] W fun e w' => e = .returned (.bool true) ∧ Below W.heap.size W w') := fun W g hc =>
   (refused_tame 2 (fun j => if j = 0 then a else b) (fun j => if j = 0 then decide (frung a ≤ 9110782046170513408) else decide (frung b ≤ 9110782046170513408)) g W (by omega) hc (fun j hj w => by
     by_cases e : j = 0
     · simp only [e, if_true]
       exact tame_any a w ha
     · simp only [e, if_false]
       exact tame_any b w hb)).mono (by
     rintro e w' ⟨⟨x, rfl, hx⟩, hbel⟩
     rcases hx with ⟨_, hall⟩ | ⟨rfl, _⟩
     · exact absurd ⟨of_decide_eq_true (hall 0 (by omega)), of_decide_eq_true (hall 1 (by omega))⟩ hno
     · exact ⟨rfl, hbel⟩)
 clear ha hb hno
 go_enter Tryz.func172, Tryz.ntmps172
 go_wp2_with fail
 refine (HR.out _ _ (fun j hj => by rcases (by omega : j = 0 ∨ j = 1) with rfl | rfl <;> go_simp)).mono ?_
 rintro e w1 ⟨rfl, hb1⟩
 have HB : Hid (Below w.heap.size w w1) := ((Below.refl _ _).alloc (Nat.le_refl _) _).trans (hb1.mono (by simp))
 clear hb1
 go_wp2
 go_ret2
 exact ⟨rfl, HB.out⟩
set_option maxHeartbeats 1000000 in
theorem diff_yes (a b x fb fa lb la y : Nat) (w : World) (ha : a < 18446744073709551616) (hb : b < 18446744073709551616) (ta : frung a ≤ 9110782046170513408) (tb : frung b ≤ 9110782046170513408) (h : TwoSum a (fflip b) x fb fa lb la y) :
   Calls Tryz.prog 99 #[.float .f64 a, .float .f64 b] w fun e w' => e = .returned (.tuple #[.float .f64 x, .float .f64 y]) ∧ Below w.heap.size w w' := by
 have HR : Hid (∀ W g, (∀ j, j < 2 → W.cell? ⟨g, j, none⟩ = some (.float .f64 (if j = 0 then a else b))) → Calls Tryz.prog 130 #[.func (Fn.func 131) #[] #[], .slice (some ⟨g, 0, none⟩) 2 2] W fun e w' => e = .returned (.bool false) ∧ Below W.heap.size W w') := fun W g hc =>
   (refused_tame 2 (fun j => if j = 0 then a else b) (fun _ => true) g W (by omega) hc (fun j hj w => by
     by_cases e : j = 0
     · simp only [e, if_true]
       have := tame_any a w ha
       rwa [decide_eq_true ta] at this
     · simp only [e, if_false]
       have := tame_any b w hb
       rwa [decide_eq_true tb] at this)).mono (by
     rintro e w' ⟨⟨x, rfl, hx⟩, hbel⟩
     rcases hx with ⟨rfl, _⟩ | ⟨_, j, _, hj⟩
     · exact ⟨rfl, hbel⟩
     · cases hj)
 have HI : Hid (TwoSum a (fflip b) x fb fa lb la y) := h
 have hneg := run_negF b hb
 clear ha hb ta tb h
 go_enter Tryz.func99, Tryz.ntmps99
 go_wp2_with fail
 refine (HR.out _ _ (fun j hj => by rcases (by omega : j = 0 ∨ j = 1) with rfl | rfl <;> go_simp)).mono ?_
 rintro e w1 ⟨rfl, hb1⟩
 have HB : Hid (Below w.heap.size w w1) := ((Below.refl _ _).alloc (Nat.le_refl _) _).trans (hb1.mono (by simp))
 clear hb1
 go_wp2_with fail
 refine (twoSum_any _ _ _ _ _ _ _ _ _ HI.out).mono ?_
 rintro e w2 ⟨rfl, rfl⟩
 go_wp2
 go_ret2
 exact ⟨rfl, HB.out⟩
set_option maxHeartbeats 1000000 in
theorem diff_no (a b : Nat) (w : World) (ha : a < 18446744073709551616) (hb : b < 18446744073709551616) (hno : ¬ (frung a ≤ 9110782046170513408 ∧ frung b ≤ 9110782046170513408)) :
   Calls Tryz.prog 99 #[.float .f64 a, .float .f64 b] w fun e w' => e = .returned (.tuple #[.float .f64 0, .float .f64 0]) ∧ Below w.heap.size w w' := by
 have HR : Hid (∀ W g, (∀ j, j < 2 → W.cell? ⟨g, j, none⟩ = some (.float .f64 (if j = 0 then a else b))) → Calls Tryz.prog 130 #[.func (Fn.func 131) #[] #[], .slice (some ⟨g, 0, none⟩) 2 2] W fun e w' => e = .returned (.bool true) ∧ Below W.heap.size W w') := fun W g hc =>
   (refused_tame 2 (fun j => if j = 0 then a else b) (fun j => if j = 0 then decide (frung a ≤ 9110782046170513408) else decide (frung b ≤ 9110782046170513408)) g W (by omega) hc (fun j hj w => by
     by_cases e : j = 0
     · simp only [e, if_true]
       exact tame_any a w ha
     · simp only [e, if_false]
       exact tame_any b w hb)).mono (by
     rintro e w' ⟨⟨x, rfl, hx⟩, hbel⟩
     rcases hx with ⟨_, hall⟩ | ⟨rfl, _⟩
     · exact absurd ⟨of_decide_eq_true (hall 0 (by omega)), of_decide_eq_true (hall 1 (by omega))⟩ hno
     · exact ⟨rfl, hbel⟩)
 clear ha hb hno
 go_enter Tryz.func99, Tryz.ntmps99
 go_wp2_with fail
 refine (HR.out _ _ (fun j hj => by rcases (by omega : j = 0 ∨ j = 1) with rfl | rfl <;> go_simp)).mono ?_
 rintro e w1 ⟨rfl, hb1⟩
 have HB : Hid (Below w.heap.size w w1) := ((Below.refl _ _).alloc (Nat.le_refl _) _).trans (hb1.mono (by simp))
 clear hb1
 go_wp2
 go_ret2
 exact ⟨rfl, HB.out⟩
set_option maxHeartbeats 1000000 in
theorem prod_yes (a b x a1 a2 b1 b2 p1 l1 p2 l2 p3 l3 p4 y c d c' d' : Nat) (w : World) (ha : a < 18446744073709551616) (hb : b < 18446744073709551616) (ta : SafeW (frung a)) (tb : SafeW (frung b)) (h1 : Halves a c d a1 a2) (h2 : Halves b c' d' b1 b2) (h : TwoProd a b x a1 a2 b1 b2 p1 l1 p2 l2 p3 l3 p4 y) :
   Calls Tryz.prog 176 #[.float .f64 a, .float .f64 b] w fun e w' => e = .returned (.tuple #[.float .f64 x, .float .f64 y]) ∧ Below w.heap.size w w' := by
 have HR : Hid (∀ W g, (∀ j, j < 2 → W.cell? ⟨g, j, none⟩ = some (.float .f64 (if j = 0 then a else b))) → Calls Tryz.prog 130 #[.func (Fn.func 192) #[] #[], .slice (some ⟨g, 0, none⟩) 2 2] W fun e w' => e = .returned (.bool false) ∧ Below W.heap.size W w') := fun W g hc =>
   (refused_safe 2 (fun j => if j = 0 then a else b) (fun _ => true) g W (by omega) hc (fun j hj w => by
     by_cases e : j = 0
     · simp only [e, if_true]
       have := safe_any a w ha
       rwa [decide_eq_true ta] at this
     · simp only [e, if_false]
       have := safe_any b w hb
       rwa [decide_eq_true tb] at this)).mono (by
     rintro e w' ⟨⟨x, rfl, hx⟩, hbel⟩
     rcases hx with ⟨rfl, _⟩ | ⟨_, j, _, hj⟩
     · exact ⟨rfl, hbel⟩
     · cases hj)
 have HI : Hid (Halves a c d a1 a2 ∧ Halves b c' d' b1 b2 ∧ TwoProd a b x a1 a2 b1 b2 p1 l1 p2 l2 p3 l3 p4 y) := ⟨h1, h2, h⟩
 clear ha hb ta tb h h1 h2
 go_enter Tryz.func176, Tryz.ntmps176
 go_wp2_with fail
 refine (HR.out _ _ (fun j hj => by rcases (by omega : j = 0 ∨ j = 1) with rfl | rfl <;> go_simp)).mono ?_
 rintro e w1 ⟨rfl, hb1⟩
 have HB : Hid (Below w.heap.size w w1) := ((Below.refl _ _).alloc (Nat.le_refl _) _).trans (hb1.mono (by simp))
 clear hb1
 go_wp2_with fail
 refine (twoProd_any _ _ _ _ _ _ _ _ _ _ _ _ _ _ _ _ _ _ _ _ HI.out.1 HI.out.2.1 HI.out.2.2).mono ?_
 rintro e w2 ⟨rfl, rfl⟩
 go_wp2
 go_ret2
 exact ⟨rfl, HB.out⟩
set_option maxHeartbeats 1000000 in
theorem prod_no (a b : Nat) (w : World) (ha : a < 18446744073709551616) (hb : b < 18446744073709551616) (hno : ¬ (SafeW (frung a) ∧ SafeW (frung b))) :
   Calls Tryz.prog 176 #[.float .f64 a, .float .f64 b] w fun e w' => e = .returned (.tuple #[.float .f64 0, .float .f64 0]) ∧ Below w.heap.size w w' := by
 have HR : Hid (∀ W g, (∀ j, j < 2 → W.cell? ⟨g, j, none⟩ = some (.float .f64 (if j = 0 then a else b))) → Calls Tryz.prog 130 #[.func (Fn.func 192) #[] #[], .slice (some ⟨g, 0, none⟩) 2 2] W fun e w' => e = .returned (.bool true) ∧ Below W.heap.size W w') := fun W g hc =>
   (refused_safe 2 (fun j => if j = 0 then a else b) (fun j => if j = 0 then decide (SafeW (frung a)) else decide (SafeW (frung b))) g W (by omega) hc (fun j hj w => by
     by_cases e : j = 0
     · simp only [e, if_true]
       exact safe_any a w ha
     · simp only [e, if_false]
       exact safe_any b w hb)).mono (by
     rintro e w' ⟨⟨x, rfl, hx⟩, hbel⟩
     rcases hx with ⟨_, hall⟩ | ⟨rfl, _⟩
     · exact absurd ⟨of_decide_eq_true (hall 0 (by omega)), of_decide_eq_true (hall 1 (by omega))⟩ hno
     · exact ⟨rfl, hbel⟩)
 clear ha hb hno
 go_enter Tryz.func176, Tryz.ntmps176
 go_wp2_with fail
 refine (HR.out _ _ (fun j hj => by rcases (by omega : j = 0 ∨ j = 1) with rfl | rfl <;> go_simp)).mono ?_
 rintro e w1 ⟨rfl, hb1⟩
 have HB : Hid (Below w.heap.size w w1) := ((Below.refl _ _).alloc (Nat.le_refl _) _).trans (hb1.mono (by simp))
 clear hb1
 go_wp2
 go_ret2
 exact ⟨rfl, HB.out⟩
end Go.Proofs.YtcgbnjoajieggaaGreat
