/- Own texts, put together: Eg Et Ew Eh Ex Xe. -/
import Derived.Test.YtjcdbbdbmcbjpaaQ7
import Derived.Test.YtjcdbbdbmcbjpaaQ8
import Derived.Test.YtjcdbbdbmcbjpaaQ10
import Derived.Test.YtjcdbbdbmcbjpaaQ11
import Derived.Test.YtjcdbbdbmcbjpaaQ12
namespace Go.Proofs.Ytjcdbbdbmcbjpaa
/- The steps of sums, halves and products: each is the float that the language has of it. -/
section
open Go.RowKit
structure TwoSum (a b x fb fa lb la y : Nat) : Prop where
 s0 : floatBits .add .f64 a b = some x
 s1 : floatBits .sub .f64 x a = some fb
 s2 : floatBits .sub .f64 x fb = some fa
 s3 : floatBits .sub .f64 b fb = some lb
 s4 : floatBits .sub .f64 a fa = some la
 s5 : floatBits .add .f64 la lb = some y
structure Halves (a c d x y : Nat) : Prop where
 s0 : floatBits .mul .f64 4728779608772575232 a = some c
 s1 : floatBits .sub .f64 c a = some d
 s2 : floatBits .sub .f64 c d = some x
 s3 : floatBits .sub .f64 a x = some y
structure TwoProd (a b x a1 a2 b1 b2 p1 l1 p2 l2 p3 l3 p4 y : Nat) : Prop where
 s0 : floatBits .mul .f64 a b = some x
 s1 : floatBits .mul .f64 a1 b1 = some p1
 s2 : floatBits .sub .f64 x p1 = some l1
 s3 : floatBits .mul .f64 a2 b1 = some p2
 s4 : floatBits .sub .f64 l1 p2 = some l2
 s5 : floatBits .mul .f64 a1 b2 = some p3
 s6 : floatBits .sub .f64 l2 p3 = some l3
 s7 : floatBits .mul .f64 a2 b2 = some p4
 s8 : floatBits .sub .f64 p4 l3 = some y
theorem twoSum_any (a b x fb fa lb la y : Nat) (w : World) (h : TwoSum a b x fb fa lb la y) :
   Calls Try.prog 49 #[.float .f64 a, .float .f64 b] w fun e w' => e = .returned (.tuple #[.float .f64 x, .float .f64 y]) ∧ w' = w := by
 have r0 : ∀ w, (binOp .add 24 (.float .f64 a) (.float .f64 b)).run Try.prog w = .ok (.float .f64 x) w := fun w => run_float_arith w .add _ .f64 _ _ _ h.s0
 have r1 : ∀ w, (binOp .sub 24 (.float .f64 x) (.float .f64 a)).run Try.prog w = .ok (.float .f64 fb) w := fun w => run_float_arith w .sub _ .f64 _ _ _ h.s1
 have r2 : ∀ w, (binOp .sub 24 (.float .f64 x) (.float .f64 fb)).run Try.prog w = .ok (.float .f64 fa) w := fun w => run_float_arith w .sub _ .f64 _ _ _ h.s2
 have r3 : ∀ w, (binOp .sub 24 (.float .f64 b) (.float .f64 fb)).run Try.prog w = .ok (.float .f64 lb) w := fun w => run_float_arith w .sub _ .f64 _ _ _ h.s3
 have r4 : ∀ w, (binOp .sub 24 (.float .f64 a) (.float .f64 fa)).run Try.prog w = .ok (.float .f64 la) w := fun w => run_float_arith w .sub _ .f64 _ _ _ h.s4
 have r5 : ∀ w, (binOp .add 24 (.float .f64 la) (.float .f64 lb)).run Try.prog w = .ok (.float .f64 y) w := fun w => run_float_arith w .add _ .f64 _ _ _ h.s5
 clear h
 go_enter Try.func49, Try.ntmps49
 go_wp2
 go_ret2
 exact ⟨rfl, rfl⟩
theorem halves_any (a c d x y : Nat) (w : World) (h : Halves a c d x y) :
   Calls Try.prog 55 #[.float .f64 a] w fun e w' => e = .returned (.tuple #[.float .f64 x, .float .f64 y]) ∧ w' = w := by
 have r0 : ∀ w, (binOp .mul 24 (.float .f64 4728779608772575232) (.float .f64 a)).run Try.prog w = .ok (.float .f64 c) w := fun w => run_float_arith w .mul _ .f64 _ _ _ h.s0
 have r1 : ∀ w, (binOp .sub 24 (.float .f64 c) (.float .f64 a)).run Try.prog w = .ok (.float .f64 d) w := fun w => run_float_arith w .sub _ .f64 _ _ _ h.s1
 have r2 : ∀ w, (binOp .sub 24 (.float .f64 c) (.float .f64 d)).run Try.prog w = .ok (.float .f64 x) w := fun w => run_float_arith w .sub _ .f64 _ _ _ h.s2
 have r3 : ∀ w, (binOp .sub 24 (.float .f64 a) (.float .f64 x)).run Try.prog w = .ok (.float .f64 y) w := fun w => run_float_arith w .sub _ .f64 _ _ _ h.s3
 clear h
 go_enter Try.func55, Try.ntmps55
 go_wp2
 go_ret2
 exact ⟨rfl, rfl⟩
set_option maxHeartbeats 1000000 in
theorem twoProd_any (a b x a1 a2 b1 b2 p1 l1 p2 l2 p3 l3 p4 y c d c' d' : Nat) (w : World) (ha : Halves a c d a1 a2) (hb : Halves b c' d' b1 b2) (h : TwoProd a b x a1 a2 b1 b2 p1 l1 p2 l2 p3 l3 p4 y) :
   Calls Try.prog 52 #[.float .f64 a, .float .f64 b] w fun e w' => e = .returned (.tuple #[.float .f64 x, .float .f64 y]) ∧ w' = w := by
 have r0 : ∀ w, (binOp .mul 24 (.float .f64 a) (.float .f64 b)).run Try.prog w = .ok (.float .f64 x) w := fun w => run_float_arith w .mul _ .f64 _ _ _ h.s0
 have r1 : ∀ w, (binOp .mul 24 (.float .f64 a1) (.float .f64 b1)).run Try.prog w = .ok (.float .f64 p1) w := fun w => run_float_arith w .mul _ .f64 _ _ _ h.s1
 have r2 : ∀ w, (binOp .sub 24 (.float .f64 x) (.float .f64 p1)).run Try.prog w = .ok (.float .f64 l1) w := fun w => run_float_arith w .sub _ .f64 _ _ _ h.s2
 have r3 : ∀ w, (binOp .mul 24 (.float .f64 a2) (.float .f64 b1)).run Try.prog w = .ok (.float .f64 p2) w := fun w => run_float_arith w .mul _ .f64 _ _ _ h.s3
 have r4 : ∀ w, (binOp .sub 24 (.float .f64 l1) (.float .f64 p2)).run Try.prog w = .ok (.float .f64 l2) w := fun w => run_float_arith w .sub _ .f64 _ _ _ h.s4
 have r5 : ∀ w, (binOp .mul 24 (.float .f64 a1) (.float .f64 b2)).run Try.prog w = .ok (.float .f64 p3) w := fun w => run_float_arith w .mul _ .f64 _ _ _ h.s5
 have r6 : ∀ w, (binOp .sub 24 (.float .f64 l2) (.float .f64 p3)).run Try.prog w = .ok (.float .f64 l3) w := fun w => run_float_arith w .sub _ .f64 _ _ _ h.s6
 have r7 : ∀ w, (binOp .mul 24 (.float .f64 a2) (.float .f64 b2)).run Try.prog w = .ok (.float .f64 p4) w := fun w => run_float_arith w .mul _ .f64 _ _ _ h.s7
 have r8 : ∀ w, (binOp .sub 24 (.float .f64 p4) (.float .f64 l3)).run Try.prog w = .ok (.float .f64 y) w := fun w => run_float_arith w .sub _ .f64 _ _ _ h.s8
 clear h
 have HA : Hid (Halves a c d a1 a2) := ha
 have HB : Hid (Halves b c' d' b1 b2) := hb
 clear ha hb
 go_enter Try.func52, Try.ntmps52
 go_wp2_with fail
 refine (halves_any _ _ _ _ _ _ HA.out).mono ?_
 rintro e w1 ⟨rfl, rfl⟩
 go_wp2_with fail
 refine (halves_any _ _ _ _ _ _ HB.out).mono ?_
 rintro e w2 ⟨rfl, rfl⟩
 go_wp2
 go_ret2
 exact ⟨rfl, rfl⟩
set_option maxHeartbeats 1000000 in
theorem sum_yes (a b x fb fa lb la y : Nat) (w : World) (ha : a < 18446744073709551616) (hb : b < 18446744073709551616) (ta : frung a ≤ 9110782046170513408) (tb : frung b ≤ 9110782046170513408) (h : TwoSum a b x fb fa lb la y) :
   Calls Try.prog 39 #[.float .f64 a, .float .f64 b] w fun e w' => e = .returned (.tuple #[.float .f64 x, .float .f64 y]) ∧ Below w.heap.size w w' := by
 have HR : Hid (∀ W g, (∀ j, j < 2 → W.cell? ⟨g, j, none⟩ = some (.float .f64 (if j = 0 then a else b))) → Calls Try.prog 47 #[.func (Fn.func 48) #[] #[], .slice (some ⟨g, 0, none⟩) 2 2] W fun e w' => e = .returned (.bool false) ∧ Below W.heap.size W w') := fun W g hc =>
   (refused_tame 2 (fun j => if j = 0 then a else b) (fun _ => true) g W (by omega) hc (fun j hj w => by
     by_cases e : j = 0
     · simp only [e, if_true]
       have := tame_any a w ha
       rwa [decide_eq_true ta] at this
     · simp only [e, if_false]
       have := tame_any b w hb
       rwa [decide_eq_true tb] at this)).mono (by
     rintro e w' ⟨⟨x, rfl, hx⟩, hbel⟩
     rcases hx with ⟨rfl, _⟩ | ⟨_, j, _, hj⟩
     · exact ⟨rfl, hbel⟩
     · cases hj)
 have HI : Hid (TwoSum a b x fb fa lb la y) := h
 clear ha hb ta tb h
 go_enter Try.func39, Try.ntmps39
 go_wp2_with fail
 refine (HR.out _ _ (fun j hj => by rcases (by omega : j = 0 ∨ j = 1) with rfl | rfl <;> go_simp)).mono ?_
 rintro e w1 ⟨rfl, hb1⟩
 have HB : Hid (Below w.heap.size w w1) := ((Below.refl _ _).alloc (Nat.le_refl _) _).trans (hb1.mono (by simp))
 clear hb1
 go_wp2_with fail
 refine (twoSum_any _ _ _ _ _ _ _ _ _ HI.out).mono ?_
 rintro e w2 ⟨rfl, rfl⟩
 go_wp2
 go_ret2
 exact ⟨rfl, HB.out⟩
set_option maxHeartbeats 1000000 in
theorem sum_no (a b : Nat) (w : World) (ha : a < 18446744073709551616) (hb : b < 18446744073709551616) (hno : ¬ (frung a ≤ 9110782046170513408 ∧ frung b ≤ 9110782046170513408)) :
   Calls Try.prog 39 #[.float .f64 a, .float .f64 b] w fun e w' => e = .returned (.tuple #[.float .f64 0, .float .f64 0]) ∧ Below w.heap.size w w' := by
 have HR : Hid (∀ W g, (∀ j, j < 2 → W.cell? ⟨g, j, none⟩ = some (.float .f64 (if j = 0 then a else b))) → Calls Try.prog 47 #[.func (Fn.func 48) #[] #[], .slice (some ⟨g, 0, none⟩) 2 2] W fun e w' => e = .returned (.bool true) ∧ Below W.heap.size W w') := fun W g hc =>
   (refused_tame 2 (fun j => if j = 0 then a else b) (fun j => if j = 0 then decide (frung a ≤ 9110782046170513408) else decide (frung b ≤ 9110782046170513408)) g W (by omega) hc (fun j hj w => by
     by_cases e : j = 0
     · simp only [e, if_true]
       exact tame_any a w ha
     · simp only [e, if_false]
       exact tame_any b w hb)).mono (by
     rintro e w' ⟨⟨x, rfl, hx⟩, hbel⟩
     rcases hx with ⟨_, hall⟩ | ⟨rfl, _⟩
     · exact absurd ⟨of_decide_eq_true (hall 0 (by omega)), of_decide_eq_true (hall 1 (by omega))⟩ hno
     · exact ⟨rfl, hbel⟩)
 clear ha hb hno
 go_enter Try.func39, Try.ntmps39
 go_wp2_with fail
 refine (HR.out _ _ (fun j hj => by rcases (by omega : j = 0 ∨ j = 1) with rfl | rfl <;> go_simp)).mono ?_
 rintro e w1 ⟨rfl, hb1⟩
 have HB : Hid (Below w.heap.size w w1) := ((Below.refl _ _).alloc (Nat.le_refl _) _).trans (hb1.mono (by simp))
 clear hb1
 go_wp2
 go_ret2
 exact ⟨rfl, HB.out⟩
set_option maxHeartbeats 1000000 in
theorem prod_yes (a b x a1 a2 b1 b2 p1 l1 p2 l2 p3 l3 p4 y c d c' d' : Nat) (w : World) (ha : a < 18446744073709551616) (hb : b < 18446744073709551616) (ta : SafeW (frung a)) (tb : SafeW (frung b)) (h1 : Halves a c d a1 a2) (h2 : Halves b c' d' b1 b2) (h : TwoProd a b x a1 a2 b1 b2 p1 l1 p2 l2 p3 l3 p4 y) :
   Calls Try.prog 45 #[.float .f64 a, .float .f64 b] w fun e w' => e = .returned (.tuple #[.float .f64 x, .float .f64 y]) ∧ Below w.heap.size w w' := by
 have HR : Hid (∀ W g, (∀ j, j < 2 → W.cell? ⟨g, j, none⟩ = some (.float .f64 (if j = 0 then a else b))) → Calls Try.prog 47 #[.func (Fn.func 51) #[] #[], .slice (some ⟨g, 0, none⟩) 2 2] W fun e w' => e = .returned (.bool false) ∧ Below W.heap.size W w') := fun W g hc =>
   (refused_safe 2 (fun j => if j = 0 then a else b) (fun _ => true) g W (by omega) hc (fun j hj w => by
     by_cases e : j = 0
     · simp only [e, if_true]
       have := safe_any a w ha
       rwa [decide_eq_true ta] at this
     · simp only [e, if_false]
       have := safe_any b w hb
       rwa [decide_eq_true tb] at this)).mono (by
     rintro e w' ⟨⟨x, rfl, hx⟩, hbel⟩
     rcases hx with ⟨rfl, _⟩ | ⟨_, j, _, hj⟩
     · exact ⟨rfl, hbel⟩
     · cases hj)
 have HI : Hid (Halves a c d a1 a2 ∧ Halves b c' d' b1 b2 ∧ TwoProd a b x a1 a2 b1 b2 p1 l1 p2 l2 p3 l3 p4 y) := ⟨h1, h2, h⟩
 clear ha hb ta tb h h1 h2
 go_enter Try.func45, Try.ntmps45
 go_wp2_with fail
 refine (HR.out _ _ (fun j hj => by rcases (by omega : j = 0 ∨ j = 1) with rfl | rfl <;> go_simp)).mono ?_
 rintro e w1 ⟨rfl, hb1⟩
 have HB : Hid (Below w.heap.size w w1) := ((Below.refl _ _).alloc (Nat.le_refl _) _).trans (hb1.mono (by simp))
 clear hb1
 go_wp2_with fail
 refine (twoProd_any _ _ _ _ _ _ _ _ _ _ _ _ _ _ _ _ _ _ _ _ HI.out.1 HI.out.2.1 HI.out.2.2).mono ?_
 rintro e w2 ⟨rfl, rfl⟩
 go_wp2
 go_ret2
 exact ⟨rfl, HB.out⟩
set_option maxHeartbeats 1000000 in
theorem prod_no (a b : Nat) (w : World) (ha : a < 18446744073709551616) (hb : b < 18446744073709551616) (hno : ¬ (SafeW (frung a) ∧ SafeW (frung b))) :
   Calls Try.prog 45 #[.float .f64 a, .float .f64 b] w fun e w' => e = .returned (.tuple #[.float .f64 0, .float .f64 0]) ∧ Below w.heap.size w w' := by
 have HR : Hid (∀ W g, (∀ j, j < 2 → W.cell? ⟨g, j, none⟩ = some (.float .f64 (if j = 0 then a else b))) → Calls Try.prog 47 #[.func (Fn.func 51) #[] #[], .slice (some ⟨g, 0, none⟩) 2 2] W fun e w' => e = .returned (.bool true) ∧ Below W.heap.size W w') := fun W g hc =>
   (refused_safe 2 (fun j => if j = 0 then a else b) (fun j => if j = 0 then decide (SafeW (frung a)) else decide (SafeW (frung b))) g W (by omega) hc (fun j hj w => by
     by_cases e : j = 0
     · simp only [e, if_true]
       exact safe_any a w ha
     · simp only [e, if_false]
       exact safe_any b w hb)).mono (by
     rintro e w' ⟨⟨x, rfl, hx⟩, hbel⟩
     rcases hx with ⟨_, hall⟩ | ⟨rfl, _⟩
     · exact absurd ⟨of_decide_eq_true (hall 0 (by omega)), of_decide_eq_true (hall 1 (by omega))⟩ hno
     · exact ⟨rfl, hbel⟩)
 clear ha hb hno
 go_enter Try.func45, Try.ntmps45
 go_wp2_with fail
 refine (HR.out _ _ (fun j hj => by rcases (by omega : j = 0 ∨ j = 1) with rfl | rfl <;> go_simp)).mono ?_
 rintro e w1 ⟨rfl, hb1⟩
 have HB : Hid (Below w.heap.size w w1) := ((Below.refl _ _).alloc (Nat.le_refl _) _).trans (hb1.mono (by simp))
 clear hb1
 go_wp2
 go_ret2
 exact ⟨rfl, HB.out⟩
end

/- Sums of tame words: what is rounded off is told exactly. -/
section
theorem RN.twice {q x c : Rat} (h : RN q x) (h1 : q ≤ c) (h2 : -q ≤ c) : x ≤ 2 * c ∧ -x ≤ 2 * c := by
 obtain ⟨T, k, R⟩ := h
 have := R.best (y := 0) (c := c) F_zero (by grind) (by grind)
 constructor <;> grind
theorem fval_abs (b : Nat) : (fval b = fval (frung b) ∨ fval b = -fval (frung b)) := by
 have e1 : frung (frung b) = frung b := by unfold frung; omega
 have e2 : fneg (frung b) = false := by unfold fneg frung; simp
 rw [fval_eq b, fval_eq (frung b), e1, e2]
 generalize ((fmag (frung b) : Nat) : Rat) * p2 (fpl (frung b)) = z
 cases fneg b <;> simp [sgn1] <;> grind
theorem tame_top : fval 9110782046170513408 = p2 1000 := by
 rw [(fval_pos_lt (by omega)).1, show fmag 9110782046170513408 = 4503599627370496 by decide, show fpl 9110782046170513408 = 948 by decide]
 rw [show (1000 : Int) = 948 + ((52 : Nat) : Int) by omega, p2_add, p2_nat, Rat.mul_comm]
theorem tame_bound {a : Nat} (h : frung a ≤ 9110782046170513408) : fval a ≤ p2 1000 ∧ -fval a ≤ p2 1000 := by
 have h1 : fval (frung a) ≤ p2 1000 := by
   rw [← tame_top]
   rcases Nat.lt_or_ge (frung a) 9110782046170513408 with e | e
   · exact Rat.le_of_lt (fval_lt e (by omega))
   · rw [show frung a = 9110782046170513408 by omega]; exact Rat.le_refl
 have h2 := fval_nonneg (r := frung a) (by omega)
 rcases fval_abs a with e | e <;> rw [e] <;> constructor <;> grind
theorem lim_top : p2 1023 = 8388608 * p2 1000 := by
 rw [show (1023 : Int) = ((23 : Nat) : Int) + 1000 by omega, p2_add, p2_nat]; rfl
theorem twoSum_words {a b : Nat} (ha : frung a ≤ 9110782046170513408) (hb : frung b ≤ 9110782046170513408) :
   ∃ x fb fa lb la y, TwoSum a b x fb fa lb la y ∧ Fin64 x ∧ Fin64 y ∧ x < 18446744073709551616 ∧ y < 18446744073709551616 ∧ RV (fval a + fval b) (fval x) ∧ fval x + fval y = fval a + fval b := by
 have fa_ : Fin64 a := by unfold Fin64; omega
 have fb_ : Fin64 b := by unfold Fin64; omega
 have ba := tame_bound ha
 have bb := tame_bound hb
 have hc := p2_pos 1000
 have ht := lim_top
 generalize p2 1000 = c at *
 have lim : ∀ q : Rat, q ≤ 1000 * c → -q ≤ 1000 * c → Lim q := fun q h1 h2 => ⟨by rw [ht]; grind, by rw [ht]; grind⟩
 obtain ⟨x, s0, fx, lx, rx⟩ := add_bits fa_ fb_ (lim _ (by grind) (by grind))
 have bx := rx.rn.twice (c := 2 * c) (by grind) (by grind)
 obtain ⟨vb, s1, fvb, lvb, rvb⟩ := sub_bits fx fa_ (lim _ (by grind) (by grind))
 have bvb := rvb.rn.twice (c := 5 * c) (by grind) (by grind)
 obtain ⟨va, s2, fva, lva, rva⟩ := sub_bits fx fvb (lim _ (by grind) (by grind))
 have bva := rva.rn.twice (c := 14 * c) (by grind) (by grind)
 obtain ⟨lb, s3, flb, llb, rlb⟩ := sub_bits fb_ fvb (lim _ (by grind) (by grind))
 have blb := rlb.rn.twice (c := 11 * c) (by grind) (by grind)
 obtain ⟨la, s4, fla, lla, rla⟩ := sub_bits fa_ fva (lim _ (by grind) (by grind))
 have bla := rla.rn.twice (c := 29 * c) (by grind) (by grind)
 obtain ⟨y, s5, fy, ly, ry⟩ := add_bits fla flb (lim _ (by grind) (by grind))
 exact ⟨x, vb, va, lb, la, y, ⟨s0, s1, s2, s3, s4, s5⟩, fx, fy, lx, ly, rx, twoSum_exact (fc_word fa_) (fc_word fb_) (fc_word fx) rx.rn rvb.rn rva.rn rlb.rn rla.rn ry.rn⟩
end

/- Products of safe words: what is rounded off is told exactly. -/
section
theorem fc_norm {b : Nat} (hn : 9007199254740992 ≤ frung b) : ∃ m, FC (fval b) (frung b / 4503599627370496 - 1) m ∧ (4503599627370496 ≤ m ∨ m ≤ -4503599627370496) := by
 have hm := fmag_lt (frung b)
 have hm2 : 4503599627370496 ≤ fmag (frung b) := by unfold fmag; rw [if_neg (by omega)]; omega
 have c : FC ((fmag (frung b) : Nat) * p2 (fpl (frung b))) (frung b / 4503599627370496 - 1) (fmag (frung b) : Int) := by
   refine ⟨?_, by omega, by omega, Or.inr (Or.inl (by omega))⟩
   unfold U fpl
   rw [if_neg (by omega), show ((frung b / 4503599627370496 - 1 : Nat) : Int) - 1074 = -1074 + ((frung b / 4503599627370496 - 1 : Nat) : Int) by omega]; rfl
 rw [fval_eq]
 unfold sgn1
 cases fneg b
 · refine ⟨_, ?_, Or.inl (by omega : (4503599627370496 : Int) ≤ (fmag (frung b) : Int))⟩
   rw [if_neg (by decide), Rat.one_mul]; exact c
 · refine ⟨-(fmag (frung b) : Int), ?_, Or.inr (by omega)⟩
   rw [if_pos rfl]
   have := c.neg
   rwa [show -((fmag (frung b) : Nat) * p2 (fpl (frung b)) : Rat) = -1 * ((fmag (frung b) : Nat) * p2 (fpl (frung b))) by grind] at this
theorem safe_top : fval 6633802251116740608 = p2 450 := by
 rw [(fval_pos_lt (by omega)).1, show fmag 6633802251116740608 = 4503599627370496 by decide, show fpl 6633802251116740608 = 398 by decide]
 rw [show (450 : Int) = 398 + ((52 : Nat) : Int) by omega, p2_add, p2_nat, Rat.mul_comm]
theorem safe_bound {a : Nat} (h : SafeW (frung a)) : fval a ≤ p2 450 ∧ -fval a ≤ p2 450 := by
 have hr : frung a ≤ 6633802251116740608 := by unfold SafeW at h; omega
 have h1 : fval (frung a) ≤ p2 450 := by
   rw [← safe_top]
   rcases Nat.lt_or_ge (frung a) 6633802251116740608 with e | e
   · exact Rat.le_of_lt (fval_lt e (by omega))
   · rw [show frung a = 6633802251116740608 by omega]; exact Rat.le_refl
 have h2 := fval_nonneg (r := frung a) (by omega)
 rcases fval_abs a with e | e <;> rw [e] <;> constructor <;> grind
theorem split_const : fval 4728779608772575232 = 134217729 := by
 rw [(fval_pos_lt (by omega)).1, show fmag 4728779608772575232 = 4503599660924928 by decide, show fpl 4728779608772575232 = -((25 : Nat) : Int) by decide]
 have h := p2_neg ((25 : Nat) : Int)
 rw [p2_nat, show ((2 ^ 25 : Nat) : Rat) = 33554432 from rfl] at h
 rw [show ((4503599660924928 : Nat) : Rat) = 4503599660924928 from rfl]
 generalize p2 (-((25 : Nat) : Int)) = v at *
 grind
theorem halves_words {a : Nat} (h : SafeW (frung a)) :
   ∃ c d x y, Halves a c d x y ∧ Fin64 x ∧ Fin64 y ∧ x < 18446744073709551616 ∧ y < 18446744073709551616 ∧ (fval x < 4294967296 * p2 450 ∧ -(4294967296 * p2 450) < fval x) ∧ (fval y < 4294967296 * p2 450 ∧ -(4294967296 * p2 450) < fval y) ∧
     ((fval a = 0 ∧ fval x = 0 ∧ fval y = 0) ∨ (573 ≤ frung a / 4503599627370496 ∧ ∃ X Y, NH (fval a) (fval x) (fval y) (frung a / 4503599627370496 - 1) X Y)) := by
 have fa_ : Fin64 a := by unfold Fin64; unfold SafeW at h; omega
 have fk : Fin64 4728779608772575232 := by unfold Fin64 frung; decide
 have ba := safe_bound h
 have he := p2_pos 450
 have ht : 1099511627776 * p2 450 ≤ p2 1023 := by
   have : p2 490 = 1099511627776 * p2 450 := by rw [show (490 : Int) = ((40 : Nat) : Int) + 450 by omega, p2_add, p2_nat]; rfl
   rw [← this]; exact p2_mono (by omega)
 have hk := split_const
 have lim : ∀ q : Rat, q ≤ 549755813888 * p2 450 → -q ≤ 549755813888 * p2 450 → Lim q := fun q h1 h2 => ⟨by grind, by grind⟩
 generalize p2 450 = c0 at *
 obtain ⟨c, s0, fc, lc, rc⟩ := mul_bits fk fa_ (by rw [hk]; exact lim _ (by grind) (by grind))
 rw [hk] at rc
 have bc := rc.rn.twice (c := 134217729 * c0) (by grind) (by grind)
 obtain ⟨d, s1, fd, ld, rd⟩ := sub_bits fc fa_ (lim _ (by grind) (by grind))
 have bd := rd.rn.twice (c := 268435459 * c0) (by grind) (by grind)
 obtain ⟨x, s2, fx, lx, rx⟩ := sub_bits fc fd (lim _ (by grind) (by grind))
 have bx := rx.rn.twice (c := 805306376 * c0) (by grind) (by grind)
 obtain ⟨y, s3, fy, ly, ry⟩ := sub_bits fa_ fx (lim _ (by grind) (by grind))
 have bY := ry.rn.twice (c := 1610612753 * c0) (by grind) (by grind)
 refine ⟨c, d, x, y, ⟨s0, s1, s2, s3⟩, fx, fy, lx, ly, ⟨by grind, by grind⟩, ⟨by grind, by grind⟩, ?_⟩
 rcases h with h | h
 · left
   have a0 : fval a = 0 := fval_zero_iff.2 h
   have e1 := rc.rn.exact (by rw [a0, show (134217729 : Rat) * 0 = 0 by grind]; exact F_zero)
   rw [a0, show (134217729 : Rat) * 0 = 0 by grind] at e1
   have e2 := rd.rn.exact (by rw [a0, e1, show (0 : Rat) - 0 = 0 by grind]; exact F_zero)
   rw [a0, e1, show (0 : Rat) - 0 = 0 by grind] at e2
   have e3 := rx.rn.exact (by rw [e2, e1, show (0 : Rat) - 0 = 0 by grind]; exact F_zero)
   rw [e2, e1, show (0 : Rat) - 0 = 0 by grind] at e3
   have e4 := ry.rn.exact (by rw [a0, e3, show (0 : Rat) - 0 = 0 by grind]; exact F_zero)
   rw [a0, e3, show (0 : Rat) - 0 = 0 by grind] at e4
   exact ⟨a0, e3, e4⟩
 · right
   refine ⟨by omega, ?_⟩
   obtain ⟨m, hc, hm⟩ := fc_norm (b := a) (by omega)
   exact halves_nh hc hm rc.rn rd.rn rx.rn ry.rn
theorem U_mul (S1 S2 R : Nat) (h : S1 + S2 = R + 1074) : U S1 * U S2 = U R := by
 unfold U
 rw [← p2_add]; congr 1; omega
set_option maxHeartbeats 1000000 in
theorem prod_words {a b : Nat} (ha : SafeW (frung a)) (hb : SafeW (frung b)) :
   ∃ x a1 a2 b1 b2 p1 l1 q2 l2 p3 l3 p4 y c d c' d', Halves a c d a1 a2 ∧ Halves b c' d' b1 b2 ∧ TwoProd a b x a1 a2 b1 b2 p1 l1 q2 l2 p3 l3 p4 y ∧ Fin64 x ∧ Fin64 y ∧ x < 18446744073709551616 ∧ y < 18446744073709551616 ∧ RV (fval a * fval b) (fval x) ∧ fval x + fval y = fval a * fval b := by
 have fa_ : Fin64 a := by unfold Fin64; unfold SafeW at ha; omega
 have fb_ : Fin64 b := by unfold Fin64; unfold SafeW at hb; omega
 have ba := safe_bound ha
 have bb := safe_bound hb
 obtain ⟨c, d, a1, a2, H1, f1, f2, _, _, u1, u2, n1⟩ := halves_words ha
 obtain ⟨c', d', b1, b2, H2, g1, g2, _, _, v1, v2, n2⟩ := halves_words hb
 have he := p2_pos 450
 have ht : 1208925819614629174706176 * (p2 450 * p2 450) ≤ p2 1023 := by
   rw [← p2_add]
   have : p2 980 = 1208925819614629174706176 * p2 (450 + 450) := by rw [show (980 : Int) = ((80 : Nat) : Int) + (450 + 450) by omega, p2_add, p2_nat]; rfl
   rw [← this]; exact p2_mono (by omega)
 have hg : 0 < p2 450 * p2 450 := Rat.mul_pos he he
 have bnd : ∀ {s t : Rat}, s < 4294967296 * p2 450 → -(4294967296 * p2 450) < s → t < 4294967296 * p2 450 → -(4294967296 * p2 450) < t → s * t ≤ 18446744073709551616 * (p2 450 * p2 450) ∧ -(s * t) ≤ 18446744073709551616 * (p2 450 * p2 450) := by
   intro s t h1 h2 h3 h4
   have := abs_mul_lt h2 h1 h4 h3
   rw [show 4294967296 * p2 450 * (4294967296 * p2 450) = 18446744073709551616 * (p2 450 * p2 450) by grind] at this
   constructor <;> grind
 have w0 := bnd (s := fval a) (t := fval b) (by grind) (by grind) (by grind) (by grind)
 have w1 := bnd u1.1 u1.2 v1.1 v1.2
 have w2 := bnd u2.1 u2.2 v1.1 v1.2
 have w3 := bnd u1.1 u1.2 v2.1 v2.2
 have w4 := bnd u2.1 u2.2 v2.1 v2.2
 have lim : ∀ q : Rat, q ≤ 604462909807314587353088 * (p2 450 * p2 450) → -q ≤ 604462909807314587353088 * (p2 450 * p2 450) → Lim q := fun q h1 h2 => ⟨by grind, by grind⟩
 clear bnd ba bb u1 u2 v1 v2 ht he
 generalize p2 450 * p2 450 = g at *
 obtain ⟨x, s0, fx, lx, rx⟩ := mul_bits fa_ fb_ (lim _ (by grind) (by grind))
 have bx := rx.rn.twice (c := 18446744073709551616 * g) (by grind) (by grind)
 obtain ⟨p1, s1, fp1, _, r1⟩ := mul_bits f1 g1 (lim _ (by grind) (by grind))
 have k1 := r1.rn.twice (c := 18446744073709551616 * g) (by grind) (by grind)
 obtain ⟨l1, s2, fl1, _, r2⟩ := sub_bits fx fp1 (lim _ (by grind) (by grind))
 have k2 := r2.rn.twice (c := 73786976294838206464 * g) (by grind) (by grind)
 obtain ⟨q2, s3, fq2, _, r3⟩ := mul_bits f2 g1 (lim _ (by grind) (by grind))
 have k3 := r3.rn.twice (c := 18446744073709551616 * g) (by grind) (by grind)
 obtain ⟨l2, s4, fl2, _, r4⟩ := sub_bits fl1 fq2 (lim _ (by grind) (by grind))
 have k4 := r4.rn.twice (c := 295147905179352825856 * g) (by grind) (by grind)
 obtain ⟨p3, s5, fp3, _, r5⟩ := mul_bits f1 g2 (lim _ (by grind) (by grind))
 have k5 := r5.rn.twice (c := 18446744073709551616 * g) (by grind) (by grind)
 obtain ⟨l3, s6, fl3, _, r6⟩ := sub_bits fl2 fp3 (lim _ (by grind) (by grind))
 have k6 := r6.rn.twice (c := 1180591620717411303424 * g) (by grind) (by grind)
 obtain ⟨p4, s7, fp4, _, r7⟩ := mul_bits f2 g2 (lim _ (by grind) (by grind))
 have k7 := r7.rn.twice (c := 18446744073709551616 * g) (by grind) (by grind)
 obtain ⟨y, s8, fy, ly, r8⟩ := sub_bits fp4 fl3 (lim _ (by grind) (by grind))
 refine ⟨x, a1, a2, b1, b2, p1, l1, q2, l2, p3, l3, p4, y, c, d, c', d', H1, H2, ⟨s0, s1, s2, s3, s4, s5, s6, s7, s8⟩, fx, fy, lx, ly, rx, ?_⟩
 have zero : fval a * fval b = 0 → fval a1 * fval b1 = 0 → fval a2 * fval b1 = 0 → fval a1 * fval b2 = 0 → fval a2 * fval b2 = 0 → fval x + fval y = fval a * fval b := by
   intro z0 z1 z2 z3 z4
   rw [z0] at rx
   rw [z1] at r1
   rw [z2] at r3
   rw [z3] at r5
   rw [z4] at r7
   have o : (0 : Rat) - 0 = 0 := by grind
   have ex := rx.rn.exact F_zero
   have e1 := r1.rn.exact F_zero
   rw [ex, e1, o] at r2
   have e2 := r2.rn.exact F_zero
   have e3 := r3.rn.exact F_zero
   rw [e2, e3, o] at r4
   have e4 := r4.rn.exact F_zero
   have e5 := r5.rn.exact F_zero
   rw [e4, e5, o] at r6
   have e6 := r6.rn.exact F_zero
   have e7 := r7.rn.exact F_zero
   rw [e7, e6, o] at r8
   have e8 := r8.rn.exact F_zero
   rw [ex, e8, z0]; grind
 rcases n1 with ⟨z, z1, z2⟩ | ⟨i1, X1, Y1, N1⟩
 · exact zero (by rw [z]; grind) (by rw [z1]; grind) (by rw [z2]; grind) (by rw [z1]; grind) (by rw [z2]; grind)
 · rcases n2 with ⟨z, z1, z2⟩ | ⟨i2, X2, Y2, N2⟩
   · exact zero (by rw [z]; grind) (by rw [z1]; grind) (by rw [z1]; grind) (by rw [z2]; grind) (by rw [z2]; grind)
   · exact twoProd_core N1 N2 (U_mul _ _ (frung a / 4503599627370496 - 1 + (frung b / 4503599627370496 - 1) - 1074) (by omega)) rx.rn r1.rn r2.rn r3.rn r4.rn r5.rn r6.rn r7.rn r8.rn
end

/- awake: the examples. -/
section
open Go.RowKit
theorem ex1 : TwoSum 4845873199050653696 4607182418800017408 4845873199050653696 0 4845873199050653696 4607182418800017408 0 4607182418800017408 := ⟨by decide +kernel, by decide +kernel, by decide +kernel, by decide +kernel, by decide +kernel, by decide +kernel⟩
end

/- What Sum, Diff and Prod answer, and what follows of it. -/
section
open Go.RowKit
def Pair (dom : Prop) (q : Rat) (x y : Nat) : Prop :=
 Fin64 x ∧ Fin64 y ∧ x < 18446744073709551616 ∧ y < 18446744073709551616 ∧ ((dom ∧ RV q (fval x) ∧ fval x + fval y = q) ∨ (¬ dom ∧ x = 0 ∧ y = 0))
theorem pair_zero {dom : Prop} {q : Rat} (h : ¬ dom) : Pair dom q 0 0 := ⟨fin_zero, fin_zero, by omega, by omega, Or.inr ⟨h, rfl, rfl⟩⟩
theorem flip_lt {a : Nat} (h : a < 18446744073709551616) : fflip a < 18446744073709551616 := by unfold fflip; split <;> omega
theorem frung_flip {a : Nat} (h : a < 18446744073709551616) : frung (fflip a) = frung a := by unfold fflip frung; split <;> omega
theorem fval_flip {a : Nat} (h : a < 18446744073709551616) (hf : Fin64 a) : fval (fflip a) = -fval a := by
 unfold Fin64 frung at hf
 unfold fflip
 split
 · rename_i hs
   rw [Nat.add_comm]; exact fval_word (by omega)
 · rename_i hs
   obtain ⟨r, rfl⟩ : ∃ r, a = 9223372036854775808 + r := ⟨a - 9223372036854775808, by omega⟩
   rw [fval_word (by omega), show 9223372036854775808 + r - 9223372036854775808 = r by omega]; grind
def TameW (a b : Nat) : Prop := frung a ≤ 9110782046170513408 ∧ frung b ≤ 9110782046170513408
def SafeP (a b : Nat) : Prop := SafeW (frung a) ∧ SafeW (frung b)
theorem sum_pair (a b : Nat) (w : World) (ha : a < 18446744073709551616) (hb : b < 18446744073709551616) :
   Calls Try.prog 39 #[.float .f64 a, .float .f64 b] w fun e w' => (∃ x y, e = .returned (.tuple #[.float .f64 x, .float .f64 y]) ∧ Pair (TameW a b) (fval a + fval b) x y) ∧ Below w.heap.size w w' := by
 by_cases h : TameW a b
 · obtain ⟨x, fb, fa, lb, la, y, hs, fx, fy, lx, ly, hv, he⟩ := twoSum_words h.1 h.2
   refine (sum_yes a b x fb fa lb la y w ha hb h.1 h.2 hs).mono ?_
   rintro e w' ⟨rfl, hbel⟩
   exact ⟨⟨x, y, rfl, fx, fy, lx, ly, Or.inl ⟨h, hv, he⟩⟩, hbel⟩
 · refine (sum_no a b w ha hb h).mono ?_
   rintro e w' ⟨rfl, hbel⟩
   exact ⟨⟨0, 0, rfl, pair_zero h⟩, hbel⟩
theorem prod_pair (a b : Nat) (w : World) (ha : a < 18446744073709551616) (hb : b < 18446744073709551616) :
   Calls Try.prog 45 #[.float .f64 a, .float .f64 b] w fun e w' => (∃ x y, e = .returned (.tuple #[.float .f64 x, .float .f64 y]) ∧ Pair (SafeP a b) (fval a * fval b) x y) ∧ Below w.heap.size w w' := by
 by_cases h : SafeP a b
 · obtain ⟨x, a1, a2, b1, b2, p1, l1, q2, l2, p3, l3, p4, y, c, d, c', d', H1, H2, hs, fx, fy, lx, ly, hv, he⟩ := prod_words h.1 h.2
   refine (prod_yes a b x a1 a2 b1 b2 p1 l1 q2 l2 p3 l3 p4 y c d c' d' w ha hb h.1 h.2 H1 H2 hs).mono ?_
   rintro e w' ⟨rfl, hbel⟩
   exact ⟨⟨x, y, rfl, fx, fy, lx, ly, Or.inl ⟨h, hv, he⟩⟩, hbel⟩
 · refine (prod_no a b w ha hb h).mono ?_
   rintro e w' ⟨rfl, hbel⟩
   exact ⟨⟨0, 0, rfl, pair_zero h⟩, hbel⟩
end

/- The lowest bit of a float, as package expand tells it. -/
section
open Go.RowKit
theorem land_pred (t m : Nat) : (2 ^ t * (2 * m + 1)) &&& (2 ^ t * (2 * m + 1) - 1) = 2 ^ t * (2 * m) := by
 induction t with
 | zero =>
   rw [Nat.pow_zero, Nat.one_mul, Nat.one_mul, show 2 * m + 1 - 1 = 2 * m by omega]
   apply Nat.eq_of_testBit_eq
   intro i
   rw [Nat.testBit_and]
   cases i with
   | zero => simp [Nat.testBit_zero]
   | succ i => rw [Nat.testBit_succ, Nat.testBit_succ, show (2 * m + 1) / 2 = m by omega, show 2 * m / 2 = m by omega]; simp
 | succ t ih =>
   have hp : 0 < 2 ^ t * (2 * m + 1) := Nat.mul_pos (Nat.two_pow_pos t) (by omega)
   have e1 : 2 ^ (t + 1) * (2 * m + 1) = 2 * (2 ^ t * (2 * m + 1)) := by rw [Nat.pow_succ]; grind
   have e2 : 2 ^ (t + 1) * (2 * m) = 2 * (2 ^ t * (2 * m)) := by rw [Nat.pow_succ]; grind
   rw [e1, e2, ← ih]
   generalize 2 ^ t * (2 * m + 1) = a at *
   apply Nat.eq_of_testBit_eq
   intro i
   rw [Nat.testBit_and]
   cases i with
   | zero => simp [Nat.testBit_zero]
   | succ i => rw [Nat.testBit_succ, Nat.testBit_succ, Nat.testBit_succ, show 2 * a / 2 = a by omega, show (2 * a - 1) / 2 = a - 1 by omega, show 2 * (a &&& (a - 1)) / 2 = a &&& (a - 1) by omega, Nat.testBit_and]
theorem low_bit {n : Nat} (h : n ≠ 0) : ∃ t m, n = 2 ^ t * (2 * m + 1) := by
 induction n using Nat.strongRecOn with
 | ind n ih =>
   by_cases ho : n % 2 = 1
   · exact ⟨0, n / 2, by rw [Nat.pow_zero, Nat.one_mul]; omega⟩
   · obtain ⟨t, m, e⟩ := ih (n / 2) (by omega) (by omega)
     exact ⟨t + 1, m, by rw [Nat.pow_succ]; have : n = 2 * (n / 2) := by omega
                         rw [this, e]; grind⟩
theorem frac_bit {b : Nat} (hf : b % 4503599627370496 ≠ 0) : ∃ t m, t < 52 ∧ b = 2 ^ t * (2 * m + 1) ∧ b % 4503599627370496 = 2 ^ t * ((2 * m + 1) % 2 ^ (52 - t)) ∧ 2 ^ t ≤ b % 4503599627370496 := by
 obtain ⟨t, m, e⟩ := low_bit (n := b) (by omega)
 have ht : t < 52 := by
   rcases Nat.lt_or_ge t 52 with h | h
   · exact h
   · exfalso
     obtain ⟨j, rfl⟩ : ∃ j, t = 52 + j := ⟨t - 52, by omega⟩
     rw [Nat.pow_add, show (2 : Nat) ^ 52 = 4503599627370496 from rfl, Nat.mul_assoc] at e
     rw [e, Nat.mul_mod_right] at hf
     exact hf rfl
 have e52 : 4503599627370496 = 2 ^ t * 2 ^ (52 - t) := by rw [← Nat.pow_add, show t + (52 - t) = 52 by omega]
 have em : b % 4503599627370496 = 2 ^ t * ((2 * m + 1) % 2 ^ (52 - t)) := by
   rw [e52, e, Nat.mul_mod_mul_left]
 refine ⟨t, m, ht, e, em, ?_⟩
 rw [em]
 have : (2 * m + 1) % 2 ^ (52 - t) ≠ 0 := by
   intro h0
   rw [em, h0] at hf
   exact hf (by simp)
 have := Nat.mul_le_mul_left (2 ^ t) (Nat.pos_of_ne_zero this)
 omega
theorem frung_cut {b t : Nat} (h : 2 ^ t ≤ b % 4503599627370496) : frung (b - 2 ^ t) = frung b - 2 ^ t ∧ fneg (b - 2 ^ t) = fneg b ∧ fpl (frung b - 2 ^ t) = fpl (frung b) ∧ fmag (frung b - 2 ^ t) = fmag (frung b) - 2 ^ t ∧ 2 ^ t ≤ fmag (frung b) := by
 generalize 2 ^ t = x at *
 unfold frung fneg fpl fmag
 refine ⟨by omega, ?_, ?_, ?_, ?_⟩
 · rw [show (b - x) / 9223372036854775808 = b / 9223372036854775808 by omega]
 · split <;> split <;> omega
 · split <;> split <;> omega
 · split <;> omega
def LB (b l : Nat) : Prop := l < 9218868437227405312 ∧ ((frung b = 0 ∧ l = 0) ∨ (frung b ≠ 0 ∧ ∃ (L : Nat) (m : Int), fval l = U L ∧ fval b = (m : Rat) * U L ∧ m % 2 = 1))
theorem sgn_odd {b : Nat} {m : Nat} {L : Nat} (h : ((fmag (frung b) : Nat) : Rat) * p2 (fpl (frung b)) = ((2 * m + 1 : Nat) : Rat) * U L) : ∃ k : Int, fval b = (k : Rat) * U L ∧ k % 2 = 1 := by
 rw [fval_eq, h]
 unfold sgn1
 cases fneg b
 · exact ⟨(2 * m + 1 : Nat), by rw [if_neg (by decide)]; show 1 * (((2 * m + 1 : Nat) : Rat) * U L) = ((2 * m + 1 : Nat) : Rat) * U L; grind, by omega⟩
 · refine ⟨-((2 * m + 1 : Nat) : Int), ?_, by omega⟩
   rw [if_pos rfl, Rat.intCast_neg]
   show -1 * (((2 * m + 1 : Nat) : Rat) * U L) = -((2 * m + 1 : Nat) : Rat) * U L
   grind
theorem fpl_U (r : Nat) : ∃ P : Nat, p2 (fpl r) = U P := by
 refine ⟨(fpl r + 1074).toNat, ?_⟩
 unfold U
 rw [show (((fpl r + 1074).toNat : Nat) : Int) - 1074 = fpl r by unfold fpl; split <;> omega]
set_option maxHeartbeats 1000000 in
theorem lowest_pow (b : Nat) (w : World) (hb : b < 18446744073709551616) (h0 : b % 4503599627370496 = 0) : Calls Try.prog 43 #[.float .f64 b] w fun e w' => e = .returned (.float .f64 (frung b)) ∧ w' = w := by
 have r1 := run_bits b
 have h1 : bits .and .u64 (b : Int) 4503599627370495 = 0 := by
   rw [show (4503599627370495 : Int) = ((4503599627370495 : Nat) : Int) from rfl, u64_and_nat b _ hb (by omega), show (4503599627370495 : Nat) = 2 ^ 52 - 1 by decide, Nat.and_two_pow_sub_one_eq_mod, show (2 : Nat) ^ 52 = 4503599627370496 from rfl, h0]; rfl
 have HA : Hid (∀ w, Calls Try.prog 42 #[.float .f64 b] w fun e w' => e = .returned (.float .f64 (frung b)) ∧ w' = w) := fun w => abs_any b w hb
 clear h0 hb
 go_enter Try.func43, Try.ntmps43
 go_wp2_with fail
 refine (HA.out _).mono ?_
 rintro e w1 ⟨rfl, rfl⟩
 go_wp2
 go_ret
 exact ⟨rfl, rfl⟩
set_option maxHeartbeats 1000000 in
theorem lowest_frac (b c d : Nat) (w : World) (hb : b < 18446744073709551616) (h0 : b % 4503599627370496 ≠ 0) (hc : b &&& (b - 1) = c) (hd : floatBits .sub .f64 b c = some d) (hdl : d < 18446744073709551616) : Calls Try.prog 43 #[.float .f64 b] w fun e w' => e = .returned (.float .f64 (frung d)) ∧ w' = w := by
 have r1 := run_bits b
 have r2 := run_frombits c
 have h1 : (bits .and .u64 (b : Int) 4503599627370495 == 0) = false := by
   rw [show (4503599627370495 : Int) = ((4503599627370495 : Nat) : Int) from rfl, u64_and_nat b _ hb (by omega), show (4503599627370495 : Nat) = 2 ^ 52 - 1 by decide, Nat.and_two_pow_sub_one_eq_mod, show (2 : Nat) ^ 52 = 4503599627370496 from rfl]
   rw [beq_eq_false_iff_ne]; omega
 have hb1 : (1 : Int) ≤ (b : Int) := by omega
 have hbl : (b : Int) < 18446744073709551616 := by omega
 have h2 : bits .and .u64 (b : Int) ((b : Int) - 1) = (c : Int) := by
   rw [show (b : Int) - 1 = ((b - 1 : Nat) : Int) by omega, u64_and_nat b _ hb (by omega), hc]
 have rs : ∀ w, (binOp .sub 24 (.float .f64 b) (.float .f64 c)).run Try.prog w = .ok (.float .f64 d) w := fun w => run_float_arith w .sub _ .f64 _ _ _ hd
 have HA : Hid (∀ w, Calls Try.prog 42 #[.float .f64 d] w fun e w' => e = .returned (.float .f64 (frung d)) ∧ w' = w) := fun w => abs_any d w hdl
 clear h0 hb hc hd hdl
 go_enter Try.func43, Try.ntmps43
 go_wp2_with fail
 refine (HA.out _).mono ?_
 rintro e w1 ⟨rfl, rfl⟩
 go_wp2
 go_ret
 exact ⟨rfl, rfl⟩
theorem lowestE_any (b : Nat) (w : World) (hb : b < 18446744073709551616) (hf : Fin64 b) : Calls Try.prog 43 #[.float .f64 b] w fun e w' => (∃ l, e = .returned (.float .f64 l) ∧ LB b l) ∧ w' = w := by
 have hfr : frung b < 9218868437227405312 := hf
 by_cases h0 : b % 4503599627370496 = 0
 · refine (lowest_pow b w hb h0).mono ?_
   rintro e w' ⟨rfl, rfl⟩
   refine ⟨⟨_, rfl, hfr, ?_⟩, rfl⟩
   by_cases hz : frung b = 0
   · exact Or.inl ⟨hz, hz⟩
   · right
     refine ⟨hz, ?_⟩
     have hm : fmag (frung b) = 4503599627370496 := by unfold fmag; unfold frung at *; split <;> omega
     obtain ⟨P, hP⟩ := fpl_U (frung b)
     have e1 : ((fmag (frung b) : Nat) : Rat) * p2 (fpl (frung b)) = U (P + 52) := by rw [hP, hm, U_52]; rfl
     have hv : fval (frung b) = U (P + 52) := by rw [(fval_pos_lt hfr).1]; exact e1
     obtain ⟨k, hk1, hk2⟩ := sgn_odd (b := b) (m := 0) (L := P + 52) (by rw [e1, show ((2 * 0 + 1 : Nat) : Rat) = 1 from rfl]; grind)
     exact ⟨P + 52, k, hv, hk1, hk2⟩
 · obtain ⟨t, m, ht, e1, e2, e3⟩ := frac_bit h0
   have hc : b &&& (b - 1) = b - 2 ^ t := by
     conv => lhs; rw [e1]
     rw [land_pred, e1]
     have : 2 ^ t * (2 * m + 1) = 2 ^ t * (2 * m) + 2 ^ t := by grind
     omega
   obtain ⟨c1, c2, c3, c4, c5⟩ := frung_cut e3
   obtain ⟨P, hP⟩ := fpl_U (frung b)
   have hle : 2 ^ t ≤ frung b := by unfold frung; omega
   have fc : Fin64 (b - 2 ^ t) := by unfold Fin64; rw [c1]; exact Nat.lt_of_le_of_lt (Nat.sub_le _ _) hfr
   have hd : fval b - fval (b - 2 ^ t) = sgn1 (fneg b) * U (P + t) := by
     have e5 : ((fmag (frung b) : Nat) : Rat) = ((fmag (frung b) - 2 ^ t : Nat) : Rat) + ((2 ^ t : Nat) : Rat) := by rw [← Rat.natCast_add, Nat.sub_add_cancel c5]
     rw [fval_eq b, fval_eq (b - 2 ^ t), c1, c2, c3, c4, hP, U_add, e5]
     grind
   have hF : F (fval b - fval (b - 2 ^ t)) := by
     rw [hd]
     unfold sgn1
     cases fneg b
     · exact ⟨P + t, 1, by rw [if_neg (by decide), one_rat], by omega, by omega⟩
     · exact ⟨P + t, -1, by rw [if_pos rfl]; rfl, by omega, by omega⟩
   have hlim : Lim (fval b - fval (b - 2 ^ t)) := by
     rw [hd]
     have hPb : P + t ≤ 2096 := by
       have h1 : p2 (fpl (frung b)) = U P := hP
       unfold U at h1
       have h2 : fpl (frung b) = (P : Int) - 1074 := by
         have a := (p2_le_iff (a := fpl (frung b)) (b := (P : Int) - 1074)).1 (by rw [h1]; exact Rat.le_refl)
         have b := (p2_le_iff (b := fpl (frung b)) (a := (P : Int) - 1074)).1 (by rw [h1]; exact Rat.le_refl)
         omega
       unfold fpl at h2
       split at h2 <;> omega
     have h1 : U (P + t) < p2 1023 := by unfold U; exact p2_lt (by omega)
     have h2 := U_pos (P + t)
     unfold sgn1
     cases fneg b
     · rw [if_neg (by decide)]; exact ⟨by grind, by grind⟩
     · rw [if_pos rfl]; exact ⟨by grind, by grind⟩
   obtain ⟨d, d1, d2, d3, d4⟩ := sub_bits hf fc hlim
   have dv : fval d = sgn1 (fneg b) * U (P + t) := by rw [← hd]; exact d4.rn.exact hF
   refine (lowest_frac b (b - 2 ^ t) d w hb h0 hc d1 d3).mono ?_
   rintro e w' ⟨rfl, rfl⟩
   refine ⟨⟨_, rfl, d2, Or.inr ⟨by unfold frung; omega, ?_⟩⟩, rfl⟩
   have hv : fval (frung d) = U (P + t) := by
     have h1 := fval_nonneg (r := frung d) d2
     have h2 := U_pos (P + t)
     have hs : sgn1 (fneg b) = 1 ∨ sgn1 (fneg b) = -1 := by unfold sgn1; split <;> simp
     rcases fval_abs d with e | e <;> rcases hs with hs | hs <;> rw [hs] at dv <;> grind
   have hodd : ∃ j, fmag (frung b) = 2 ^ t * (2 * j + 1) := by
     have hfm : fmag (frung b) = b % 4503599627370496 ∨ fmag (frung b) = 4503599627370496 + b % 4503599627370496 := by
       unfold fmag frung; split <;> omega
     have e52 : 4503599627370496 = 2 ^ t * (2 * 2 ^ (51 - t)) := by rw [← Nat.pow_succ', ← Nat.pow_add, show t + (51 - t).succ = 52 by omega]
     have hmod : ∃ j, (2 * m + 1) % 2 ^ (52 - t) = 2 * j + 1 := by
       refine ⟨(2 * m + 1) % 2 ^ (52 - t) / 2, ?_⟩
       have : (2 * m + 1) % 2 ^ (52 - t) % 2 = 1 := by
         rw [Nat.mod_mod_of_dvd _ (by rw [show 52 - t = (51 - t) + 1 by omega, Nat.pow_succ]; exact Nat.dvd_mul_left _ _)]; omega
       omega
     obtain ⟨j, hj⟩ := hmod
     rcases hfm with h | h
     · exact ⟨j, by rw [h, e2, hj]⟩
     · exact ⟨2 ^ (51 - t) + j, by rw [h, e2, hj, e52]; grind⟩
   obtain ⟨j, hj⟩ := hodd
   obtain ⟨k, hk1, hk2⟩ := sgn_odd (b := b) (m := j) (L := P + t) (by rw [hj, hP, U_add, Rat.natCast_mul]; grind)
   exact ⟨P + t, k, hv, hk1, hk2⟩
end
end Go.Proofs.Ytjcdbbdbmcbjpaa
