/- Own texts, put together: Of Og Oh Oi Oj On Gg Kc Oo. -/
import Derived.Test.YtocnkgfoffpbfaaGreatDoorQ4
import Derived.Test.YtocnkgfoffpbfaaGreatDoorQ23
import Derived.Test.YtocnkgfoffpbfaaGreatDoorQ24
import Derived.Test.YtocnkgfoffpbfaaGreatDoorQ25
namespace Go.Proofs.YtocnkgfoffpbfaaGreatDoor
/- Package orient: grown, differences as lists. -/
section
open Go.RowKit Go.Shelf
attribute [local go_sem ↓] Go.wp_at_zero Go.wp_at_succ
attribute [local go_sem] run_store_float
def pl (y x : Nat) (k : Nat) : List Nat := if k = 0 then [] else if k = 1 then gw [] y else gw (gw [] y) x
end

/- Package orient: exactSign, Sign. -/
section
open Go.RowKit Go.Shelf
attribute [local go_sem ↓] Go.wp_at_zero Go.wp_at_succ
attribute [local go_sem] run_store_float
noncomputable def sg3 (ax ay bx by' cx cy : Nat) : Int := @ite _ (P3 ax ay bx by' cx cy) (Classical.propDecidable _) (sgq (S3 ax ay bx by' cx cy)) 0
theorem sg3_yes {ax ay bx by' cx cy : Nat} (h : P3 ax ay bx by' cx cy) : sg3 ax ay bx by' cx cy = sgq (S3 ax ay bx by' cx cy) := by unfold sg3; rw [if_pos h]
theorem sg3_no {ax ay bx by' cx cy : Nat} (h : ¬ P3 ax ay bx by' cx cy) : sg3 ax ay bx by' cx cy = 0 := by unfold sg3; rw [if_neg h]
end

/- Package orient: On, Cross. -/
section
open Go.RowKit Go.Shelf
attribute [local go_sem ↓] Go.wp_at_zero Go.wp_at_succ
attribute [local go_sem] run_store_float
def Btw (a b x : Rat) : Prop := (a ≤ x ∧ x ≤ b) ∨ (b ≤ x ∧ x ≤ a)
def OnP (ax ay bx by' px py : Nat) : Prop := P3 ax ay bx by' px py ∧ Btw (fval ax) (fval bx) (fval px) ∧ Btw (fval ay) (fval by') (fval py) ∧ S3 ax ay bx by' px py = 0
theorem sgq_zero {q : Rat} : sgq q = 0 ↔ q = 0 := by
 unfold sgq
 constructor
 · intro h
   split at h
   · omega
   · split at h
     · assumption
     · omega
 · intro h
   rw [h]; rfl
end

/- Package orient: Cross. -/
section
open Go.RowKit Go.Shelf
end

/- Which points may be, by reckoning. -/
section
theorem den_one {q : Rat} : q.den = 1 ↔ ∃ k : Int, q = (k : Rat) := by
 constructor
 · intro h
   refine ⟨q.num, ?_⟩
   apply Rat.ext
   · simp
   · simp [h]
 · rintro ⟨k, rfl⟩
   simp
theorem crd_iff (x : Nat) : Crd x ↔ frung x ≤ 5057542381537067008 ∧ (fval x * U 1174).den = 1 := by
 unfold Crd
 rw [den_one, ← M_one, steps_one]
instance (x : Nat) : Decidable (Crd x) := decidable_of_iff _ (crd_iff x).symm
instance (x y : Nat) : Decidable (Pt x y) := by unfold Pt; exact inferInstance
instance (ax ay bx by' cx cy : Nat) : Decidable (P3 ax ay bx by' cx cy) := by unfold P3; exact inferInstance
instance (a b x : Rat) : Decidable (Btw a b x) := by unfold Btw; exact inferInstance
instance (ax ay bx by' cx cy : Nat) : Decidable (OnP ax ay bx by' cx cy) := by unfold OnP; exact inferInstance
theorem sg3_is {ax ay bx by' cx cy : Nat} {z : Int} (h : P3 ax ay bx by' cx cy ∧ sgq (S3 ax ay bx by' cx cy) = z) : sg3 ax ay bx by' cx cy = z := by rw [sg3_yes h.1]; exact h.2
end

/- The document's side of layer 4: which points may be. -/
section
open Go.RowKit Go.Shelf
attribute [local go_sem] run_store_float
theorem odd_unit {q : Rat} {l m : Int} (h : q = (m : Rat) * p2 l) (hm : m % 2 = 1) : -100 ≤ l ↔ M (U 974) q := by
 have e974 : U 974 = p2 (-100) := rfl
 rw [e974]
 constructor
 · intro hl
   refine ⟨m * ((2 ^ (l + 100).toNat : Nat) : Int), ?_⟩
   rw [h, Rat.intCast_mul, show (((2 ^ (l + 100).toNat : Nat) : Int) : Rat) = ((2 ^ (l + 100).toNat : Nat) : Rat) from rfl, ← p2_nat, Rat.mul_assoc, ← p2_add, show (((l + 100).toNat : Nat) : Int) + -100 = l by omega]
 · rintro ⟨k, hk⟩
   apply Classical.byContradiction
   intro hn
   obtain ⟨j, hj⟩ : ∃ j : Nat, -100 = l + 1 + (j : Int) := ⟨(-101 - l).toNat, by omega⟩
   have e : p2 (-100) = 2 * ((2 ^ j : Nat) : Rat) * p2 l := by
     rw [hj, p2_add, p2_add, p2_nat, p2_one]; grind
   rw [e] at hk
   have h2 : (m : Rat) * p2 l = ((k * (2 * ((2 ^ j : Nat) : Int)) : Int) : Rat) * p2 l := by
     rw [← h, hk, Rat.intCast_mul, Rat.intCast_mul, show (((2 ^ j : Nat) : Int) : Rat) = ((2 ^ j : Nat) : Rat) from rfl, show ((2 : Int) : Rat) = 2 from rfl]
     grind
   have h3 := int_eq (p2_pos l) h2
   have h4 : k * (2 * ((2 ^ j : Nat) : Int)) = 2 * (k * ((2 ^ j : Nat) : Int)) := by
     rw [← Int.mul_assoc, Int.mul_comm k 2, Int.mul_assoc]
   rw [h4] at h3
   omega
theorem crd_top {x : Nat} (hf : Fin64 x) : frung x ≤ 5057542381537067008 ↔ ab (fval x) ≤ U 1174 := by
 constructor
 · exact crd_ab
 · intro h
   rcases Nat.lt_or_ge 5057542381537067008 (frung x) with h1 | h1
   · exfalso
     have f : frung x < 9218868437227405312 := hf
     have := fval_lt h1 f
     rw [top100, ab_fval x hf] at this
     grind
   · exact h1
theorem sgq_nonpos {q : Rat} : sgq q ≤ 0 ↔ q ≤ 0 := by
 unfold sgq
 constructor
 · intro h
   split at h
   · grind
   · split at h
     · grind
     · omega
 · intro h
   split
   · omega
   · split
     · omega
     · grind
set_option maxRecDepth 100000 in
set_option maxHeartbeats 2000000 in
theorem coord_any (x : Nat) (w : World) (hx : x < 18446744073709551616) : Calls Tryz.prog 106 #[.float .f64 x] w fun e w' => (∃ t, e = .returned (.bool t) ∧ (t = true ↔ Crd x)) ∧ Below w.heap.size w w' := by
 rcases Nat.lt_trichotomy (frung x) 9218868437227405312 with hf | hf | hf
 · have fx : Fin64 x := hf
   obtain ⟨z, hz1, hz2⟩ := self_sub fx
   have rs : ∀ w, (binOp .sub 22 (.float .f64 x) (.float .f64 x)).run Tryz.prog w = .ok (.float .f64 z) w := fun w => run_float_arith w .sub _ .f64 _ _ _ hz1
   have q0 := order_nan_self fx
   have q1 := eql_zero2 x
   have HX : Hid (x < 18446744073709551616 ∧ Fin64 x) := ⟨hx, fx⟩
   clear hz1 hx hf fx
   by_cases h0 : frung x = 0
   · rw [decide_eq_true h0] at q1
     have HC : Hid (Crd x) := ⟨by omega, by rw [fval_zero_iff.2 h0]; exact M_zero _⟩
     clear h0
     go_enter Tryz.func106, Tryz.ntmps106
     go_wp2
     go_ret
     exact ⟨⟨true, rfl, fun _ => HC.out, fun _ => rfl⟩, Below.refl _ _⟩
   · rw [decide_eq_false h0] at q1
     have HN0 : Hid (fval x ≠ 0) := fun h => h0 (fval_zero_iff.1 h)
     clear h0
     go_enter Tryz.func106, Tryz.ntmps106
     go_wp2_with fail
     refine (refOf_any x _ HX.out.1).mono ?_
     rintro e w1 ⟨v1, rfl, hr1, hb1⟩
     obtain ⟨S1, a1, n1, c1, E1, rfl⟩ := hr1.agg
     rw [den_fin HX.out.2] at hr1
     have HB1 : Hid (Below w.heap.size w w1) := hb1
     have R1 : Hid (Rf w1 (.agg #[.int .i64 S1, .slice a1 n1 c1, .int .i64 E1]) (fval x)) := hr1
     have HFT : Hid (Fit (fval x)) := by have := den_Fit x; rwa [den_fin HX.out.2] at this
     clear hr1 hb1 rs q0 hz2
     have HAL : Hid (Below w1.heap.size w1 (w1.alloc (.cells #[.int .i64 S1, .slice a1 n1 c1, .int .i64 E1] 58))) := (Below.refl _ w1).alloc (Nat.le_refl _) _
     go_wp2_with fail
     refine (abs_rf _ (fval x) _ (R1.out.later HAL.out)).mono ?_
     rintro e w2 ⟨v2, rfl, hr2, hb2⟩
     have HB2 : Hid (Below w1.heap.size w1 w2) := below_step HAL.out hb2
     have R2 : Hid (Rf w2 v2 (if fval x < 0 then -fval x else fval x)) := hr2
     have X2 : Hid (BoxN w2 w1.heap.size S1 (.slice a1 n1 c1) E1) := (BoxN.new w1 S1 E1 (.slice a1 n1 c1)).later hb2
     clear hr2 hb2
     go_wp2_with fail
     refine (power_walk 1 100 _ (by omega) (by omega) (by omega)).mono ?_
     rintro e w3 ⟨v3, rfl, hr3, hb3⟩
     have R3 : Hid (Rf w3 v3 (((1 : Nat) : Rat) * p2 100) ∧ Rf w3 v2 (if fval x < 0 then -fval x else fval x)) := ⟨hr3, R2.out.later hb3⟩
     have HB3 : Hid (Below w1.heap.size w1 w3) := below_step HB2.out hb3
     have X3 : Hid (BoxN w3 w1.heap.size S1 (.slice a1 n1 c1) E1) := X2.out.later hb3
     clear hr3 hb3 R2 X2
     obtain ⟨A, hA⟩ : ∃ A, Hid (sgq ((if fval x < 0 then -fval x else fval x) - ((1 : Nat) : Rat) * p2 100) = A) := ⟨_, rfl⟩
     have HA : Hid (A ≤ 0 ↔ frung x ≤ 5057542381537067008) := by
       show A ≤ 0 ↔ _
       rw [← hA.out, sgq_nonpos, crd_top HX.out.2, show U 1174 = p2 100 from rfl, show ((1 : Nat) : Rat) = 1 from rfl]
       show ab (fval x) - 1 * p2 100 ≤ 0 ↔ ab (fval x) ≤ p2 100
       constructor <;> intro h <;> grind
     have HF1 : Hid (Fit (if fval x < 0 then -fval x else fval x)) := by
       show Fit _
       split
       · exact HFT.out.neg
       · exact HFT.out
     go_wp2_with fail
     refine (cmp_is _ _ (if fval x < 0 then -fval x else fval x) (((1 : Nat) : Rat) * p2 100) A _ R3.out.2 R3.out.1 HF1.out (pow_fit 1 100 (by omega) (by omega) (by omega)) hA.out).mono ?_
     rintro e w4 ⟨rfl, hb4⟩
     have HB4 : Hid (Below w1.heap.size w1 w4) := below_step HB3.out hb4
     obtain ⟨x0, x1, x2, _, _⟩ := (X3.out.later hb4).cells
     clear hb4 R3 X3
     by_cases hA0 : A ≤ 0
     · go_wp2_with fail
       refine (low_rf _ (fval x) _ (R1.out.later HB4.out) HN0.out HFT.out).mono ?_
       rintro e w5 ⟨⟨l, m, rfl, hl, hm⟩, hb5⟩
       have HB5 : Hid (Below w.heap.size w w5) := below_step (below_step HB1.out HB4.out) hb5
       have HR : Hid (-100 ≤ l ↔ Crd x) := by
         show -100 ≤ l ↔ Crd x
         rw [odd_unit hl hm]
         exact ⟨fun h => ⟨HA.out.1 hA0, h⟩, fun h => h.2⟩
       clear hl hm hb5 x0 x1 x2
       go_wp2
       go_ret
       exact ⟨⟨decide (-100 ≤ l), rfl, by rw [decide_eq_true_iff]; exact HR.out⟩, HB5.out⟩
     · have dA : decide (A ≤ 0) = false := decide_eq_false hA0
       have HR : Hid (¬ Crd x) := fun h => hA0 (HA.out.2 h.1)
       have HB5 : Hid (Below w.heap.size w w4) := below_step HB1.out HB4.out
       clear hA0 x0 x1 x2
       go_wp2
       go_ret
       exact ⟨⟨false, rfl, fun h => Bool.noConfusion h, fun h => absurd h HR.out⟩, HB5.out⟩
 · have HN : Hid (¬ Crd x) := fun h => by have := h.1; omega
   have hx2 : x = 9218868437227405312 ∨ x = 18442240474082181120 := by unfold frung at hf; omega
   have q0 : FloatKind.f64.format.order x x = some .eq := by rcases hx2 with rfl | rfl <;> decide +kernel
   have h2 : floatBits .sub .f64 x x = none := by rcases hx2 with rfl | rfl <;> decide +kernel
   clear hx2
   have rs := run_sub_nan x x h2
   have h3 : ∀ w, FloatKind.f64.format.order (nanW x x w) 0 = none := fun w => nan_order (nanW_nan x x w).1 0
   clear h2 hf hx
   go_enter Tryz.func106, Tryz.ntmps106
   go_wp2
   go_ret
   exact ⟨⟨false, rfl, fun h => Bool.noConfusion h, fun h => absurd h HN.out⟩, (Below.refl _ _).drew⟩
 · have HN : Hid (¬ Crd x) := fun h => by have := h.1; omega
   have q0 : FloatKind.f64.format.order x x = none := order_nan_left hf
   clear hf hx
   go_enter Tryz.func106, Tryz.ntmps106
   go_wp2
   go_ret
   exact ⟨⟨false, rfl, fun h => Bool.noConfusion h, fun h => absurd h HN.out⟩, Below.refl _ _⟩
set_option maxRecDepth 100000 in
set_option maxHeartbeats 1000000 in
theorem may_any (x y : Nat) (w : World) (hw : x < 18446744073709551616 ∧ y < 18446744073709551616) : Calls Tryz.prog 72 #[pv x y] w fun e w' => (∃ t, e = .returned (.bool t) ∧ (t = true ↔ Pt x y)) ∧ Below w.heap.size w w' := by
 have HW : Hid (x < 18446744073709551616 ∧ y < 18446744073709551616) := hw
 have HAL : Hid (Below w.heap.size w (w.alloc (.cells #[.float .f64 x, .float .f64 y] 24))) := (Below.refl _ w).alloc (Nat.le_refl _) _
 clear hw
 go_enter Tryz.func72, Tryz.ntmps72
 go_wp2_with fail
 refine (coord_any x _ HW.out.1).mono ?_
 rintro e w1 ⟨⟨t, rfl, ht⟩, hb1⟩
 have d1 : w1.cell? ⟨w.heap.size, 1, none⟩ = some (.float .f64 y) := box_cell hb1 (by go_simp)
 have HB1 : Hid (Below w.heap.size w w1) := below_step HAL.out hb1
 have HT : Hid (t = true ↔ Crd x) := ht
 clear ht hb1
 cases t
 · go_wp2
   go_ret
   exact ⟨⟨false, rfl, fun h => Bool.noConfusion h, fun h => Bool.noConfusion (HT.out.2 h.1)⟩, HB1.out⟩
 · have HX : Hid (Crd x) := HT.out.1 rfl
   go_wp2_with fail
   refine (coord_any y _ HW.out.2).mono ?_
   rintro e w2 ⟨⟨t, rfl, ht⟩, hb2⟩
   have HB2 : Hid (Below w.heap.size w w2) := below_step HB1.out hb2
   have HR : Hid (t = true ↔ Pt x y) := by
     show t = true ↔ _
     rw [ht]
     exact ⟨fun h => ⟨HX.out, h⟩, fun h => h.2⟩
   clear ht hb2 d1
   go_wp2
   go_ret
   exact ⟨⟨t, rfl, HR.out⟩, HB2.out⟩
end

/- Numbers of any size with their cells; boxes that are written anew. -/
section
open Go.RowKit Go.Shelf
def NumO (w w' : World) (q : Rat) (e : Ending) : Prop := ∃ a n c l g o, e = .returned (.agg #[.slice a n c, .int .i64 l, .bool g, .bool o]) ∧ IsNum w' (.agg #[.slice a n c, .int .i64 l, .bool g, .bool o]) (some q) ∧ Below w.heap.size w w'
def PlO (w w' : World) (x y : Rat) (e : Ending) : Prop := ∃ a n c l g o a' n' c' l' g' o', e = .returned (.agg #[.slice a n c, .int .i64 l, .bool g, .bool o, .slice a' n' c', .int .i64 l', .bool g', .bool o']) ∧ IsNum w' (.agg #[.slice a n c, .int .i64 l, .bool g, .bool o]) (some x) ∧ IsNum w' (.agg #[.slice a' n' c', .int .i64 l', .bool g', .bool o']) (some y) ∧ Below w.heap.size w w'
theorem opr_num {w w' : World} {R : Option Rat → Prop} {e : Ending} {q : Rat} (h : OpR w w' R e) (hR : ∀ x, R x → x = some q) : NumO w w' q e := by
 obtain ⟨v, x, rfl, hn, hr, hb⟩ := h
 obtain ⟨a, n, c, l, g, o, rfl, hn⟩ := isNum_form hn
 have := hR x hr
 subst this
 exact ⟨a, n, c, l, g, o, rfl, hn, hb⟩
theorem addQ {w : World} {va vb : Value} {p q : Rat} (ha : IsNum w va (some p)) (hb : IsNum w vb (some q)) (hT : Tab w) (hm : May (p + q)) : Calls Tryz.prog 108 #[va, vb] w fun e w' => NumO w w' (p + q) e :=
 (add_any va vb _ _ w ha hb hT).mono fun _ _ h => opr_num h fun _ hx => op2_may hx hm
theorem subQ {w : World} {va vb : Value} {p q : Rat} (ha : IsNum w va (some p)) (hb : IsNum w vb (some q)) (hT : Tab w) (hm : May (p - q)) : Calls Tryz.prog 101 #[va, vb] w fun e w' => NumO w w' (p - q) e :=
 (sub_any va vb _ _ w ha hb hT).mono fun _ _ h => opr_num h fun _ hx => op2_may hx hm
theorem mulQ {w : World} {va vb : Value} {p q : Rat} (ha : IsNum w va (some p)) (hb : IsNum w vb (some q)) (hT : Tab w) (hm : May (p * q)) : Calls Tryz.prog 86 #[va, vb] w fun e w' => NumO w w' (p * q) e :=
 (mul_any va vb _ _ w ha hb hT).mono fun _ _ h => opr_num h fun _ hx => op2_may hx hm
theorem negQ {w : World} {va : Value} {p : Rat} (ha : IsNum w va (some p)) : Calls Tryz.prog 44 #[va] w fun e w' => NumO w w' (-p) e :=
 (neg_any va _ w ha).mono fun _ _ h => opr_num h fun _ hx => hx
theorem shiftQ {w : World} {va : Value} {p : Rat} (ha : IsNum w va (some p)) (hm : May (2 * p)) : Calls Tryz.prog 46 #[va, .int .i64 1] w fun e w' => NumO w w' (2 * p) e := by
 have e : p * p2 1 = 2 * p := by rw [p2_one]; grind
 exact (shift_any va _ 1 w ha).mono fun _ _ h => opr_num h fun _ hx => by rw [← e]; exact shiftX_may hx (by rw [e]; exact hm)
theorem ofQ {w : World} {b : Nat} (hb : b < 18446744073709551616) (hf : Fin64 b) (hT : Tab w) : Calls Tryz.prog 45 #[.float .f64 b] w fun e w' => NumO w w' (fval b) e :=
 (ofW_any b w hT hb).mono fun _ _ h => opr_num h fun _ hx => by rw [hx]; exact if_pos hf
theorem cmpR_sgq (p q : Rat) : cmpR p q = sgq (p - q) := by
 unfold cmpR sgq
 by_cases h : p < q
 · rw [if_pos h, if_pos (by grind : p - q < 0)]
 · rw [if_neg h, if_neg (by grind : ¬ p - q < 0)]
   by_cases h2 : q < p
   · rw [if_pos h2, if_neg (by grind : ¬ p - q = 0)]
   · rw [if_neg h2, if_pos (by grind : p - q = 0)]
theorem cmpQ {w : World} {va vb : Value} {p q : Rat} (ha : IsNum w va (some p)) (hb : IsNum w vb (some q)) : Calls Tryz.prog 30 #[va, vb] w fun e w' => e = .returned (.int .i64 (sgq (p - q))) ∧ Below w.heap.size w w' := by
 have := cmp_any va vb _ _ w ha hb
 rwa [show CmpX (some p) (some q) = sgq (p - q) from cmpR_sgq p q] at this
theorem signQ {w : World} {va : Value} {p : Rat} (ha : IsNum w va (some p)) : Calls Tryz.prog 37 #[va] w fun e w' => e = .returned (.int .i64 (sgq p)) ∧ Below w.heap.size w w' := by
 have := sign_any va _ w ha
 rwa [show sgnR ((some p).getD 0) = sgq p by
   show cmpR p 0 = sgq p
   rw [cmpR_sgq]; congr 1; grind] at this
def NoU (v : Value) : Prop := ∀ n : Nat, v ≠ .int .u64 (n : Nat)
theorem noU_sl (a : Option Addr) (n c : Nat) : NoU (.slice a n c) := fun _ h => by cases h
theorem noU_int (l : Int) : NoU (.int .i64 l) := fun _ h => by cases h
theorem noU_b (b : Bool) : NoU (.bool b) := fun _ h => by cases h
def Sets (W : World) (b : Nat) (l : List (Nat × Value)) : World := l.foldl (fun W p => W.setCell ⟨b, p.1, none⟩ p.2) W
theorem Sets.cb_other {b g t : Nat} {cs : Array Value} (hn : g ≠ b) : ∀ (l : List (Nat × Value)) {W : World}, CB W g cs t → CB (Sets W b l) g cs t
 | [], _, h => h
 | p :: l, W, h => Sets.cb_other hn l (W := W.setCell ⟨b, p.1, none⟩ p.2) (h.other hn p.2)
theorem Sets.cb {b t : Nat} : ∀ (l : List (Nat × Value)) {W : World} {cs : Array Value}, CB W b cs t → CB (Sets W b l) b (l.foldl (fun cs p => cs.set! p.1 p.2) cs) t
 | [], _, _, h => h
 | p :: l, W, _, h => Sets.cb l (W := W.setCell ⟨b, p.1, none⟩ p.2) (h.set p.1 p.2)
theorem Sets.below {N b : Nat} {w : World} (hn : N ≤ b) : ∀ (l : List (Nat × Value)) {W : World}, Below N w W → Below N w (Sets W b l)
 | [], _, h => h
 | p :: l, W, h => Sets.below hn l (W := W.setCell ⟨b, p.1, none⟩ p.2) (h.setCell hn p.2)
theorem Sets.tab {b : Nat} (hn : b ≠ 1) : ∀ (l : List (Nat × Value)) {W : World}, Tab W → Tab (Sets W b l)
 | [], _, h => h
 | p :: l, W, h => Sets.tab hn l (W := W.setCell ⟨b, p.1, none⟩ p.2) (tab_set h _ _ hn)
theorem Sets.num {b t : Nat} {v : Value} {x : Option Rat} : ∀ (l : List (Nat × Value)) {W : World} {cs : Array Value}, CB W b cs t → (∀ (i : Nat) (u : Value), cs[i]? = some u → NoU u) → (∀ p ∈ l, p.1 < cs.size ∧ NoU p.2) → IsNum W v x → IsNum (Sets W b l) v x
 | [], _, _, _, _, _, h => h
 | p :: l, W, cs, hc, hn, hl, h => by
   have hp := hl p (by simp)
   refine Sets.num l (W := W.setCell ⟨b, p.1, none⟩ p.2) (hc.set p.1 p.2) ?_ ?_ ?_
   · intro i u hu
     simp only [Array.set!_eq_setIfInBounds, Array.getElem?_setIfInBounds] at hu
     split at hu
     · split at hu
       · cases hu; exact hp.2
       · cases hu
     · exact hn i u hu
   · intro q hq
     have := hl q (by simp [hq])
     simpa using this
   · obtain ⟨a', ns, c', low', neg', nn', rfl, hw, hr⟩ := h
     refine ⟨a', ns, c', low', neg', nn', rfl, ?_, hr⟩
     exact hw.set (hc.cell p.1 hp.1) (hn p.1 _ (by simp [hp.1])) p.2
theorem Sets.cell {b g i : Nat} {x : Value} (hn : g ≠ b) : ∀ (l : List (Nat × Value)) {W : World}, W.cell? ⟨g, i, none⟩ = some x → (Sets W b l).cell? ⟨g, i, none⟩ = some x
 | [], _, h => h
 | p :: l, W, h => Sets.cell hn l (W := W.setCell ⟨b, p.1, none⟩ p.2) (by rw [World.cell?_setCell_other _ _ _ p.2 (by intro e; cases e; exact hn rfl)]; exact h)
theorem Sets.size {b : Nat} : ∀ (l : List (Nat × Value)) (W : World), (Sets W b l).heap.size = W.heap.size
 | [], _ => rfl
 | p :: l, W => by
   have := Sets.size l (W.setCell ⟨b, p.1, none⟩ p.2) (b := b)
   rw [show Sets W b (p :: l) = Sets (W.setCell ⟨b, p.1, none⟩ p.2) b l from rfl, this]
   simp
structure NB (W : World) (b : Nat) (q : Rat) : Prop where
 box : ∃ a n c l g o, CB W b #[.slice a n c, .int .i64 l, .bool g, .bool o] 49 ∧ IsNum W (.agg #[.slice a n c, .int .i64 l, .bool g, .bool o]) (some q)
theorem NB.later {W W' : World} {b : Nat} {q : Rat} (h : NB W b q) (hb : Below W.heap.size W W') : NB W' b q := by
 obtain ⟨⟨a, n, c, l, g, o, h1, h2⟩⟩ := h
 exact ⟨⟨a, n, c, l, g, o, h1.later hb, h2.later hb⟩⟩
structure Kept (w w' : World) (g : Nat) : Prop where
 num : ∀ v x, IsNum w v x → IsNum w' v x
 cb : ∀ b cs t, b ≠ g → CB w b cs t → CB w' b cs t
 cell : ∀ b i x, b ≠ g → w.cell? ⟨b, i, none⟩ = some x → w'.cell? ⟨b, i, none⟩ = some x
 bel : ∀ N v, N ≤ g → N ≤ w.heap.size → Below N v w → Below N v w'
 tab : g ≠ 1 → Tab w → Tab w'
theorem Kept.nb {w w' : World} {g b : Nat} {q : Rat} (k : Kept w w' g) (h : NB w b q) (hn : b ≠ g) : NB w' b q := by
 obtain ⟨⟨a, n, c, l, g, o, h1, h2⟩⟩ := h
 exact ⟨⟨a, n, c, l, g, o, k.cb _ _ _ hn h1, k.num _ _ h2⟩⟩
theorem Kept.later {w w1 w' : World} {g : Nat} (k : Kept w w1 g) (hb : Below w1.heap.size w1 w') (hs : w.heap.size ≤ w1.heap.size) : Kept w w' g :=
 ⟨fun _ _ h => (k.num _ _ h).later hb, fun _ _ _ hn h => (k.cb _ _ _ hn h).later hb, fun _ _ _ hn h => box_cell hb (k.cell _ _ _ hn h), fun _ _ h1 h2 h => (k.bel _ _ h1 h2 h).trans (hb.mono (Nat.le_trans h2 hs)), fun h1 h2 => (k.tab h1 h2).later hb⟩
theorem Kept.of_below {w w1 : World} {g : Nat} (hb : Below w.heap.size w w1) : Kept w w1 g :=
 ⟨fun _ _ h => h.later hb, fun _ _ _ _ h => h.later hb, fun _ _ _ _ h => box_cell hb h, fun _ _ _ h2 h => h.trans (hb.mono h2), fun _ h2 => h2.later hb⟩
theorem Kept.trans {w w1 w2 : World} {g : Nat} (k : Kept w w1 g) (k2 : Kept w1 w2 g) (hs : w.heap.size ≤ w1.heap.size) : Kept w w2 g :=
 ⟨fun _ _ h => k2.num _ _ (k.num _ _ h), fun _ _ _ hn h => k2.cb _ _ _ hn (k.cb _ _ _ hn h), fun _ _ _ hn h => k2.cell _ _ _ hn (k.cell _ _ _ hn h), fun _ _ h1 h2 h => k2.bel _ _ h1 (Nat.le_trans h2 hs) (k.bel _ _ h1 h2 h), fun h1 h2 => k2.tab h1 (k.tab h1 h2)⟩
theorem Sets.kept {W : World} {b t : Nat} {cs : Array Value} (l : List (Nat × Value)) (hc : CB W b cs t) (hn : ∀ (i : Nat) (u : Value), cs[i]? = some u → NoU u) (hl : ∀ p ∈ l, p.1 < cs.size ∧ NoU p.2) : Kept W (Sets W b l) b :=
 ⟨fun _ _ h => Sets.num l hc hn hl h, fun _ _ _ hn h => Sets.cb_other hn l h, fun _ _ _ hn h => Sets.cell hn l h, fun _ _ h1 _ h => Sets.below h1 l h, fun h1 h2 => Sets.tab h1 l h2⟩
theorem noU4 (a : Option Addr) (n c : Nat) (l : Int) (g o : Bool) : ∀ (i : Nat) (u : Value), (#[Value.slice a n c, .int .i64 l, .bool g, .bool o])[i]? = some u → NoU u := by
 intro i u h
 rcases i with _ | _ | _ | _ | i
 · cases h; exact noU_sl _ _ _
 · cases h; exact noU_int _
 · cases h; exact noU_b _
 · cases h; exact noU_b _
 · simp at h
theorem noU8 (a : Option Addr) (n c : Nat) (l : Int) (g o : Bool) (a' : Option Addr) (n' c' : Nat) (l' : Int) (g' o' : Bool) : ∀ (i : Nat) (u : Value), (#[Value.slice a n c, .int .i64 l, .bool g, .bool o, .slice a' n' c', .int .i64 l', .bool g', .bool o'])[i]? = some u → NoU u := by
 intro i u h
 rcases i with _ | _ | _ | _ | _ | _ | _ | _ | i
 · cases h; exact noU_sl _ _ _
 · cases h; exact noU_int _
 · cases h; exact noU_b _
 · cases h; exact noU_b _
 · cases h; exact noU_sl _ _ _
 · cases h; exact noU_int _
 · cases h; exact noU_b _
 · cases h; exact noU_b _
 · simp at h
def put4 (k : Nat) (a : Option Addr) (n c : Nat) (l : Int) (g o : Bool) : List (Nat × Value) := [(k, .slice a n c), (k + 1, .int .i64 l), (k + 2, .bool g), (k + 3, .bool o)]
theorem put4_ok {k m : Nat} {a : Option Addr} {n c : Nat} {l : Int} {g o : Bool} (hk : k + 4 ≤ m) : ∀ p ∈ put4 k a n c l g o, p.1 < m ∧ NoU p.2 := by
 intro p hp
 simp only [put4, List.mem_cons, List.mem_nil_iff, or_false] at hp
 rcases hp with rfl | rfl | rfl | rfl
 · exact ⟨by show k < m; omega, noU_sl _ _ _⟩
 · exact ⟨by show k + 1 < m; omega, noU_int _⟩
 · exact ⟨by show k + 2 < m; omega, noU_b _⟩
 · exact ⟨by show k + 3 < m; omega, noU_b _⟩
theorem NB.put {W : World} {b : Nat} {q p : Rat} {a : Option Addr} {n c : Nat} {l : Int} {g o : Bool} (h : NB W b q) (hn : IsNum W (.agg #[.slice a n c, .int .i64 l, .bool g, .bool o]) (some p)) : NB (Sets W b (put4 0 a n c l g o)) b p ∧ Kept W (Sets W b (put4 0 a n c l g o)) b := by
 obtain ⟨⟨a', n', c', l', g', o', h1, h2⟩⟩ := h
 have k := Sets.kept (put4 0 a n c l g o) h1 (noU4 _ _ _ _ _ _) (put4_ok (by simp))
 refine ⟨⟨⟨a, n, c, l, g, o, ?_, k.num _ _ hn⟩⟩, k⟩
 have := Sets.cb (put4 0 a n c l g o) h1
 simpa [put4] using this
theorem NB.cells {W : World} {b : Nat} {q : Rat} (h : NB W b q) : ∃ a n c l g o, (W.cell? ⟨b, 0, none⟩ = some (.slice a n c) ∧ W.cell? ⟨b, 1, none⟩ = some (.int .i64 l) ∧ W.cell? ⟨b, 2, none⟩ = some (.bool g) ∧ W.cell? ⟨b, 3, none⟩ = some (.bool o)) ∧ IsNum W (.agg #[.slice a n c, .int .i64 l, .bool g, .bool o]) (some q) ∧ ∀ i, W.frozen? ⟨b, i, none⟩ = false := by
 obtain ⟨⟨a, n, c, l, g, o, h1, h2⟩⟩ := h
 exact ⟨a, n, c, l, g, o, ⟨h1.cell 0 (by simp), h1.cell 1 (by simp), h1.cell 2 (by simp), h1.cell 3 (by simp)⟩, h2, h1.frozen⟩
theorem NB.lt {W : World} {b : Nat} {q : Rat} (h : NB W b q) : b < W.heap.size := by
 obtain ⟨⟨a, n, c, l, g, o, h1, h2⟩⟩ := h
 exact h1.lt
theorem NB.zero (W : World) : NB (W.alloc (.cells #[.slice none 0 0, .int .i64 0, .bool false, .bool false] 49)) W.heap.size 0 :=
 ⟨⟨none, 0, 0, 0, false, false, CB.new W _ _, isNum_zero _⟩⟩
theorem NB.drew {W : World} {b : Nat} {q : Rat} (h : NB W b q) : NB W.drew b q := h.later (Below.refl _ W).drew
structure PB (W : World) (b : Nat) (x y : Rat) : Prop where
 box : ∃ a n c l g o a' n' c' l' g' o', CB W b #[.slice a n c, .int .i64 l, .bool g, .bool o, .slice a' n' c', .int .i64 l', .bool g', .bool o'] 52 ∧ IsNum W (.agg #[.slice a n c, .int .i64 l, .bool g, .bool o]) (some x) ∧ IsNum W (.agg #[.slice a' n' c', .int .i64 l', .bool g', .bool o']) (some y)
theorem PB.later {W W' : World} {b : Nat} {x y : Rat} (h : PB W b x y) (hb : Below W.heap.size W W') : PB W' b x y := by
 obtain ⟨⟨a, n, c, l, g, o, a', n', c', l', g', o', h1, h2, h3⟩⟩ := h
 exact ⟨⟨a, n, c, l, g, o, a', n', c', l', g', o', h1.later hb, h2.later hb, h3.later hb⟩⟩
theorem PB.drew {W : World} {b : Nat} {x y : Rat} (h : PB W b x y) : PB W.drew b x y := h.later (Below.refl _ W).drew
theorem PB.lt {W : World} {b : Nat} {x y : Rat} (h : PB W b x y) : b < W.heap.size := by
 obtain ⟨⟨a, n, c, l, g, o, a', n', c', l', g', o', h1, h2, h3⟩⟩ := h
 exact h1.lt
theorem Kept.pb {w w' : World} {g b : Nat} {x y : Rat} (k : Kept w w' g) (h : PB w b x y) (hn : b ≠ g) : PB w' b x y := by
 obtain ⟨⟨a, n, c, l, g, o, a', n', c', l', g', o', h1, h2, h3⟩⟩ := h
 exact ⟨⟨a, n, c, l, g, o, a', n', c', l', g', o', k.cb _ _ _ hn h1, k.num _ _ h2, k.num _ _ h3⟩⟩
theorem PB.put0 {W : World} {b : Nat} {x y p : Rat} {a : Option Addr} {n c : Nat} {l : Int} {g o : Bool} (h : PB W b x y) (hn : IsNum W (.agg #[.slice a n c, .int .i64 l, .bool g, .bool o]) (some p)) : PB (Sets W b (put4 0 a n c l g o)) b p y ∧ Kept W (Sets W b (put4 0 a n c l g o)) b := by
 obtain ⟨⟨a1, n1, c1, l1, g1, o1, a', n', c', l', g', o', h1, h2, h3⟩⟩ := h
 have k := Sets.kept (put4 0 a n c l g o) h1 (noU8 _ _ _ _ _ _ _ _ _ _ _ _) (put4_ok (by simp))
 refine ⟨⟨⟨a, n, c, l, g, o, a', n', c', l', g', o', ?_, k.num _ _ hn, k.num _ _ h3⟩⟩, k⟩
 have := Sets.cb (put4 0 a n c l g o) h1
 simpa [put4] using this
theorem PB.put1 {W : World} {b : Nat} {x y p : Rat} {a : Option Addr} {n c : Nat} {l : Int} {g o : Bool} (h : PB W b x y) (hn : IsNum W (.agg #[.slice a n c, .int .i64 l, .bool g, .bool o]) (some p)) : PB (Sets W b (put4 4 a n c l g o)) b x p ∧ Kept W (Sets W b (put4 4 a n c l g o)) b := by
 obtain ⟨⟨a1, n1, c1, l1, g1, o1, a', n', c', l', g', o', h1, h2, h3⟩⟩ := h
 have k := Sets.kept (put4 4 a n c l g o) h1 (noU8 _ _ _ _ _ _ _ _ _ _ _ _) (put4_ok (by simp))
 refine ⟨⟨⟨a1, n1, c1, l1, g1, o1, a, n, c, l, g, o, ?_, k.num _ _ h2, k.num _ _ hn⟩⟩, k⟩
 have := Sets.cb (put4 4 a n c l g o) h1
 simpa [put4] using this
theorem PB.put {W : World} {b : Nat} {x y p q : Rat} {a : Option Addr} {n c : Nat} {l : Int} {g o : Bool} {a' : Option Addr} {n' c' : Nat} {l' : Int} {g' o' : Bool} (h : PB W b x y) (hn : IsNum W (.agg #[.slice a n c, .int .i64 l, .bool g, .bool o]) (some p)) (hm : IsNum W (.agg #[.slice a' n' c', .int .i64 l', .bool g', .bool o']) (some q)) :
   PB (Sets (Sets W b (put4 0 a n c l g o)) b (put4 4 a' n' c' l' g' o')) b p q ∧ Kept W (Sets (Sets W b (put4 0 a n c l g o)) b (put4 4 a' n' c' l' g' o')) b ∧ IsNum (Sets (Sets W b (put4 0 a n c l g o)) b (put4 4 a' n' c' l' g' o')) (.agg #[.slice a n c, .int .i64 l, .bool g, .bool o]) (some p) ∧ IsNum (Sets (Sets W b (put4 0 a n c l g o)) b (put4 4 a' n' c' l' g' o')) (.agg #[.slice a' n' c', .int .i64 l', .bool g', .bool o']) (some q) ∧
     CB (Sets (Sets W b (put4 0 a n c l g o)) b (put4 4 a' n' c' l' g' o')) b #[.slice a n c, .int .i64 l, .bool g, .bool o, .slice a' n' c', .int .i64 l', .bool g', .bool o'] 52 := by
 obtain ⟨h1, k1⟩ := h.put0 hn
 obtain ⟨h2, k2⟩ := h1.put1 (k1.num _ _ hm)
 have k := k1.trans k2 (by rw [Sets.size]; exact Nat.le_refl _)
 refine ⟨h2, k, k.num _ _ hn, k.num _ _ hm, ?_⟩
 obtain ⟨⟨a1, n1, c1, l1, g1, o1, a2, n2, c2, l2, g2, o2, e1, _, _⟩⟩ := h
 have := Sets.cb (put4 4 a' n' c' l' g' o') (Sets.cb (put4 0 a n c l g o) e1)
 simpa [put4] using this
theorem PB.cells {W : World} {b : Nat} {x y : Rat} (h : PB W b x y) : ∃ a n c l g o a' n' c' l' g' o', (W.cell? ⟨b, 0, none⟩ = some (.slice a n c) ∧ W.cell? ⟨b, 1, none⟩ = some (.int .i64 l) ∧ W.cell? ⟨b, 2, none⟩ = some (.bool g) ∧ W.cell? ⟨b, 3, none⟩ = some (.bool o) ∧ W.cell? ⟨b, 4, none⟩ = some (.slice a' n' c') ∧ W.cell? ⟨b, 5, none⟩ = some (.int .i64 l') ∧ W.cell? ⟨b, 6, none⟩ = some (.bool g') ∧ W.cell? ⟨b, 7, none⟩ = some (.bool o')) ∧ IsNum W (.agg #[.slice a n c, .int .i64 l, .bool g, .bool o]) (some x) ∧ IsNum W (.agg #[.slice a' n' c', .int .i64 l', .bool g', .bool o']) (some y) ∧ ∀ i, W.frozen? ⟨b, i, none⟩ = false := by
 obtain ⟨⟨a, n, c, l, g, o, a', n', c', l', g', o', h1, h2, h3⟩⟩ := h
 exact ⟨a, n, c, l, g, o, a', n', c', l', g', o', ⟨h1.cell 0 (by simp), h1.cell 1 (by simp), h1.cell 2 (by simp), h1.cell 3 (by simp), h1.cell 4 (by simp), h1.cell 5 (by simp), h1.cell 6 (by simp), h1.cell 7 (by simp)⟩, h2, h3, h1.frozen⟩
theorem PB.zero (W : World) : PB (W.alloc (.cells #[.slice none 0 0, .int .i64 0, .bool false, .bool false, .slice none 0 0, .int .i64 0, .bool false, .bool false] 52)) W.heap.size 0 0 :=
 ⟨⟨none, 0, 0, 0, false, false, none, 0, 0, 0, false, false, CB.new W _ _, isNum_zero _, isNum_zero _⟩⟩
def NF (W : World) (v : Value) (q : Rat) : Prop := ∃ a n c l g o, v = .agg #[.slice a n c, .int .i64 l, .bool g, .bool o] ∧ IsNum W (.agg #[.slice a n c, .int .i64 l, .bool g, .bool o]) (some q)
theorem NF.later {W W' : World} {v : Value} {q : Rat} (h : NF W v q) (hb : Below W.heap.size W W') : NF W' v q := by
 obtain ⟨a, n, c, l, g, o, h1, h2⟩ := h
 exact ⟨a, n, c, l, g, o, h1, h2.later hb⟩
def PF (W : World) (v : Value) (x y : Rat) : Prop := ∃ a n c l g o a' n' c' l' g' o', v = .agg #[.slice a n c, .int .i64 l, .bool g, .bool o, .slice a' n' c', .int .i64 l', .bool g', .bool o'] ∧ IsNum W (.agg #[.slice a n c, .int .i64 l, .bool g, .bool o]) (some x) ∧ IsNum W (.agg #[.slice a' n' c', .int .i64 l', .bool g', .bool o']) (some y)
theorem PF.later {W W' : World} {v : Value} {x y : Rat} (h : PF W v x y) (hb : Below W.heap.size W W') : PF W' v x y := by
 obtain ⟨a, n, c, l, g, o, a', n', c', l', g', o', h1, h2, h3⟩ := h
 exact ⟨a, n, c, l, g, o, a', n', c', l', g', o', h1, h2.later hb, h3.later hb⟩
theorem NB.put' {W : World} {b : Nat} {q p : Rat} {a : Option Addr} {n c : Nat} {l : Int} {g o : Bool} (h : NB W b q) (hn : IsNum W (.agg #[.slice a n c, .int .i64 l, .bool g, .bool o]) (some p)) : NB (Sets W b (put4 0 a n c l g o)) b p ∧ Kept W (Sets W b (put4 0 a n c l g o)) b ∧ IsNum (Sets W b (put4 0 a n c l g o)) (.agg #[.slice a n c, .int .i64 l, .bool g, .bool o]) (some p) ∧ CB (Sets W b (put4 0 a n c l g o)) b #[.slice a n c, .int .i64 l, .bool g, .bool o] 49 := by
 obtain ⟨h1, k⟩ := h.put hn
 refine ⟨h1, k, k.num _ _ hn, ?_⟩
 obtain ⟨⟨a', n', c', l', g', o', e1, _⟩⟩ := h
 have := Sets.cb (put4 0 a n c l g o) e1
 simpa [put4] using this
theorem Tab.lt {w : World} (h : Tab w) : 1 < w.heap.size := World.block_lt_of_cell? _ _ (h 0 (by decide))
theorem Kept.fresh {w w1 w2 : World} {g r : Nat} (k : Kept w w1 g) (k2 : Kept w1 w2 r) (hr : w.heap.size ≤ r) (hs : w.heap.size ≤ w1.heap.size) : Kept w w2 g :=
 ⟨fun _ _ h => k2.num _ _ (k.num _ _ h), fun _ _ _ hn h => k2.cb _ _ _ (by have := h.lt; omega) (k.cb _ _ _ hn h), fun _ _ _ hn h => k2.cell _ _ _ (by have := World.block_lt_of_cell? _ _ h; simp at this; omega) (k.cell _ _ _ hn h), fun _ _ h1 h2 h => k2.bel _ _ (Nat.le_trans h2 hr) (Nat.le_trans h2 hs) (k.bel _ _ h1 h2 h), fun h1 h2 => k2.tab (by have := h2.lt; omega) (k.tab h1 h2)⟩
end

/- The document's side of layer 6: may. -/
section
open Go.RowKit Go.Shelf
attribute [local go_sem] run_store_float
set_option maxRecDepth 100000 in
set_option maxHeartbeats 4000000 in
theorem may3_ref (ax ay bx by' cx cy b c : Nat) (w : World) (hw : ax < 18446744073709551616 ∧ ay < 18446744073709551616 ∧ bx < 18446744073709551616 ∧ by' < 18446744073709551616 ∧ cx < 18446744073709551616 ∧ cy < 18446744073709551616) (hc : w.cell? ⟨b, 0, none⟩ = some (.float .f64 ax) ∧ w.cell? ⟨b, 1, none⟩ = some (.float .f64 ay) ∧ w.cell? ⟨b, 2, none⟩ = some (.float .f64 bx) ∧ w.cell? ⟨b, 3, none⟩ = some (.float .f64 by') ∧ w.cell? ⟨b, 4, none⟩ = some (.float .f64 cx) ∧ w.cell? ⟨b, 5, none⟩ = some (.float .f64 cy)) :
   Calls Tryz.prog 31 #[.slice (some ⟨b, 0, none⟩) 3 c] w fun e w' => (∃ t, e = .returned (.bool t) ∧ (t = true ↔ Pt ax ay ∧ Pt bx by' ∧ Pt cx cy)) ∧ Below w.heap.size w w' := by
 have HW : Hid (ax < 18446744073709551616 ∧ ay < 18446744073709551616 ∧ bx < 18446744073709551616 ∧ by' < 18446744073709551616 ∧ cx < 18446744073709551616 ∧ cy < 18446744073709551616) := hw
 have HC : Hid (w.cell? ⟨b, 0, none⟩ = some (.float .f64 ax) ∧ w.cell? ⟨b, 1, none⟩ = some (.float .f64 ay) ∧ w.cell? ⟨b, 2, none⟩ = some (.float .f64 bx) ∧ w.cell? ⟨b, 3, none⟩ = some (.float .f64 by') ∧ w.cell? ⟨b, 4, none⟩ = some (.float .f64 cx) ∧ w.cell? ⟨b, 5, none⟩ = some (.float .f64 cy)) := hc
 clear hw hc
 go_enter Tryz.func31, Tryz.ntmps31
 go_wp2_with fail
 go_loopw [3] (fun i wr => ((i = .int .i64 0 ∧ Hid (True)) ∨ (i = .int .i64 1 ∧ Hid (Pt ax ay)) ∨ (i = .int .i64 2 ∧ Hid (Pt ax ay ∧ Pt bx by')) ∨ (i = .int .i64 3 ∧ Hid (Pt ax ay ∧ Pt bx by' ∧ Pt cx cy))) ∧ Hid (wr.cell? ⟨b, 0, none⟩ = some (.float .f64 ax) ∧ wr.cell? ⟨b, 1, none⟩ = some (.float .f64 ay) ∧ wr.cell? ⟨b, 2, none⟩ = some (.float .f64 bx) ∧ wr.cell? ⟨b, 3, none⟩ = some (.float .f64 by') ∧ wr.cell? ⟨b, 4, none⟩ = some (.float .f64 cx) ∧ wr.cell? ⟨b, 5, none⟩ = some (.float .f64 cy) ∧ Below w.heap.size w wr)) (fun i _ => 3 - (intOf i).toNat)
 case atStart => exact ⟨Or.inl ⟨rfl, trivial⟩, HC.out.1, HC.out.2.1, HC.out.2.2.1, HC.out.2.2.2.1, HC.out.2.2.2.2.1, HC.out.2.2.2.2.2, Below.refl _ w⟩
 case round =>
   obtain ⟨hcase, hB⟩ := hrel
   clear HC
   have k0 := hB.out.1
   have k1 := hB.out.2.1
   have k2 := hB.out.2.2.1
   have k3 := hB.out.2.2.2.1
   have k4 := hB.out.2.2.2.2.1
   have k5 := hB.out.2.2.2.2.2.1
   rcases hcase with ⟨rfl, hp⟩ | ⟨rfl, hp⟩ | ⟨rfl, hp⟩ | ⟨rfl, hp⟩
   · go_wp2_with fail
     refine (may_any ax ay _ ⟨HW.out.1, HW.out.2.1⟩).mono ?_
     rintro e w1 ⟨⟨t, rfl, ht⟩, hb1⟩
     have HB : Hid (w1.cell? ⟨b, 0, none⟩ = some (.float .f64 ax) ∧ w1.cell? ⟨b, 1, none⟩ = some (.float .f64 ay) ∧ w1.cell? ⟨b, 2, none⟩ = some (.float .f64 bx) ∧ w1.cell? ⟨b, 3, none⟩ = some (.float .f64 by') ∧ w1.cell? ⟨b, 4, none⟩ = some (.float .f64 cx) ∧ w1.cell? ⟨b, 5, none⟩ = some (.float .f64 cy) ∧ Below w.heap.size w w1) := ⟨box_cell hb1 k0, box_cell hb1 k1, box_cell hb1 k2, box_cell hb1 k3, box_cell hb1 k4, box_cell hb1 k5, below_step hB.out.2.2.2.2.2.2 hb1⟩
     have HT : Hid (t = true ↔ Pt ax ay) := ht
     clear ht hb1 hB k0 k1 k2 k3 k4 k5
     cases t
     · go_wp2
       go_ret
       exact ⟨⟨false, rfl, fun h => Bool.noConfusion h, fun h => HT.out.2 h.1⟩, HB.out.2.2.2.2.2.2⟩
     · go_wp2
       exact ⟨⟨Or.inr (Or.inl ⟨rfl, HT.out.1 (by simp)⟩), HB.out⟩, by simp [intOf]⟩
   · go_wp2_with fail
     refine (may_any bx by' _ ⟨HW.out.2.2.1, HW.out.2.2.2.1⟩).mono ?_
     rintro e w1 ⟨⟨t, rfl, ht⟩, hb1⟩
     have HB : Hid (w1.cell? ⟨b, 0, none⟩ = some (.float .f64 ax) ∧ w1.cell? ⟨b, 1, none⟩ = some (.float .f64 ay) ∧ w1.cell? ⟨b, 2, none⟩ = some (.float .f64 bx) ∧ w1.cell? ⟨b, 3, none⟩ = some (.float .f64 by') ∧ w1.cell? ⟨b, 4, none⟩ = some (.float .f64 cx) ∧ w1.cell? ⟨b, 5, none⟩ = some (.float .f64 cy) ∧ Below w.heap.size w w1) := ⟨box_cell hb1 k0, box_cell hb1 k1, box_cell hb1 k2, box_cell hb1 k3, box_cell hb1 k4, box_cell hb1 k5, below_step hB.out.2.2.2.2.2.2 hb1⟩
     have HT : Hid (t = true ↔ Pt bx by') := ht
     clear ht hb1 hB k0 k1 k2 k3 k4 k5
     cases t
     · go_wp2
       go_ret
       exact ⟨⟨false, rfl, fun h => Bool.noConfusion h, fun h => HT.out.2 h.2.1⟩, HB.out.2.2.2.2.2.2⟩
     · go_wp2
       exact ⟨⟨Or.inr (Or.inr (Or.inl ⟨rfl, ⟨hp.out, HT.out.1 (by simp)⟩⟩)), HB.out⟩, by simp [intOf]⟩
   · go_wp2_with fail
     refine (may_any cx cy _ HW.out.2.2.2.2).mono ?_
     rintro e w1 ⟨⟨t, rfl, ht⟩, hb1⟩
     have HB : Hid (w1.cell? ⟨b, 0, none⟩ = some (.float .f64 ax) ∧ w1.cell? ⟨b, 1, none⟩ = some (.float .f64 ay) ∧ w1.cell? ⟨b, 2, none⟩ = some (.float .f64 bx) ∧ w1.cell? ⟨b, 3, none⟩ = some (.float .f64 by') ∧ w1.cell? ⟨b, 4, none⟩ = some (.float .f64 cx) ∧ w1.cell? ⟨b, 5, none⟩ = some (.float .f64 cy) ∧ Below w.heap.size w w1) := ⟨box_cell hb1 k0, box_cell hb1 k1, box_cell hb1 k2, box_cell hb1 k3, box_cell hb1 k4, box_cell hb1 k5, below_step hB.out.2.2.2.2.2.2 hb1⟩
     have HT : Hid (t = true ↔ Pt cx cy) := ht
     clear ht hb1 hB k0 k1 k2 k3 k4 k5
     cases t
     · go_wp2
       go_ret
       exact ⟨⟨false, rfl, fun h => Bool.noConfusion h, fun h => HT.out.2 h.2.2⟩, HB.out.2.2.2.2.2.2⟩
     · go_wp2
       exact ⟨⟨Or.inr (Or.inr (Or.inr (⟨rfl, ⟨hp.out.1, hp.out.2, HT.out.1 (by simp)⟩⟩))), HB.out⟩, by simp [intOf]⟩
   · go_wp2
     go_ret
     exact ⟨⟨true, rfl, fun _ => hp.out, fun _ => rfl⟩, hB.out.2.2.2.2.2.2⟩
set_option maxRecDepth 100000 in
set_option maxHeartbeats 4000000 in
theorem may4_ref (ax ay bx by' cx cy dx dy b c : Nat) (w : World) (hw : ax < 18446744073709551616 ∧ ay < 18446744073709551616 ∧ bx < 18446744073709551616 ∧ by' < 18446744073709551616 ∧ cx < 18446744073709551616 ∧ cy < 18446744073709551616 ∧ dx < 18446744073709551616 ∧ dy < 18446744073709551616) (hc : w.cell? ⟨b, 0, none⟩ = some (.float .f64 ax) ∧ w.cell? ⟨b, 1, none⟩ = some (.float .f64 ay) ∧ w.cell? ⟨b, 2, none⟩ = some (.float .f64 bx) ∧ w.cell? ⟨b, 3, none⟩ = some (.float .f64 by') ∧ w.cell? ⟨b, 4, none⟩ = some (.float .f64 cx) ∧ w.cell? ⟨b, 5, none⟩ = some (.float .f64 cy) ∧ w.cell? ⟨b, 6, none⟩ = some (.float .f64 dx) ∧ w.cell? ⟨b, 7, none⟩ = some (.float .f64 dy)) :
   Calls Tryz.prog 31 #[.slice (some ⟨b, 0, none⟩) 4 c] w fun e w' => (∃ t, e = .returned (.bool t) ∧ (t = true ↔ Pt ax ay ∧ Pt bx by' ∧ Pt cx cy ∧ Pt dx dy)) ∧ Below w.heap.size w w' := by
 have HW : Hid (ax < 18446744073709551616 ∧ ay < 18446744073709551616 ∧ bx < 18446744073709551616 ∧ by' < 18446744073709551616 ∧ cx < 18446744073709551616 ∧ cy < 18446744073709551616 ∧ dx < 18446744073709551616 ∧ dy < 18446744073709551616) := hw
 have HC : Hid (w.cell? ⟨b, 0, none⟩ = some (.float .f64 ax) ∧ w.cell? ⟨b, 1, none⟩ = some (.float .f64 ay) ∧ w.cell? ⟨b, 2, none⟩ = some (.float .f64 bx) ∧ w.cell? ⟨b, 3, none⟩ = some (.float .f64 by') ∧ w.cell? ⟨b, 4, none⟩ = some (.float .f64 cx) ∧ w.cell? ⟨b, 5, none⟩ = some (.float .f64 cy) ∧ w.cell? ⟨b, 6, none⟩ = some (.float .f64 dx) ∧ w.cell? ⟨b, 7, none⟩ = some (.float .f64 dy)) := hc
 clear hw hc
 go_enter Tryz.func31, Tryz.ntmps31
 go_wp2_with fail
 go_loopw [3] (fun i wr => ((i = .int .i64 0 ∧ Hid (True)) ∨ (i = .int .i64 1 ∧ Hid (Pt ax ay)) ∨ (i = .int .i64 2 ∧ Hid (Pt ax ay ∧ Pt bx by')) ∨ (i = .int .i64 3 ∧ Hid (Pt ax ay ∧ Pt bx by' ∧ Pt cx cy)) ∨ (i = .int .i64 4 ∧ Hid (Pt ax ay ∧ Pt bx by' ∧ Pt cx cy ∧ Pt dx dy))) ∧ Hid (wr.cell? ⟨b, 0, none⟩ = some (.float .f64 ax) ∧ wr.cell? ⟨b, 1, none⟩ = some (.float .f64 ay) ∧ wr.cell? ⟨b, 2, none⟩ = some (.float .f64 bx) ∧ wr.cell? ⟨b, 3, none⟩ = some (.float .f64 by') ∧ wr.cell? ⟨b, 4, none⟩ = some (.float .f64 cx) ∧ wr.cell? ⟨b, 5, none⟩ = some (.float .f64 cy) ∧ wr.cell? ⟨b, 6, none⟩ = some (.float .f64 dx) ∧ wr.cell? ⟨b, 7, none⟩ = some (.float .f64 dy) ∧ Below w.heap.size w wr)) (fun i _ => 4 - (intOf i).toNat)
 case atStart => exact ⟨Or.inl ⟨rfl, trivial⟩, HC.out.1, HC.out.2.1, HC.out.2.2.1, HC.out.2.2.2.1, HC.out.2.2.2.2.1, HC.out.2.2.2.2.2.1, HC.out.2.2.2.2.2.2.1, HC.out.2.2.2.2.2.2.2, Below.refl _ w⟩
 case round =>
   obtain ⟨hcase, hB⟩ := hrel
   clear HC
   have k0 := hB.out.1
   have k1 := hB.out.2.1
   have k2 := hB.out.2.2.1
   have k3 := hB.out.2.2.2.1
   have k4 := hB.out.2.2.2.2.1
   have k5 := hB.out.2.2.2.2.2.1
   have k6 := hB.out.2.2.2.2.2.2.1
   have k7 := hB.out.2.2.2.2.2.2.2.1
   rcases hcase with ⟨rfl, hp⟩ | ⟨rfl, hp⟩ | ⟨rfl, hp⟩ | ⟨rfl, hp⟩ | ⟨rfl, hp⟩
   · go_wp2_with fail
     refine (may_any ax ay _ ⟨HW.out.1, HW.out.2.1⟩).mono ?_
     rintro e w1 ⟨⟨t, rfl, ht⟩, hb1⟩
     have HB : Hid (w1.cell? ⟨b, 0, none⟩ = some (.float .f64 ax) ∧ w1.cell? ⟨b, 1, none⟩ = some (.float .f64 ay) ∧ w1.cell? ⟨b, 2, none⟩ = some (.float .f64 bx) ∧ w1.cell? ⟨b, 3, none⟩ = some (.float .f64 by') ∧ w1.cell? ⟨b, 4, none⟩ = some (.float .f64 cx) ∧ w1.cell? ⟨b, 5, none⟩ = some (.float .f64 cy) ∧ w1.cell? ⟨b, 6, none⟩ = some (.float .f64 dx) ∧ w1.cell? ⟨b, 7, none⟩ = some (.float .f64 dy) ∧ Below w.heap.size w w1) := ⟨box_cell hb1 k0, box_cell hb1 k1, box_cell hb1 k2, box_cell hb1 k3, box_cell hb1 k4, box_cell hb1 k5, box_cell hb1 k6, box_cell hb1 k7, below_step hB.out.2.2.2.2.2.2.2.2 hb1⟩
     have HT : Hid (t = true ↔ Pt ax ay) := ht
     clear ht hb1 hB k0 k1 k2 k3 k4 k5 k6 k7
     cases t
     · go_wp2
       go_ret
       exact ⟨⟨false, rfl, fun h => Bool.noConfusion h, fun h => HT.out.2 h.1⟩, HB.out.2.2.2.2.2.2.2.2⟩
     · go_wp2
       exact ⟨⟨Or.inr (Or.inl ⟨rfl, HT.out.1 (by simp)⟩), HB.out⟩, by simp [intOf]⟩
   · go_wp2_with fail
     refine (may_any bx by' _ ⟨HW.out.2.2.1, HW.out.2.2.2.1⟩).mono ?_
     rintro e w1 ⟨⟨t, rfl, ht⟩, hb1⟩
     have HB : Hid (w1.cell? ⟨b, 0, none⟩ = some (.float .f64 ax) ∧ w1.cell? ⟨b, 1, none⟩ = some (.float .f64 ay) ∧ w1.cell? ⟨b, 2, none⟩ = some (.float .f64 bx) ∧ w1.cell? ⟨b, 3, none⟩ = some (.float .f64 by') ∧ w1.cell? ⟨b, 4, none⟩ = some (.float .f64 cx) ∧ w1.cell? ⟨b, 5, none⟩ = some (.float .f64 cy) ∧ w1.cell? ⟨b, 6, none⟩ = some (.float .f64 dx) ∧ w1.cell? ⟨b, 7, none⟩ = some (.float .f64 dy) ∧ Below w.heap.size w w1) := ⟨box_cell hb1 k0, box_cell hb1 k1, box_cell hb1 k2, box_cell hb1 k3, box_cell hb1 k4, box_cell hb1 k5, box_cell hb1 k6, box_cell hb1 k7, below_step hB.out.2.2.2.2.2.2.2.2 hb1⟩
     have HT : Hid (t = true ↔ Pt bx by') := ht
     clear ht hb1 hB k0 k1 k2 k3 k4 k5 k6 k7
     cases t
     · go_wp2
       go_ret
       exact ⟨⟨false, rfl, fun h => Bool.noConfusion h, fun h => HT.out.2 h.2.1⟩, HB.out.2.2.2.2.2.2.2.2⟩
     · go_wp2
       exact ⟨⟨Or.inr (Or.inr (Or.inl ⟨rfl, ⟨hp.out, HT.out.1 (by simp)⟩⟩)), HB.out⟩, by simp [intOf]⟩
   · go_wp2_with fail
     refine (may_any cx cy _ ⟨HW.out.2.2.2.2.1, HW.out.2.2.2.2.2.1⟩).mono ?_
     rintro e w1 ⟨⟨t, rfl, ht⟩, hb1⟩
     have HB : Hid (w1.cell? ⟨b, 0, none⟩ = some (.float .f64 ax) ∧ w1.cell? ⟨b, 1, none⟩ = some (.float .f64 ay) ∧ w1.cell? ⟨b, 2, none⟩ = some (.float .f64 bx) ∧ w1.cell? ⟨b, 3, none⟩ = some (.float .f64 by') ∧ w1.cell? ⟨b, 4, none⟩ = some (.float .f64 cx) ∧ w1.cell? ⟨b, 5, none⟩ = some (.float .f64 cy) ∧ w1.cell? ⟨b, 6, none⟩ = some (.float .f64 dx) ∧ w1.cell? ⟨b, 7, none⟩ = some (.float .f64 dy) ∧ Below w.heap.size w w1) := ⟨box_cell hb1 k0, box_cell hb1 k1, box_cell hb1 k2, box_cell hb1 k3, box_cell hb1 k4, box_cell hb1 k5, box_cell hb1 k6, box_cell hb1 k7, below_step hB.out.2.2.2.2.2.2.2.2 hb1⟩
     have HT : Hid (t = true ↔ Pt cx cy) := ht
     clear ht hb1 hB k0 k1 k2 k3 k4 k5 k6 k7
     cases t
     · go_wp2
       go_ret
       exact ⟨⟨false, rfl, fun h => Bool.noConfusion h, fun h => HT.out.2 h.2.2.1⟩, HB.out.2.2.2.2.2.2.2.2⟩
     · go_wp2
       exact ⟨⟨Or.inr (Or.inr (Or.inr (Or.inl ⟨rfl, ⟨hp.out.1, hp.out.2, HT.out.1 (by simp)⟩⟩))), HB.out⟩, by simp [intOf]⟩
   · go_wp2_with fail
     refine (may_any dx dy _ HW.out.2.2.2.2.2.2).mono ?_
     rintro e w1 ⟨⟨t, rfl, ht⟩, hb1⟩
     have HB : Hid (w1.cell? ⟨b, 0, none⟩ = some (.float .f64 ax) ∧ w1.cell? ⟨b, 1, none⟩ = some (.float .f64 ay) ∧ w1.cell? ⟨b, 2, none⟩ = some (.float .f64 bx) ∧ w1.cell? ⟨b, 3, none⟩ = some (.float .f64 by') ∧ w1.cell? ⟨b, 4, none⟩ = some (.float .f64 cx) ∧ w1.cell? ⟨b, 5, none⟩ = some (.float .f64 cy) ∧ w1.cell? ⟨b, 6, none⟩ = some (.float .f64 dx) ∧ w1.cell? ⟨b, 7, none⟩ = some (.float .f64 dy) ∧ Below w.heap.size w w1) := ⟨box_cell hb1 k0, box_cell hb1 k1, box_cell hb1 k2, box_cell hb1 k3, box_cell hb1 k4, box_cell hb1 k5, box_cell hb1 k6, box_cell hb1 k7, below_step hB.out.2.2.2.2.2.2.2.2 hb1⟩
     have HT : Hid (t = true ↔ Pt dx dy) := ht
     clear ht hb1 hB k0 k1 k2 k3 k4 k5 k6 k7
     cases t
     · go_wp2
       go_ret
       exact ⟨⟨false, rfl, fun h => Bool.noConfusion h, fun h => HT.out.2 h.2.2.2⟩, HB.out.2.2.2.2.2.2.2.2⟩
     · go_wp2
       exact ⟨⟨Or.inr (Or.inr (Or.inr (Or.inr (⟨rfl, ⟨hp.out.1, hp.out.2.1, hp.out.2.2, HT.out.1 (by simp)⟩⟩)))), HB.out⟩, by simp [intOf]⟩
   · go_wp2
     go_ret
     exact ⟨⟨true, rfl, fun _ => hp.out, fun _ => rfl⟩, hB.out.2.2.2.2.2.2.2.2⟩
end

/- The document's side of layer 4: Less, Sum, Sign. -/
section
open Go.RowKit Go.Shelf
attribute [local go_sem] run_store_float
theorem fval_fit (x : Nat) (h : Fin64 x) : Fit (fval x) := by have := den_Fit x; rwa [den_fin h] at this
set_option maxRecDepth 100000 in
set_option maxHeartbeats 2000000 in
theorem lessR (x y : Nat) (w : World) (hx : x < 18446744073709551616) (hy : y < 18446744073709551616) (fx : Fin64 x) (fy : Fin64 y) :
   Calls Tryz.prog 58 #[.float .f64 x, .float .f64 y] w fun e w' => RfR w w' (fval x - fval y) e := by
 have H : Hid ((x < 18446744073709551616 ∧ y < 18446744073709551616) ∧ Fin64 x ∧ Fin64 y) := ⟨⟨hx, hy⟩, fx, fy⟩
 clear hx hy fx fy
 have HAL : Hid (Below w.heap.size w (w.alloc (.cells #[.int .i64 0, .slice none 0 0, .int .i64 0] 58))) := (Below.refl _ w).alloc (Nat.le_refl _) _
 go_enter Tryz.func58, Tryz.ntmps58
 go_wp2_with fail
 refine (refOf_any x _ H.out.1.1).mono ?_
 rintro e w1 ⟨v1, rfl, hr1, hb1⟩
 rw [den_fin H.out.2.1] at hr1
 have R1 : Hid (Rf w1 v1 (fval x)) := hr1
 have HB1 : Hid (Below w.heap.size w w1) := below_step HAL.out hb1
 have X1 : Hid (BoxN w1 w.heap.size 0 (.slice none 0 0) 0) := (BoxN.new w 0 0 _).later hb1
 clear hr1 hb1
 go_wp2_with fail
 refine (refOf_any y _ H.out.1.2).mono ?_
 rintro e w2 ⟨v2, rfl, hr2, hb2⟩
 rw [den_fin H.out.2.2] at hr2
 have R2 : Hid (Rf w2 v2 (fval y) ∧ Rf w2 v1 (fval x)) := ⟨hr2, R1.out.later hb2⟩
 have HB2 : Hid (Below w.heap.size w w2) := below_step HB1.out hb2
 have X2 : Hid (BoxN w2 w.heap.size 0 (.slice none 0 0) 0) := X1.out.later hb2
 clear hr2 hb2 R1 X1
 go_wp2_with fail
 refine (sub_rf _ _ (fval x) (fval y) _ R2.out.2 R2.out.1 (fval_fit x H.out.2.1) (fval_fit y H.out.2.2)).mono ?_
 rintro e w3 ⟨v3, rfl, hr3, hb3⟩
 obtain ⟨S3, a3, n3, c3, E3, rfl⟩ := hr3.agg
 have R3 : Hid (Rf w3 (.agg #[.int .i64 S3, .slice a3 n3 c3, .int .i64 E3]) (fval x - fval y)) := hr3
 have HB3 : Hid (Below w.heap.size w w3) := below_step HB2.out hb3
 have X3 : Hid (BoxN w3 w.heap.size 0 (.slice none 0 0) 0) := X2.out.later hb3
 clear hr3 hb3 R2 X2
 obtain ⟨t0, t1, t2, tf, _⟩ := X3.out.cells
 have tf0 := tf 0
 have tf1 := tf 1
 have tf2 := tf 2
 clear tf
 go_wp2
 have Y := (X3.out.set3 (S' := S3) (sv' := .slice a3 n3 c3) (E' := E3)).cells
 refine bodyPost_ret (v := .agg #[.int .i64 S3, .slice a3 n3 c3, .int .i64 E3]) (by simp [results, Tryz.results58, go_sem, Y.1, Y.2.1, Y.2.2.1]) rfl ?_
 refine ⟨_, rfl, R3.out.boxed (other_box X3.out) _ _ _, ?_⟩
 exact ((HB3.out.setCell (Nat.le_refl _) _).setCell (Nat.le_refl _) _).setCell (Nat.le_refl _) _
theorem keepS {w W W' : World} {q1 q2 q3 q4 q5 q6 : Addr} {x1 x2 x3 x4 x5 x6 : Value} {b : Nat} (h : W.cell? q1 = some x1 ∧ W.cell? q2 = some x2 ∧ W.cell? q3 = some x3 ∧ W.cell? q4 = some x4 ∧ W.cell? q5 = some x5 ∧ W.cell? q6 = some x6 ∧ (∃ S E v, BoxN W b S v E) ∧ Below w.heap.size w W) (hb : Below W.heap.size W W') :
   W'.cell? q1 = some x1 ∧ W'.cell? q2 = some x2 ∧ W'.cell? q3 = some x3 ∧ W'.cell? q4 = some x4 ∧ W'.cell? q5 = some x5 ∧ W'.cell? q6 = some x6 ∧ (∃ S E v, BoxN W' b S v E) ∧ Below w.heap.size w W' :=
 ⟨box_cell hb h.1, box_cell hb h.2.1, box_cell hb h.2.2.1, box_cell hb h.2.2.2.1, box_cell hb h.2.2.2.2.1, box_cell hb h.2.2.2.2.2.1, (by obtain ⟨S, E, v, hx⟩ := h.2.2.2.2.2.2.1; exact ⟨S, E, v, hx.later hb⟩), below_step h.2.2.2.2.2.2.2 hb⟩
theorem fval_bd2 {x : Nat} (h : Fin64 x) : Bd 1024 (-1074) (fval x) := by have := den_fit x; rwa [den_fin h] at this
theorem fit_diff {x y : Nat} (hx : Fin64 x) (hy : Fin64 y) : Fit (fval x - fval y) := ((fval_bd2 hx).sub (fval_bd2 hy)).mono (by omega) (by omega)
theorem fit_prod {x y z v : Nat} (hx : Fin64 x) (hy : Fin64 y) (hz : Fin64 z) (hv : Fin64 v) : Fit ((fval x - fval y) * (fval z - fval v)) := (((fval_bd2 hx).sub (fval_bd2 hy)).mul ((fval_bd2 hz).sub (fval_bd2 hv))).mono (by omega) (by omega)
set_option maxRecDepth 100000 in
set_option maxHeartbeats 4000000 in
theorem sum3_rf (ax ay bx by' cx cy : Nat) (w : World) (hw : W6 ax ay bx by' cx cy) (hp : P3 ax ay bx by' cx cy) :
   Calls Tryz.prog 48 #[pv ax ay, pv bx by', pv cx cy] w fun e w' => RfR w w' (S3 ax ay bx by' cx cy) e := by
 have HW : Hid (W6 ax ay bx by' cx cy) := hw
 have HP : Hid (P3 ax ay bx by' cx cy) := hp
 clear hw hp
 go_enter Tryz.func48, Tryz.ntmps48
 go_wp2_with fail
 have hS0 := B3.start w ax ay bx by' cx cy
 obtain ⟨W3, hW3⟩ : ∃ W3, W3 = ((w.alloc (.cells #[.float .f64 ax, .float .f64 ay] 24)).alloc (.cells #[.float .f64 bx, .float .f64 by'] 24)).alloc (.cells #[.float .f64 cx, .float .f64 cy] 24) := ⟨_, rfl⟩
 have hsz : W3.heap.size = w.heap.size + 1 + 1 + 1 := by rw [hW3]; simp
 rw [← hW3] at hS0 ⊢
 have hA : Below W3.heap.size W3 (W3.alloc (.cells #[.int .i64 0, .slice none 0 0, .int .i64 0] 58)) := (Below.refl _ W3).alloc (Nat.le_refl _) _
 have hB := hS0.later hA
 have hX := BoxN.new W3 0 0 (.slice none 0 0)
 rw [hsz] at hX
 obtain ⟨W0, hW0⟩ : ∃ W0, W0 = W3.alloc (.cells #[.int .i64 0, .slice none 0 0, .int .i64 0] 58) := ⟨_, rfl⟩
 rw [← hW0] at hB hX ⊢
 have HB0 : Hid (Below w.heap.size w W0) := hB.bel
 have HX0 : Hid (BoxN W0 (w.heap.size + 1 + 1 + 1) 0 (.slice none 0 0) 0) := hX
 obtain ⟨za0, za1, zb0, zb1, zc0, zc1, _⟩ := hB
 clear hX hA hS0 hW0 hW3 hsz
 refine wp_region_held_drew (S := (fun W => W.cell? ⟨w.heap.size, 0, none⟩ = some (.float .f64 ax) ∧ W.cell? ⟨w.heap.size, 1, none⟩ = some (.float .f64 ay) ∧ W.cell? ⟨w.heap.size + 1, 0, none⟩ = some (.float .f64 bx) ∧ W.cell? ⟨w.heap.size + 1, 1, none⟩ = some (.float .f64 by') ∧ W.cell? ⟨w.heap.size + 1 + 1, 0, none⟩ = some (.float .f64 cx) ∧ W.cell? ⟨w.heap.size + 1 + 1, 1, none⟩ = some (.float .f64 cy) ∧ (∃ S' E' v', BoxN W (w.heap.size + 1 + 1 + 1) S' v' E') ∧ Below w.heap.size w W)) (by kernel_rfl) ⟨za0, za1, zb0, zb1, zc0, zc1, ⟨0, 0, _, HX0.out⟩, HB0.out.drew⟩ (fun hS => ?_)
 refine takA (i := 0) (d := some 7) (v := .pointer (some ⟨w.heap.size + 1, 0, none⟩)) hS ?_
 simp only [AP]
 refine takA (i := 1) (d := some 8) (v := .float .f64 bx) hS ?_
 simp only [AP]
 refine takA (i := 2) (d := some 9) (v := .pointer (some ⟨w.heap.size, 0, none⟩)) hS ?_
 simp only [AP]
 refine takA (i := 3) (d := some 10) (v := .float .f64 ax) hS ?_
 simp only [AP]
 refine takA (i := 5) (d := some 12) (v := .pointer (some ⟨w.heap.size + 1 + 1, 1, none⟩)) hS ?_
 simp only [AP]
 refine takA (i := 6) (d := some 13) (v := .float .f64 cy) hS ?_
 simp only [AP]
 refine takA (i := 7) (d := some 14) (v := .pointer (some ⟨w.heap.size, 1, none⟩)) hS ?_
 simp only [AP]
 refine takA (i := 8) (d := some 15) (v := .float .f64 ay) hS ?_
 simp only [AP]
 refine takA (i := 11) (d := some 18) (v := .pointer (some ⟨w.heap.size + 1, 1, none⟩)) hS ?_
 simp only [AP]
 refine takA (i := 12) (d := some 19) (v := .float .f64 by') hS ?_
 simp only [AP]
 refine takA (i := 13) (d := some 20) (v := .pointer (some ⟨w.heap.size, 1, none⟩)) hS ?_
 simp only [AP]
 refine takA (i := 14) (d := some 21) (v := .float .f64 ay) hS ?_
 simp only [AP]
 refine takA (i := 16) (d := some 23) (v := .pointer (some ⟨w.heap.size + 1 + 1, 0, none⟩)) hS ?_
 simp only [AP]
 refine takA (i := 17) (d := some 24) (v := .float .f64 cx) hS ?_
 simp only [AP]
 refine takA (i := 18) (d := some 25) (v := .pointer (some ⟨w.heap.size, 0, none⟩)) hS ?_
 simp only [AP]
 refine takA (i := 19) (d := some 26) (v := .float .f64 ax) hS ?_
 simp only [AP]
 refine calA 4 fun KF hK => ?_
 go_simp
 refine (lessR bx ax _ HW.out.2.1.1 HW.out.1.1 (crd_fin HP.out.2.1.1.1) (crd_fin HP.out.1.1.1)).mono ?_
 rintro e wx ⟨v1, rfl, hr1, hbx⟩
 go_wp2_with fail
 refine hK.out _ _ (keepS hS hbx) ?_
 clear hS hbx
 intro hS
 clear hK KF
 try simp only [AP]
 refine calA 9 fun KF hK => ?_
 go_simp
 refine (lessR cy ay _ HW.out.2.2.2 HW.out.1.2 (crd_fin HP.out.2.2.2.1) (crd_fin HP.out.1.2.1)).mono ?_
 rintro e wx ⟨v2, rfl, hr2, hbx⟩
 have hr1 : Rf wx v1 (fval bx - fval ax) := hr1.later hbx
 go_wp2_with fail
 refine hK.out _ _ (keepS hS hbx) ?_
 clear hS hbx
 intro hS
 clear hK KF
 try simp only [AP]
 refine calA 10 fun KF hK => ?_
 go_simp
 refine (mul_rf v1 v2 (fval bx - fval ax) (fval cy - fval ay) _ hr1 hr2 (fit_diff (crd_fin HP.out.2.1.1.1) (crd_fin HP.out.1.1.1)) (fit_diff (crd_fin HP.out.2.2.2.1) (crd_fin HP.out.1.2.1))).mono ?_
 rintro e wx ⟨v5, rfl, hr5, hbx⟩
 go_wp2_with fail
 refine hK.out _ _ (keepS hS hbx) ?_
 clear hS hbx
 intro hS
 clear hK KF
 try simp only [AP]
 refine calA 15 fun KF hK => ?_
 go_simp
 refine (lessR by' ay _ HW.out.2.1.2 HW.out.1.2 (crd_fin HP.out.2.1.2.1) (crd_fin HP.out.1.2.1)).mono ?_
 rintro e wx ⟨v3, rfl, hr3, hbx⟩
 have hr5 : Rf wx v5 ((fval bx - fval ax) * (fval cy - fval ay)) := hr5.later hbx
 go_wp2_with fail
 refine hK.out _ _ (keepS hS hbx) ?_
 clear hS hbx
 intro hS
 clear hK KF
 try simp only [AP]
 refine calA 20 fun KF hK => ?_
 go_simp
 refine (lessR cx ax _ HW.out.2.2.1 HW.out.1.1 (crd_fin HP.out.2.2.1.1) (crd_fin HP.out.1.1.1)).mono ?_
 rintro e wx ⟨v4, rfl, hr4, hbx⟩
 have hr5 : Rf wx v5 ((fval bx - fval ax) * (fval cy - fval ay)) := hr5.later hbx
 have hr3 : Rf wx v3 (fval by' - fval ay) := hr3.later hbx
 go_wp2_with fail
 refine hK.out _ _ (keepS hS hbx) ?_
 clear hS hbx
 intro hS
 clear hK KF
 try simp only [AP]
 refine calA 21 fun KF hK => ?_
 go_simp
 refine (mul_rf v3 v4 (fval by' - fval ay) (fval cx - fval ax) _ hr3 hr4 (fit_diff (crd_fin HP.out.2.1.2.1) (crd_fin HP.out.1.2.1)) (fit_diff (crd_fin HP.out.2.2.1.1) (crd_fin HP.out.1.1.1))).mono ?_
 rintro e wx ⟨v6, rfl, hr6, hbx⟩
 have hr5 : Rf wx v5 ((fval bx - fval ax) * (fval cy - fval ay)) := hr5.later hbx
 go_wp2_with fail
 refine hK.out _ _ (keepS hS hbx) ?_
 clear hS hbx
 intro hS
 clear hK KF
 try simp only [AP]
 refine calA 22 fun KF hK => ?_
 go_simp
 refine (sub_rf v5 v6 ((fval bx - fval ax) * (fval cy - fval ay)) ((fval by' - fval ay) * (fval cx - fval ax)) _ hr5 hr6 (fit_prod (crd_fin HP.out.2.1.1.1) (crd_fin HP.out.1.1.1) (crd_fin HP.out.2.2.2.1) (crd_fin HP.out.1.2.1)) (fit_prod (crd_fin HP.out.2.1.2.1) (crd_fin HP.out.1.2.1) (crd_fin HP.out.2.2.1.1) (crd_fin HP.out.1.1.1))).mono ?_
 rintro e wx ⟨v7, rfl, hr7, hbx⟩
 obtain ⟨S7, a7, n7, c7, E7, rfl⟩ := hr7.agg
 go_wp2_with fail
 refine hK.out _ _ (keepS hS hbx) ?_
 clear hS hbx
 intro hS
 clear hK KF
 try simp only [AP]
 have HR7 : Hid (Rf _ (.agg #[.int .i64 S7, .slice a7 n7 c7, .int .i64 E7]) (S3 ax ay bx by' cx cy)) := hr7
 clear hr7
 obtain ⟨S0, E0, v0, hX⟩ := hS.2.2.2.2.2.2.1
 obtain ⟨t0, t1, t2, tf, _⟩ := hX.cells
 have tf0 := tf 0
 have tf1 := tf 1
 have tf2 := tf 2
 have HSX : Hid (Below w.heap.size w wx) := hS.2.2.2.2.2.2.2
 have HX : Hid (BoxN wx (w.heap.size + 1 + 1 + 1) S0 v0 E0) := hX
 obtain ⟨y0, y1, y2, y3, y4, y5, _⟩ := hS
 clear tf hX
 refine calA 23 fun KF hK => ?_
 go_simp
 go_wp2_with fail
 have hb3 : Below w.heap.size w (((wx.setCell ⟨w.heap.size + 1 + 1 + 1, 0, none⟩ (.int .i64 S7)).setCell ⟨w.heap.size + 1 + 1 + 1, 1, none⟩ (.slice a7 n7 c7)).setCell ⟨w.heap.size + 1 + 1 + 1, 2, none⟩ (.int .i64 E7)) := ((HSX.out.setCell (by show w.heap.size ≤ w.heap.size + 1 + 1 + 1; omega) _).setCell (by show w.heap.size ≤ w.heap.size + 1 + 1 + 1; omega) _).setCell (by show w.heap.size ≤ w.heap.size + 1 + 1 + 1; omega) _
 refine hK.out _ _ ⟨by go_simp, by go_simp, by go_simp, by go_simp, by go_simp, by go_simp, ⟨_, _, _, HX.out.set3⟩, hb3⟩ ?_
 intro _
 clear hK KF
 try simp only [AP]
 refine wpAnyH_done (by kernel_rfl) ?_ _
 have HBF : Hid (Below w.heap.size w (((wx.setCell ⟨w.heap.size + 1 + 1 + 1, 0, none⟩ (.int .i64 S7)).setCell ⟨w.heap.size + 1 + 1 + 1, 1, none⟩ (.slice a7 n7 c7)).setCell ⟨w.heap.size + 1 + 1 + 1, 2, none⟩ (.int .i64 E7))) := hb3
 have Y := (HX.out.set3 (S' := S7) (sv' := .slice a7 n7 c7) (E' := E7)).cells
 clear hb3
 go_wp2
 refine bodyPost_ret (v := .agg #[.int .i64 S7, .slice a7 n7 c7, .int .i64 E7]) (by simp [results, Tryz.results48, go_sem, Y.1, Y.2.1, Y.2.2.1]) rfl ?_
 exact ⟨_, rfl, HR7.out.boxed (other_box HX.out) _ _ _, HBF.out⟩
theorem sign_rf (v : Value) (q : Rat) (w : World) (h : Rf w v q) : Calls Tryz.prog 38 #[v] w fun e w' => e = .returned (.int .i64 (sgq q)) ∧ Below w.heap.size w w' := by
 obtain ⟨S, a, n, c, E, rfl, hs⟩ := h.sgn
 have HS : Hid (S = sgq q) := sgq_of hs
 clear hs h
 go_enter Tryz.func38, Tryz.ntmps38
 go_wp2
 go_ret
 exact ⟨by rw [← HS.out]; rfl, (Below.refl _ _).alloc (Nat.le_refl _) _⟩
end
end Go.Proofs.YtocnkgfoffpbfaaGreatDoor
