/- Own texts, put together: Oc Od. -/
import Derived.Test.YtocnkgfoffpbfaaGreatDoorQ27
import Derived.Test.YtocnkgfoffpbfaaGreatDoorQ30
/- Which points may be: grid.Has. -/
namespace Go.Proofs.YtocnkgfoffpbfaaGreatDoor
open Go.RowKit
attribute [local go_sem ↓] Go.wp_at_zero Go.wp_at_succ
attribute [local go_sem] run_store_float

def Pt (x y : Nat) : Prop := Crd x ∧ Crd y

set_option maxRecDepth 100000 in
set_option maxHeartbeats 4000000 in
theorem has_walk (g n c : Nat) (xs ys : Nat → Nat) (w : World) (hc : ∀ k, k < n → w.cell? ⟨g, k * 2, none⟩ = some (.float .f64 (xs k)) ∧ w.cell? ⟨g, k * 2 + 1, none⟩ = some (.float .f64 (ys k))) (hw : ∀ k, xs k < 18446744073709551616 ∧ ys k < 18446744073709551616) (hn : n ≤ 100) :
   Calls Tryz.prog 25 #[.slice (some ⟨g, 0, none⟩) n c] w fun e w' => (∃ t, e = .returned (.bool t) ∧ (t = true ↔ ∀ k, k < n → Pt (xs k) (ys k))) ∧ Below w.heap.size w w' := by
 have HC : Hid (∀ k, k < n → w.cell? ⟨g, k * 2, none⟩ = some (.float .f64 (xs k)) ∧ w.cell? ⟨g, k * 2 + 1, none⟩ = some (.float .f64 (ys k))) := hc
 have HW : Hid (∀ k, xs k < 18446744073709551616 ∧ ys k < 18446744073709551616) := hw
 have l1 : (n : Int) ≤ 100 := by omega
 clear hc hw hn
 go_enter Tryz.func25, Tryz.ntmps25
 go_wp2
 go_loopw [7] (fun i wr => ∃ k : Nat, k ≤ n ∧ i = .int .i64 (k : Nat) ∧ Hid (Below w.heap.size w wr ∧ ∀ j, j < k → Pt (xs j) (ys j))) (fun i _ => n - (intOf i).toNat)
 case atStart => exact ⟨0, Nat.zero_le _, rfl, Below.refl _ _, fun j hj => by omega⟩
 case round =>
   obtain ⟨k, hk, rfl, hB⟩ := hrel
   by_cases hlt : k < n
   · have hlt' : (k : Int) < (n : Int) := by omega
     have hk0 : (0 : Int) ≤ (k : Int) := by omega
     have c1 := box_cell hB.out.1 (HC.out k hlt).1
     have c2 := box_cell hB.out.1 (HC.out k hlt).2
     obtain ⟨x, hx⟩ : ∃ x : Nat, Hid (xs k = x) := ⟨_, rfl⟩
     obtain ⟨y, hy⟩ : ∃ y : Nat, Hid (ys k = y) := ⟨_, rfl⟩
     rw [hx.out] at c1
     rw [hy.out] at c2
     have HX : Hid (x < 18446744073709551616 ∧ y < 18446744073709551616) := by rw [← hx.out, ← hy.out]; exact HW.out k
     have HNO : Hid (¬ Pt x y → ¬ ∀ k, k < n → Pt (xs k) (ys k)) := fun h1 h2 => h1 (by rw [← hx.out, ← hy.out]; exact h2 k hlt)
     go_wp2_with fail
     refine (stands_any x _ HX.out.1).mono ?_
     rintro e w1 ⟨⟨t, rfl, ht⟩, hb1⟩
     have d2 : w1.cell? ⟨wr.heap.size, 1, none⟩ = some (.float .f64 y) := box_cell hb1 (by go_simp)
     have HB1 : Hid (Below w.heap.size w w1) := below_step (hB.out.1.alloc hB.out.1.size _) hb1
     have HT : Hid (t = true ↔ Crd x) := ht
     clear ht hb1 c1 c2
     cases t
     · have HN : Hid (¬ Crd x) := fun h => Bool.noConfusion (HT.out.2 h)
       go_wp2
       go_ret
       exact ⟨⟨false, rfl, fun h => Bool.noConfusion h, fun h => absurd h (HNO.out (fun h => HN.out h.1))⟩, HB1.out⟩
     · have HCX : Hid (Crd x) := HT.out.1 rfl
       go_wp2_with fail
       refine (stands_any y _ HX.out.2).mono ?_
       rintro e w2 ⟨⟨t, rfl, ht⟩, hb2⟩
       have HB2 : Hid (Below w.heap.size w w2) := below_step HB1.out hb2
       have HT2 : Hid (t = true ↔ Crd y) := ht
       clear ht hb2 d2
       cases t
       · have HN : Hid (¬ Crd y) := fun h => Bool.noConfusion (HT2.out.2 h)
         go_wp2
         go_ret
         exact ⟨⟨false, rfl, fun h => Bool.noConfusion h, fun h => absurd h (HNO.out (fun h => HN.out h.2))⟩, HB2.out⟩
       · have HCY : Hid (Crd y) := HT2.out.1 rfl
         go_wp2
         refine ⟨⟨k + 1, by omega, by go_num, HB2.out, fun j hj => ?_⟩, by simp [intOf]; omega⟩
         by_cases e : j = k
         · rw [e, hx.out, hy.out]; exact ⟨HCX.out, HCY.out⟩
         · exact hB.out.2 j (by omega)
   · obtain rfl : k = n := by omega
     have hltb : decide ((k : Int) < (k : Int)) = false := decide_eq_false (by omega)
     go_wp2
     go_ret
     exact ⟨⟨true, rfl, fun _ => hB.out.2, fun _ => rfl⟩, hB.out.1⟩

end Go.Proofs.YtocnkgfoffpbfaaGreatDoor

/- Signs that are told fast: the floats that are reckoned. -/
namespace Go.Proofs.YtocnkgfoffpbfaaGreatDoor
open Go.RowKit

def S3 (ax ay bx by' cx cy : Nat) : Rat := (fval bx - fval ax) * (fval cy - fval ay) - (fval by' - fval ay) * (fval cx - fval ax)
def Sm (x : Nat) : Prop := ∃ n : Int, fval x = (n : Rat) ∧ -1024 ≤ n ∧ n ≤ 1024

theorem sgq_three {s X : Rat} (h : (0 < s ∧ 0 < X) ∨ (s < 0 ∧ X < 0) ∨ (s = 0 ∧ X = 0)) : sgq s = sgq X := by
 unfold sgq
 rcases h with ⟨a, b⟩ | ⟨a, b⟩ | ⟨a, b⟩
 · rw [if_neg (by grind), if_neg (by grind), if_neg (by grind), if_neg (by grind)]
 · rw [if_pos a, if_pos b]
 · rw [a, b]

theorem RN.le {q x : Rat} {p : Nat} (h : RN q x) (hq : ab q ≤ U p) : ab x ≤ U p := by
 obtain ⟨_, _, R⟩ := h
 exact R.le_pow' hq
theorem lim_U {q : Rat} {p : Nat} (h : ab q ≤ U p) (hp : p ≤ 2000) : Lim q := by
 have h3 : U p < p2 1023 := by unfold U; exact p2_lt (by omega)
 have := ab_le.1 h
 exact ⟨by grind, by grind⟩
theorem ab_sub (x y : Rat) : ab (x - y) ≤ ab x + ab y := by
 have := ab_add x (-y)
 rwa [ab_neg, show x + -y = x - y by grind] at this
theorem U_two' (p : Nat) : U p + U p = U (p + 1) := by rw [U_succ]; grind
theorem mul_le_U {x y : Rat} {p q r : Nat} (h1 : ab x ≤ U p) (h2 : ab y ≤ U q) (e : r + 1074 = p + q) : ab (x * y) ≤ U r := by
 rw [ab_mul, ← U_mulX' e]
 have a := Rat.mul_le_mul_of_nonneg_right h1 (ab_nonneg y)
 have b := Rat.mul_le_mul_of_nonneg_left h2 (Rat.le_of_lt (U_pos p))
 exact Rat.le_trans a b
theorem M.ab {u x : Rat} (h : M u x) : M u (ab x) := by
 unfold Go.Proofs.YtocnkgfoffpbfaaGreatDoor.ab
 split
 · exact h.neg
 · exact h
theorem low51 : fval 4377498837804122112 = U 1023 := by
 have := fval_rung 971 4503599627370496 (by omega) (Or.inr (by omega)) (by omega)
 have h := U_52 971
 rw [show (4377498837804122112 : Nat) = 971 * 4503599627370496 + 4503599627370496 from rfl, this]
 exact h.symm
theorem word_F {b : Nat} (h : Fin64 b) : F (fval b) := by
 obtain ⟨S, m, c⟩ := fc_word h
 exact c.f

theorem diff_word {a b : Nat} (ha : Crd a) (hb : Crd b) : ∃ d, floatBits .sub .f64 b a = some d ∧ Fin64 d ∧ d < 18446744073709551616 ∧ RN (fval b - fval a) (fval d) ∧ M (U 974) (fval b - fval a) ∧ ab (fval b - fval a) ≤ U 1175 := by
 have hm : M (U 974) (fval b - fval a) := hb.2.sub ha.2
 have hl : ab (fval b - fval a) ≤ U 1175 := by
   have := ab_sub (fval b) (fval a)
   have h1 := crd_ab ha.1
   have h2 := crd_ab hb.1
   have h3 := U_two' 1174
   grind
 obtain ⟨d, e, f, l, r⟩ := sub_bits (crd_fin hb.1) (crd_fin ha.1) (lim_U hl (by omega))
 exact ⟨d, e, f, l, r.rn, hm, hl⟩

theorem prod_word {d e : Nat} {p q : Rat} (fd : Fin64 d) (fe : Fin64 e) (rd : RN p (fval d)) (re : RN q (fval e)) (md : M (U 974) p) (me : M (U 974) q) (ld : ab p ≤ U 1175) (le : ab q ≤ U 1175) :
   ∃ l, floatBits .mul .f64 d e = some l ∧ Fin64 l ∧ l < 18446744073709551616 ∧ RN (fval d * fval e) (fval l) ∧ M (U 874) (fval l) ∧ ab (fval l) ≤ U 1276 ∧ 9223372036854775808 * ab (p * q - fval l) ≤ 3073 * ab (fval l) := by
 have h1 := rd.mm md
 have h2 := re.mm me
 have hm : M (U 874) (fval d * fval e) := by
   have := h1.mul h2
   rwa [U_mulX' (s := 974) (t := 974) (r := 874) (by omega)] at this
 have hl : ab (fval d * fval e) ≤ U 1276 := mul_le_U (rd.le ld) (re.le le) (by omega)
 obtain ⟨l, e1, f, lw, r⟩ := mul_bits fd fe (lim_U hl (by omega))
 exact ⟨l, e1, f, lw, r.rn, r.rn.mm hm, r.rn.le hl, prod_err (rd.rel md) (re.rel me) (r.rn.rel hm)⟩

theorem RN.int {q x : Rat} (h : RN q x) (n : Int) (e : q = (n : Rat)) (h1 : -9007199254740992 ≤ n) (h2 : n ≤ 9007199254740992) : x = q := h.exact (by rw [e]; exact F_int n h1 h2)
theorem int_mul_bound {a b : Int} {k m : Int} (h1 : -k ≤ a) (h2 : a ≤ k) (h3 : -m ≤ b) (h4 : b ≤ m) : -(k * m) ≤ a * b ∧ a * b ≤ k * m := by
 have e1 : (0 : Int) ≤ (k - a) * (m - b) := Int.mul_nonneg (by omega) (by omega)
 have e2 : (0 : Int) ≤ (k + a) * (m + b) := Int.mul_nonneg (by omega) (by omega)
 have e3 : (0 : Int) ≤ (k - a) * (m + b) := Int.mul_nonneg (by omega) (by omega)
 have e4 : (0 : Int) ≤ (k + a) * (m - b) := Int.mul_nonneg (by omega) (by omega)
 rw [Int.sub_mul, Int.mul_sub, Int.mul_sub] at e1
 rw [Int.add_mul, Int.mul_add, Int.mul_add] at e2
 rw [Int.sub_mul, Int.mul_add, Int.mul_add] at e3
 rw [Int.add_mul, Int.mul_sub, Int.mul_sub] at e4
 generalize k * m = km at *
 generalize k * b = kb at *
 generalize a * m = am at *
 generalize a * b = ab at *
 omega

theorem ab_one {n : Int} (h : (n : Rat) ≠ 0) : 1 ≤ ab (n : Rat) := by
 have := M.ge (u := 1) (x := (n : Rat)) (by grind) ⟨n, by grind⟩ h
 exact this
theorem ab_int {n : Int} {k : Nat} (h1 : -(k : Int) ≤ n) (h2 : n ≤ (k : Int)) : ab (n : Rat) ≤ ((k : Nat) : Rat) := by
 apply ab_le.2
 have a : (n : Rat) ≤ ((k : Int) : Rat) := Rat.intCast_le_intCast.2 h2
 have b : ((-(k : Int) : Int) : Rat) ≤ (n : Rat) := Rat.intCast_le_intCast.2 h1
 rw [Rat.intCast_neg] at b
 have e : ((k : Int) : Rat) = ((k : Nat) : Rat) := rfl
 rw [e] at a b
 exact ⟨a, by grind⟩

set_option maxHeartbeats 1000000 in
theorem fast_words {ax ay bx by' cx cy : Nat} (h1 : Crd ax) (h2 : Crd ay) (h3 : Crd bx) (h4 : Crd by') (h5 : Crd cx) (h6 : Crd cy) :
   ∃ d1 d2 l d3 d4 r s z v, floatBits .sub .f64 bx ax = some d1 ∧ floatBits .sub .f64 cy ay = some d2 ∧ floatBits .mul .f64 d1 d2 = some l ∧ floatBits .sub .f64 by' ay = some d3 ∧ floatBits .sub .f64 cx ax = some d4 ∧ floatBits .mul .f64 d3 d4 = some r ∧ floatBits .sub .f64 l r = some s ∧ floatBits .add .f64 (frung l) (frung r) = some z ∧ floatBits .mul .f64 4377498837804122112 z = some v ∧
     l < 18446744073709551616 ∧ r < 18446744073709551616 ∧ s < 18446744073709551616 ∧ Fin64 s ∧
     ((FloatKind.f64.format.order (frung s) v == some .lt) = false → sgq (fval s) = sgq (S3 ax ay bx by' cx cy)) ∧
     (Sm ax → Sm ay → Sm bx → Sm by' → Sm cx → Sm cy → S3 ax ay bx by' cx cy ≠ 0 → (FloatKind.f64.format.order (frung s) v == some .lt) = false) := by
 obtain ⟨d1, e1, f1, _, n1, m1, l1⟩ := diff_word h1 h3
 obtain ⟨d2, e2, f2, _, n2, m2, l2⟩ := diff_word h2 h6
 obtain ⟨d3, e3, f3, _, n3, m3, l3⟩ := diff_word h2 h4
 obtain ⟨d4, e4, f4, _, n4, m4, l4⟩ := diff_word h1 h5
 obtain ⟨l, el, fl, wl, nl, ml, ll, pl⟩ := prod_word f1 f2 n1 n2 m1 m2 l1 l2
 obtain ⟨r, er, fr, wr, nr, mr, lr, pr⟩ := prod_word f3 f4 n3 n4 m3 m4 l3 l4
 have bs : ab (fval l - fval r) ≤ U 1277 := by
   have := ab_sub (fval l) (fval r)
   have h := U_two' 1276
   grind
 obtain ⟨s, es, fs, ws, rs⟩ := sub_bits fl fr (lim_U bs (by omega))
 have fl' : Fin64 (frung l) := fin_small fl
 have fr' : Fin64 (frung r) := fin_small fr
 have vl := ab_fval l fl
 have vr := ab_fval r fr
 have b0 : 0 ≤ ab (fval l) + ab (fval r) := by have := ab_nonneg (fval l); have := ab_nonneg (fval r); grind
 have bz : ab (ab (fval l) + ab (fval r)) ≤ U 1277 := by
   have h := U_two' 1276
   rw [show ab (ab (fval l) + ab (fval r)) = ab (fval l) + ab (fval r) by rw [ab, if_neg (by grind)]]
   grind
 obtain ⟨z, ez, fz, wz, rz⟩ := add_bits fl' fr' (by rw [vl, vr]; exact lim_U bz (by omega))
 rw [vl, vr] at rz
 have mz0 : M (U 874) (ab (fval l) + ab (fval r)) := ml.ab.add mr.ab
 have mz := rz.rn.mm mz0
 have lz := rz.rn.le bz
 have hC : Fin64 4377498837804122112 := by unfold Fin64 frung; omega
 have hv0 : ab (U 1023 * fval z) ≤ U 1226 := mul_le_U (p := 1023) (q := 1277) (by rw [ab, if_neg (by have := U_pos 1023; grind)]; exact Rat.le_refl) lz (by omega)
 obtain ⟨v, ev, fv, wv, rv⟩ := mul_bits hC fz (by rw [low51]; exact lim_U hv0 (by omega))
 rw [low51] at rv
 have vv : fval v = U 1023 * fval z := rv.rn.exact (F_less (word_F fz) mz (by omega))
 have hz0 : 0 ≤ fval z := by
   have h := rz.rn.rel mz0
   have a := ab_self (ab (fval l) + ab (fval r) - fval z)
   apply Classical.byContradiction
   intro hn
   have hz' : ab (fval z) = -fval z := by rw [ab, if_pos (by grind)]
   rw [hz'] at h
   grind
 have u0 := U_pos 1023
 have hu : U 1125 * U 1023 = 1 := by
   rw [U_mulX' (s := 1125) (t := 1023) (r := 1074) (by omega)]; unfold U; exact p2_zero
 have hu2 : U 1125 = 2251799813685248 := by
   have := U_add 1074 51
   rw [show U 1074 = 1 from by unfold U; exact p2_zero] at this
   rw [show (1125 : Nat) = 1074 + 51 from rfl, this]
   show ((2251799813685248 : Nat) : Rat) * 1 = _
   rw [Rat.mul_one]; rfl
 have key : (FloatKind.f64.format.order (frung s) v == some .lt) = decide (ab (fval s) < U 1023 * fval z) := by
   rw [order_val (fin_small fs) fv, ab_fval s fs, vv]
   by_cases h : ab (fval s) < U 1023 * fval z
   · rw [if_pos h, decide_eq_true h]; rfl
   · rw [if_neg h, decide_eq_false h]
     split <;> rfl
 refine ⟨d1, d2, l, d3, d4, r, s, z, v, e1, e2, el, e3, e4, er, es, ez, ev, wl, wr, ws, fs, ?_, ?_⟩
 · intro ht
   rw [key] at ht
   have ht' : U 1023 * fval z ≤ ab (fval s) := by
     have := of_decide_eq_false ht
     grind
   have h5' : fval z ≤ 2251799813685248 * ab (fval s) := by
     have := Rat.mul_le_mul_of_nonneg_left ht' (show (0 : Rat) ≤ U 1125 from Rat.le_of_lt (U_pos 1125))
     rw [← Rat.mul_assoc, hu, Rat.one_mul, hu2] at this
     exact this
   exact sgq_three (fast_sign pl pr (rs.rn.rel (ml.sub mr)) (rz.rn.rel mz0) hz0 h5')
 · rintro ⟨i1, v1, a1, b1⟩ ⟨i2, v2, a2, b2⟩ ⟨i3, v3, a3, b3⟩ ⟨i4, v4, a4, b4⟩ ⟨i5, v5, a5, b5⟩ ⟨i6, v6, a6, b6⟩ hne
   have x1 : fval d1 = ((i3 - i1 : Int) : Rat) := by rw [n1.int (i3 - i1) (by rw [v3, v1, Rat.intCast_sub]) (by omega) (by omega), v3, v1, Rat.intCast_sub]
   have x2 : fval d2 = ((i6 - i2 : Int) : Rat) := by rw [n2.int (i6 - i2) (by rw [v6, v2, Rat.intCast_sub]) (by omega) (by omega), v6, v2, Rat.intCast_sub]
   have x3 : fval d3 = ((i4 - i2 : Int) : Rat) := by rw [n3.int (i4 - i2) (by rw [v4, v2, Rat.intCast_sub]) (by omega) (by omega), v4, v2, Rat.intCast_sub]
   have x4 : fval d4 = ((i5 - i1 : Int) : Rat) := by rw [n4.int (i5 - i1) (by rw [v5, v1, Rat.intCast_sub]) (by omega) (by omega), v5, v1, Rat.intCast_sub]
   have y1 := int_mul_bound (a := i3 - i1) (b := i6 - i2) (k := 2048) (m := 2048) (by omega) (by omega) (by omega) (by omega)
   have y2 := int_mul_bound (a := i4 - i2) (b := i5 - i1) (k := 2048) (m := 2048) (by omega) (by omega) (by omega) (by omega)
   have xl : fval l = (((i3 - i1) * (i6 - i2) : Int) : Rat) := by rw [nl.int ((i3 - i1) * (i6 - i2)) (by rw [x1, x2, Rat.intCast_mul]) (by omega) (by omega), x1, x2, Rat.intCast_mul]
   have xr : fval r = (((i4 - i2) * (i5 - i1) : Int) : Rat) := by rw [nr.int ((i4 - i2) * (i5 - i1)) (by rw [x3, x4, Rat.intCast_mul]) (by omega) (by omega), x3, x4, Rat.intCast_mul]
   have eS : S3 ax ay bx by' cx cy = (((i3 - i1) * (i6 - i2) - (i4 - i2) * (i5 - i1) : Int) : Rat) := by
     unfold S3
     rw [v1, v2, v3, v4, v5, v6, Rat.intCast_sub, Rat.intCast_mul, Rat.intCast_mul, Rat.intCast_sub, Rat.intCast_sub, Rat.intCast_sub, Rat.intCast_sub]
   generalize (i3 - i1) * (i6 - i2) = A at *
   generalize (i4 - i2) * (i5 - i1) = B at *
   have xs : fval s = ((A - B : Int) : Rat) := by rw [rs.rn.int (A - B) (by rw [xl, xr, Rat.intCast_sub]) (by omega) (by omega), xl, xr, Rat.intCast_sub]
   rw [eS] at hne
   have s1 := ab_one hne
   have z1 : ab (fval l) + ab (fval r) ≤ U 1097 := by
     have c1 := ab_int (n := A) (k := 4194304) (by omega) (by omega)
     have c2 := ab_int (n := B) (k := 4194304) (by omega) (by omega)
     have : U 1097 = 8388608 := by
       have := U_add 1074 23
       rw [show U 1074 = 1 from by unfold U; exact p2_zero] at this
       rw [show (1097 : Nat) = 1074 + 23 from rfl, this]
       show ((8388608 : Nat) : Rat) * 1 = _
       rw [Rat.mul_one]; rfl
     rw [xl, xr, this]
     have k1 : ((4194304 : Nat) : Rat) = 4194304 := rfl
     rw [k1] at c1 c2
     grind
   have z2 : ab (ab (fval l) + ab (fval r)) ≤ U 1097 := by rw [ab, if_neg (by grind)]; exact z1
   have z3 := rz.rn.le z2
   have z4 : ab (U 1023 * fval z) ≤ U 1046 := mul_le_U (p := 1023) (q := 1097) (by rw [ab, if_neg (by grind)]; exact Rat.le_refl) z3 (by omega)
   have z5 : U 1046 < 1 := by
     have : U 1046 < U 1074 := U_lt_iff.2 (by omega)
     rwa [show U 1074 = 1 from by unfold U; exact p2_zero] at this
   have z6 := (ab_self (U 1023 * fval z)).1
   rw [key]
   apply decide_eq_false
   rw [xs]
   grind

end Go.Proofs.YtocnkgfoffpbfaaGreatDoor
