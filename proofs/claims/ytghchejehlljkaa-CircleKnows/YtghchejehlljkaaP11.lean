/- Own texts, put together: Od Oe Of Og Oh Lk Oi Oj Hd Cn. -/
import Derived.Test.YtghchejehlljkaaP8
import Derived.Test.YtghchejehlljkaaP10
import Derived.Deep.RegionHeld3
/- Signs that are told fast: the floats that are reckoned. -/
namespace Go.Proofs.Ytghchejehlljkaa
open Go.RowKit

def S3 (ax ay bx by' cx cy : Nat) : Rat := (fval bx - fval ax) * (fval cy - fval ay) - (fval by' - fval ay) * (fval cx - fval ax)
def Sm (x : Nat) : Prop := ∃ n : Int, fval x = (n : Rat) ∧ -1024 ≤ n ∧ n ≤ 1024

theorem sgq_three {s X : Rat} (h : (0 < s ∧ 0 < X) ∨ (s < 0 ∧ X < 0) ∨ (s = 0 ∧ X = 0)) : sgq s = sgq X := by
  unfold sgq
  rcases h with ⟨a, b⟩ | ⟨a, b⟩ | ⟨a, b⟩
  · rw [if_neg (by grind), if_neg (by grind), if_neg (by grind), if_neg (by grind)]
  · rw [if_pos a, if_pos b]
  · rw [a, b]

theorem RN.le {q x : Rat} {p : Nat} (h : RN q x) (hq : ab q ≤ U p) : ab x ≤ U p := by
  obtain ⟨_, _, R⟩ := h
  exact R.le_pow' hq
theorem lim_U {q : Rat} {p : Nat} (h : ab q ≤ U p) (hp : p ≤ 2000) : Lim q := by
  have h3 : U p < p2 1023 := by unfold U; exact p2_lt (by omega)
  have := ab_le.1 h
  exact ⟨by grind, by grind⟩
theorem ab_sub (x y : Rat) : ab (x - y) ≤ ab x + ab y := by
  have := ab_add x (-y)
  rwa [ab_neg, show x + -y = x - y by grind] at this
theorem U_two' (p : Nat) : U p + U p = U (p + 1) := by rw [U_succ]; grind
theorem mul_le_U {x y : Rat} {p q r : Nat} (h1 : ab x ≤ U p) (h2 : ab y ≤ U q) (e : r + 1074 = p + q) : ab (x * y) ≤ U r := by
  rw [ab_mul, ← U_mulX' e]
  have a := Rat.mul_le_mul_of_nonneg_right h1 (ab_nonneg y)
  have b := Rat.mul_le_mul_of_nonneg_left h2 (Rat.le_of_lt (U_pos p))
  exact Rat.le_trans a b
theorem M.ab {u x : Rat} (h : M u x) : M u (ab x) := by
  unfold Go.Proofs.Ytghchejehlljkaa.ab
  split
  · exact h.neg
  · exact h
theorem low51 : fval 4377498837804122112 = U 1023 := by
  have := fval_rung 971 4503599627370496 (by omega) (Or.inr (by omega)) (by omega)
  have h := U_52 971
  rw [show (4377498837804122112 : Nat) = 971 * 4503599627370496 + 4503599627370496 from rfl, this]
  exact h.symm
theorem word_F {b : Nat} (h : Fin64 b) : F (fval b) := by
  obtain ⟨S, m, c⟩ := fc_word h
  exact c.f

theorem diff_word {a b : Nat} (ha : Crd a) (hb : Crd b) : ∃ d, floatBits .sub .f64 b a = some d ∧ Fin64 d ∧ d < 18446744073709551616 ∧ RN (fval b - fval a) (fval d) ∧ M (U 974) (fval b - fval a) ∧ ab (fval b - fval a) ≤ U 1175 := by
  have hm : M (U 974) (fval b - fval a) := hb.2.sub ha.2
  have hl : ab (fval b - fval a) ≤ U 1175 := by
    have := ab_sub (fval b) (fval a)
    have h1 := crd_ab ha.1
    have h2 := crd_ab hb.1
    have h3 := U_two' 1174
    grind
  obtain ⟨d, e, f, l, r⟩ := sub_bits (crd_fin hb.1) (crd_fin ha.1) (lim_U hl (by omega))
  exact ⟨d, e, f, l, r.rn, hm, hl⟩

theorem prod_word {d e : Nat} {p q : Rat} (fd : Fin64 d) (fe : Fin64 e) (rd : RN p (fval d)) (re : RN q (fval e)) (md : M (U 974) p) (me : M (U 974) q) (ld : ab p ≤ U 1175) (le : ab q ≤ U 1175) :
    ∃ l, floatBits .mul .f64 d e = some l ∧ Fin64 l ∧ l < 18446744073709551616 ∧ RN (fval d * fval e) (fval l) ∧ M (U 874) (fval l) ∧ ab (fval l) ≤ U 1276 ∧ 9223372036854775808 * ab (p * q - fval l) ≤ 3073 * ab (fval l) := by
  have h1 := rd.mm md
  have h2 := re.mm me
  have hm : M (U 874) (fval d * fval e) := by
    have := h1.mul h2
    rwa [U_mulX' (s := 974) (t := 974) (r := 874) (by omega)] at this
  have hl : ab (fval d * fval e) ≤ U 1276 := mul_le_U (rd.le ld) (re.le le) (by omega)
  obtain ⟨l, e1, f, lw, r⟩ := mul_bits fd fe (lim_U hl (by omega))
  exact ⟨l, e1, f, lw, r.rn, r.rn.mm hm, r.rn.le hl, prod_err (rd.rel md) (re.rel me) (r.rn.rel hm)⟩

theorem RN.int {q x : Rat} (h : RN q x) (n : Int) (e : q = (n : Rat)) (h1 : -9007199254740992 ≤ n) (h2 : n ≤ 9007199254740992) : x = q := h.exact (by rw [e]; exact F_int n h1 h2)
theorem int_mul_bound {a b : Int} {k m : Int} (h1 : -k ≤ a) (h2 : a ≤ k) (h3 : -m ≤ b) (h4 : b ≤ m) : -(k * m) ≤ a * b ∧ a * b ≤ k * m := by
  have e1 : (0 : Int) ≤ (k - a) * (m - b) := Int.mul_nonneg (by omega) (by omega)
  have e2 : (0 : Int) ≤ (k + a) * (m + b) := Int.mul_nonneg (by omega) (by omega)
  have e3 : (0 : Int) ≤ (k - a) * (m + b) := Int.mul_nonneg (by omega) (by omega)
  have e4 : (0 : Int) ≤ (k + a) * (m - b) := Int.mul_nonneg (by omega) (by omega)
  rw [Int.sub_mul, Int.mul_sub, Int.mul_sub] at e1
  rw [Int.add_mul, Int.mul_add, Int.mul_add] at e2
  rw [Int.sub_mul, Int.mul_add, Int.mul_add] at e3
  rw [Int.add_mul, Int.mul_sub, Int.mul_sub] at e4
  generalize k * m = km at *
  generalize k * b = kb at *
  generalize a * m = am at *
  generalize a * b = ab at *
  omega

theorem ab_one {n : Int} (h : (n : Rat) ≠ 0) : 1 ≤ ab (n : Rat) := by
  have := M.ge (u := 1) (x := (n : Rat)) (by grind) ⟨n, by grind⟩ h
  exact this
theorem ab_int {n : Int} {k : Nat} (h1 : -(k : Int) ≤ n) (h2 : n ≤ (k : Int)) : ab (n : Rat) ≤ ((k : Nat) : Rat) := by
  apply ab_le.2
  have a : (n : Rat) ≤ ((k : Int) : Rat) := Rat.intCast_le_intCast.2 h2
  have b : ((-(k : Int) : Int) : Rat) ≤ (n : Rat) := Rat.intCast_le_intCast.2 h1
  rw [Rat.intCast_neg] at b
  have e : ((k : Int) : Rat) = ((k : Nat) : Rat) := rfl
  rw [e] at a b
  exact ⟨a, by grind⟩

set_option maxHeartbeats 1000000 in
theorem fast_words {ax ay bx by' cx cy : Nat} (h1 : Crd ax) (h2 : Crd ay) (h3 : Crd bx) (h4 : Crd by') (h5 : Crd cx) (h6 : Crd cy) :
    ∃ d1 d2 l d3 d4 r s z v, floatBits .sub .f64 bx ax = some d1 ∧ floatBits .sub .f64 cy ay = some d2 ∧ floatBits .mul .f64 d1 d2 = some l ∧ floatBits .sub .f64 by' ay = some d3 ∧ floatBits .sub .f64 cx ax = some d4 ∧ floatBits .mul .f64 d3 d4 = some r ∧ floatBits .sub .f64 l r = some s ∧ floatBits .add .f64 (frung l) (frung r) = some z ∧ floatBits .mul .f64 4377498837804122112 z = some v ∧
      l < 18446744073709551616 ∧ r < 18446744073709551616 ∧ s < 18446744073709551616 ∧ Fin64 s ∧
      ((FloatKind.f64.format.order (frung s) v == some .lt) = false → sgq (fval s) = sgq (S3 ax ay bx by' cx cy)) ∧
      (Sm ax → Sm ay → Sm bx → Sm by' → Sm cx → Sm cy → S3 ax ay bx by' cx cy ≠ 0 → (FloatKind.f64.format.order (frung s) v == some .lt) = false) := by
  obtain ⟨d1, e1, f1, _, n1, m1, l1⟩ := diff_word h1 h3
  obtain ⟨d2, e2, f2, _, n2, m2, l2⟩ := diff_word h2 h6
  obtain ⟨d3, e3, f3, _, n3, m3, l3⟩ := diff_word h2 h4
  obtain ⟨d4, e4, f4, _, n4, m4, l4⟩ := diff_word h1 h5
  obtain ⟨l, el, fl, wl, nl, ml, ll, pl⟩ := prod_word f1 f2 n1 n2 m1 m2 l1 l2
  obtain ⟨r, er, fr, wr, nr, mr, lr, pr⟩ := prod_word f3 f4 n3 n4 m3 m4 l3 l4
  have bs : ab (fval l - fval r) ≤ U 1277 := by
    have := ab_sub (fval l) (fval r)
    have h := U_two' 1276
    grind
  obtain ⟨s, es, fs, ws, rs⟩ := sub_bits fl fr (lim_U bs (by omega))
  have fl' : Fin64 (frung l) := fin_small fl
  have fr' : Fin64 (frung r) := fin_small fr
  have vl := ab_fval l fl
  have vr := ab_fval r fr
  have b0 : 0 ≤ ab (fval l) + ab (fval r) := by have := ab_nonneg (fval l); have := ab_nonneg (fval r); grind
  have bz : ab (ab (fval l) + ab (fval r)) ≤ U 1277 := by
    have h := U_two' 1276
    rw [show ab (ab (fval l) + ab (fval r)) = ab (fval l) + ab (fval r) by rw [ab, if_neg (by grind)]]
    grind
  obtain ⟨z, ez, fz, wz, rz⟩ := add_bits fl' fr' (by rw [vl, vr]; exact lim_U bz (by omega))
  rw [vl, vr] at rz
  have mz0 : M (U 874) (ab (fval l) + ab (fval r)) := ml.ab.add mr.ab
  have mz := rz.rn.mm mz0
  have lz := rz.rn.le bz
  have hC : Fin64 4377498837804122112 := by unfold Fin64 frung; omega
  have hv0 : ab (U 1023 * fval z) ≤ U 1226 := mul_le_U (p := 1023) (q := 1277) (by rw [ab, if_neg (by have := U_pos 1023; grind)]; exact Rat.le_refl) lz (by omega)
  obtain ⟨v, ev, fv, wv, rv⟩ := mul_bits hC fz (by rw [low51]; exact lim_U hv0 (by omega))
  rw [low51] at rv
  have vv : fval v = U 1023 * fval z := rv.rn.exact (F_less (word_F fz) mz (by omega))
  have hz0 : 0 ≤ fval z := by
    have h := rz.rn.rel mz0
    have a := ab_self (ab (fval l) + ab (fval r) - fval z)
    apply Classical.byContradiction
    intro hn
    have hz' : ab (fval z) = -fval z := by rw [ab, if_pos (by grind)]
    rw [hz'] at h
    grind
  have u0 := U_pos 1023
  have hu : U 1125 * U 1023 = 1 := by
    rw [U_mulX' (s := 1125) (t := 1023) (r := 1074) (by omega)]; unfold U; exact p2_zero
  have hu2 : U 1125 = 2251799813685248 := by
    have := U_add 1074 51
    rw [show U 1074 = 1 from by unfold U; exact p2_zero] at this
    rw [show (1125 : Nat) = 1074 + 51 from rfl, this]
    show ((2251799813685248 : Nat) : Rat) * 1 = _
    rw [Rat.mul_one]; rfl
  have key : (FloatKind.f64.format.order (frung s) v == some .lt) = decide (ab (fval s) < U 1023 * fval z) := by
    rw [order_val (fin_small fs) fv, ab_fval s fs, vv]
    by_cases h : ab (fval s) < U 1023 * fval z
    · rw [if_pos h, decide_eq_true h]; rfl
    · rw [if_neg h, decide_eq_false h]
      split <;> rfl
  refine ⟨d1, d2, l, d3, d4, r, s, z, v, e1, e2, el, e3, e4, er, es, ez, ev, wl, wr, ws, fs, ?_, ?_⟩
  · intro ht
    rw [key] at ht
    have ht' : U 1023 * fval z ≤ ab (fval s) := by
      have := of_decide_eq_false ht
      grind
    have h5' : fval z ≤ 2251799813685248 * ab (fval s) := by
      have := Rat.mul_le_mul_of_nonneg_left ht' (show (0 : Rat) ≤ U 1125 from Rat.le_of_lt (U_pos 1125))
      rw [← Rat.mul_assoc, hu, Rat.one_mul, hu2] at this
      exact this
    exact sgq_three (fast_sign pl pr (rs.rn.rel (ml.sub mr)) (rz.rn.rel mz0) hz0 h5')
  · rintro ⟨i1, v1, a1, b1⟩ ⟨i2, v2, a2, b2⟩ ⟨i3, v3, a3, b3⟩ ⟨i4, v4, a4, b4⟩ ⟨i5, v5, a5, b5⟩ ⟨i6, v6, a6, b6⟩ hne
    have x1 : fval d1 = ((i3 - i1 : Int) : Rat) := by rw [n1.int (i3 - i1) (by rw [v3, v1, Rat.intCast_sub]) (by omega) (by omega), v3, v1, Rat.intCast_sub]
    have x2 : fval d2 = ((i6 - i2 : Int) : Rat) := by rw [n2.int (i6 - i2) (by rw [v6, v2, Rat.intCast_sub]) (by omega) (by omega), v6, v2, Rat.intCast_sub]
    have x3 : fval d3 = ((i4 - i2 : Int) : Rat) := by rw [n3.int (i4 - i2) (by rw [v4, v2, Rat.intCast_sub]) (by omega) (by omega), v4, v2, Rat.intCast_sub]
    have x4 : fval d4 = ((i5 - i1 : Int) : Rat) := by rw [n4.int (i5 - i1) (by rw [v5, v1, Rat.intCast_sub]) (by omega) (by omega), v5, v1, Rat.intCast_sub]
    have y1 := int_mul_bound (a := i3 - i1) (b := i6 - i2) (k := 2048) (m := 2048) (by omega) (by omega) (by omega) (by omega)
    have y2 := int_mul_bound (a := i4 - i2) (b := i5 - i1) (k := 2048) (m := 2048) (by omega) (by omega) (by omega) (by omega)
    have xl : fval l = (((i3 - i1) * (i6 - i2) : Int) : Rat) := by rw [nl.int ((i3 - i1) * (i6 - i2)) (by rw [x1, x2, Rat.intCast_mul]) (by omega) (by omega), x1, x2, Rat.intCast_mul]
    have xr : fval r = (((i4 - i2) * (i5 - i1) : Int) : Rat) := by rw [nr.int ((i4 - i2) * (i5 - i1)) (by rw [x3, x4, Rat.intCast_mul]) (by omega) (by omega), x3, x4, Rat.intCast_mul]
    have eS : S3 ax ay bx by' cx cy = (((i3 - i1) * (i6 - i2) - (i4 - i2) * (i5 - i1) : Int) : Rat) := by
      unfold S3
      rw [v1, v2, v3, v4, v5, v6, Rat.intCast_sub, Rat.intCast_mul, Rat.intCast_mul, Rat.intCast_sub, Rat.intCast_sub, Rat.intCast_sub, Rat.intCast_sub]
    generalize (i3 - i1) * (i6 - i2) = A at *
    generalize (i4 - i2) * (i5 - i1) = B at *
    have xs : fval s = ((A - B : Int) : Rat) := by rw [rs.rn.int (A - B) (by rw [xl, xr, Rat.intCast_sub]) (by omega) (by omega), xl, xr, Rat.intCast_sub]
    rw [eS] at hne
    have s1 := ab_one hne
    have z1 : ab (fval l) + ab (fval r) ≤ U 1097 := by
      have c1 := ab_int (n := A) (k := 4194304) (by omega) (by omega)
      have c2 := ab_int (n := B) (k := 4194304) (by omega) (by omega)
      have : U 1097 = 8388608 := by
        have := U_add 1074 23
        rw [show U 1074 = 1 from by unfold U; exact p2_zero] at this
        rw [show (1097 : Nat) = 1074 + 23 from rfl, this]
        show ((8388608 : Nat) : Rat) * 1 = _
        rw [Rat.mul_one]; rfl
      rw [xl, xr, this]
      have k1 : ((4194304 : Nat) : Rat) = 4194304 := rfl
      rw [k1] at c1 c2
      grind
    have z2 : ab (ab (fval l) + ab (fval r)) ≤ U 1097 := by rw [ab, if_neg (by grind)]; exact z1
    have z3 := rz.rn.le z2
    have z4 : ab (U 1023 * fval z) ≤ U 1046 := mul_le_U (p := 1023) (q := 1097) (by rw [ab, if_neg (by grind)]; exact Rat.le_refl) z3 (by omega)
    have z5 : U 1046 < 1 := by
      have : U 1046 < U 1074 := U_lt_iff.2 (by omega)
      rwa [show U 1074 = 1 from by unfold U; exact p2_zero] at this
    have z6 := (ab_self (U 1023 * fval z)).1
    rw [key]
    apply decide_eq_false
    rw [xs]
    grind

end Go.Proofs.Ytghchejehlljkaa

/- Package orient: Fast. -/
namespace Go.Proofs.Ytghchejehlljkaa
open Go.RowKit Go.Shelf
attribute [local go_sem ↓] Go.wp_at_zero Go.wp_at_succ
attribute [local go_sem] run_store_float

abbrev pv (x y : Nat) : Value := .agg #[.float .f64 x, .float .f64 y]
def P3 (ax ay bx by' cx cy : Nat) : Prop := Pt ax ay ∧ Pt bx by' ∧ Pt cx cy
def W6 (ax ay bx by' cx cy : Nat) : Prop := (ax < 18446744073709551616 ∧ ay < 18446744073709551616) ∧ (bx < 18446744073709551616 ∧ by' < 18446744073709551616) ∧ cx < 18446744073709551616 ∧ cy < 18446744073709551616

theorem has3 (ax ay bx by' cx cy : Nat) (w : World) (hw : W6 ax ay bx by' cx cy) :
    Calls Try.prog 22 #[.slice (some ⟨w.heap.size, 0, none⟩) 3 3] (w.alloc (.cells #[.float .f64 ax, .float .f64 ay, .float .f64 bx, .float .f64 by', .float .f64 cx, .float .f64 cy] 24)) fun e w' => (∃ t, e = .returned (.bool t) ∧ (t = true ↔ P3 ax ay bx by' cx cy)) ∧ Below w.heap.size w w' := by
  have hb : Below w.heap.size w (w.alloc (.cells #[.float .f64 ax, .float .f64 ay, .float .f64 bx, .float .f64 by', .float .f64 cx, .float .f64 cy] 24)) := (Below.refl _ w).alloc (Nat.le_refl _) _
  refine (has_walk w.heap.size 3 3 (fun k => if k = 0 then ax else if k = 1 then bx else cx) (fun k => if k = 0 then ay else if k = 1 then by' else cy) _ (fun k hk => ?_) (fun k => ?_) (by omega)).mono ?_
  · have : k = 0 ∨ k = 1 ∨ k = 2 := by omega
    rcases this with rfl | rfl | rfl <;> exact ⟨by go_simp, by go_simp⟩
  · constructor
    · show (if k = 0 then ax else if k = 1 then bx else cx) < _
      split
      · exact hw.1.1
      · split
        · exact hw.2.1.1
        · exact hw.2.2.1
    · show (if k = 0 then ay else if k = 1 then by' else cy) < _
      split
      · exact hw.1.2
      · split
        · exact hw.2.1.2
        · exact hw.2.2.2
  · rintro e w' ⟨⟨t, rfl, ht⟩, hb'⟩
    refine ⟨⟨t, rfl, ?_⟩, below_step hb hb'⟩
    rw [ht]
    exact ⟨fun h => ⟨h 0 (by omega), h 1 (by omega), h 2 (by omega)⟩, fun h j hj => by
      have : j = 0 ∨ j = 1 ∨ j = 2 := by omega
      rcases this with rfl | rfl | rfl
      · exact h.1
      · exact h.2.1
      · exact h.2.2⟩

structure B3 (w W : World) (ax ay bx by' cx cy : Nat) : Prop where
  a0 : W.cell? ⟨w.heap.size, 0, none⟩ = some (.float .f64 ax)
  a1 : W.cell? ⟨w.heap.size, 1, none⟩ = some (.float .f64 ay)
  b0 : W.cell? ⟨w.heap.size + 1, 0, none⟩ = some (.float .f64 bx)
  b1 : W.cell? ⟨w.heap.size + 1, 1, none⟩ = some (.float .f64 by')
  c0 : W.cell? ⟨w.heap.size + 1 + 1, 0, none⟩ = some (.float .f64 cx)
  c1 : W.cell? ⟨w.heap.size + 1 + 1, 1, none⟩ = some (.float .f64 cy)
  bel : Below w.heap.size w W
theorem B3.later {w W W' : World} {ax ay bx by' cx cy : Nat} (h : B3 w W ax ay bx by' cx cy) (hb : Below W.heap.size W W') : B3 w W' ax ay bx by' cx cy :=
  ⟨box_cell hb h.a0, box_cell hb h.a1, box_cell hb h.b0, box_cell hb h.b1, box_cell hb h.c0, box_cell hb h.c1, below_step h.bel hb⟩
theorem B3.start (w : World) (ax ay bx by' cx cy : Nat) : B3 w (((w.alloc (.cells #[.float .f64 ax, .float .f64 ay] 24)).alloc (.cells #[.float .f64 bx, .float .f64 by'] 24)).alloc (.cells #[.float .f64 cx, .float .f64 cy] 24)) ax ay bx by' cx cy :=
  ⟨by go_simp, by go_simp, by go_simp, by go_simp, by go_simp, by go_simp, (((Below.refl _ w).alloc (Nat.le_refl _) _).alloc (by simp) _).alloc (by simp; omega) _⟩
theorem has3' (ax ay bx by' cx cy px py qx qy rx ry : Nat) (w : World) (hw : W6 ax ay bx by' cx cy) :
    Calls Try.prog 22 #[.slice (some ⟨w.heap.size + 1 + 1 + 1, 0, none⟩) 3 3] ((((w.alloc (.cells #[.float .f64 px, .float .f64 py] 24)).alloc (.cells #[.float .f64 qx, .float .f64 qy] 24)).alloc (.cells #[.float .f64 rx, .float .f64 ry] 24)).alloc (.cells #[.float .f64 ax, .float .f64 ay, .float .f64 bx, .float .f64 by', .float .f64 cx, .float .f64 cy] 24)) fun e w' => (∃ t, e = .returned (.bool t) ∧ (t = true ↔ P3 ax ay bx by' cx cy)) ∧ B3 w w' px py qx qy rx ry := by
  have h := has3 ax ay bx by' cx cy (((w.alloc (.cells #[.float .f64 px, .float .f64 py] 24)).alloc (.cells #[.float .f64 qx, .float .f64 qy] 24)).alloc (.cells #[.float .f64 rx, .float .f64 ry] 24)) hw
  have e : (((w.alloc (.cells #[.float .f64 px, .float .f64 py] 24)).alloc (.cells #[.float .f64 qx, .float .f64 qy] 24)).alloc (.cells #[.float .f64 rx, .float .f64 ry] 24)).heap.size = w.heap.size + 1 + 1 + 1 := by simp
  have hs := B3.start w px py qx qy rx ry
  generalize ((w.alloc (.cells #[.float .f64 px, .float .f64 py] 24)).alloc (.cells #[.float .f64 qx, .float .f64 qy] 24)).alloc (.cells #[.float .f64 rx, .float .f64 ry] 24) = W at *
  rw [← e]
  exact h.mono fun e' w' ⟨h1, h2⟩ => ⟨h1, hs.later h2⟩

def FastR (ax ay bx by' cx cy : Nat) (z : Int) (t : Bool) : Prop :=
  (t = true → P3 ax ay bx by' cx cy ∧ z = sgq (S3 ax ay bx by' cx cy)) ∧ (t = false → z = 0) ∧ (P3 ax ay bx by' cx cy → Sm ax → Sm ay → Sm bx → Sm by' → Sm cx → Sm cy → S3 ax ay bx by' cx cy ≠ 0 → t = true)

set_option maxRecDepth 100000 in
set_option maxHeartbeats 4000000 in
theorem fast_any (ax ay bx by' cx cy : Nat) (w : World) (hw : W6 ax ay bx by' cx cy) :
    Calls Try.prog 35 #[pv ax ay, pv bx by', pv cx cy] w fun e w' => (∃ z t, e = .returned (.tuple #[.int .i64 z, .bool t]) ∧ FastR ax ay bx by' cx cy z t) ∧ Below w.heap.size w w' := by
  have HW : Hid (W6 ax ay bx by' cx cy) := hw
  clear hw
  go_enter Try.func35, Try.ntmps35
  go_wp2_with fail
  refine (has3' ax ay bx by' cx cy ax ay bx by' cx cy w HW.out).mono ?_
  rintro e w1 ⟨⟨t, rfl, ht⟩, hB⟩
  have HB : Hid (Below w.heap.size w w1) := hB.bel
  have HT : Hid (t = true ↔ P3 ax ay bx by' cx cy) := ht
  clear ht
  cases t
  · clear hB
    go_wp2
    go_ret2
    exact ⟨⟨0, false, rfl, fun h => Bool.noConfusion h, fun _ => rfl, fun h => Bool.noConfusion (HT.out.2 h)⟩, HB.out⟩
  · have HP : Hid (P3 ax ay bx by' cx cy) := HT.out.1 rfl
    obtain ⟨u0, u1, u2, u3, u4, u5, _⟩ := hB
    obtain ⟨d1, d2, l, d3, d4, r, s, z, v, e1, e2, el, e3, e4, er, es, ez, ev, wl, wr, ws, fs, hsg, hkn⟩ := fast_words HP.out.1.1 HP.out.1.2 HP.out.2.1.1 HP.out.2.1.2 HP.out.2.2.1 HP.out.2.2.2
    have r1 : ∀ w, (binOp .sub 22 (.float .f64 bx) (.float .f64 ax)).run Try.prog w = .ok (.float .f64 d1) w := fun w => run_float_arith w .sub _ .f64 _ _ _ e1
    have r2 : ∀ w, (binOp .sub 22 (.float .f64 cy) (.float .f64 ay)).run Try.prog w = .ok (.float .f64 d2) w := fun w => run_float_arith w .sub _ .f64 _ _ _ e2
    have r3 : ∀ w, (binOp .mul 22 (.float .f64 d1) (.float .f64 d2)).run Try.prog w = .ok (.float .f64 l) w := fun w => run_float_arith w .mul _ .f64 _ _ _ el
    have r4 : ∀ w, (binOp .sub 22 (.float .f64 by') (.float .f64 ay)).run Try.prog w = .ok (.float .f64 d3) w := fun w => run_float_arith w .sub _ .f64 _ _ _ e3
    have r5 : ∀ w, (binOp .sub 22 (.float .f64 cx) (.float .f64 ax)).run Try.prog w = .ok (.float .f64 d4) w := fun w => run_float_arith w .sub _ .f64 _ _ _ e4
    have r6 : ∀ w, (binOp .mul 22 (.float .f64 d3) (.float .f64 d4)).run Try.prog w = .ok (.float .f64 r) w := fun w => run_float_arith w .mul _ .f64 _ _ _ er
    have r7 : ∀ w, (binOp .sub 22 (.float .f64 l) (.float .f64 r)).run Try.prog w = .ok (.float .f64 s) w := fun w => run_float_arith w .sub _ .f64 _ _ _ es
    have r8 : ∀ w, (binOp .add 22 (.float .f64 (frung l)) (.float .f64 (frung r))).run Try.prog w = .ok (.float .f64 z) w := fun w => run_float_arith w .add _ .f64 _ _ _ ez
    have r9 : ∀ w, (binOp .mul 22 (.float .f64 4377498837804122112) (.float .f64 z)).run Try.prog w = .ok (.float .f64 v) w := fun w => run_float_arith w .mul _ .f64 _ _ _ ev
    have HL : Hid (∀ w, Calls Try.prog 29 #[.float .f64 l] w fun e w' => e = .returned (.float .f64 (frung l)) ∧ w' = w) := fun w => abs_any l w wl
    have HR : Hid (∀ w, Calls Try.prog 29 #[.float .f64 r] w fun e w' => e = .returned (.float .f64 (frung r)) ∧ w' = w) := fun w => abs_any r w wr
    have HS : Hid (∀ w, Calls Try.prog 29 #[.float .f64 s] w fun e w' => e = .returned (.float .f64 (frung s)) ∧ w' = w) := fun w => abs_any s w ws
    have HC : Hid (∀ w, Calls Try.prog 31 #[.float .f64 s, .float .f64 0] w fun e w' => e = .returned (.int .i64 (sgq (fval s))) ∧ w' = w) := fun w => compare_zero s w fs
    obtain ⟨tb, htb⟩ : ∃ tb, (FloatKind.f64.format.order (frung s) v == some .lt) = tb := ⟨_, rfl⟩
    have HSG : Hid (tb = false → sgq (fval s) = sgq (S3 ax ay bx by' cx cy)) := by rw [← htb]; exact hsg
    have HKN : Hid (Sm ax → Sm ay → Sm bx → Sm by' → Sm cx → Sm cy → S3 ax ay bx by' cx cy ≠ 0 → tb = false) := by rw [← htb]; exact hkn
    clear e1 e2 el e3 e4 er es ez ev wl wr ws fs hsg hkn HT
    generalize frung l = fl at *
    generalize frung r = fr at *
    generalize frung s = fs at *
    generalize sgq (fval s) = sg at *
    go_wp2_with fail
    refine (HL.out _).mono ?_
    rintro e w2 ⟨rfl, rfl⟩
    go_wp2_with fail
    refine (HR.out _).mono ?_
    rintro e w2 ⟨rfl, rfl⟩
    go_wp2_with fail
    refine (HS.out _).mono ?_
    rintro e w2 ⟨rfl, rfl⟩
    cases tb
    · go_wp2_with fail
      refine (HC.out _).mono ?_
      rintro e w2 ⟨rfl, rfl⟩
      go_wp2
      go_ret2
      exact ⟨⟨sg, true, rfl, fun _ => ⟨HP.out, HSG.out (by simp)⟩, fun h => Bool.noConfusion h, fun _ _ _ _ _ _ _ _ => rfl⟩, HB.out⟩
    · go_wp2
      go_ret2
      exact ⟨⟨0, false, rfl, fun h => Bool.noConfusion h, fun _ => rfl, fun _ a1 a2 a3 a4 a5 a6 a7 => (HKN.out a1 a2 a3 a4 a5 a6 a7).symm⟩, HB.out⟩

end Go.Proofs.Ytghchejehlljkaa

/- Package orient: grown, differences as lists. -/
namespace Go.Proofs.Ytghchejehlljkaa
open Go.RowKit Go.Shelf
attribute [local go_sem ↓] Go.wp_at_zero Go.wp_at_succ
attribute [local go_sem] run_store_float

def pl (y x : Nat) (k : Nat) : List Nat := if k = 0 then [] else if k = 1 then gw [] y else gw (gw [] y) x
theorem pl_next (y x k : Nat) (hk : k < 2) : pl y x (k + 1) = gw (pl y x k) (if k = 0 then y else x) := by
  have : k = 0 ∨ k = 1 := by omega
  rcases this with rfl | rfl <;> rfl
theorem pl_len (y x k : Nat) : (pl y x k).length ≤ 2 := by
  unfold pl gw
  split
  · simp
  · split
    · split <;> simp
    · split
      · split <;> simp
      · split <;> simp

set_option maxRecDepth 100000 in
set_option maxHeartbeats 2000000 in
theorem grown2_any (g c y x : Nat) (w : World) (h1 : w.cell? ⟨g, 0, none⟩ = some (.float .f64 y)) (h2 : w.cell? ⟨g, 1, none⟩ = some (.float .f64 x)) (hy : y < 18446744073709551616) (hx : x < 18446744073709551616) :
    Calls Try.prog 59 #[.slice (some ⟨g, 0, none⟩) 2 c] w fun e w' => (∃ v, e = .returned v ∧ Fr w' w.heap.size v (gw (gw [] y) x)) ∧ Below w.heap.size w w' := by
  have HC : Hid (∀ k, k < 2 → w.cell? ⟨g, k, none⟩ = some (.float .f64 (if k = 0 then y else x))) := fun k hk => by
    have : k = 0 ∨ k = 1 := by omega
    rcases this with rfl | rfl
    · exact h1
    · exact h2
  have HW : Hid (y < 18446744073709551616 ∧ x < 18446744073709551616) := ⟨hy, hx⟩
  clear h1 h2 hy hx
  obtain ⟨i0, hi0, hz0, hz1, hz2⟩ := info_parts infoF
  go_enter Try.func59, Try.ntmps59
  go_wp2
  go_loopw [3, 8] (fun l i wr => ∃ (k : Nat) (v : Value), k ≤ 2 ∧ i = .int .i64 (k : Nat) ∧ v = l ∧ Hid (Fr wr w.heap.size v (pl y x k) ∧ Below w.heap.size w wr)) (fun _ i _ => 2 - (intOf i).toNat)
  case atStart => exact ⟨0, _, Nat.zero_le _, rfl, rfl, Fr.nil _ _, Below.refl _ _⟩
  case round =>
    obtain ⟨k, v, hk, rfl, rfl, hB⟩ := hrel
    by_cases hlt : k < 2
    · have hlt' : (k : Int) < 2 := by omega
      have hk0 : (0 : Int) ≤ (k : Int) := by omega
      have c1 := box_cell hB.out.2 (HC.out k hlt)
      obtain ⟨z, hz⟩ : ∃ z : Nat, Hid ((if k = 0 then y else x) = z) := ⟨_, rfl⟩
      rw [hz.out] at c1
      have HZ : Hid (z < 18446744073709551616) := by
        rw [← hz.out]
        show (if k = 0 then y else x) < _
        split
        · exact HW.out.1
        · exact HW.out.2
      have q := eql_zero2 z
      by_cases h0 : frung z = 0
      · rw [decide_eq_true h0] at q
        have q' : FloatKind.f64.format.order z 0 = some .eq := by simpa using q
        have HG : Hid (pl y x (k + 1) = pl y x k) := by
          show pl y x (k + 1) = _
          rw [pl_next y x k hlt, hz.out]; unfold gw; rw [if_pos h0]
        clear h0 q
        go_wp2
        exact ⟨⟨k + 1, v, by omega, by go_num, rfl, by rw [HG.out]; exact hB.out⟩, by simp [intOf]; omega⟩
      · rw [decide_eq_false h0] at q
        have HG : Hid (pl y x (k + 1) = pl y x k ++ [z]) := by
          show pl y x (k + 1) = _
          rw [pl_next y x k hlt, hz.out]; unfold gw; rw [if_neg h0]
        have q2 : (FloatKind.f64.format.order z 0 != some .eq) = true := by rw [bne, q]; rfl
        clear h0 q
        go_wp2_with (at_builtin; refine wpList_append_own _ rfl _ _ _ rfl w.heap.size 22 i0 _ 1 8 undF hi0 hz0 hz1 hz2 rfl (by omega) v (pl y x k).length (f64s (pl y x k)) rfl (hB.out.1.own.alloc _) ⟨wr.heap.size, 0, none⟩ 1 1 [.float .f64 z] rfl rfl (World.news_of_block (cs := #[.float .f64 z]) (t := 22) (fr := (0, 0)) (heap_alloc_new wr _)) (by simp [Value.oneCell']) (by unfold maxLen; have := pl_len y x k; omega) (by have := pl_len y x k; omega) (by have := hB.out.2.size; simp; omega) ?_; intro v' w1 hown hgrow hnil)
        have hsz := hB.out.2.size
        refine ⟨⟨k + 1, v', by omega, by go_num, rfl, ?_, ?_⟩, by simp [intOf]; omega⟩
        · rw [HG.out]
          refine ⟨?_, ?_⟩
          · rw [List.length_append]
            simpa [f64s] using hown
          · intro b hb
            rcases List.mem_append.1 hb with hb | hb
            · exact hB.out.1.word b hb
            · rw [List.mem_singleton.1 hb]; exact HZ.out
        · exact (hB.out.2.alloc hsz _).grown hgrow (by simp; omega) (fun k hk => (hB.out.1.own.lt k hk).1)
    · obtain rfl : k = 2 := by omega
      go_wp2
      go_ret
      exact ⟨⟨v, rfl, hB.out.1⟩, hB.out.2⟩

end Go.Proofs.Ytghchejehlljkaa

/- Package orient: exactSign, Sign. -/
namespace Go.Proofs.Ytghchejehlljkaa
open Go.RowKit Go.Shelf
attribute [local go_sem ↓] Go.wp_at_zero Go.wp_at_succ
attribute [local go_sem] run_store_float

structure DL (q : Rat) (bs : List Nat) : Prop where
  may : MayS bs
  sum : (vals bs).sum = q

theorem safe_word {b : Nat} (hf : Fin64 b) (h1 : U 974 ≤ ab (fval b)) (h2 : ab (fval b) ≤ U 1175) : 2580562586483294208 ≤ frung b ∧ frung b ≤ 6633802251116740608 := by
  rw [← ab_fval b hf] at h1 h2
  have f : frung b < 9218868437227405312 := hf
  constructor
  · rcases Nat.lt_or_ge (frung b) 2580562586483294208 with e | e
    · exfalso
      have h3 := fval_lt e (by omega)
      rw [safe_low] at h3
      have h4 := U_lt_iff.2 (show 624 < 974 by omega)
      grind
    · exact e
  · rcases Nat.lt_or_ge 6633802251116740608 (frung b) with e | e
    · exfalso
      have h3 := fval_lt e f
      rw [safe_top, show p2 450 = U 1524 from rfl] at h3
      have h4 := U_lt_iff.2 (show 1175 < 1524 by omega)
      grind
    · exact e

theorem frung_val {b : Nat} : frung b = 0 ↔ fval b = 0 := by
  rw [← fval_zero_iff]

theorem diff_list {a b x y : Nat} (ha : Crd a) (hb : Crd b) (h : Pair (TameW b a) (fval b - fval a) x y) : DL (fval b - fval a) (gw (gw [] y) x) := by
  have hd : TameW b a := ⟨by have := hb.1; omega, by have := ha.1; omega⟩
  obtain ⟨fx, fy, wx, wy, h⟩ := h
  obtain ⟨hr, he⟩ : RV (fval b - fval a) (fval x) ∧ fval x + fval y = fval b - fval a := by
    rcases h with ⟨_, h1, h2⟩ | ⟨h1, _⟩
    · exact ⟨h1, h2⟩
    · exact absurd hd h1
  have hm : M (U 974) (fval b - fval a) := hb.2.sub ha.2
  have hl : ab (fval b - fval a) ≤ U 1175 := by
    have := ab_sub (fval b) (fval a)
    have h1 := crd_ab ha.1
    have h2 := crd_ab hb.1
    have h3 := U_two' 1174
    grind
  have mx := hr.rn.mm hm
  have my : M (U 974) (fval y) := by
    have := hm.sub mx
    rwa [show fval b - fval a - fval x = fval y by grind] at this
  have lx := hr.rn.le hl
  have rel := hr.rn.rel hm
  rw [show fval b - fval a - fval x = fval y by grind] at rel
  have ly : ab (fval y) ≤ U 1175 := by have := ab_nonneg (fval y); grind
  have lo := hr.rn.lo he
  have u := U_pos 974
  have sx : fval x ≠ 0 → 2580562586483294208 ≤ frung x ∧ frung x ≤ 6633802251116740608 := fun h0 => safe_word fx (mx.ge u h0) lx
  have sy : fval y ≠ 0 → 2580562586483294208 ≤ frung y ∧ frung y ≤ 6633802251116740608 := fun h0 => safe_word fy (my.ge u h0) ly
  by_cases x0 : fval x = 0
  · have y0 : fval y = 0 := by
      rw [x0, show ab 0 = 0 by unfold ab; grind] at rel
      exact ab_zero (by have := ab_nonneg (fval y); grind)
    have e : gw (gw [] y) x = [] := by
      unfold gw
      rw [if_pos (frung_val.2 x0), if_pos (frung_val.2 y0)]
    rw [e]
    exact ⟨⟨by simp, fun i hi => by simp at hi⟩, by rw [← he, x0, y0]; show (0 : Rat) = 0 + 0; grind⟩
  · by_cases y0 : fval y = 0
    · have e : gw (gw [] y) x = [x] := by
        unfold gw
        rw [if_neg (fun h => x0 (frung_val.1 h)), if_pos (frung_val.2 y0)]; rfl
      rw [e]
      refine ⟨up_may ⟨by simp [vals], by simp [vals]; exact x0⟩ (by simp) (by simp; exact sx x0), ?_⟩
      rw [← he, y0]
      show fval x + 0 = _
      grind
    · have e : gw (gw [] y) x = [y, x] := by
        unfold gw
        rw [if_neg (fun h => x0 (frung_val.1 h)), if_neg (fun h => y0 (frung_val.1 h))]; rfl
      rw [e]
      refine ⟨up_may ⟨by simp [vals]; exact lo, by simp [vals]; exact ⟨y0, x0⟩⟩ (by simp) (by simp; exact ⟨sy y0, sx x0⟩), ?_⟩
      rw [← he]
      show fval y + (fval x + 0) = _
      grind

set_option maxRecDepth 100000 in
set_option maxHeartbeats 2000000 in
theorem from_any (ba ax ay px py : Nat) (w : World) (h0 : w.cell? ⟨ba, 0, none⟩ = some (.float .f64 ax)) (h1 : w.cell? ⟨ba, 1, none⟩ = some (.float .f64 ay)) (wa : ax < 18446744073709551616 ∧ ay < 18446744073709551616) (wp : px < 18446744073709551616 ∧ py < 18446744073709551616) (ha : Pt ax ay) (hp : Pt px py) :
    Calls Try.prog 57 #[pv px py, .pointer (some ⟨ba, 0, none⟩)] w fun e w' => (∃ v1 v2 l1 l2, e = .returned (.tuple #[v1, v2]) ∧ Fr w' w.heap.size v1 l1 ∧ Fr w' w.heap.size v2 l2 ∧ DL (fval px - fval ax) l1 ∧ DL (fval py - fval ay) l2) ∧ Below w.heap.size w w' := by
  have HA : Hid (w.cell? ⟨ba, 0, none⟩ = some (.float .f64 ax) ∧ w.cell? ⟨ba, 1, none⟩ = some (.float .f64 ay)) := ⟨h0, h1⟩
  have HW : Hid ((ax < 18446744073709551616 ∧ ay < 18446744073709551616) ∧ px < 18446744073709551616 ∧ py < 18446744073709551616) := ⟨wa, wp⟩
  have HP : Hid (Pt ax ay ∧ Pt px py) := ⟨ha, hp⟩
  have hbA : Hid (Below w.heap.size w (w.alloc (.cells #[.float .f64 px, .float .f64 py] 24))) := (Below.refl _ w).alloc (Nat.le_refl _) _
  have c0 := box_cell hbA.out h0
  have c1 := box_cell hbA.out h1
  clear h0 h1 wa wp ha hp
  go_enter Try.func57, Try.ntmps57
  go_wp2_with fail
  refine (diff_pair px ax _ HW.out.2.1 HW.out.1.1).mono ?_
  rintro e w1 ⟨⟨x1, y1, rfl, hp1⟩, hb1⟩
  have c1' := box_cell hb1 c1
  have d1 : w1.cell? ⟨w.heap.size, 1, none⟩ = some (.float .f64 py) := box_cell hb1 (by go_simp)
  have HB1 : Hid (Below w.heap.size w w1) := below_step hbA.out hb1
  have H1 : Hid (Pair (TameW px ax) (fval px - fval ax) x1 y1) := hp1
  clear hp1 hb1 c0 c1 hbA
  go_wp2_with fail
  refine (diff_pair py ay _ HW.out.2.2 HW.out.1.2).mono ?_
  rintro e w2 ⟨⟨x2, y2, rfl, hp2⟩, hb2⟩
  have HB2 : Hid (Below w.heap.size w w2) := below_step HB1.out hb2
  have H2 : Hid (Pair (TameW py ay) (fval py - fval ay) x2 y2) := hp2
  clear hp2 hb2 c1' d1
  go_wp2_with fail
  refine (grown2_any w2.heap.size 2 y1 x1 _ (by go_simp) (by go_simp) H1.out.2.2.2.1 H1.out.2.2.1).mono ?_
  rintro e w3 ⟨⟨v1, rfl, hF1⟩, hb3⟩
  have HB3 : Hid (Below w.heap.size w w3) := below_step (HB2.out.alloc HB2.out.size _) hb3
  have HF1 : Hid (Fr w3 w.heap.size v1 (gw (gw [] y1) x1)) := hF1.mono (by have := HB2.out.size; simp; omega)
  clear hF1 hb3
  go_wp2_with fail
  refine (grown2_any w3.heap.size 2 y2 x2 _ (by go_simp) (by go_simp) H2.out.2.2.2.1 H2.out.2.2.1).mono ?_
  rintro e w4 ⟨⟨v2, rfl, hF2⟩, hb4⟩
  have HB4 : Hid (Below w.heap.size w w4) := below_step (HB3.out.alloc HB3.out.size _) hb4
  have HF2 : Hid (Fr w4 w.heap.size v2 (gw (gw [] y2) x2)) := hF2.mono (by have := HB3.out.size; simp; omega)
  have HF1' : Hid (Fr w4 w.heap.size v1 (gw (gw [] y1) x1)) := HF1.out.later (below_step ((Below.refl _ w3).alloc (Nat.le_refl _) _) hb4)
  clear hF2 hb4 HF1
  go_wp2
  go_ret2
  exact ⟨⟨v1, v2, _, _, rfl, HF1'.out, HF2.out, diff_list HP.out.1.1 HP.out.2.1 H1.out, diff_list HP.out.1.2 HP.out.2.2 H2.out⟩, HB4.out⟩

set_option maxRecDepth 100000 in
set_option maxHeartbeats 2000000 in
theorem exact_any' (ax ay bx by' cx cy : Nat) (w : World) (hw : W6 ax ay bx by' cx cy) (hp : P3 ax ay bx by' cx cy) :
    Calls Try.prog 36 #[pv ax ay, pv bx by', pv cx cy] w fun e w' => e = .returned (.int .i64 (sgq (S3 ax ay bx by' cx cy))) ∧ Below w.heap.size w w' := by
  have HW : Hid (W6 ax ay bx by' cx cy) := hw
  have HP : Hid (P3 ax ay bx by' cx cy) := hp
  clear hw hp
  have hS := B3.start w ax ay bx by' cx cy
  have HS : Hid (B3 w (((w.alloc (.cells #[.float .f64 ax, .float .f64 ay] 24)).alloc (.cells #[.float .f64 bx, .float .f64 by'] 24)).alloc (.cells #[.float .f64 cx, .float .f64 cy] 24)) ax ay bx by' cx cy) := hS
  clear hS
  go_enter Try.func36, Try.ntmps36
  go_wp2_with fail
  refine (from_any w.heap.size ax ay bx by' _ HS.out.a0 HS.out.a1 HW.out.1 HW.out.2.1 HP.out.1 HP.out.2.1).mono ?_
  rintro e w1 ⟨⟨v1, v2, l1, l2, rfl, hF1, hF2, hd1, hd2⟩, hb1⟩
  have H1 : Hid (B3 w w1 ax ay bx by' cx cy) := HS.out.later hb1
  have HL1 : Hid (Fs w1 v1 l1 ∧ Fs w1 v2 l2 ∧ DL (fval bx - fval ax) l1 ∧ DL (fval by' - fval ay) l2) := ⟨hF1.fs, hF2.fs, hd1, hd2⟩
  have c0 := H1.out.c0
  have c1 := H1.out.c1
  clear hF1 hF2 hd1 hd2 hb1
  go_wp2_with fail
  refine (from_any w.heap.size ax ay cx cy _ H1.out.a0 H1.out.a1 HW.out.1 HW.out.2.2 HP.out.1 HP.out.2.2).mono ?_
  rintro e w2 ⟨⟨v3, v4, l3, l4, rfl, hF3, hF4, hd3, hd4⟩, hb2⟩
  have HL2 : Hid (Fs w2 v3 l3 ∧ Fs w2 v4 l4 ∧ DL (fval cx - fval ax) l3 ∧ DL (fval cy - fval ay) l4 ∧ Fs w2 v1 l1 ∧ Fs w2 v2 l2 ∧ Below w.heap.size w w2) := ⟨hF3.fs, hF4.fs, hd3, hd4, HL1.out.1.later hb2, HL1.out.2.1.later hb2, below_step H1.out.bel hb2⟩
  clear hF3 hF4 hd3 hd4 hb2 c0 c1
  go_wp2_with fail
  refine (mulE_any v1 v4 l1 l4 _ HL2.out.2.2.2.2.1 HL2.out.2.1).mono ?_
  rintro e w3 ⟨⟨v5, b5, t5, rfl, hF5, k1, k2, _⟩, hb3⟩
  obtain rfl := k1.2 ⟨HL1.out.2.2.1.may, HL2.out.2.2.2.1.may⟩
  have HL3 : Hid (Fs w3 v5 b5 ∧ SumS ((vals l1).sum * (vals l4).sum) b5 ∧ Fs w3 v2 l2 ∧ Fs w3 v3 l3 ∧ Below w.heap.size w w3) := ⟨hF5.fs, k2 rfl, HL2.out.2.2.2.2.2.1.later hb3, HL2.out.1.later hb3, below_step HL2.out.2.2.2.2.2.2 hb3⟩
  clear hF5 k1 k2 hb3
  go_wp2_with fail
  refine (mulE_any v2 v3 l2 l3 _ HL3.out.2.2.1 HL3.out.2.2.2.1).mono ?_
  rintro e w4 ⟨⟨v6, b6, t6, rfl, hF6, k1, k2, _⟩, hb4⟩
  obtain rfl := k1.2 ⟨HL1.out.2.2.2.may, HL2.out.2.2.1.may⟩
  have HL4 : Hid (Fs w4 v6 b6 ∧ SumS ((vals l2).sum * (vals l3).sum) b6 ∧ Fs w4 v5 b5 ∧ Below w.heap.size w w4) := ⟨hF6.fs, k2 rfl, HL3.out.1.later hb4, below_step HL3.out.2.2.2.2 hb4⟩
  clear hF6 k1 k2 hb4
  go_wp2_with fail
  refine (cmpE_any v5 v6 b5 b6 _ HL4.out.2.2.1 HL4.out.1).mono ?_
  rintro e w5 ⟨⟨z, rfl, hz, _⟩, hb5⟩
  have HZ : Hid (z = sgq (S3 ax ay bx by' cx cy)) := by
    show z = _
    rw [hz HL3.out.2.1.may HL4.out.2.1.may, HL3.out.2.1.sum, HL4.out.2.1.sum, HL1.out.2.2.1.sum, HL1.out.2.2.2.sum, HL2.out.2.2.1.sum, HL2.out.2.2.2.1.sum]
    rfl
  have HB5 : Hid (Below w.heap.size w w5) := below_step HL4.out.2.2.2 hb5
  clear hz hb5
  go_wp2
  go_ret
  exact ⟨by rw [HZ.out]; rfl, HB5.out⟩

noncomputable def sg3 (ax ay bx by' cx cy : Nat) : Int := @ite _ (P3 ax ay bx by' cx cy) (Classical.propDecidable _) (sgq (S3 ax ay bx by' cx cy)) 0
theorem sg3_yes {ax ay bx by' cx cy : Nat} (h : P3 ax ay bx by' cx cy) : sg3 ax ay bx by' cx cy = sgq (S3 ax ay bx by' cx cy) := by unfold sg3; rw [if_pos h]
theorem sg3_no {ax ay bx by' cx cy : Nat} (h : ¬ P3 ax ay bx by' cx cy) : sg3 ax ay bx by' cx cy = 0 := by unfold sg3; rw [if_neg h]

set_option maxRecDepth 100000 in
set_option maxHeartbeats 2000000 in
theorem sign3_any (ax ay bx by' cx cy : Nat) (w : World) (hw : W6 ax ay bx by' cx cy) :
    Calls Try.prog 19 #[pv ax ay, pv bx by', pv cx cy] w fun e w' => e = .returned (.int .i64 (sg3 ax ay bx by' cx cy)) ∧ Below w.heap.size w w' := by
  have HW : Hid (W6 ax ay bx by' cx cy) := hw
  clear hw
  have hS := B3.start w ax ay bx by' cx cy
  have HS : Hid (B3 w (((w.alloc (.cells #[.float .f64 ax, .float .f64 ay] 24)).alloc (.cells #[.float .f64 bx, .float .f64 by'] 24)).alloc (.cells #[.float .f64 cx, .float .f64 cy] 24)) ax ay bx by' cx cy) := hS
  clear hS
  go_enter Try.func19, Try.ntmps19
  go_wp2_with fail
  refine (fast_any ax ay bx by' cx cy _ HW.out).mono ?_
  rintro e w1 ⟨⟨z, t, rfl, hz⟩, hb1⟩
  have H1 : Hid (B3 w w1 ax ay bx by' cx cy) := HS.out.later hb1
  have HZ : Hid (FastR ax ay bx by' cx cy z t) := hz
  clear hz hb1 HS
  obtain ⟨u0, u1, u2, u3, u4, u5, _⟩ := H1.out
  cases t
  · go_wp2_with fail
    refine (has3 ax ay bx by' cx cy _ HW.out).mono ?_
    rintro e w2 ⟨⟨t, rfl, ht⟩, hb2⟩
    have H2 : Hid (B3 w w2 ax ay bx by' cx cy) := H1.out.later hb2
    have HT : Hid (t = true ↔ P3 ax ay bx by' cx cy) := ht
    clear ht hb2 u0 u1 u2 u3 u4 u5
    cases t
    · go_wp2
      go_ret
      exact ⟨by rw [sg3_no (fun h => Bool.noConfusion (HT.out.2 h))]; rfl, H2.out.bel⟩
    · have HP : Hid (P3 ax ay bx by' cx cy) := HT.out.1 rfl
      obtain ⟨u0, u1, u2, u3, u4, u5, _⟩ := H2.out
      go_wp2_with fail
      refine (exact_any' ax ay bx by' cx cy _ HW.out HP.out).mono ?_
      rintro e w3 ⟨rfl, hb3⟩
      have H3 : Hid (Below w.heap.size w w3) := below_step H2.out.bel hb3
      clear hb3
      go_wp2
      go_ret
      exact ⟨by rw [sg3_yes HP.out]; rfl, H3.out⟩
  · go_wp2
    go_ret
    exact ⟨by rw [sg3_yes (HZ.out.1 rfl).1, (HZ.out.1 rfl).2]; rfl, H1.out.bel⟩

end Go.Proofs.Ytghchejehlljkaa

/- Package orient: On, Cross. -/
namespace Go.Proofs.Ytghchejehlljkaa
open Go.RowKit Go.Shelf
attribute [local go_sem ↓] Go.wp_at_zero Go.wp_at_succ
attribute [local go_sem] run_store_float

theorem run_minF {a b : Nat} (fa : Fin64 a) (fb : Fin64 b) : ∃ m, (∀ w, (Builtin.min_ #[22, 22] 22 #[.float .f64 a, .float .f64 b]).run Try.prog w = .ok (.float .f64 m) w) ∧ (m = a ∨ m = b) ∧ fval m ≤ fval a ∧ fval m ≤ fval b := by
  have ho := order_val fa fb
  by_cases h1 : fval a < fval b
  · rw [if_pos h1] at ho
    exact ⟨a, fun w => by simp [Builtin.min_, Builtin.min2, ho], Or.inl rfl, Rat.le_refl, Rat.le_of_lt h1⟩
  · by_cases h2 : fval a = fval b
    · rw [if_neg h1, if_pos h2] at ho
      refine ⟨if (FloatKind.f64.decode a).neg then a else b, fun w => by simp [Builtin.min_, Builtin.min2, ho], ?_, ?_, ?_⟩
      · split
        · exact Or.inl rfl
        · exact Or.inr rfl
      · split
        · exact Rat.le_refl
        · rw [h2]; exact Rat.le_refl
      · split
        · rw [h2]; exact Rat.le_refl
        · exact Rat.le_refl
    · rw [if_neg h1, if_neg h2] at ho
      exact ⟨b, fun w => by simp [Builtin.min_, Builtin.min2, ho], Or.inr rfl, by grind, Rat.le_refl⟩
theorem run_maxF {a b : Nat} (fa : Fin64 a) (fb : Fin64 b) : ∃ m, (∀ w, (Builtin.max_ #[22, 22] 22 #[.float .f64 a, .float .f64 b]).run Try.prog w = .ok (.float .f64 m) w) ∧ (m = a ∨ m = b) ∧ fval a ≤ fval m ∧ fval b ≤ fval m := by
  have ho := order_val fa fb
  by_cases h1 : fval a < fval b
  · rw [if_pos h1] at ho
    exact ⟨b, fun w => by simp [Builtin.max_, Builtin.max2, ho], Or.inr rfl, Rat.le_of_lt h1, Rat.le_refl⟩
  · by_cases h2 : fval a = fval b
    · rw [if_neg h1, if_pos h2] at ho
      refine ⟨if (FloatKind.f64.decode a).neg then b else a, fun w => by simp [Builtin.max_, Builtin.max2, ho], ?_, ?_, ?_⟩
      · split
        · exact Or.inr rfl
        · exact Or.inl rfl
      · split
        · rw [h2]; exact Rat.le_refl
        · exact Rat.le_refl
      · split
        · exact Rat.le_refl
        · rw [h2]; exact Rat.le_refl
    · rw [if_neg h1, if_neg h2] at ho
      exact ⟨a, fun w => by simp [Builtin.max_, Builtin.max2, ho], Or.inl rfl, Rat.le_refl, by grind⟩
theorem leq_val {a b : Nat} (fa : Fin64 a) (fb : Fin64 b) : (FloatKind.f64.format.order a b == some .lt || FloatKind.f64.format.order a b == some .eq) = decide (fval a ≤ fval b) := by
  rw [order_val fa fb]
  by_cases h1 : fval a < fval b
  · rw [if_pos h1, decide_eq_true (Rat.le_of_lt h1)]; rfl
  · by_cases h2 : fval a = fval b
    · rw [if_neg h1, if_pos h2, decide_eq_true (by rw [h2]; exact Rat.le_refl)]; rfl
    · rw [if_neg h1, if_neg h2, decide_eq_false (by grind)]; rfl
def Btw (a b x : Rat) : Prop := (a ≤ x ∧ x ≤ b) ∨ (b ≤ x ∧ x ≤ a)

def OnP (ax ay bx by' px py : Nat) : Prop := P3 ax ay bx by' px py ∧ Btw (fval ax) (fval bx) (fval px) ∧ Btw (fval ay) (fval by') (fval py) ∧ S3 ax ay bx by' px py = 0
theorem sgq_zero {q : Rat} : sgq q = 0 ↔ q = 0 := by
  unfold sgq
  constructor
  · intro h
    split at h
    · omega
    · split at h
      · assumption
      · omega
  · intro h
    rw [h]; rfl
theorem sign_is (ax ay bx by' cx cy : Nat) (w : World) (z : Int) (hw : W6 ax ay bx by' cx cy) (hz : sg3 ax ay bx by' cx cy = z) :
    Calls Try.prog 19 #[pv ax ay, pv bx by', pv cx cy] w fun e w' => e = .returned (.int .i64 z) ∧ Below w.heap.size w w' := by
  rw [← hz]
  exact sign3_any ax ay bx by' cx cy w hw

end Go.Proofs.Ytghchejehlljkaa

/- A drawn region, operation by operation, where some are not wanted. -/
namespace Go.Proofs.Ytghchejehlljkaa
open Go

section
variable {P : Program} {ops : Array Oper} {Q : Exit → Act → World → Prop} {md : Region.Mode} {S : World → Prop}

theorem take_at {i : Nat} {d : Option Tmp} {v : Value} {fuel : Nat} {listed : Array Bool} {a : Act} {w : World} (hd : (ops[i]?).map (·.dst) = some d)
    (hs : Region.noSelect ops = true) (hf : Region.free md ops listed i = true) (hr : (Region.ready md ops listed).contains i = true)
    (hQ : ∀ c a w, Q (.panic c) (a.put d v) w → Q (.panic c) a w) (hy : ∀ oi, ops[i]? = some oi → YieldsIf P ops S oi v a) (hS : S w)
    (h : wpAnyH P md ops Q S fuel (listed.setIfInBounds i true) (a.put d v) w) : wpAnyH P md ops Q S (fuel + 1) listed a w := by
  cases ho : ops[i]? with
  | none => rw [ho] at hd; cases hd
  | some oi =>
    rw [ho] at hd
    have e : oi.dst = d := Option.some.inj hd
    subst e
    exact wpAnyH_take ho hs hf hr hQ (hy oi ho) hS h

theorem skip_at (i : Nat) {d : Option Tmp} {fuel : Nat} {listed : Array Bool} {a : Act} {w : World} (hd : (ops[i]?).map (·.dst) = some d)
    (hs : Region.noSelect ops = true) (hf : Region.free md ops listed i = true) (hr : (Region.ready md ops listed).contains i = true)
    (hQ : ∀ c a w, Q (.panic c) (a.put d undef) w → Q (.panic c) a w) (hw : (ops[i]?).map (fun o => Region.wanted o (yielded ops a.tmps)) = some false) (hS : S w)
    (h : wpAnyH P md ops Q S fuel (listed.setIfInBounds i true) (a.put d undef) w) : wpAnyH P md ops Q S (fuel + 1) listed a w :=
  take_at hd hs hf hr hQ (fun oi ho => Or.inr ⟨by rw [ho] at hw; exact Option.some.inj hw, rfl⟩) hS h

theorem call_at (i : Nat) {fuel : Nat} {listed : Array Bool} {a : Act} {w : World} (hr : Region.ready md ops listed = [i])
    (hi : (ops[i]?).isSome = true)
    (h : ∀ o, ops[i]? = some o → ∀ K' : Act → World → Prop, Shut (∀ a w, S w → (S w → wpAnyH P md ops Q S fuel (listed.setIfInBounds i true) a w) → K' a w) → if Region.wanted o (yielded ops a.tmps) = true then Oper.wp P o a w K' Q else K' (a.put o.dst undef) w) :
    wpAnyH P md ops Q S (fuel + 1) listed a w := by
  obtain ⟨o, ho⟩ := Option.isSome_iff_exists.1 hi
  exact wpAnyH_ready hr (by simp) (AllReadyH.cons ho (h o ho) AllReadyH.nil)
end

end Go.Proofs.Ytghchejehlljkaa

/- Package orient: Cross. -/
namespace Go.Proofs.Ytghchejehlljkaa
open Go.RowKit Go.Shelf

theorem sg3_range (ax ay bx by' cx cy : Nat) : -1 ≤ sg3 ax ay bx by' cx cy ∧ sg3 ax ay bx by' cx cy ≤ 1 := by
  by_cases h : P3 ax ay bx by' cx cy
  · rw [sg3_yes h]
    unfold sgq
    split
    · omega
    · split <;> omega
  · rw [sg3_no h]; omega
theorem mul_small {a b : Int} (h1 : -1 ≤ a ∧ a ≤ 1) (h2 : -1 ≤ b ∧ b ≤ 1) : -1 ≤ a * b ∧ a * b ≤ 1 := by
  have := int_mul_bound (a := a) (b := b) (k := 1) (m := 1) h1.1 h1.2 h2.1 h2.2
  omega
def CrossP (ax ay bx by' cx cy dx dy : Nat) : Prop := sg3 ax ay bx by' cx cy * sg3 ax ay bx by' dx dy < 0 ∧ sg3 cx cy dx dy ax ay * sg3 cx cy dx dy bx by' < 0
theorem keepX {w W W' : World} {q1 q2 q3 q4 q5 q6 q7 q8 : Addr} {x1 x2 x3 x4 x5 x6 x7 x8 : Value} (h : W.cell? q1 = some x1 ∧ W.cell? q2 = some x2 ∧ W.cell? q3 = some x3 ∧ W.cell? q4 = some x4 ∧ W.cell? q5 = some x5 ∧ W.cell? q6 = some x6 ∧ W.cell? q7 = some x7 ∧ W.cell? q8 = some x8 ∧ Below w.heap.size w W) (hb : Below W.heap.size W W') :
    W'.cell? q1 = some x1 ∧ W'.cell? q2 = some x2 ∧ W'.cell? q3 = some x3 ∧ W'.cell? q4 = some x4 ∧ W'.cell? q5 = some x5 ∧ W'.cell? q6 = some x6 ∧ W'.cell? q7 = some x7 ∧ W'.cell? q8 = some x8 ∧ Below w.heap.size w W' :=
  ⟨box_cell hb h.1, box_cell hb h.2.1, box_cell hb h.2.2.1, box_cell hb h.2.2.2.1, box_cell hb h.2.2.2.2.1, box_cell hb h.2.2.2.2.2.1, box_cell hb h.2.2.2.2.2.2.1, box_cell hb h.2.2.2.2.2.2.2.1, below_step h.2.2.2.2.2.2.2.2 hb⟩

end Go.Proofs.Ytghchejehlljkaa

/- Which points may be, by reckoning. -/
namespace Go.Proofs.Ytghchejehlljkaa

theorem den_one {q : Rat} : q.den = 1 ↔ ∃ k : Int, q = (k : Rat) := by
  constructor
  · intro h
    refine ⟨q.num, ?_⟩
    apply Rat.ext
    · simp
    · simp [h]
  · rintro ⟨k, rfl⟩
    simp
theorem crd_iff (x : Nat) : Crd x ↔ frung x ≤ 5057542381537067008 ∧ (fval x * U 1174).den = 1 := by
  unfold Crd
  rw [den_one, ← M_one, steps_one]
instance (x : Nat) : Decidable (Crd x) := decidable_of_iff _ (crd_iff x).symm
instance (x y : Nat) : Decidable (Pt x y) := by unfold Pt; exact inferInstance
instance (ax ay bx by' cx cy : Nat) : Decidable (P3 ax ay bx by' cx cy) := by unfold P3; exact inferInstance
instance (a b x : Rat) : Decidable (Btw a b x) := by unfold Btw; exact inferInstance
instance (ax ay bx by' cx cy : Nat) : Decidable (OnP ax ay bx by' cx cy) := by unfold OnP; exact inferInstance
theorem sg3_is {ax ay bx by' cx cy : Nat} {z : Int} (h : P3 ax ay bx by' cx cy ∧ sgq (S3 ax ay bx by' cx cy) = z) : sg3 ax ay bx by' cx cy = z := by rw [sg3_yes h.1]; exact h.2

theorem test1 : sg3 0 0 4611686018427387904 0 4607182418800017408 4607182418800017408 = 1 := sg3_is (by decide +kernel)
theorem test2 : sg3 0 0 4611686018427387904 0 4607182418800017408 13380194492917743616 = -1 := sg3_is (by decide +kernel)
theorem test3 : sg3 0 0 4611686018427387904 0 5062045981164437504 4607182418800017408 = 0 := sg3_no (by decide +kernel)
theorem test4 : sg3 4602678819172646954 4602678819172646960 4622945017495814144 4622945017495814144 4627448617123184640 4627448617123184640 = 1 := sg3_is (by decide +kernel)

end Go.Proofs.Ytghchejehlljkaa

/- The reference's Rounds: is a float the one nearest to a number? -/
namespace Go.Proofs.Ytghchejehlljkaa
open Go.RowKit
attribute [local go_sem ↓] Go.wp_at_zero Go.wp_at_succ

theorem BoxN.later {w w' : World} {b : Nat} {S E : Int} {sv : Value} (h : BoxN w b S sv E) (hb : Below w.heap.size w w') : BoxN w' b S sv E := h.block (hb.block _ h.cells.2.2.2.2)
theorem BoxN.other3 {W : World} {b b' : Nat} {S E : Int} {sv : Value} (h : BoxN W b' S sv E) (hne : b' ≠ b) (x y z : Value) : BoxN (((W.setCell ⟨b, 0, none⟩ x).setCell ⟨b, 1, none⟩ y).setCell ⟨b, 2, none⟩ z) b' S sv E := ((h.other hne x).other hne y).other hne z
theorem BoxN.set3 {W : World} {b : Nat} {S E S' E' : Int} {sv sv' : Value} (h : BoxN W b S sv E) : BoxN (((W.setCell ⟨b, 0, none⟩ (.int .i64 S')).setCell ⟨b, 1, none⟩ sv').setCell ⟨b, 2, none⟩ (.int .i64 E')) b S' sv' E' := by
  unfold BoxN at *
  simp [World.setCell, Array.getElem?_modify, h]
theorem BoxN.new (W : World) (S E : Int) (sv : Value) : BoxN (W.alloc (.cells #[.int .i64 S, sv, .int .i64 E] 56)) W.heap.size S sv E := heap_alloc_new W _
theorem below_num3 {w W : World} {b : Nat} (h : Below w.heap.size w W) (hb : w.heap.size ≤ b) (x y z : Value) : Below w.heap.size w (((W.setCell ⟨b, 0, none⟩ x).setCell ⟨b, 1, none⟩ y).setCell ⟨b, 2, none⟩ z) := ((h.setCell hb _).setCell hb _).setCell hb _
theorem keepN9 {w W W' : World} {p1 p2 p3 p4 p5 p6 p7 p8 p9 : Addr} {x1 x2 x3 x4 x5 x6 x7 x8 x9 : Value} (h : W.cell? p1 = some x1 ∧ W.cell? p2 = some x2 ∧ W.cell? p3 = some x3 ∧ W.cell? p4 = some x4 ∧ W.cell? p5 = some x5 ∧ W.cell? p6 = some x6 ∧ W.cell? p7 = some x7 ∧ W.cell? p8 = some x8 ∧ W.cell? p9 = some x9 ∧ Below w.heap.size w W) (hb : Below W.heap.size W W') :
    W'.cell? p1 = some x1 ∧ W'.cell? p2 = some x2 ∧ W'.cell? p3 = some x3 ∧ W'.cell? p4 = some x4 ∧ W'.cell? p5 = some x5 ∧ W'.cell? p6 = some x6 ∧ W'.cell? p7 = some x7 ∧ W'.cell? p8 = some x8 ∧ W'.cell? p9 = some x9 ∧ Below w.heap.size w W' :=
  ⟨box_cell hb h.1, box_cell hb h.2.1, box_cell hb h.2.2.1, box_cell hb h.2.2.2.1, box_cell hb h.2.2.2.2.1, box_cell hb h.2.2.2.2.2.1, box_cell hb h.2.2.2.2.2.2.1, box_cell hb h.2.2.2.2.2.2.2.1, box_cell hb h.2.2.2.2.2.2.2.2.1, h.2.2.2.2.2.2.2.2.2.trans (hb.mono h.2.2.2.2.2.2.2.2.2.size)⟩

theorem canon_E {S S' E E' : Int} {ds ds' : List Nat} (k : Canon S ds E) (k' : Canon S' ds' E') (s : ∀ d ∈ ds, d < 16777216) (s' : ∀ d ∈ ds', d < 16777216) (h : (S : Rat) * mag ds E = (S' : Rat) * mag ds' E') (h0 : (S : Rat) * mag ds E ≠ 0) : E = E' := by
  have key : ∀ (S S' E E' : Int) (ds ds' : List Nat), Canon S ds E → Canon S' ds' E' → (∀ d ∈ ds, d < 16777216) → (S : Rat) * mag ds E = (S' : Rat) * mag ds' E' → (S : Rat) * mag ds E ≠ 0 → E' ≤ E := by
    intro S S' E E' ds ds' k k' s h h0
    rcases k with ⟨rfl, rfl, rfl⟩ | ⟨n1, s1, f1, t1⟩
    · exfalso; exact h0 (by rw [mag_nil]; grind)
    · have hm : ∃ n : Int, mag ds E = (n : Rat) * p2 (24 * E') := by
        refine ⟨S * S' * (v24 ds' : Nat), ?_⟩
        have e : mag ds E = (S : Rat) * ((S' : Rat) * mag ds' E') := by
          rw [← h]
          rcases s1 with rfl | rfl
          · rw [show ((1 : Int) : Rat) = 1 from rfl]; grind
          · rw [show ((-1 : Int) : Rat) = -1 from rfl]; grind
        rw [e]
        unfold mag
        rw [Rat.intCast_mul, Rat.intCast_mul]
        show _ = (S : Rat) * (S' : Rat) * ((v24 ds' : Nat) : Rat) * p2 (24 * E')
        grind
      have := mag_low s f1 hm
      omega
  have a := key S S' E E' ds ds' k k' s h h0
  have b := key S' S E' E ds' ds k' k s' h.symm (by rw [← h]; exact h0)
  omega

theorem cmp_less (v1 v2 : Value) (q1 q2 : Rat) (w : World) (h1 : Rf w v1 q1) (h2 : Rf w v2 q2) (b1 : Fit q1) (b2 : Fit q2) (hq : q1 < q2) : Calls Try.prog 73 #[v1, v2] w fun e w' => e = .returned (.int .i64 (-1)) ∧ Below w.heap.size w w' := by
  have h := cmp_rf v1 v2 q1 q2 w h1 h2 b1 b2
  have e : sgq (q1 - q2) = -1 := by unfold sgq; rw [if_pos (by grind)]
  rwa [e] at h
theorem cmp_is (v1 v2 : Value) (q1 q2 : Rat) (A : Int) (w : World) (h1 : Rf w v1 q1) (h2 : Rf w v2 q2) (b1 : Fit q1) (b2 : Fit q2) (hq : sgq (q1 - q2) = A) : Calls Try.prog 73 #[v1, v2] w fun e w' => e = .returned (.int .i64 A) ∧ Below w.heap.size w w' := by
  have h := cmp_rf v1 v2 q1 q2 w h1 h2 b1 b2
  rwa [hq] at h
theorem pow_fit (n : Nat) (k : Int) (hn : n < 18446744073709551616) (h1 : -4000 ≤ k) (h2 : k ≤ 4000) : Fit ((n : Nat) * p2 k) := by
  refine Bd.mono (h := 64 + k) (l := 0 + k) ⟨?_, ?_, (n : Int), ?_⟩ (by omega) (by omega)
  · rw [p2_add]
    refine Rat.mul_lt_mul_of_pos_right ?_ (p2_pos k)
    rw [show (64 : Int) = ((64 : Nat) : Int) from rfl, p2_nat]
    exact Rat.natCast_lt_natCast.2 hn
  · have a := p2_pos (64 + k)
    have b := Rat.mul_nonneg (Rat.natCast_nonneg : (0 : Rat) ≤ (n : Nat)) (Rat.le_of_lt (p2_pos k))
    grind
  · rw [show 0 + k = k by omega]; rfl

structure RXh (q : Rat) (x r : Nat) : Prop where
  near : (q = 0 ∧ r = 0) ∨ (0 < q ∧ Near q r)
  word : x = r ∨ (x = 9223372036854775808 ∧ r = 0)
  lim : r + 1 < 9218868437227405311

end Go.Proofs.Ytghchejehlljkaa

/- The document's side of layer 5: which points may be. -/
namespace Go.Proofs.Ytghchejehlljkaa
open Go.RowKit Go.Shelf
attribute [local go_sem] run_store_float

theorem odd_unit {q : Rat} {l m : Int} (h : q = (m : Rat) * p2 l) (hm : m % 2 = 1) : -100 ≤ l ↔ M (U 974) q := by
  have e974 : U 974 = p2 (-100) := rfl
  rw [e974]
  constructor
  · intro hl
    refine ⟨m * ((2 ^ (l + 100).toNat : Nat) : Int), ?_⟩
    rw [h, Rat.intCast_mul, show (((2 ^ (l + 100).toNat : Nat) : Int) : Rat) = ((2 ^ (l + 100).toNat : Nat) : Rat) from rfl, ← p2_nat, Rat.mul_assoc, ← p2_add, show (((l + 100).toNat : Nat) : Int) + -100 = l by omega]
  · rintro ⟨k, hk⟩
    apply Classical.byContradiction
    intro hn
    obtain ⟨j, hj⟩ : ∃ j : Nat, -100 = l + 1 + (j : Int) := ⟨(-101 - l).toNat, by omega⟩
    have e : p2 (-100) = 2 * ((2 ^ j : Nat) : Rat) * p2 l := by
      rw [hj, p2_add, p2_add, p2_nat, p2_one]; grind
    rw [e] at hk
    have h2 : (m : Rat) * p2 l = ((k * (2 * ((2 ^ j : Nat) : Int)) : Int) : Rat) * p2 l := by
      rw [← h, hk, Rat.intCast_mul, Rat.intCast_mul, show (((2 ^ j : Nat) : Int) : Rat) = ((2 ^ j : Nat) : Rat) from rfl, show ((2 : Int) : Rat) = 2 from rfl]
      grind
    have h3 := int_eq (p2_pos l) h2
    have h4 : k * (2 * ((2 ^ j : Nat) : Int)) = 2 * (k * ((2 ^ j : Nat) : Int)) := by
      rw [← Int.mul_assoc, Int.mul_comm k 2, Int.mul_assoc]
    rw [h4] at h3
    omega

theorem crd_top {x : Nat} (hf : Fin64 x) : frung x ≤ 5057542381537067008 ↔ ab (fval x) ≤ U 1174 := by
  constructor
  · exact crd_ab
  · intro h
    rcases Nat.lt_or_ge 5057542381537067008 (frung x) with h1 | h1
    · exfalso
      have f : frung x < 9218868437227405312 := hf
      have := fval_lt h1 f
      rw [top100, ab_fval x hf] at this
      grind
    · exact h1
theorem sgq_nonpos {q : Rat} : sgq q ≤ 0 ↔ q ≤ 0 := by
  unfold sgq
  constructor
  · intro h
    split at h
    · grind
    · split at h
      · grind
      · omega
  · intro h
    split
    · omega
    · split
      · omega
      · grind

set_option maxRecDepth 100000 in
set_option maxHeartbeats 2000000 in
theorem coord_any (x : Nat) (w : World) (hx : x < 18446744073709551616) : Calls Try.prog 50 #[.float .f64 x] w fun e w' => (∃ t, e = .returned (.bool t) ∧ (t = true ↔ Crd x)) ∧ Below w.heap.size w w' := by
  rcases Nat.lt_trichotomy (frung x) 9218868437227405312 with hf | hf | hf
  · have fx : Fin64 x := hf
    obtain ⟨z, hz1, hz2⟩ := self_sub fx
    have rs : ∀ w, (binOp .sub 22 (.float .f64 x) (.float .f64 x)).run Try.prog w = .ok (.float .f64 z) w := fun w => run_float_arith w .sub _ .f64 _ _ _ hz1
    have q0 := order_nan_self fx
    have q1 := eql_zero2 x
    have HX : Hid (x < 18446744073709551616 ∧ Fin64 x) := ⟨hx, fx⟩
    clear hz1 hx hf fx
    by_cases h0 : frung x = 0
    · rw [decide_eq_true h0] at q1
      have HC : Hid (Crd x) := ⟨by omega, by rw [fval_zero_iff.2 h0]; exact M_zero _⟩
      clear h0
      go_enter Try.func50, Try.ntmps50
      go_wp2
      go_ret
      exact ⟨⟨true, rfl, fun _ => HC.out, fun _ => rfl⟩, Below.refl _ _⟩
    · rw [decide_eq_false h0] at q1
      have HN0 : Hid (fval x ≠ 0) := fun h => h0 (fval_zero_iff.1 h)
      clear h0
      go_enter Try.func50, Try.ntmps50
      go_wp2_with fail
      refine (refOf_any x _ HX.out.1).mono ?_
      rintro e w1 ⟨v1, rfl, hr1, hb1⟩
      obtain ⟨S1, a1, n1, c1, E1, rfl⟩ := hr1.agg
      rw [den_fin HX.out.2] at hr1
      have HB1 : Hid (Below w.heap.size w w1) := hb1
      have R1 : Hid (Rf w1 (.agg #[.int .i64 S1, .slice a1 n1 c1, .int .i64 E1]) (fval x)) := hr1
      have HFT : Hid (Fit (fval x)) := by have := den_Fit x; rwa [den_fin HX.out.2] at this
      clear hr1 hb1 rs q0 hz2
      have HAL : Hid (Below w1.heap.size w1 (w1.alloc (.cells #[.int .i64 S1, .slice a1 n1 c1, .int .i64 E1] 56))) := (Below.refl _ w1).alloc (Nat.le_refl _) _
      go_wp2_with fail
      refine (abs_rf _ (fval x) _ (R1.out.later HAL.out)).mono ?_
      rintro e w2 ⟨v2, rfl, hr2, hb2⟩
      have HB2 : Hid (Below w1.heap.size w1 w2) := below_step HAL.out hb2
      have R2 : Hid (Rf w2 v2 (if fval x < 0 then -fval x else fval x)) := hr2
      have X2 : Hid (BoxN w2 w1.heap.size S1 (.slice a1 n1 c1) E1) := (BoxN.new w1 S1 E1 (.slice a1 n1 c1)).later hb2
      clear hr2 hb2
      go_wp2_with fail
      refine (power_walk 1 100 _ (by omega) (by omega) (by omega)).mono ?_
      rintro e w3 ⟨v3, rfl, hr3, hb3⟩
      have R3 : Hid (Rf w3 v3 (((1 : Nat) : Rat) * p2 100) ∧ Rf w3 v2 (if fval x < 0 then -fval x else fval x)) := ⟨hr3, R2.out.later hb3⟩
      have HB3 : Hid (Below w1.heap.size w1 w3) := below_step HB2.out hb3
      have X3 : Hid (BoxN w3 w1.heap.size S1 (.slice a1 n1 c1) E1) := X2.out.later hb3
      clear hr3 hb3 R2 X2
      obtain ⟨A, hA⟩ : ∃ A, Hid (sgq ((if fval x < 0 then -fval x else fval x) - ((1 : Nat) : Rat) * p2 100) = A) := ⟨_, rfl⟩
      have HA : Hid (A ≤ 0 ↔ frung x ≤ 5057542381537067008) := by
        show A ≤ 0 ↔ _
        rw [← hA.out, sgq_nonpos, crd_top HX.out.2, show U 1174 = p2 100 from rfl, show ((1 : Nat) : Rat) = 1 from rfl]
        show ab (fval x) - 1 * p2 100 ≤ 0 ↔ ab (fval x) ≤ p2 100
        constructor <;> intro h <;> grind
      have HF1 : Hid (Fit (if fval x < 0 then -fval x else fval x)) := by
        show Fit _
        split
        · exact HFT.out.neg
        · exact HFT.out
      go_wp2_with fail
      refine (cmp_is _ _ (if fval x < 0 then -fval x else fval x) (((1 : Nat) : Rat) * p2 100) A _ R3.out.2 R3.out.1 HF1.out (pow_fit 1 100 (by omega) (by omega) (by omega)) hA.out).mono ?_
      rintro e w4 ⟨rfl, hb4⟩
      have HB4 : Hid (Below w1.heap.size w1 w4) := below_step HB3.out hb4
      obtain ⟨x0, x1, x2, _, _⟩ := (X3.out.later hb4).cells
      clear hb4 R3 X3
      by_cases hA0 : A ≤ 0
      · go_wp2_with fail
        refine (low_rf _ (fval x) _ (R1.out.later HB4.out) HN0.out HFT.out).mono ?_
        rintro e w5 ⟨⟨l, m, rfl, hl, hm⟩, hb5⟩
        have HB5 : Hid (Below w.heap.size w w5) := below_step (below_step HB1.out HB4.out) hb5
        have HR : Hid (-100 ≤ l ↔ Crd x) := by
          show -100 ≤ l ↔ Crd x
          rw [odd_unit hl hm]
          exact ⟨fun h => ⟨HA.out.1 hA0, h⟩, fun h => h.2⟩
        clear hl hm hb5 x0 x1 x2
        go_wp2
        go_ret
        exact ⟨⟨decide (-100 ≤ l), rfl, by rw [decide_eq_true_iff]; exact HR.out⟩, HB5.out⟩
      · have dA : decide (A ≤ 0) = false := decide_eq_false hA0
        have HR : Hid (¬ Crd x) := fun h => hA0 (HA.out.2 h.1)
        have HB5 : Hid (Below w.heap.size w w4) := below_step HB1.out HB4.out
        clear hA0 x0 x1 x2
        go_wp2
        go_ret
        exact ⟨⟨false, rfl, fun h => Bool.noConfusion h, fun h => absurd h HR.out⟩, HB5.out⟩
  · have HN : Hid (¬ Crd x) := fun h => by have := h.1; omega
    have hx2 : x = 9218868437227405312 ∨ x = 18442240474082181120 := by unfold frung at hf; omega
    have q0 : FloatKind.f64.format.order x x = some .eq := by rcases hx2 with rfl | rfl <;> decide +kernel
    have h2 : floatBits .sub .f64 x x = none := by rcases hx2 with rfl | rfl <;> decide +kernel
    clear hx2
    have rs := run_sub_nan x x h2
    have h3 : ∀ w, FloatKind.f64.format.order (nanW x x w) 0 = none := fun w => nan_order (nanW_nan x x w).1 0
    clear h2 hf hx
    go_enter Try.func50, Try.ntmps50
    go_wp2
    go_ret
    exact ⟨⟨false, rfl, fun h => Bool.noConfusion h, fun h => absurd h HN.out⟩, (Below.refl _ _).drew⟩
  · have HN : Hid (¬ Crd x) := fun h => by have := h.1; omega
    have q0 : FloatKind.f64.format.order x x = none := order_nan_left hf
    clear hf hx
    go_enter Try.func50, Try.ntmps50
    go_wp2
    go_ret
    exact ⟨⟨false, rfl, fun h => Bool.noConfusion h, fun h => absurd h HN.out⟩, Below.refl _ _⟩

set_option maxRecDepth 100000 in
set_option maxHeartbeats 1000000 in
theorem may_any (x y : Nat) (w : World) (hw : x < 18446744073709551616 ∧ y < 18446744073709551616) : Calls Try.prog 32 #[pv x y] w fun e w' => (∃ t, e = .returned (.bool t) ∧ (t = true ↔ Pt x y)) ∧ Below w.heap.size w w' := by
  have HW : Hid (x < 18446744073709551616 ∧ y < 18446744073709551616) := hw
  have HAL : Hid (Below w.heap.size w (w.alloc (.cells #[.float .f64 x, .float .f64 y] 24))) := (Below.refl _ w).alloc (Nat.le_refl _) _
  clear hw
  go_enter Try.func32, Try.ntmps32
  go_wp2_with fail
  refine (coord_any x _ HW.out.1).mono ?_
  rintro e w1 ⟨⟨t, rfl, ht⟩, hb1⟩
  have d1 : w1.cell? ⟨w.heap.size, 1, none⟩ = some (.float .f64 y) := box_cell hb1 (by go_simp)
  have HB1 : Hid (Below w.heap.size w w1) := below_step HAL.out hb1
  have HT : Hid (t = true ↔ Crd x) := ht
  clear ht hb1
  cases t
  · go_wp2
    go_ret
    exact ⟨⟨false, rfl, fun h => Bool.noConfusion h, fun h => Bool.noConfusion (HT.out.2 h.1)⟩, HB1.out⟩
  · have HX : Hid (Crd x) := HT.out.1 rfl
    go_wp2_with fail
    refine (coord_any y _ HW.out.2).mono ?_
    rintro e w2 ⟨⟨t, rfl, ht⟩, hb2⟩
    have HB2 : Hid (Below w.heap.size w w2) := below_step HB1.out hb2
    have HR : Hid (t = true ↔ Pt x y) := by
      show t = true ↔ _
      rw [ht]
      exact ⟨fun h => ⟨HX.out, h⟩, fun h => h.2⟩
    clear ht hb2 d1
    go_wp2
    go_ret
    exact ⟨⟨t, rfl, HR.out⟩, HB2.out⟩

end Go.Proofs.Ytghchejehlljkaa
