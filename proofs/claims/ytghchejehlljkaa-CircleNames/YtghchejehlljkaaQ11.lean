/- Own texts, put together: Od Ca Cb Oe Lk Ln. -/
import Derived.Test.YtghchejehlljkaaQ10
import Derived.Deep.RegionHeld3
import Derived.Below
/- Signs that are told fast: the floats that are reckoned. -/
namespace Go.Proofs.Ytghchejehlljkaa
open Go.RowKit

/-- The sum of three points. -/
def S3 (ax ay bx by' cx cy : Nat) : Rat := (fval bx - fval ax) * (fval cy - fval ay) - (fval by' - fval ay) * (fval cx - fval ax)
/-- A small whole coordinate. -/
def Sm (x : Nat) : Prop := ∃ n : Int, fval x = (n : Rat) ∧ -1024 ≤ n ∧ n ≤ 1024

theorem sgq_three {s X : Rat} (h : (0 < s ∧ 0 < X) ∨ (s < 0 ∧ X < 0) ∨ (s = 0 ∧ X = 0)) : sgq s = sgq X := by
  unfold sgq
  rcases h with ⟨a, b⟩ | ⟨a, b⟩ | ⟨a, b⟩
  · rw [if_neg (by grind), if_neg (by grind), if_neg (by grind), if_neg (by grind)]
  · rw [if_pos a, if_pos b]
  · rw [a, b]

theorem RN.le {q x : Rat} {p : Nat} (h : RN q x) (hq : ab q ≤ U p) : ab x ≤ U p := by
  obtain ⟨_, _, R⟩ := h
  exact R.le_pow' hq
theorem lim_U {q : Rat} {p : Nat} (h : ab q ≤ U p) (hp : p ≤ 2000) : Lim q := by
  have h3 : U p < p2 1023 := by unfold U; exact p2_lt (by omega)
  have := ab_le.1 h
  exact ⟨by grind, by grind⟩
theorem ab_sub (x y : Rat) : ab (x - y) ≤ ab x + ab y := by
  have := ab_add x (-y)
  rwa [ab_neg, show x + -y = x - y by grind] at this
theorem U_two' (p : Nat) : U p + U p = U (p + 1) := by rw [U_succ]; grind
theorem mul_le_U {x y : Rat} {p q r : Nat} (h1 : ab x ≤ U p) (h2 : ab y ≤ U q) (e : r + 1074 = p + q) : ab (x * y) ≤ U r := by
  rw [ab_mul, ← U_mulX' e]
  have a := Rat.mul_le_mul_of_nonneg_right h1 (ab_nonneg y)
  have b := Rat.mul_le_mul_of_nonneg_left h2 (Rat.le_of_lt (U_pos p))
  exact Rat.le_trans a b
theorem M.ab {u x : Rat} (h : M u x) : M u (ab x) := by
  unfold Go.Proofs.Ytghchejehlljkaa.ab
  split
  · exact h.neg
  · exact h
theorem low51 : fval 4377498837804122112 = U 1023 := by
  have := fval_rung 971 4503599627370496 (by omega) (Or.inr (by omega)) (by omega)
  have h := U_52 971
  rw [show (4377498837804122112 : Nat) = 971 * 4503599627370496 + 4503599627370496 from rfl, this]
  exact h.symm
theorem word_F {b : Nat} (h : Fin64 b) : F (fval b) := by
  obtain ⟨S, m, c⟩ := fc_word h
  exact c.f

/-- A difference of coordinates. -/
theorem diff_word {a b : Nat} (ha : Crd a) (hb : Crd b) : ∃ d, floatBits .sub .f64 b a = some d ∧ Fin64 d ∧ d < 18446744073709551616 ∧ RN (fval b - fval a) (fval d) ∧ M (U 974) (fval b - fval a) ∧ ab (fval b - fval a) ≤ U 1175 := by
  have hm : M (U 974) (fval b - fval a) := hb.2.sub ha.2
  have hl : ab (fval b - fval a) ≤ U 1175 := by
    have := ab_sub (fval b) (fval a)
    have h1 := crd_ab ha.1
    have h2 := crd_ab hb.1
    have h3 := U_two' 1174
    grind
  obtain ⟨d, e, f, l, r⟩ := sub_bits (crd_fin hb.1) (crd_fin ha.1) (lim_U hl (by omega))
  exact ⟨d, e, f, l, r.rn, hm, hl⟩

/-- A product of two differences. -/
theorem prod_word {d e : Nat} {p q : Rat} (fd : Fin64 d) (fe : Fin64 e) (rd : RN p (fval d)) (re : RN q (fval e)) (md : M (U 974) p) (me : M (U 974) q) (ld : ab p ≤ U 1175) (le : ab q ≤ U 1175) :
    ∃ l, floatBits .mul .f64 d e = some l ∧ Fin64 l ∧ l < 18446744073709551616 ∧ RN (fval d * fval e) (fval l) ∧ M (U 874) (fval l) ∧ ab (fval l) ≤ U 1276 ∧ 9223372036854775808 * ab (p * q - fval l) ≤ 3073 * ab (fval l) := by
  have h1 := rd.mm md
  have h2 := re.mm me
  have hm : M (U 874) (fval d * fval e) := by
    have := h1.mul h2
    rwa [U_mulX' (s := 974) (t := 974) (r := 874) (by omega)] at this
  have hl : ab (fval d * fval e) ≤ U 1276 := mul_le_U (rd.le ld) (re.le le) (by omega)
  obtain ⟨l, e1, f, lw, r⟩ := mul_bits fd fe (lim_U hl (by omega))
  exact ⟨l, e1, f, lw, r.rn, r.rn.mm hm, r.rn.le hl, prod_err (rd.rel md) (re.rel me) (r.rn.rel hm)⟩

theorem RN.int {q x : Rat} (h : RN q x) (n : Int) (e : q = (n : Rat)) (h1 : -9007199254740992 ≤ n) (h2 : n ≤ 9007199254740992) : x = q := h.exact (by rw [e]; exact F_int n h1 h2)
theorem int_mul_bound {a b : Int} {k m : Int} (h1 : -k ≤ a) (h2 : a ≤ k) (h3 : -m ≤ b) (h4 : b ≤ m) : -(k * m) ≤ a * b ∧ a * b ≤ k * m := by
  have e1 : (0 : Int) ≤ (k - a) * (m - b) := Int.mul_nonneg (by omega) (by omega)
  have e2 : (0 : Int) ≤ (k + a) * (m + b) := Int.mul_nonneg (by omega) (by omega)
  have e3 : (0 : Int) ≤ (k - a) * (m + b) := Int.mul_nonneg (by omega) (by omega)
  have e4 : (0 : Int) ≤ (k + a) * (m - b) := Int.mul_nonneg (by omega) (by omega)
  rw [Int.sub_mul, Int.mul_sub, Int.mul_sub] at e1
  rw [Int.add_mul, Int.mul_add, Int.mul_add] at e2
  rw [Int.sub_mul, Int.mul_add, Int.mul_add] at e3
  rw [Int.add_mul, Int.mul_sub, Int.mul_sub] at e4
  generalize k * m = km at *
  generalize k * b = kb at *
  generalize a * m = am at *
  generalize a * b = ab at *
  omega

theorem ab_one {n : Int} (h : (n : Rat) ≠ 0) : 1 ≤ ab (n : Rat) := by
  have := M.ge (u := 1) (x := (n : Rat)) (by grind) ⟨n, by grind⟩ h
  exact this
theorem ab_int {n : Int} {k : Nat} (h1 : -(k : Int) ≤ n) (h2 : n ≤ (k : Int)) : ab (n : Rat) ≤ ((k : Nat) : Rat) := by
  apply ab_le.2
  have a : (n : Rat) ≤ ((k : Int) : Rat) := Rat.intCast_le_intCast.2 h2
  have b : ((-(k : Int) : Int) : Rat) ≤ (n : Rat) := Rat.intCast_le_intCast.2 h1
  rw [Rat.intCast_neg] at b
  have e : ((k : Int) : Rat) = ((k : Nat) : Rat) := rfl
  rw [e] at a b
  exact ⟨a, by grind⟩

set_option maxHeartbeats 1000000 in
theorem fast_words {ax ay bx by' cx cy : Nat} (h1 : Crd ax) (h2 : Crd ay) (h3 : Crd bx) (h4 : Crd by') (h5 : Crd cx) (h6 : Crd cy) :
    ∃ d1 d2 l d3 d4 r s z v, floatBits .sub .f64 bx ax = some d1 ∧ floatBits .sub .f64 cy ay = some d2 ∧ floatBits .mul .f64 d1 d2 = some l ∧ floatBits .sub .f64 by' ay = some d3 ∧ floatBits .sub .f64 cx ax = some d4 ∧ floatBits .mul .f64 d3 d4 = some r ∧ floatBits .sub .f64 l r = some s ∧ floatBits .add .f64 (frung l) (frung r) = some z ∧ floatBits .mul .f64 4377498837804122112 z = some v ∧
      l < 18446744073709551616 ∧ r < 18446744073709551616 ∧ s < 18446744073709551616 ∧ Fin64 s ∧
      ((FloatKind.f64.format.order (frung s) v == some .lt) = false → sgq (fval s) = sgq (S3 ax ay bx by' cx cy)) ∧
      (Sm ax → Sm ay → Sm bx → Sm by' → Sm cx → Sm cy → S3 ax ay bx by' cx cy ≠ 0 → (FloatKind.f64.format.order (frung s) v == some .lt) = false) := by
  obtain ⟨d1, e1, f1, _, n1, m1, l1⟩ := diff_word h1 h3
  obtain ⟨d2, e2, f2, _, n2, m2, l2⟩ := diff_word h2 h6
  obtain ⟨d3, e3, f3, _, n3, m3, l3⟩ := diff_word h2 h4
  obtain ⟨d4, e4, f4, _, n4, m4, l4⟩ := diff_word h1 h5
  obtain ⟨l, el, fl, wl, nl, ml, ll, pl⟩ := prod_word f1 f2 n1 n2 m1 m2 l1 l2
  obtain ⟨r, er, fr, wr, nr, mr, lr, pr⟩ := prod_word f3 f4 n3 n4 m3 m4 l3 l4
  have bs : ab (fval l - fval r) ≤ U 1277 := by
    have := ab_sub (fval l) (fval r)
    have h := U_two' 1276
    grind
  obtain ⟨s, es, fs, ws, rs⟩ := sub_bits fl fr (lim_U bs (by omega))
  have fl' : Fin64 (frung l) := fin_small fl
  have fr' : Fin64 (frung r) := fin_small fr
  have vl := ab_fval l fl
  have vr := ab_fval r fr
  have b0 : 0 ≤ ab (fval l) + ab (fval r) := by have := ab_nonneg (fval l); have := ab_nonneg (fval r); grind
  have bz : ab (ab (fval l) + ab (fval r)) ≤ U 1277 := by
    have h := U_two' 1276
    rw [show ab (ab (fval l) + ab (fval r)) = ab (fval l) + ab (fval r) by rw [ab, if_neg (by grind)]]
    grind
  obtain ⟨z, ez, fz, wz, rz⟩ := add_bits fl' fr' (by rw [vl, vr]; exact lim_U bz (by omega))
  rw [vl, vr] at rz
  have mz0 : M (U 874) (ab (fval l) + ab (fval r)) := ml.ab.add mr.ab
  have mz := rz.rn.mm mz0
  have lz := rz.rn.le bz
  have hC : Fin64 4377498837804122112 := by unfold Fin64 frung; omega
  have hv0 : ab (U 1023 * fval z) ≤ U 1226 := mul_le_U (p := 1023) (q := 1277) (by rw [ab, if_neg (by have := U_pos 1023; grind)]; exact Rat.le_refl) lz (by omega)
  obtain ⟨v, ev, fv, wv, rv⟩ := mul_bits hC fz (by rw [low51]; exact lim_U hv0 (by omega))
  rw [low51] at rv
  have vv : fval v = U 1023 * fval z := rv.rn.exact (F_less (word_F fz) mz (by omega))
  have hz0 : 0 ≤ fval z := by
    have h := rz.rn.rel mz0
    have a := ab_self (ab (fval l) + ab (fval r) - fval z)
    apply Classical.byContradiction
    intro hn
    have hz' : ab (fval z) = -fval z := by rw [ab, if_pos (by grind)]
    rw [hz'] at h
    grind
  have u0 := U_pos 1023
  have hu : U 1125 * U 1023 = 1 := by
    rw [U_mulX' (s := 1125) (t := 1023) (r := 1074) (by omega)]; unfold U; exact p2_zero
  have hu2 : U 1125 = 2251799813685248 := by
    have := U_add 1074 51
    rw [show U 1074 = 1 from by unfold U; exact p2_zero] at this
    rw [show (1125 : Nat) = 1074 + 51 from rfl, this]
    show ((2251799813685248 : Nat) : Rat) * 1 = _
    rw [Rat.mul_one]; rfl
  have key : (FloatKind.f64.format.order (frung s) v == some .lt) = decide (ab (fval s) < U 1023 * fval z) := by
    rw [order_val (fin_small fs) fv, ab_fval s fs, vv]
    by_cases h : ab (fval s) < U 1023 * fval z
    · rw [if_pos h, decide_eq_true h]; rfl
    · rw [if_neg h, decide_eq_false h]
      split <;> rfl
  refine ⟨d1, d2, l, d3, d4, r, s, z, v, e1, e2, el, e3, e4, er, es, ez, ev, wl, wr, ws, fs, ?_, ?_⟩
  · intro ht
    rw [key] at ht
    have ht' : U 1023 * fval z ≤ ab (fval s) := by
      have := of_decide_eq_false ht
      grind
    have h5' : fval z ≤ 2251799813685248 * ab (fval s) := by
      have := Rat.mul_le_mul_of_nonneg_left ht' (show (0 : Rat) ≤ U 1125 from Rat.le_of_lt (U_pos 1125))
      rw [← Rat.mul_assoc, hu, Rat.one_mul, hu2] at this
      exact this
    exact sgq_three (fast_sign pl pr (rs.rn.rel (ml.sub mr)) (rz.rn.rel mz0) hz0 h5')
  · rintro ⟨i1, v1, a1, b1⟩ ⟨i2, v2, a2, b2⟩ ⟨i3, v3, a3, b3⟩ ⟨i4, v4, a4, b4⟩ ⟨i5, v5, a5, b5⟩ ⟨i6, v6, a6, b6⟩ hne
    have x1 : fval d1 = ((i3 - i1 : Int) : Rat) := by rw [n1.int (i3 - i1) (by rw [v3, v1, Rat.intCast_sub]) (by omega) (by omega), v3, v1, Rat.intCast_sub]
    have x2 : fval d2 = ((i6 - i2 : Int) : Rat) := by rw [n2.int (i6 - i2) (by rw [v6, v2, Rat.intCast_sub]) (by omega) (by omega), v6, v2, Rat.intCast_sub]
    have x3 : fval d3 = ((i4 - i2 : Int) : Rat) := by rw [n3.int (i4 - i2) (by rw [v4, v2, Rat.intCast_sub]) (by omega) (by omega), v4, v2, Rat.intCast_sub]
    have x4 : fval d4 = ((i5 - i1 : Int) : Rat) := by rw [n4.int (i5 - i1) (by rw [v5, v1, Rat.intCast_sub]) (by omega) (by omega), v5, v1, Rat.intCast_sub]
    have y1 := int_mul_bound (a := i3 - i1) (b := i6 - i2) (k := 2048) (m := 2048) (by omega) (by omega) (by omega) (by omega)
    have y2 := int_mul_bound (a := i4 - i2) (b := i5 - i1) (k := 2048) (m := 2048) (by omega) (by omega) (by omega) (by omega)
    have xl : fval l = (((i3 - i1) * (i6 - i2) : Int) : Rat) := by rw [nl.int ((i3 - i1) * (i6 - i2)) (by rw [x1, x2, Rat.intCast_mul]) (by omega) (by omega), x1, x2, Rat.intCast_mul]
    have xr : fval r = (((i4 - i2) * (i5 - i1) : Int) : Rat) := by rw [nr.int ((i4 - i2) * (i5 - i1)) (by rw [x3, x4, Rat.intCast_mul]) (by omega) (by omega), x3, x4, Rat.intCast_mul]
    have eS : S3 ax ay bx by' cx cy = (((i3 - i1) * (i6 - i2) - (i4 - i2) * (i5 - i1) : Int) : Rat) := by
      unfold S3
      rw [v1, v2, v3, v4, v5, v6, Rat.intCast_sub, Rat.intCast_mul, Rat.intCast_mul, Rat.intCast_sub, Rat.intCast_sub, Rat.intCast_sub, Rat.intCast_sub]
    generalize (i3 - i1) * (i6 - i2) = A at *
    generalize (i4 - i2) * (i5 - i1) = B at *
    have xs : fval s = ((A - B : Int) : Rat) := by rw [rs.rn.int (A - B) (by rw [xl, xr, Rat.intCast_sub]) (by omega) (by omega), xl, xr, Rat.intCast_sub]
    rw [eS] at hne
    have s1 := ab_one hne
    have z1 : ab (fval l) + ab (fval r) ≤ U 1097 := by
      have c1 := ab_int (n := A) (k := 4194304) (by omega) (by omega)
      have c2 := ab_int (n := B) (k := 4194304) (by omega) (by omega)
      have : U 1097 = 8388608 := by
        have := U_add 1074 23
        rw [show U 1074 = 1 from by unfold U; exact p2_zero] at this
        rw [show (1097 : Nat) = 1074 + 23 from rfl, this]
        show ((8388608 : Nat) : Rat) * 1 = _
        rw [Rat.mul_one]; rfl
      rw [xl, xr, this]
      have k1 : ((4194304 : Nat) : Rat) = 4194304 := rfl
      rw [k1] at c1 c2
      grind
    have z2 : ab (ab (fval l) + ab (fval r)) ≤ U 1097 := by rw [ab, if_neg (by grind)]; exact z1
    have z3 := rz.rn.le z2
    have z4 : ab (U 1023 * fval z) ≤ U 1046 := mul_le_U (p := 1023) (q := 1097) (by rw [ab, if_neg (by grind)]; exact Rat.le_refl) z3 (by omega)
    have z5 : U 1046 < 1 := by
      have : U 1046 < U 1074 := U_lt_iff.2 (by omega)
      rwa [show U 1074 = 1 from by unfold U; exact p2_zero] at this
    have z6 := (ab_self (U 1023 * fval z)).1
    rw [key]
    apply decide_eq_false
    rw [xs]
    grind

end Go.Proofs.Ytghchejehlljkaa

/- Circles: what floats tell of a sum of four points: plain facts. -/
namespace Go.Proofs.Ytghchejehlljkaa

theorem U1074 : U 1074 = 1 := by unfold U; exact p2_zero
theorem ab_pos' {x : Rat} (h : 0 ≤ x) : ab x = x := by unfold ab; rw [if_neg (by grind)]

/-- Two squares. -/
theorem sq_err {A B xx yy z : Rat} (h1 : 9223372036854775808 * ab (A - xx) ≤ 3073 * ab xx) (h2 : 9223372036854775808 * ab (B - yy) ≤ 3073 * ab yy) (x0 : 0 ≤ xx) (y0 : 0 ≤ yy) (h3 : 9007199254740992 * ab (xx + yy - z) ≤ ab z) (z0 : 0 ≤ z) :
    9223372036854775808 * ab (A + B - z) ≤ 4098 * z := by
  rw [ab_pos' x0] at h1
  rw [ab_pos' y0] at h2
  rw [ab_pos' z0] at h3
  have t1 : ab (A + B - z) ≤ ab (A - xx) + ab (B - yy) + ab (xx + yy - z) := by
    have a := ab_add (A - xx) (B - yy)
    have b := ab_add (A - xx + (B - yy)) (xx + yy - z)
    rw [show A - xx + (B - yy) + (xx + yy - z) = A + B - z by grind] at b
    grind
  have t2 := (ab_self (xx + yy - z)).1
  generalize ab (A + B - z) = g1 at *
  generalize ab (A - xx) = g2 at *
  generalize ab (B - yy) = g3 at *
  generalize ab (xx + yy - z) = g4 at *
  grind

/-- One of the three products. -/
theorem term_err {Q q L R l r d m t p : Rat} (hq : 9223372036854775808 * ab (Q - q) ≤ 4098 * q) (q0 : 0 ≤ q) (hl : 9223372036854775808 * ab (L - l) ≤ 3073 * ab l) (hr : 9223372036854775808 * ab (R - r) ≤ 3073 * ab r) (hd : 9007199254740992 * ab (l - r - d) ≤ ab d) (hm : 9007199254740992 * ab (ab l + ab r - m) ≤ m) (m0 : 0 ≤ m) (ht : 9007199254740992 * ab (q * d - t) ≤ ab t) (hp : 9007199254740992 * ab (q * m - p) ≤ p) (p0 : 0 ≤ p) :
    9223372036854775808 * ab (Q * (L - R) - t) ≤ 9224 * p ∧ 1125899906842624 * ab t ≤ 1125899906842625 * p := by
  have c1 : ab d ≤ ab l + ab r + ab (l - r - d) := by
    have a := ab_sub l r
    have b := ab_sub (l - r) (l - r - d)
    rw [show l - r - (l - r - d) = d by grind] at b
    grind
  have c2 : ab (L - R - d) ≤ ab (L - l) + ab (R - r) + ab (l - r - d) := by
    have a := ab_sub (L - l) (R - r)
    have b := ab_add (L - l - (R - r)) (l - r - d)
    rw [show L - l - (R - r) + (l - r - d) = L - R - d by grind] at b
    grind
  have c3 : ab (L - R) ≤ ab d + ab (L - R - d) := by
    have b := ab_add d (L - R - d)
    rwa [show d + (L - R - d) = L - R by grind] at b
  have c4 := (ab_self (ab l + ab r - m)).1
  have c5 : ab (Q * (L - R) - q * d) ≤ ab (Q - q) * ab (L - R) + q * ab (L - R - d) := by
    have := ab_add ((Q - q) * (L - R)) (q * (L - R - d))
    rw [ab_mul, ab_mul, ab_pos' q0, show (Q - q) * (L - R) + q * (L - R - d) = Q * (L - R) - q * d by grind] at this
    exact this
  have c6 : ab (Q * (L - R) - t) ≤ ab (Q * (L - R) - q * d) + ab (q * d - t) := by
    have := ab_add (Q * (L - R) - q * d) (q * d - t)
    rwa [show Q * (L - R) - q * d + (q * d - t) = Q * (L - R) - t by grind] at this
  have c7 : ab t ≤ q * ab d + ab (q * d - t) := by
    have := ab_sub (q * d) (q * d - t)
    rw [ab_mul, ab_pos' q0, show q * d - (q * d - t) = t by grind] at this
    exact this
  have c8 := (ab_self (q * m - p)).1
  have f1 : 2251799813685248 * ab d ≤ 2251799813685249 * m := by grind
  have f2 : 9223372036854775808 * ab (L - R - d) ≤ 4099 * m := by grind
  have f3 : 562949953421312 * ab (L - R) ≤ 562949953421313 * m := by grind
  clear c1 c2 c3 c4 hl hr hd hm
  have e0 := ab_nonneg (Q - q)
  have d0 := ab_nonneg (L - R)
  have n1 := Rat.mul_le_mul_of_nonneg_right hq d0
  have n2 := Rat.mul_le_mul_of_nonneg_left f3 q0
  have n3 := Rat.mul_le_mul_of_nonneg_left f2 q0
  have n4 := Rat.mul_le_mul_of_nonneg_left f1 q0
  generalize ab (Q * (L - R) - t) = g1 at *
  generalize ab (Q * (L - R) - q * d) = g2 at *
  generalize ab (q * d - t) = g3 at *
  generalize ab (q * m - p) = g4 at *
  generalize ab (L - R - d) = g5 at *
  generalize ab (L - R) = g6 at *
  generalize ab (Q - q) = g7 at *
  generalize ab d = g8 at *
  generalize ab t = g9 at *
  have k1 : 9223372036854775808 * (g7 * g6) ≤ 4098 * (q * g6) := by grind
  have k2 : 562949953421312 * (q * g6) ≤ 562949953421313 * (q * m) := by grind
  have k3 : 9223372036854775808 * (q * g5) ≤ 4099 * (q * m) := by grind
  have k4 : 2251799813685248 * (q * g8) ≤ 2251799813685249 * (q * m) := by grind
  clear n1 n2 n3 n4 hq f1 f2 f3
  generalize g7 * g6 = h1 at *
  generalize q * g6 = h2 at *
  generalize q * g5 = h3 at *
  generalize q * g8 = h4 at *
  generalize q * m = h5 at *
  constructor <;> grind

/-- All three together. -/
theorem sum_err {T0 T1 T2 t0 t1 t2 p0 p1 p2 s2 s3 z2 z3 : Rat} (e0 : 9223372036854775808 * ab (T0 - t0) ≤ 9224 * p0) (e1 : 9223372036854775808 * ab (T1 - t1) ≤ 9224 * p1) (e2 : 9223372036854775808 * ab (T2 - t2) ≤ 9224 * p2)
    (a0 : 1125899906842624 * ab t0 ≤ 1125899906842625 * p0) (a1 : 1125899906842624 * ab t1 ≤ 1125899906842625 * p1) (b0 : 0 ≤ p0) (b1 : 0 ≤ p1) (b2 : 0 ≤ p2)
    (h1 : 9007199254740992 * ab (t0 + t1 - s2) ≤ ab s2) (h2 : 9007199254740992 * ab (s2 + t2 - s3) ≤ ab s3) (h3 : 9007199254740992 * ab (p0 + p1 - z2) ≤ z2) (h4 : 9007199254740992 * ab (z2 + p2 - z3) ≤ z3) (h5 : z3 ≤ 562949953421312 * ab s3) :
    (0 < s3 ∧ 0 < T0 + T1 + T2) ∨ (s3 < 0 ∧ T0 + T1 + T2 < 0) ∨ (s3 = 0 ∧ T0 + T1 + T2 = 0) := by
  have c1 : ab (T0 + T1 + T2 - s3) ≤ ab (T0 - t0) + ab (T1 - t1) + ab (T2 - t2) + ab (t0 + t1 - s2) + ab (s2 + t2 - s3) := by
    have a := ab_add (T0 - t0) (T1 - t1)
    have b := ab_add (T0 - t0 + (T1 - t1)) (T2 - t2)
    have c := ab_add (T0 - t0 + (T1 - t1) + (T2 - t2)) (t0 + t1 - s2)
    have d := ab_add (T0 - t0 + (T1 - t1) + (T2 - t2) + (t0 + t1 - s2)) (s2 + t2 - s3)
    rw [show T0 - t0 + (T1 - t1) + (T2 - t2) + (t0 + t1 - s2) + (s2 + t2 - s3) = T0 + T1 + T2 - s3 by grind] at d
    grind
  have c2 : ab s2 ≤ ab t0 + ab t1 + ab (t0 + t1 - s2) := by
    have a := ab_add t0 t1
    have b := ab_sub (t0 + t1) (t0 + t1 - s2)
    rw [show t0 + t1 - (t0 + t1 - s2) = s2 by grind] at b
    grind
  have c3 := (ab_self (p0 + p1 - z2)).1
  have c4 := (ab_self (z2 + p2 - z3)).1
  have c5 := ab_self (T0 + T1 + T2 - s3)
  have n1 := ab_nonneg (t0 + t1 - s2)
  have n2 := ab_nonneg (p0 + p1 - z2)
  have n3 := ab_nonneg (z2 + p2 - z3)
  have key : 9223372036854775808 * ab (T0 + T1 + T2 - s3) ≤ 10260 * z3 + 1024 * ab s3 := by
    generalize ab (T0 + T1 + T2 - s3) = g1 at *
    generalize ab (T0 - t0) = g2 at *
    generalize ab (T1 - t1) = g3 at *
    generalize ab (T2 - t2) = g4 at *
    generalize ab (t0 + t1 - s2) = g5 at *
    generalize ab (s2 + t2 - s3) = g6 at *
    generalize ab (p0 + p1 - z2) = g7 at *
    generalize ab (z2 + p2 - z3) = g8 at *
    generalize ab t0 = g9 at *
    generalize ab t1 = g10 at *
    generalize ab s2 = g11 at *
    generalize ab s3 = g12 at *
    clear c5
    grind
  clear e0 e1 e2 a0 a1 h1 h2 h3 h4 c1 c2 c3 c4 n1 n2 n3 b0 b1 b2
  obtain ⟨d1, d2⟩ := c5
  generalize T0 + T1 + T2 = S at *
  rcases (by grind : 0 < s3 ∨ 0 = s3 ∨ s3 < 0) with hs | hs | hs
  · left
    rw [ab_pos' (by grind : 0 ≤ s3)] at key h5
    refine ⟨hs, ?_⟩
    generalize ab (S - s3) = v at *
    grind
  · right; right
    rw [← hs] at key h5 d1 d2 ⊢
    rw [show ab 0 = 0 by unfold ab; grind] at key h5
    have n := ab_nonneg (S - 0)
    have e := ab_zero (x := S - 0) (by grind)
    exact ⟨rfl, by grind⟩
  · right; left
    have es : ab s3 = -s3 := by unfold ab; rw [if_pos hs]
    rw [es] at key h5
    refine ⟨hs, ?_⟩
    generalize ab (S - s3) = v at *
    grind

/-- Whole numbers. -/
theorem RN.whole {q x : Rat} (h : RN q x) (hm : M 1 q) (hx : ab x < 9007199254740992) : x = q := by
  have hm' : M (U 1074) q := by rw [U1074]; exact hm
  have r := h.rel hm'
  have mx := h.mm hm'
  rw [U1074] at mx
  have a := ab_self (q - x)
  exact M.eq (by grind) mx hm (by grind) (by grind)
theorem RN.whole' {q x : Rat} (h : RN q x) (hm : M 1 q) (hx : ab q < 9007199254740992) : x = q := by
  obtain ⟨n, e⟩ := M_one.1 hm
  have a := ab_lt.1 hx
  rw [e] at a
  refine h.int n e ?_ ?_
  · have : ((-9007199254740992 : Int) : Rat) ≤ (n : Rat) := by
      rw [show ((-9007199254740992 : Int) : Rat) = -9007199254740992 from rfl]; grind
    exact Rat.intCast_le_intCast.1 this
  · have : (n : Rat) ≤ ((9007199254740992 : Int) : Rat) := by
      rw [show ((9007199254740992 : Int) : Rat) = 9007199254740992 from rfl]; grind
    exact Rat.intCast_le_intCast.1 this
theorem RN.m1 {q x : Rat} (h : RN q x) (hm : M 1 q) : M 1 x := by
  have := h.mm (t := 1074) (by rw [U1074]; exact hm)
  rwa [U1074] at this
theorem M1.mul {x y : Rat} (h1 : M 1 x) (h2 : M 1 y) : M 1 (x * y) := by
  have := M.mul h1 h2
  rwa [Rat.mul_one] at this
theorem int_ge {x y : Rat} (hy : M 1 y) (h : y ≠ 0) : ab x ≤ ab (x * y) := by
  have h1 := hy.ge (by grind) h
  rw [ab_mul]
  have := Rat.mul_le_mul_of_nonneg_left h1 (ab_nonneg x)
  grind

theorem row_whole {X Y x y xx yy q : Rat} (rx : RN X x) (ry : RN Y y) (r1 : RN (x * x) xx) (r2 : RN (y * y) yy) (r3 : RN (xx + yy) q) (mX : M 1 X) (mY : M 1 Y) (x0 : 0 ≤ xx) (y0 : 0 ≤ yy) (hq : ab q < 9007199254740992) : q = X * X + Y * Y := by
  have mx := rx.m1 mX
  have my := ry.m1 mY
  have m1 := r1.m1 (M1.mul mx mx)
  have m2 := r2.m1 (M1.mul my my)
  have e := r3.whole (m1.add m2) hq
  rw [e, ab_pos' (by grind : 0 ≤ xx + yy)] at hq
  have e1 := r1.whole (M1.mul mx mx) (by rw [ab_pos' x0]; grind)
  have e2 := r2.whole (M1.mul my my) (by rw [ab_pos' y0]; grind)
  have f : ∀ {z zz Z : Rat}, RN Z z → M 1 Z → M 1 z → zz = z * z → 0 ≤ zz → zz < 9007199254740992 → z = Z := by
    intro z zz Z r mZ mz e h0 h
    by_cases hz : z = 0
    · exact r.whole mZ (by rw [hz, show ab 0 = 0 by unfold ab; grind]; grind)
    · have := int_ge (x := z) mz hz
      rw [← e, ab_pos' h0] at this
      exact r.whole mZ (by grind)
  have f1 := f rx mX mx e1 x0 (by grind)
  have f2 := f ry mY my e2 y0 (by grind)
  rw [e, e1, e2, f1, f2]

theorem prod_whole {X Y x y l : Rat} (rx : RN X x) (ry : RN Y y) (r1 : RN (x * y) l) (mX : M 1 X) (mY : M 1 Y) (he : 9223372036854775808 * ab (X * Y - l) ≤ 3073 * ab l) (hl : ab l < 9007199254740992) : l = X * Y := by
  have mx := rx.m1 mX
  have my := ry.m1 mY
  by_cases h0 : l = 0
  · rw [h0, show ab 0 = 0 by unfold ab; grind] at he
    have := ab_zero (x := X * Y - 0) (by have := ab_nonneg (X * Y - 0); grind)
    rw [h0]; grind
  · have e := r1.whole (M1.mul mx my) hl
    have y0 : y ≠ 0 := fun h => h0 (by rw [e, h]; grind)
    have x0 : x ≠ 0 := fun h => h0 (by rw [e, h]; grind)
    have g1 := int_ge (x := x) my y0
    have g2 := int_ge (x := y) mx x0
    rw [show y * x = x * y by grind] at g2
    rw [e] at hl
    rw [e, rx.whole mX (by grind), ry.whole mY (by grind)]

/-- A product of whole numbers is told exactly. -/
theorem term_whole {Q L R q l r d m t p : Rat} (hq : ab q < 9007199254740992 → q = Q) (q0 : 0 ≤ q) (hl : ab l < 9007199254740992 → l = L) (hr : ab r < 9007199254740992 → r = R) (mq : M 1 q) (ml : M 1 l) (mr : M 1 r) (rd : RN (l - r) d) (rm : RN (ab l + ab r) m) (m0 : 0 ≤ m) (rt : RN (q * d) t) (rp : RN (q * m) p) (p0 : 0 ≤ p) (hp : p < 9007199254740992)
    (he : 9223372036854775808 * ab (Q * (L - R) - t) ≤ 9224 * p) (ha : 1125899906842624 * ab t ≤ 1125899906842625 * p) : t = Q * (L - R) ∧ ab t ≤ p := by
  have mm : M 1 (ab l + ab r) := ml.ab.add mr.ab
  have mm' := rm.m1 mm
  have md := rd.m1 (ml.sub mr)
  by_cases h0 : p = 0
  · subst h0
    have a := ab_nonneg t
    have t0 := ab_zero (x := t) (by grind)
    have b := ab_nonneg (Q * (L - R) - t)
    have e := ab_zero (x := Q * (L - R) - t) (by grind)
    exact ⟨by grind, by grind⟩
  · have ep := rp.whole (M1.mul mq mm') (by rw [ab_pos' p0]; exact hp)
    have y0 : m ≠ 0 := fun h => h0 (by rw [ep, h]; grind)
    have x0 : q ≠ 0 := fun h => h0 (by rw [ep, h]; grind)
    have g1 := int_ge (x := q) mm' y0
    have g2 := int_ge (x := m) mq x0
    rw [show m * q = q * m by grind] at g2
    rw [← ep, ab_pos' p0] at g1 g2
    rw [ab_pos' m0] at g2
    have em := rm.whole mm (by rw [ab_pos' m0]; grind)
    have al := ab_nonneg l
    have ar := ab_nonneg r
    have e1 := hq (by grind)
    have e2 := hl (by grind)
    have e3 := hr (by grind)
    have s := ab_sub l r
    have ed := rd.whole' (ml.sub mr) (by grind)
    have k : ab (q * d) ≤ p := by
      rw [ab_mul, ab_pos' q0, ep, ed]
      exact Rat.mul_le_mul_of_nonneg_left (by grind) q0
    have et := rt.whole' (M1.mul mq md) (by grind)
    exact ⟨by rw [et, ed, e1, e2, e3], by rw [et]; exact k⟩

theorem sum_whole {t0 t1 t2 p0 p1 p2 s2 s3 z2 z3 : Rat} (mt0 : M 1 t0) (mt1 : M 1 t1) (mt2 : M 1 t2) (mp0 : M 1 p0) (mp1 : M 1 p1) (mp2 : M 1 p2) (b0 : 0 ≤ p0) (b1 : 0 ≤ p1) (b2 : 0 ≤ p2) (z0 : 0 ≤ z2) (z1 : 0 ≤ z3)
    (r1 : RN (t0 + t1) s2) (r2 : RN (s2 + t2) s3) (r3 : RN (p0 + p1) z2) (r4 : RN (z2 + p2) z3) (hz : z3 < 9007199254740992) :
    p0 < 9007199254740992 ∧ p1 < 9007199254740992 ∧ p2 < 9007199254740992 ∧ (ab t0 ≤ p0 → ab t1 ≤ p1 → ab t2 ≤ p2 → s3 = t0 + t1 + t2) := by
  have m2 := r3.m1 (mp0.add mp1)
  have e1 := r4.whole (m2.add mp2) (by rw [ab_pos' z1]; exact hz)
  have e2 := r3.whole (mp0.add mp1) (by rw [ab_pos' z0]; grind)
  refine ⟨by grind, by grind, by grind, fun h0 h1 h2 => ?_⟩
  have a := ab_add t0 t1
  have f1 := r1.whole' (mt0.add mt1) (by grind)
  rw [f1] at r2
  have b := ab_add (t0 + t1) t2
  exact r2.whole' ((mt0.add mt1).add mt2) (by grind)

/-- The sum of the three rows. -/
def det3 (x0 y0 x1 y1 x2 y2 : Rat) : Rat := (x0 * x0 + y0 * y0) * (x1 * y2 - y1 * x2) + (x1 * x1 + y1 * y1) * (x2 * y0 - y2 * x0) + (x2 * x2 + y2 * y2) * (x0 * y1 - y0 * x1)
/-- The sum of four points. -/
def S4 (ax ay bx by' cx cy dx dy : Nat) : Rat := det3 (fval ax - fval dx) (fval ay - fval dy) (fval bx - fval dx) (fval by' - fval dy) (fval cx - fval dx) (fval cy - fval dy)

/-- Floats of an expansion of a multiple are multiples. -/
theorem Ex.mult {l : List Rat} {t : Nat} (h : Ex l) (hm : M (U t) l.sum) : ∀ x ∈ l, M (U t) x := by
  induction l with
  | nil => intro x hx; cases hx
  | cons x r ih =>
    obtain ⟨hp, h0⟩ := h
    rw [List.pairwise_cons] at hp
    rw [List.sum_cons] at hm
    have er : Ex r := ⟨hp.2, fun y hy => h0 y (by simp [hy])⟩
    have mx : M (U t) x := by
      by_cases hne : r = []
      · subst hne
        rw [List.sum_nil] at hm
        rwa [show x + 0 = x by grind] at hm
      · obtain ⟨s, h1, h2⟩ := lo_list hp.1 hne
        have mr := M.sum h2
        rcases Nat.le_total t s with e | e
        · have := hm.sub (mr.down e)
          rwa [show x + r.sum - r.sum = x by grind] at this
        · have := (hm.down e).sub mr
          rw [show x + r.sum - r.sum = x by grind] at this
          have := this.ge (U_pos s) (h0 x (by simp))
          grind
    intro y hy
    rcases List.mem_cons.1 hy with rfl | hy
    · exact mx
    · have := hm.sub mx
      rw [show x + r.sum - x = r.sum by grind] at this
      exact ih er this y hy

end Go.Proofs.Ytghchejehlljkaa

/- Circles: the floats that Fast reckons. -/
namespace Go.Proofs.Ytghchejehlljkaa
open Go.RowKit

theorem RN.nonneg {q x : Rat} {t : Nat} (h : RN q x) (hm : M (U t) q) (hq : 0 ≤ q) : 0 ≤ x := by
  have h := h.rel hm
  have a := ab_self (q - x)
  apply Classical.byContradiction
  intro hn
  have hz' : ab x = -x := by rw [ab, if_pos (by grind)]
  rw [hz'] at h
  grind

/-- A row: a point less the last one, and its square. -/
structure RowW (X Y : Rat) (x y q : Nat) : Prop where
  fx : Fin64 x
  fy : Fin64 y
  fq : Fin64 q
  rx : RN X (fval x)
  ry : RN Y (fval y)
  mx : M (U 974) X
  my : M (U 974) Y
  lx : ab X ≤ U 1175
  ly : ab Y ≤ U 1175
  q0 : 0 ≤ fval q
  err : 9223372036854775808 * ab (X * X + Y * Y - fval q) ≤ 4098 * fval q
  mq : M (U 874) (fval q)
  lq : ab (fval q) ≤ U 1277
  wh : M 1 X → M 1 Y → (ab (fval q) < 9007199254740992 → fval q = X * X + Y * Y) ∧ M 1 (fval q)
  sm : ab X ≤ U 1085 → ab Y ≤ U 1085 → ab (fval q) ≤ U 1097

theorem row_word {px py dx dy : Nat} (h1 : Crd px) (h2 : Crd py) (h3 : Crd dx) (h4 : Crd dy) :
    ∃ x y xx yy q, floatBits .sub .f64 px dx = some x ∧ floatBits .sub .f64 py dy = some y ∧ floatBits .mul .f64 x x = some xx ∧ floatBits .mul .f64 y y = some yy ∧ floatBits .add .f64 xx yy = some q ∧ RowW (fval px - fval dx) (fval py - fval dy) x y q := by
  obtain ⟨x, e1, f1, _, n1, m1, l1⟩ := diff_word h3 h1
  obtain ⟨y, e2, f2, _, n2, m2, l2⟩ := diff_word h4 h2
  obtain ⟨xx, e3, f3, _, n3, m3, l3, p3⟩ := prod_word f1 f1 n1 n1 m1 m1 l1 l1
  obtain ⟨yy, e4, f4, _, n4, m4, l4, p4⟩ := prod_word f2 f2 n2 n2 m2 m2 l2 l2
  have sq : ∀ z : Rat, 0 ≤ z * z := fun z => by
    rcases (by grind : 0 ≤ z ∨ z ≤ 0) with h | h
    · exact Rat.mul_nonneg h h
    · have := Rat.mul_nonneg (show 0 ≤ -z by grind) (show 0 ≤ -z by grind)
      rwa [show -z * -z = z * z by grind] at this
  have mm : ∀ {z Z : Rat}, RN Z z → M (U 974) Z → M (U 874) (z * z) := fun r m => by
    have h := r.mm m
    have := h.mul h
    rwa [U_mulX' (s := 974) (t := 974) (r := 874) (by omega)] at this
  have x0 := n3.nonneg (mm n1 m1) (sq _)
  have y0 := n4.nonneg (mm n2 m2) (sq _)
  have bs : ab (fval xx + fval yy) ≤ U 1277 := by
    have := ab_add (fval xx) (fval yy)
    have h := U_two' 1276
    grind
  obtain ⟨q, e5, f5, w5, r5⟩ := add_bits f3 f4 (lim_U bs (by omega))
  have q0 := r5.rn.nonneg (m3.add m4) (by grind)
  refine ⟨x, y, xx, yy, q, e1, e2, e3, e4, e5, ⟨f1, f2, f5, n1, n2, m1, m2, l1, l2, q0, ?_, r5.rn.mm (m3.add m4), r5.rn.le bs, fun k1 k2 => ⟨fun h => row_whole n1 n2 n3 n4 r5.rn k1 k2 x0 y0 h, ?_⟩, fun k1 k2 => ?_⟩⟩
  · exact sq_err p3 p4 x0 y0 (r5.rn.rel (m3.add m4)) q0
  · have a := n1.m1 k1
    have b := n2.m1 k2
    exact r5.rn.m1 ((n3.m1 (M1.mul a a)).add (n4.m1 (M1.mul b b)))
  · have a := n1.le k1
    have b := n2.le k2
    have c := n3.le (mul_le_U a a (r := 1096) (by omega))
    have d := n4.le (mul_le_U b b (r := 1096) (by omega))
    refine r5.rn.le ?_
    have := ab_add (fval xx) (fval yy)
    have h := U_two' 1096
    grind

/-- A product of a row's square with the turn of the two others. -/
structure TermW (T : Rat) (W S : Prop) (t p : Nat) : Prop where
  ft : Fin64 t
  fp : Fin64 p
  et : 9223372036854775808 * ab (T - fval t) ≤ 9224 * fval p
  at' : 1125899906842624 * ab (fval t) ≤ 1125899906842625 * fval p
  p0 : 0 ≤ fval p
  mt : M (U 674) (fval t)
  mp : M (U 674) (fval p)
  lt : ab (fval t) ≤ U 1481
  lp : ab (fval p) ≤ U 1481
  wh : W → (fval p < 9007199254740992 → fval t = T ∧ ab (fval t) ≤ fval p) ∧ M 1 (fval t) ∧ M 1 (fval p)
  sm : S → ab (fval p) ≤ U 1120

theorem term_word {X0 Y0 X1 Y1 X2 Y2 : Rat} {x0 y0 q0 x1 y1 q1 x2 y2 q2 : Nat} (A : RowW X0 Y0 x0 y0 q0) (B : RowW X1 Y1 x1 y1 q1) (C : RowW X2 Y2 x2 y2 q2) :
    ∃ l r d m t p, floatBits .mul .f64 x1 y2 = some l ∧ floatBits .mul .f64 y1 x2 = some r ∧ floatBits .sub .f64 l r = some d ∧ floatBits .mul .f64 q0 d = some t ∧ floatBits .add .f64 (frung l) (frung r) = some m ∧ floatBits .mul .f64 q0 m = some p ∧ l < 18446744073709551616 ∧ r < 18446744073709551616 ∧
      TermW ((X0 * X0 + Y0 * Y0) * (X1 * Y2 - Y1 * X2)) (M 1 X0 ∧ M 1 Y0 ∧ M 1 X1 ∧ M 1 Y1 ∧ M 1 X2 ∧ M 1 Y2) (ab X0 ≤ U 1085 ∧ ab Y0 ≤ U 1085 ∧ ab X1 ≤ U 1085 ∧ ab Y1 ≤ U 1085 ∧ ab X2 ≤ U 1085 ∧ ab Y2 ≤ U 1085) t p := by
  obtain ⟨l, el, fl, wl, nl, ml, ll, pl⟩ := prod_word B.fx C.fy B.rx C.ry B.mx C.my B.lx C.ly
  obtain ⟨r, er, fr, wr, nr, mr, lr, pr⟩ := prod_word B.fy C.fx B.ry C.rx B.my C.mx B.ly C.lx
  have bs : ab (fval l - fval r) ≤ U 1277 := by
    have := ab_sub (fval l) (fval r)
    have h := U_two' 1276
    grind
  obtain ⟨d, ed, fd, wd, rd⟩ := sub_bits fl fr (lim_U bs (by omega))
  have fl' : Fin64 (frung l) := fin_small fl
  have fr' : Fin64 (frung r) := fin_small fr
  have vl := ab_fval l fl
  have vr := ab_fval r fr
  have al := ab_nonneg (fval l)
  have ar := ab_nonneg (fval r)
  have b0 : 0 ≤ ab (fval l) + ab (fval r) := by grind
  have bz : ab (ab (fval l) + ab (fval r)) ≤ U 1277 := by
    have h := U_two' 1276
    rw [ab_pos' b0]
    grind
  obtain ⟨m, em, fm, wm, rm⟩ := add_bits fl' fr' (by rw [vl, vr]; exact lim_U bz (by omega))
  rw [vl, vr] at rm
  have mm0 : M (U 874) (ab (fval l) + ab (fval r)) := ml.ab.add mr.ab
  have mm := rm.rn.mm mm0
  have m0 := rm.rn.nonneg mm0 b0
  have lm := rm.rn.le bz
  have md := rd.rn.mm (ml.sub mr)
  have ld := rd.rn.le bs
  have tt : ∀ {z : Rat}, M (U 874) z → M (U 674) (fval q0 * z) := fun h => by
    have := A.mq.mul h
    rwa [U_mulX' (s := 874) (t := 874) (r := 674) (by omega)] at this
  have bt : ab (fval q0 * fval d) ≤ U 1480 := mul_le_U A.lq ld (by omega)
  have bp : ab (fval q0 * fval m) ≤ U 1480 := mul_le_U A.lq lm (by omega)
  obtain ⟨t, et, ft, wt, rt⟩ := mul_bits A.fq fd (lim_U bt (by omega))
  obtain ⟨p, ep, fp, wp, rp⟩ := mul_bits A.fq fm (lim_U bp (by omega))
  have p0 := rp.rn.nonneg (tt mm) (Rat.mul_nonneg A.q0 m0)
  have hm := rm.rn.rel mm0
  rw [ab_pos' m0] at hm
  have hp := rp.rn.rel (tt mm)
  rw [ab_pos' p0] at hp
  have E := term_err A.err A.q0 pl pr (rd.rn.rel (ml.sub mr)) hm m0 (rt.rn.rel (tt md)) hp p0
  have u1 : U 1480 ≤ U 1481 := U_mono (by omega)
  refine ⟨l, r, d, m, t, p, el, er, ed, et, em, ep, wl, wr, ⟨ft, fp, E.1, E.2, p0, rt.rn.mm (tt md), rp.rn.mm (tt mm), Rat.le_trans (rt.rn.le bt) u1, Rat.le_trans (rp.rn.le bp) u1, ?_, ?_⟩⟩
  · rintro ⟨k1, k2, k3, k4, k5, k6⟩
    have mq := (A.wh k1 k2).2
    have ml1 := nl.m1 (M1.mul (B.rx.m1 k3) (C.ry.m1 k6))
    have mr1 := nr.m1 (M1.mul (B.ry.m1 k4) (C.rx.m1 k5))
    refine ⟨fun hlt => term_whole (A.wh k1 k2).1 A.q0 (fun h => prod_whole B.rx C.ry nl k3 k6 pl h) (fun h => prod_whole B.ry C.rx nr k4 k5 pr h) mq ml1 mr1 rd.rn rm.rn m0 rt.rn rp.rn p0 hlt E.1 E.2, rt.rn.m1 (M1.mul mq (rd.rn.m1 (ml1.sub mr1))), rp.rn.m1 (M1.mul mq (rm.rn.m1 (ml1.ab.add mr1.ab)))⟩
  · rintro ⟨k1, k2, k3, k4, k5, k6⟩
    have a := A.sm k1 k2
    have b := nl.le (mul_le_U (B.rx.le k3) (C.ry.le k6) (r := 1096) (by omega))
    have c := nr.le (mul_le_U (B.ry.le k4) (C.rx.le k5) (r := 1096) (by omega))
    have e : ab (ab (fval l) + ab (fval r)) ≤ U 1097 := by
      have h := U_two' 1096
      rw [ab_pos' b0]
      grind
    exact rp.rn.le (mul_le_U a (rm.rn.le e) (r := 1120) (by omega))

theorem low49 : fval 4386506037058863104 = U 1025 := by
  have := fval_rung 973 4503599627370496 (by omega) (Or.inr (by omega)) (by omega)
  have h := U_52 973
  rw [show (4386506037058863104 : Nat) = 973 * 4503599627370496 + 4503599627370496 from rfl, this]
  exact h.symm
theorem top53 : fval 4845873199050653696 = 9007199254740992 := by
  have := fval_rung 1075 4503599627370496 (by omega) (Or.inr (by omega)) (by omega)
  have h := U_52 1075
  rw [show (4845873199050653696 : Nat) = 1075 * 4503599627370496 + 4503599627370496 from rfl, this]
  rw [show ((4503599627370496 : Nat) : Rat) = 4503599627370496 from rfl, ← h]
  have h2 := U_add 1074 53
  rw [U1074] at h2
  rw [show (1075 + 52 : Nat) = 1074 + 53 from rfl, h2]
  show ((9007199254740992 : Nat) : Rat) * 1 = _
  rw [Rat.mul_one]; rfl
/-- A float made less by 2^49 is a float still. -/
theorem F_less49 {z : Rat} {t : Nat} (hz : F z) (hm : M (U t) z) (ht : 104 ≤ t) : F (U 1025 * z) := by
  obtain ⟨S, m, e, m1, m2⟩ := hz
  rcases Nat.lt_or_ge S 49 with h | h
  · have hb : ab z < U t := by
      have hu := U_pos S
      have h1 := F.abs e m1 m2
      have h2 : 9007199254740992 * U S = U (S + 53) := by rw [U_add]; rfl
      have h3 := U_lt_iff.2 (show S + 53 < t by omega)
      exact ab_lt.2 ⟨by grind, by grind⟩
    have z0 : z = 0 := by
      apply Classical.byContradiction
      intro h0
      have := hm.ge (U_pos t) h0
      grind
    rw [z0, Rat.mul_zero]
    exact F_zero
  · refine ⟨S - 49, m, ?_, m1, m2⟩
    have := U_mulX' (s := 1025) (t := S) (r := S - 49) (by omega)
    rw [e, ← this]
    grind

/-- A sum's next step. -/
theorem next_word {s t : Nat} {N : Nat} (fs : Fin64 s) (ft : Fin64 t) (h1 : ab (fval s) ≤ U N) (h2 : ab (fval t) ≤ U N) (hN : N ≤ 1999) (m1 : M (U 674) (fval s)) (m2 : M (U 674) (fval t)) :
    ∃ s', floatBits .add .f64 s t = some s' ∧ Fin64 s' ∧ s' < 18446744073709551616 ∧ RN (fval s + fval t) (fval s') ∧ M (U 674) (fval s') ∧ ab (fval s') ≤ U (N + 1) ∧ 9007199254740992 * ab (fval s + fval t - fval s') ≤ ab (fval s') := by
  have b : ab (fval s + fval t) ≤ U (N + 1) := by
    have := ab_add (fval s) (fval t)
    have h := U_two' N
    grind
  obtain ⟨s', e, f, w, r⟩ := add_bits fs ft (lim_U b (by omega))
  exact ⟨s', e, f, w, r.rn, r.rn.mm (m1.add m2), r.rn.le b, r.rn.rel (m1.add m2)⟩

/-- The whole sum. -/
theorem sums_word {T0 T1 T2 : Rat} {W S : Prop} {t0 p0 t1 p1 t2 p2 : Nat} (A : TermW T0 W S t0 p0) (B : TermW T1 W S t1 p1) (C : TermW T2 W S t2 p2) :
    ∃ s1 z1 s2 z2 s3 z3 v, floatBits .add .f64 0 t0 = some s1 ∧ floatBits .add .f64 0 p0 = some z1 ∧ floatBits .add .f64 s1 t1 = some s2 ∧ floatBits .add .f64 z1 p1 = some z2 ∧ floatBits .add .f64 s2 t2 = some s3 ∧ floatBits .add .f64 z2 p2 = some z3 ∧ floatBits .mul .f64 4386506037058863104 z3 = some v ∧ s3 < 18446744073709551616 ∧ Fin64 s3 ∧
      ((FloatKind.f64.format.order (frung s3) v == some .lt) = false → sgq (fval s3) = sgq (T0 + T1 + T2)) ∧
      ((FloatKind.f64.format.order z3 4845873199050653696 == some .lt) = true → W → sgq (fval s3) = sgq (T0 + T1 + T2)) ∧
      (S → (FloatKind.f64.format.order z3 4845873199050653696 == some .lt) = true) := by
  have z0 : fval 0 = 0 := fval0
  have a0 : ab (fval 0) ≤ U 1481 := by rw [z0, show ab 0 = 0 by unfold ab; grind]; exact Rat.le_of_lt (U_pos _)
  have m0 : M (U 674) (fval 0) := by rw [z0]; exact M_zero _
  obtain ⟨s1, es1, fs1, _, rs1, ms1, ls1, _⟩ := next_word fin0 A.ft a0 A.lt (by omega) m0 A.mt
  obtain ⟨z1, ez1, fz1, _, rz1, mz1, lz1, _⟩ := next_word fin0 A.fp a0 A.lp (by omega) m0 A.mp
  have vs1 : fval s1 = fval t0 := by
    rw [z0, show 0 + fval t0 = fval t0 by grind] at rs1
    exact rs1.exact (word_F A.ft)
  have vz1 : fval z1 = fval p0 := by
    rw [z0, show 0 + fval p0 = fval p0 by grind] at rz1
    exact rz1.exact (word_F A.fp)
  have up : ∀ {x : Rat} {N N' : Nat}, ab x ≤ U N → N ≤ N' → ab x ≤ U N' := fun h hN => Rat.le_trans h (U_mono hN)
  obtain ⟨s2, es2, fs2, _, rs2, ms2, ls2, ks2⟩ := next_word fs1 B.ft ls1 (up B.lt (by omega)) (by omega) ms1 B.mt
  obtain ⟨z2, ez2, fz2, _, rz2, mz2, lz2, kz2⟩ := next_word fz1 B.fp lz1 (up B.lp (by omega)) (by omega) mz1 B.mp
  obtain ⟨s3, es3, fs3, ws3, rs3, ms3, ls3, ks3⟩ := next_word fs2 C.ft ls2 (up C.lt (by omega)) (by omega) ms2 C.mt
  obtain ⟨z3, ez3, fz3, _, rz3, mz3, lz3, kz3⟩ := next_word fz2 C.fp lz2 (up C.lp (by omega)) (by omega) mz2 C.mp
  rw [vs1] at rs2 ks2
  rw [vz1] at rz2 kz2
  have k0 := A.p0
  have k1 := B.p0
  have k2 := C.p0
  have n2 := rz2.nonneg (A.mp.add B.mp) (by grind)
  have n3 := rz3.nonneg (mz2.add C.mp) (by grind)
  rw [ab_pos' n2] at kz2
  rw [ab_pos' n3] at kz3
  have hC : Fin64 4386506037058863104 := by unfold Fin64 frung; omega
  have hD : Fin64 4845873199050653696 := by unfold Fin64 frung; omega
  have hv0 : ab (U 1025 * fval z3) ≤ U 1435 := mul_le_U (p := 1025) (q := 1484) (by rw [ab_pos' (Rat.le_of_lt (U_pos 1025))]; exact Rat.le_refl) lz3 (by omega)
  obtain ⟨v, ev, fv, wv, rv⟩ := mul_bits hC fz3 (by rw [low49]; exact lim_U hv0 (by omega))
  rw [low49] at rv
  have vv : fval v = U 1025 * fval z3 := rv.rn.exact (F_less49 (word_F fz3) mz3 (by omega))
  have u0 := U_pos 1025
  have hu : U 1123 * U 1025 = 1 := by
    rw [U_mulX' (s := 1123) (t := 1025) (r := 1074) (by omega)]; exact U1074
  have hu2 : U 1123 = 562949953421312 := by
    have := U_add 1074 49
    rw [U1074] at this
    rw [show (1123 : Nat) = 1074 + 49 from rfl, this]
    show ((562949953421312 : Nat) : Rat) * 1 = _
    rw [Rat.mul_one]; rfl
  have key : (FloatKind.f64.format.order (frung s3) v == some .lt) = decide (ab (fval s3) < U 1025 * fval z3) := by
    rw [order_val (fin_small fs3) fv, ab_fval s3 fs3, vv]
    by_cases h : ab (fval s3) < U 1025 * fval z3
    · rw [if_pos h, decide_eq_true h]; rfl
    · rw [if_neg h, decide_eq_false h]
      split <;> rfl
  have key2 : (FloatKind.f64.format.order z3 4845873199050653696 == some .lt) = decide (fval z3 < 9007199254740992) := by
    rw [order_val fz3 hD, top53]
    by_cases h : fval z3 < 9007199254740992
    · rw [if_pos h, decide_eq_true h]; rfl
    · rw [if_neg h, decide_eq_false h]
      split <;> rfl
  refine ⟨s1, z1, s2, z2, s3, z3, v, es1, ez1, es2, ez2, es3, ez3, ev, ws3, fs3, ?_, ?_, ?_⟩
  · intro ht
    rw [key] at ht
    have ht' : U 1025 * fval z3 ≤ ab (fval s3) := by
      have := of_decide_eq_false ht
      grind
    have h5' : fval z3 ≤ 562949953421312 * ab (fval s3) := by
      have := Rat.mul_le_mul_of_nonneg_left ht' (show (0 : Rat) ≤ U 1123 from Rat.le_of_lt (U_pos 1123))
      rw [← Rat.mul_assoc, hu, Rat.one_mul, hu2] at this
      exact this
    exact sgq_three (sum_err A.et B.et C.et A.at' B.at' k0 k1 k2 ks2 ks3 kz2 kz3 h5')
  · intro ht hW
    rw [key2] at ht
    have hz := of_decide_eq_true ht
    obtain ⟨wa, mta, mpa⟩ := A.wh hW
    obtain ⟨wb, mtb, mpb⟩ := B.wh hW
    obtain ⟨wc, mtc, mpc⟩ := C.wh hW
    obtain ⟨q0, q1, q2, hs⟩ := sum_whole mta mtb mtc mpa mpb mpc k0 k1 k2 n2 n3 rs2 rs3 rz2 rz3 hz
    obtain ⟨ea, la⟩ := wa q0
    obtain ⟨eb, lb⟩ := wb q1
    obtain ⟨ec, lc⟩ := wc q2
    rw [hs la lb lc, ea, eb, ec]
  · intro hS
    rw [key2]
    apply decide_eq_true
    have a := A.sm hS
    have b := B.sm hS
    have c := C.sm hS
    have d : ab (fval p0 + fval p1) ≤ U 1121 := by
      have := ab_add (fval p0) (fval p1)
      have h := U_two' 1120
      grind
    have e := rz2.le d
    have f : ab (fval z2 + fval p2) ≤ U 1122 := by
      have := ab_add (fval z2) (fval p2)
      have h := U_two' 1121
      have h2 := U_mono (show 1120 ≤ 1121 by omega)
      grind
    have g := rz3.le f
    rw [ab_pos' n3] at g
    have u : U 1122 < U 1123 := U_lt_iff.2 (by omega)
    rw [hu2] at u
    grind

end Go.Proofs.Ytghchejehlljkaa

/- Package orient: Fast. -/
namespace Go.Proofs.Ytghchejehlljkaa
open Go.RowKit Go.Shelf
attribute [local go_sem ↓] Go.wp_at_zero Go.wp_at_succ
attribute [local go_sem] run_store_float

/-- A point as it is handed on. -/
abbrev pv (x y : Nat) : Value := .agg #[.float .f64 x, .float .f64 y]
/-- Three points that may be. -/
def P3 (ax ay bx by' cx cy : Nat) : Prop := Pt ax ay ∧ Pt bx by' ∧ Pt cx cy
/-- Words. -/
def W6 (ax ay bx by' cx cy : Nat) : Prop := (ax < 18446744073709551616 ∧ ay < 18446744073709551616) ∧ (bx < 18446744073709551616 ∧ by' < 18446744073709551616) ∧ cx < 18446744073709551616 ∧ cy < 18446744073709551616

/-- Three points, in a row of the call's own. -/
theorem has3 (ax ay bx by' cx cy : Nat) (w : World) (hw : W6 ax ay bx by' cx cy) :
    Calls Try.prog 22 #[.slice (some ⟨w.heap.size, 0, none⟩) 3 3] (w.alloc (.cells #[.float .f64 ax, .float .f64 ay, .float .f64 bx, .float .f64 by', .float .f64 cx, .float .f64 cy] 24)) fun e w' => (∃ t, e = .returned (.bool t) ∧ (t = true ↔ P3 ax ay bx by' cx cy)) ∧ Below w.heap.size w w' := by
  have hb : Below w.heap.size w (w.alloc (.cells #[.float .f64 ax, .float .f64 ay, .float .f64 bx, .float .f64 by', .float .f64 cx, .float .f64 cy] 24)) := (Below.refl _ w).alloc (Nat.le_refl _) _
  refine (has_walk w.heap.size 3 3 (fun k => if k = 0 then ax else if k = 1 then bx else cx) (fun k => if k = 0 then ay else if k = 1 then by' else cy) _ (fun k hk => ?_) (fun k => ?_) (by omega)).mono ?_
  · have : k = 0 ∨ k = 1 ∨ k = 2 := by omega
    rcases this with rfl | rfl | rfl <;> exact ⟨by go_simp, by go_simp⟩
  · constructor
    · show (if k = 0 then ax else if k = 1 then bx else cx) < _
      split
      · exact hw.1.1
      · split
        · exact hw.2.1.1
        · exact hw.2.2.1
    · show (if k = 0 then ay else if k = 1 then by' else cy) < _
      split
      · exact hw.1.2
      · split
        · exact hw.2.1.2
        · exact hw.2.2.2
  · rintro e w' ⟨⟨t, rfl, ht⟩, hb'⟩
    refine ⟨⟨t, rfl, ?_⟩, below_step hb hb'⟩
    rw [ht]
    exact ⟨fun h => ⟨h 0 (by omega), h 1 (by omega), h 2 (by omega)⟩, fun h j hj => by
      have : j = 0 ∨ j = 1 ∨ j = 2 := by omega
      rcases this with rfl | rfl | rfl
      · exact h.1
      · exact h.2.1
      · exact h.2.2⟩

/-- Three points in boxes of the call's own. -/
structure B3 (w W : World) (ax ay bx by' cx cy : Nat) : Prop where
  a0 : W.cell? ⟨w.heap.size, 0, none⟩ = some (.float .f64 ax)
  a1 : W.cell? ⟨w.heap.size, 1, none⟩ = some (.float .f64 ay)
  b0 : W.cell? ⟨w.heap.size + 1, 0, none⟩ = some (.float .f64 bx)
  b1 : W.cell? ⟨w.heap.size + 1, 1, none⟩ = some (.float .f64 by')
  c0 : W.cell? ⟨w.heap.size + 1 + 1, 0, none⟩ = some (.float .f64 cx)
  c1 : W.cell? ⟨w.heap.size + 1 + 1, 1, none⟩ = some (.float .f64 cy)
  bel : Below w.heap.size w W
theorem B3.later {w W W' : World} {ax ay bx by' cx cy : Nat} (h : B3 w W ax ay bx by' cx cy) (hb : Below W.heap.size W W') : B3 w W' ax ay bx by' cx cy :=
  ⟨box_cell hb h.a0, box_cell hb h.a1, box_cell hb h.b0, box_cell hb h.b1, box_cell hb h.c0, box_cell hb h.c1, below_step h.bel hb⟩
theorem B3.start (w : World) (ax ay bx by' cx cy : Nat) : B3 w (((w.alloc (.cells #[.float .f64 ax, .float .f64 ay] 24)).alloc (.cells #[.float .f64 bx, .float .f64 by'] 24)).alloc (.cells #[.float .f64 cx, .float .f64 cy] 24)) ax ay bx by' cx cy :=
  ⟨by go_simp, by go_simp, by go_simp, by go_simp, by go_simp, by go_simp, (((Below.refl _ w).alloc (Nat.le_refl _) _).alloc (by simp) _).alloc (by simp; omega) _⟩
theorem has3' (ax ay bx by' cx cy px py qx qy rx ry : Nat) (w : World) (hw : W6 ax ay bx by' cx cy) :
    Calls Try.prog 22 #[.slice (some ⟨w.heap.size + 1 + 1 + 1, 0, none⟩) 3 3] ((((w.alloc (.cells #[.float .f64 px, .float .f64 py] 24)).alloc (.cells #[.float .f64 qx, .float .f64 qy] 24)).alloc (.cells #[.float .f64 rx, .float .f64 ry] 24)).alloc (.cells #[.float .f64 ax, .float .f64 ay, .float .f64 bx, .float .f64 by', .float .f64 cx, .float .f64 cy] 24)) fun e w' => (∃ t, e = .returned (.bool t) ∧ (t = true ↔ P3 ax ay bx by' cx cy)) ∧ B3 w w' px py qx qy rx ry := by
  have h := has3 ax ay bx by' cx cy (((w.alloc (.cells #[.float .f64 px, .float .f64 py] 24)).alloc (.cells #[.float .f64 qx, .float .f64 qy] 24)).alloc (.cells #[.float .f64 rx, .float .f64 ry] 24)) hw
  have e : (((w.alloc (.cells #[.float .f64 px, .float .f64 py] 24)).alloc (.cells #[.float .f64 qx, .float .f64 qy] 24)).alloc (.cells #[.float .f64 rx, .float .f64 ry] 24)).heap.size = w.heap.size + 1 + 1 + 1 := by simp
  have hs := B3.start w px py qx qy rx ry
  generalize ((w.alloc (.cells #[.float .f64 px, .float .f64 py] 24)).alloc (.cells #[.float .f64 qx, .float .f64 qy] 24)).alloc (.cells #[.float .f64 rx, .float .f64 ry] 24) = W at *
  rw [← e]
  exact h.mono fun e' w' ⟨h1, h2⟩ => ⟨h1, hs.later h2⟩

/-- What Fast answers. -/
def FastR (ax ay bx by' cx cy : Nat) (z : Int) (t : Bool) : Prop :=
  (t = true → P3 ax ay bx by' cx cy ∧ z = sgq (S3 ax ay bx by' cx cy)) ∧ (t = false → z = 0) ∧ (P3 ax ay bx by' cx cy → Sm ax → Sm ay → Sm bx → Sm by' → Sm cx → Sm cy → S3 ax ay bx by' cx cy ≠ 0 → t = true)

set_option maxRecDepth 100000 in
set_option maxHeartbeats 4000000 in
theorem fast_any (ax ay bx by' cx cy : Nat) (w : World) (hw : W6 ax ay bx by' cx cy) :
    Calls Try.prog 35 #[pv ax ay, pv bx by', pv cx cy] w fun e w' => (∃ z t, e = .returned (.tuple #[.int .i64 z, .bool t]) ∧ FastR ax ay bx by' cx cy z t) ∧ Below w.heap.size w w' := by
  have HW : Hid (W6 ax ay bx by' cx cy) := hw
  clear hw
  go_enter Try.func35, Try.ntmps35
  go_wp2_with fail
  refine (has3' ax ay bx by' cx cy ax ay bx by' cx cy w HW.out).mono ?_
  rintro e w1 ⟨⟨t, rfl, ht⟩, hB⟩
  have HB : Hid (Below w.heap.size w w1) := hB.bel
  have HT : Hid (t = true ↔ P3 ax ay bx by' cx cy) := ht
  clear ht
  cases t
  · clear hB
    go_wp2
    go_ret2
    exact ⟨⟨0, false, rfl, fun h => Bool.noConfusion h, fun _ => rfl, fun h => Bool.noConfusion (HT.out.2 h)⟩, HB.out⟩
  · have HP : Hid (P3 ax ay bx by' cx cy) := HT.out.1 rfl
    obtain ⟨u0, u1, u2, u3, u4, u5, _⟩ := hB
    obtain ⟨d1, d2, l, d3, d4, r, s, z, v, e1, e2, el, e3, e4, er, es, ez, ev, wl, wr, ws, fs, hsg, hkn⟩ := fast_words HP.out.1.1 HP.out.1.2 HP.out.2.1.1 HP.out.2.1.2 HP.out.2.2.1 HP.out.2.2.2
    have r1 : ∀ w, (binOp .sub 22 (.float .f64 bx) (.float .f64 ax)).run Try.prog w = .ok (.float .f64 d1) w := fun w => run_float_arith w .sub _ .f64 _ _ _ e1
    have r2 : ∀ w, (binOp .sub 22 (.float .f64 cy) (.float .f64 ay)).run Try.prog w = .ok (.float .f64 d2) w := fun w => run_float_arith w .sub _ .f64 _ _ _ e2
    have r3 : ∀ w, (binOp .mul 22 (.float .f64 d1) (.float .f64 d2)).run Try.prog w = .ok (.float .f64 l) w := fun w => run_float_arith w .mul _ .f64 _ _ _ el
    have r4 : ∀ w, (binOp .sub 22 (.float .f64 by') (.float .f64 ay)).run Try.prog w = .ok (.float .f64 d3) w := fun w => run_float_arith w .sub _ .f64 _ _ _ e3
    have r5 : ∀ w, (binOp .sub 22 (.float .f64 cx) (.float .f64 ax)).run Try.prog w = .ok (.float .f64 d4) w := fun w => run_float_arith w .sub _ .f64 _ _ _ e4
    have r6 : ∀ w, (binOp .mul 22 (.float .f64 d3) (.float .f64 d4)).run Try.prog w = .ok (.float .f64 r) w := fun w => run_float_arith w .mul _ .f64 _ _ _ er
    have r7 : ∀ w, (binOp .sub 22 (.float .f64 l) (.float .f64 r)).run Try.prog w = .ok (.float .f64 s) w := fun w => run_float_arith w .sub _ .f64 _ _ _ es
    have r8 : ∀ w, (binOp .add 22 (.float .f64 (frung l)) (.float .f64 (frung r))).run Try.prog w = .ok (.float .f64 z) w := fun w => run_float_arith w .add _ .f64 _ _ _ ez
    have r9 : ∀ w, (binOp .mul 22 (.float .f64 4377498837804122112) (.float .f64 z)).run Try.prog w = .ok (.float .f64 v) w := fun w => run_float_arith w .mul _ .f64 _ _ _ ev
    have HL : Hid (∀ w, Calls Try.prog 29 #[.float .f64 l] w fun e w' => e = .returned (.float .f64 (frung l)) ∧ w' = w) := fun w => abs_any l w wl
    have HR : Hid (∀ w, Calls Try.prog 29 #[.float .f64 r] w fun e w' => e = .returned (.float .f64 (frung r)) ∧ w' = w) := fun w => abs_any r w wr
    have HS : Hid (∀ w, Calls Try.prog 29 #[.float .f64 s] w fun e w' => e = .returned (.float .f64 (frung s)) ∧ w' = w) := fun w => abs_any s w ws
    have HC : Hid (∀ w, Calls Try.prog 31 #[.float .f64 s, .float .f64 0] w fun e w' => e = .returned (.int .i64 (sgq (fval s))) ∧ w' = w) := fun w => compare_zero s w fs
    obtain ⟨tb, htb⟩ : ∃ tb, (FloatKind.f64.format.order (frung s) v == some .lt) = tb := ⟨_, rfl⟩
    have HSG : Hid (tb = false → sgq (fval s) = sgq (S3 ax ay bx by' cx cy)) := by rw [← htb]; exact hsg
    have HKN : Hid (Sm ax → Sm ay → Sm bx → Sm by' → Sm cx → Sm cy → S3 ax ay bx by' cx cy ≠ 0 → tb = false) := by rw [← htb]; exact hkn
    clear e1 e2 el e3 e4 er es ez ev wl wr ws fs hsg hkn HT
    generalize frung l = fl at *
    generalize frung r = fr at *
    generalize frung s = fs at *
    generalize sgq (fval s) = sg at *
    go_wp2_with fail
    refine (HL.out _).mono ?_
    rintro e w2 ⟨rfl, rfl⟩
    go_wp2_with fail
    refine (HR.out _).mono ?_
    rintro e w2 ⟨rfl, rfl⟩
    go_wp2_with fail
    refine (HS.out _).mono ?_
    rintro e w2 ⟨rfl, rfl⟩
    cases tb
    · go_wp2_with fail
      refine (HC.out _).mono ?_
      rintro e w2 ⟨rfl, rfl⟩
      go_wp2
      go_ret2
      exact ⟨⟨sg, true, rfl, fun _ => ⟨HP.out, HSG.out (by simp)⟩, fun h => Bool.noConfusion h, fun _ _ _ _ _ _ _ _ => rfl⟩, HB.out⟩
    · go_wp2
      go_ret2
      exact ⟨⟨0, false, rfl, fun h => Bool.noConfusion h, fun _ => rfl, fun _ a1 a2 a3 a4 a5 a6 a7 => (HKN.out a1 a2 a3 a4 a5 a6 a7).symm⟩, HB.out⟩

end Go.Proofs.Ytghchejehlljkaa

/- A drawn region, operation by operation, where some are not wanted. -/
namespace Go.Proofs.Ytghchejehlljkaa
open Go

section
variable {P : Program} {ops : Array Oper} {Q : Exit → Act → World → Prop} {md : Region.Mode} {S : World → Prop}

theorem take_at {i : Nat} {d : Option Tmp} {v : Value} {fuel : Nat} {listed : Array Bool} {a : Act} {w : World} (hd : (ops[i]?).map (·.dst) = some d)
    (hs : Region.noSelect ops = true) (hf : Region.free md ops listed i = true) (hr : (Region.ready md ops listed).contains i = true)
    (hQ : ∀ c a w, Q (.panic c) (a.put d v) w → Q (.panic c) a w) (hy : ∀ oi, ops[i]? = some oi → YieldsIf P ops S oi v a) (hS : S w)
    (h : wpAnyH P md ops Q S fuel (listed.setIfInBounds i true) (a.put d v) w) : wpAnyH P md ops Q S (fuel + 1) listed a w := by
  cases ho : ops[i]? with
  | none => rw [ho] at hd; cases hd
  | some oi =>
    rw [ho] at hd
    have e : oi.dst = d := Option.some.inj hd
    subst e
    exact wpAnyH_take ho hs hf hr hQ (hy oi ho) hS h

/-- What is not wanted is passed by. -/
theorem skip_at (i : Nat) {d : Option Tmp} {fuel : Nat} {listed : Array Bool} {a : Act} {w : World} (hd : (ops[i]?).map (·.dst) = some d)
    (hs : Region.noSelect ops = true) (hf : Region.free md ops listed i = true) (hr : (Region.ready md ops listed).contains i = true)
    (hQ : ∀ c a w, Q (.panic c) (a.put d undef) w → Q (.panic c) a w) (hw : (ops[i]?).map (fun o => Region.wanted o (yielded ops a.tmps)) = some false) (hS : S w)
    (h : wpAnyH P md ops Q S fuel (listed.setIfInBounds i true) (a.put d undef) w) : wpAnyH P md ops Q S (fuel + 1) listed a w :=
  take_at hd hs hf hr hQ (fun oi ho => Or.inr ⟨by rw [ho] at hw; exact Option.some.inj hw, rfl⟩) hS h

theorem call_at (i : Nat) {fuel : Nat} {listed : Array Bool} {a : Act} {w : World} (hr : Region.ready md ops listed = [i])
    (hi : (ops[i]?).isSome = true)
    (h : ∀ o, ops[i]? = some o → ∀ K' : Act → World → Prop, Shut (∀ a w, S w → (S w → wpAnyH P md ops Q S fuel (listed.setIfInBounds i true) a w) → K' a w) → if Region.wanted o (yielded ops a.tmps) = true then Oper.wp P o a w K' Q else K' (a.put o.dst undef) w) :
    wpAnyH P md ops Q S (fuel + 1) listed a w := by
  obtain ⟨o, ho⟩ := Option.isSome_iff_exists.1 hi
  exact wpAnyH_ready hr (by simp) (AllReadyH.cons ho (h o ho) AllReadyH.nil)
end

end Go.Proofs.Ytghchejehlljkaa

/- A drawn region in which one box is laid while a chain of operations goes on. -/
namespace Go.Proofs.Ytghchejehlljkaa
open Go Go.RowKit

section
variable {P : Program} {ops : Array Oper} {Q : Exit → Act → World → Prop} {md : Region.Mode} {S : World → Prop}

/-- One operation. -/
def Step1 (P : Program) (ops : Array Oper) (Q : Exit → Act → World → Prop) (S : World → Prop) (I I' : Act → World → Prop) (i : Nat) : Prop :=
  ∃ o, ops[i]? = some o ∧ ∀ a w, I a w → ∀ K' : Act → World → Prop, Shut (∀ a' w', S w' → I' a' w' → K' a' w') → if Region.wanted o (yielded ops a.tmps) = true then Oper.wp P o a w K' Q else K' (a.put o.dst undef) w

theorem draw1 {n f al : Nat} (c : Nat → Nat) (L : Bool → Nat → Array Bool) (I : Bool → Nat → Act → World → Prop)
    (hr : ∀ x k, k ≤ n → (x = true → k < n) → Region.ready md ops (L x k) = (if k < n then [c k] else []) ++ (if x then [] else [al]))
    (hLc : ∀ x k, k < n → (L x k).setIfInBounds (c k) true = L x (k + 1))
    (hLa : ∀ k, k ≤ n → (L false k).setIfInBounds al true = L true k)
    (hc : ∀ x k, k < n → Step1 P ops Q S (I x k) (I x (k + 1)) (c k))
    (ha : ∀ k, k ≤ n → Step1 P ops Q S (I false k) (I true k) al)
    (hfin : ∀ a w, I true n a w → wpAnyH P md ops Q S f (L true n) a w) :
    ∀ d x k a w, k ≤ n → x.toNat + k + d = 1 + n → I x k a w → wpAnyH P md ops Q S (f + d) (L x k) a w := by
  intro d
  induction d with
  | zero =>
    intro x k a w hk hd hI
    have hx : x = true ∧ k = n := by
      cases x <;> simp at hd ⊢ <;> omega
    obtain ⟨rfl, rfl⟩ := hx
    exact hfin a w hI
  | succ d ih =>
    intro x k a w hk hd hI
    have h1 : x = true → k < n := by
      intro h; subst h; simp at hd; omega
    refine wpAnyH_ready (fuel := f + d) (hr x k hk h1) ?_ (fun i hi => ?_)
    · cases x
      · simp
      · have := h1 rfl; simp [this]
    · have hcase : (k < n ∧ i = c k) ∨ (x = false ∧ i = al) := by
        rcases List.mem_append.1 hi with h | h
        · split at h
          · rename_i hl; exact Or.inl ⟨hl, by simpa using h⟩
          · cases h
        · cases x
          · exact Or.inr ⟨rfl, by simpa using h⟩
          · simp at h
      rcases hcase with ⟨hl, rfl⟩ | ⟨rfl, rfl⟩
      · obtain ⟨o, ho, hw⟩ := hc x k hl
        refine (AllReadyH.cons (rs := []) ho (fun K' hK => hw a w hI K' ?_) AllReadyH.nil) _ (by simp)
        intro a' w' hS' hI'
        refine hK.out a' w' hS' (fun _ => ?_)
        rw [hLc x k hl]
        exact ih x (k + 1) a' w' (by omega) (by omega) hI'
      · obtain ⟨o, ho, hw⟩ := ha k hk
        refine (AllReadyH.cons (rs := []) ho (fun K' hK => hw a w hI K' ?_) AllReadyH.nil) _ (by simp)
        intro a' w' hS' hI'
        refine hK.out a' w' hS' (fun _ => ?_)
        rw [hLa k hk]
        exact ih true k a' w' hk (by simp at hd ⊢; omega) hI'
end

/-- A box's cells. -/
def CB (W : World) (b : Nat) (cs : Array Value) (t : Nat) : Prop := W.heap[b]? = some (.cells cs t (0, 0))
theorem CB.lt {W : World} {b t : Nat} {cs : Array Value} (h : CB W b cs t) : b < W.heap.size := (Array.getElem?_eq_some_iff.1 h).1
theorem CB.later {W W' : World} {b t : Nat} {cs : Array Value} (h : CB W b cs t) (hb : Below W.heap.size W W') : CB W' b cs t := by
  unfold CB
  rw [hb.block b h.lt]; exact h
theorem CB.new (W : World) (cs : Array Value) (t : Nat) : CB (W.alloc (.cells cs t)) W.heap.size cs t := heap_alloc_new W _
theorem CB.cell {W : World} {b t : Nat} {cs : Array Value} (h : CB W b cs t) (i : Nat) (hi : i < cs.size) : W.cell? ⟨b, i, none⟩ = some cs[i] := by
  unfold CB at h
  simp [World.cell?, h, hi]
theorem CB.frozen {W : World} {b t : Nat} {cs : Array Value} (h : CB W b cs t) (i : Nat) : W.frozen? ⟨b, i, none⟩ = false := by
  unfold CB at h
  simp [World.frozen?, h]
theorem CB.set {W : World} {b t : Nat} {cs : Array Value} (h : CB W b cs t) (i : Nat) (v : Value) : CB (W.setCell ⟨b, i, none⟩ v) b (cs.set! i v) t := by
  unfold CB at h ⊢
  simp [World.setCell, Array.getElem?_modify, h]
theorem CB.other {W : World} {b t g i : Nat} {cs : Array Value} (h : CB W b cs t) (hn : b ≠ g) (v : Value) : CB (W.setCell ⟨g, i, none⟩ v) b cs t := by
  unfold CB at h ⊢
  rw [Below.heap_setCell _ ⟨g, i, none⟩ v b hn]; exact h

theorem CB.drew {W : World} {b t : Nat} {cs : Array Value} (h : CB W b cs t) : CB W.drew b cs t := h
theorem CB.set2 {W : World} {b t : Nat} {u0 u1 : Value} (h : CB W b #[u0, u1] t) (v0 v1 : Value) : CB ((W.setCell ⟨b, 0, none⟩ v0).setCell ⟨b, 1, none⟩ v1) b #[v0, v1] t := by
  simpa using ((h.set 0 v0).set 1 v1)
theorem CB.other2 {W : World} {g t b : Nat} {cs : Array Value} (h : CB W g cs t) (hn : g ≠ b) (v0 v1 : Value) : CB ((W.setCell ⟨b, 0, none⟩ v0).setCell ⟨b, 1, none⟩ v1) g cs t := ((h.other hn v0).other hn v1)
theorem below_set2 {N : Nat} {w W : World} {b : Nat} (h : Below N w W) (hn : N ≤ b) (v0 v1 : Value) : Below N w ((W.setCell ⟨b, 0, none⟩ v0).setCell ⟨b, 1, none⟩ v1) := ((h.setCell hn v0).setCell hn v1)
theorem cell_set2 {W : World} {g i b : Nat} {x : Value} (h : W.cell? ⟨g, i, none⟩ = some x) (hn : g ≠ b) (v0 v1 : Value) : ((W.setCell ⟨b, 0, none⟩ v0).setCell ⟨b, 1, none⟩ v1).cell? ⟨g, i, none⟩ = some x := by
  rw [World.cell?_setCell_other _ _ _ v1 (by intro e; cases e; exact hn rfl), World.cell?_setCell_other _ _ _ v0 (by intro e; cases e; exact hn rfl)]; exact h
theorem CB.set3 {W : World} {b t : Nat} {u0 u1 u2 : Value} (h : CB W b #[u0, u1, u2] t) (v0 v1 v2 : Value) : CB (((W.setCell ⟨b, 0, none⟩ v0).setCell ⟨b, 1, none⟩ v1).setCell ⟨b, 2, none⟩ v2) b #[v0, v1, v2] t := by
  simpa using (((h.set 0 v0).set 1 v1).set 2 v2)
theorem CB.other3 {W : World} {g t b : Nat} {cs : Array Value} (h : CB W g cs t) (hn : g ≠ b) (v0 v1 v2 : Value) : CB (((W.setCell ⟨b, 0, none⟩ v0).setCell ⟨b, 1, none⟩ v1).setCell ⟨b, 2, none⟩ v2) g cs t := (((h.other hn v0).other hn v1).other hn v2)
theorem below_set3 {N : Nat} {w W : World} {b : Nat} (h : Below N w W) (hn : N ≤ b) (v0 v1 v2 : Value) : Below N w (((W.setCell ⟨b, 0, none⟩ v0).setCell ⟨b, 1, none⟩ v1).setCell ⟨b, 2, none⟩ v2) := (((h.setCell hn v0).setCell hn v1).setCell hn v2)
theorem cell_set3 {W : World} {g i b : Nat} {x : Value} (h : W.cell? ⟨g, i, none⟩ = some x) (hn : g ≠ b) (v0 v1 v2 : Value) : (((W.setCell ⟨b, 0, none⟩ v0).setCell ⟨b, 1, none⟩ v1).setCell ⟨b, 2, none⟩ v2).cell? ⟨g, i, none⟩ = some x := by
  rw [World.cell?_setCell_other _ _ _ v2 (by intro e; cases e; exact hn rfl), World.cell?_setCell_other _ _ _ v1 (by intro e; cases e; exact hn rfl), World.cell?_setCell_other _ _ _ v0 (by intro e; cases e; exact hn rfl)]; exact h
theorem CB.set9 {W : World} {b t : Nat} {u0 u1 u2 u3 u4 u5 u6 u7 u8 : Value} (h : CB W b #[u0, u1, u2, u3, u4, u5, u6, u7, u8] t) (v0 v1 v2 v3 v4 v5 v6 v7 v8 : Value) : CB (((((((((W.setCell ⟨b, 0, none⟩ v0).setCell ⟨b, 1, none⟩ v1).setCell ⟨b, 2, none⟩ v2).setCell ⟨b, 3, none⟩ v3).setCell ⟨b, 4, none⟩ v4).setCell ⟨b, 5, none⟩ v5).setCell ⟨b, 6, none⟩ v6).setCell ⟨b, 7, none⟩ v7).setCell ⟨b, 8, none⟩ v8) b #[v0, v1, v2, v3, v4, v5, v6, v7, v8] t := by
  simpa using (((((((((h.set 0 v0).set 1 v1).set 2 v2).set 3 v3).set 4 v4).set 5 v5).set 6 v6).set 7 v7).set 8 v8)
theorem CB.other9 {W : World} {g t b : Nat} {cs : Array Value} (h : CB W g cs t) (hn : g ≠ b) (v0 v1 v2 v3 v4 v5 v6 v7 v8 : Value) : CB (((((((((W.setCell ⟨b, 0, none⟩ v0).setCell ⟨b, 1, none⟩ v1).setCell ⟨b, 2, none⟩ v2).setCell ⟨b, 3, none⟩ v3).setCell ⟨b, 4, none⟩ v4).setCell ⟨b, 5, none⟩ v5).setCell ⟨b, 6, none⟩ v6).setCell ⟨b, 7, none⟩ v7).setCell ⟨b, 8, none⟩ v8) g cs t := (((((((((h.other hn v0).other hn v1).other hn v2).other hn v3).other hn v4).other hn v5).other hn v6).other hn v7).other hn v8)
theorem below_set9 {N : Nat} {w W : World} {b : Nat} (h : Below N w W) (hn : N ≤ b) (v0 v1 v2 v3 v4 v5 v6 v7 v8 : Value) : Below N w (((((((((W.setCell ⟨b, 0, none⟩ v0).setCell ⟨b, 1, none⟩ v1).setCell ⟨b, 2, none⟩ v2).setCell ⟨b, 3, none⟩ v3).setCell ⟨b, 4, none⟩ v4).setCell ⟨b, 5, none⟩ v5).setCell ⟨b, 6, none⟩ v6).setCell ⟨b, 7, none⟩ v7).setCell ⟨b, 8, none⟩ v8) := (((((((((h.setCell hn v0).setCell hn v1).setCell hn v2).setCell hn v3).setCell hn v4).setCell hn v5).setCell hn v6).setCell hn v7).setCell hn v8)
theorem cell_set9 {W : World} {g i b : Nat} {x : Value} (h : W.cell? ⟨g, i, none⟩ = some x) (hn : g ≠ b) (v0 v1 v2 v3 v4 v5 v6 v7 v8 : Value) : (((((((((W.setCell ⟨b, 0, none⟩ v0).setCell ⟨b, 1, none⟩ v1).setCell ⟨b, 2, none⟩ v2).setCell ⟨b, 3, none⟩ v3).setCell ⟨b, 4, none⟩ v4).setCell ⟨b, 5, none⟩ v5).setCell ⟨b, 6, none⟩ v6).setCell ⟨b, 7, none⟩ v7).setCell ⟨b, 8, none⟩ v8).cell? ⟨g, i, none⟩ = some x := by
  rw [World.cell?_setCell_other _ _ _ v8 (by intro e; cases e; exact hn rfl), World.cell?_setCell_other _ _ _ v7 (by intro e; cases e; exact hn rfl), World.cell?_setCell_other _ _ _ v6 (by intro e; cases e; exact hn rfl), World.cell?_setCell_other _ _ _ v5 (by intro e; cases e; exact hn rfl), World.cell?_setCell_other _ _ _ v4 (by intro e; cases e; exact hn rfl), World.cell?_setCell_other _ _ _ v3 (by intro e; cases e; exact hn rfl), World.cell?_setCell_other _ _ _ v2 (by intro e; cases e; exact hn rfl), World.cell?_setCell_other _ _ _ v1 (by intro e; cases e; exact hn rfl), World.cell?_setCell_other _ _ _ v0 (by intro e; cases e; exact hn rfl)]; exact h
theorem CB.cells3 {W : World} {b t : Nat} {u0 u1 u2 : Value} (h : CB W b #[u0, u1, u2] t) : W.cell? ⟨b, 0, none⟩ = some u0 ∧ W.cell? ⟨b, 1, none⟩ = some u1 ∧ W.cell? ⟨b, 2, none⟩ = some u2 := ⟨h.cell 0 (by simp), h.cell 1 (by simp), h.cell 2 (by simp)⟩
theorem CB.cells9 {W : World} {b t : Nat} {u0 u1 u2 u3 u4 u5 u6 u7 u8 : Value} (h : CB W b #[u0, u1, u2, u3, u4, u5, u6, u7, u8] t) : W.cell? ⟨b, 0, none⟩ = some u0 ∧ W.cell? ⟨b, 1, none⟩ = some u1 ∧ W.cell? ⟨b, 2, none⟩ = some u2 ∧ W.cell? ⟨b, 3, none⟩ = some u3 ∧ W.cell? ⟨b, 4, none⟩ = some u4 ∧ W.cell? ⟨b, 5, none⟩ = some u5 ∧ W.cell? ⟨b, 6, none⟩ = some u6 ∧ W.cell? ⟨b, 7, none⟩ = some u7 ∧ W.cell? ⟨b, 8, none⟩ = some u8 := ⟨h.cell 0 (by simp), h.cell 1 (by simp), h.cell 2 (by simp), h.cell 3 (by simp), h.cell 4 (by simp), h.cell 5 (by simp), h.cell 6 (by simp), h.cell 7 (by simp), h.cell 8 (by simp)⟩

theorem frame_named {P : Program} {md : Region.Mode} {ops : Array Oper} {Q : Exit → Act → World → Prop} {S : World → Prop} {f : Nat} {l : Array Bool} {a : Act} {w : World} (h : ∀ A, A = a → wpAnyH P md ops Q S f l A w) : wpAnyH P md ops Q S f l a w := h a rfl

end Go.Proofs.Ytghchejehlljkaa
