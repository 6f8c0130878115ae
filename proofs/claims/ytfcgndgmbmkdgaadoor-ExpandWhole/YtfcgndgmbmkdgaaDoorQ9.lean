/- Own texts, put together: Ew Eh Ex Xe Ha Hc Xf Xg Xh Xi. -/
import Derived.Test.YtfcgndgmbmkdgaaDoorQ1
import Derived.Test.YtfcgndgmbmkdgaaDoorQ7
import Derived.Test.YtfcgndgmbmkdgaaDoorQ8
import Derived.Deep.AppendLies
import Derived.OwnWalk
import Derived.Maps.AppendAt
/- Products of safe words: what is rounded off is told exactly. -/
namespace Go.Proofs.YtfcgndgmbmkdgaaDoor

theorem fc_norm {b : Nat} (hn : 9007199254740992 ≤ frung b) : ∃ m, FC (fval b) (frung b / 4503599627370496 - 1) m ∧ (4503599627370496 ≤ m ∨ m ≤ -4503599627370496) := by
  have hm := fmag_lt (frung b)
  have hm2 : 4503599627370496 ≤ fmag (frung b) := by unfold fmag; rw [if_neg (by omega)]; omega
  have c : FC ((fmag (frung b) : Nat) * p2 (fpl (frung b))) (frung b / 4503599627370496 - 1) (fmag (frung b) : Int) := by
    refine ⟨?_, by omega, by omega, Or.inr (Or.inl (by omega))⟩
    unfold U fpl
    rw [if_neg (by omega), show ((frung b / 4503599627370496 - 1 : Nat) : Int) - 1074 = -1074 + ((frung b / 4503599627370496 - 1 : Nat) : Int) by omega]; rfl
  rw [fval_eq]
  unfold sgn1
  cases fneg b
  · refine ⟨_, ?_, Or.inl (by omega : (4503599627370496 : Int) ≤ (fmag (frung b) : Int))⟩
    rw [if_neg (by decide), Rat.one_mul]; exact c
  · refine ⟨-(fmag (frung b) : Int), ?_, Or.inr (by omega)⟩
    rw [if_pos rfl]
    have := c.neg
    rwa [show -((fmag (frung b) : Nat) * p2 (fpl (frung b)) : Rat) = -1 * ((fmag (frung b) : Nat) * p2 (fpl (frung b))) by grind] at this

theorem safe_top : fval 6633802251116740608 = p2 450 := by
  rw [(fval_pos_lt (by omega)).1, show fmag 6633802251116740608 = 4503599627370496 by decide, show fpl 6633802251116740608 = 398 by decide]
  rw [show (450 : Int) = 398 + ((52 : Nat) : Int) by omega, p2_add, p2_nat, Rat.mul_comm]

theorem safe_bound {a : Nat} (h : SafeW (frung a)) : fval a ≤ p2 450 ∧ -fval a ≤ p2 450 := by
  have hr : frung a ≤ 6633802251116740608 := by unfold SafeW at h; omega
  have h1 : fval (frung a) ≤ p2 450 := by
    rw [← safe_top]
    rcases Nat.lt_or_ge (frung a) 6633802251116740608 with e | e
    · exact Rat.le_of_lt (fval_lt e (by omega))
    · rw [show frung a = 6633802251116740608 by omega]; exact Rat.le_refl
  have h2 := fval_nonneg (r := frung a) (by omega)
  rcases fval_abs a with e | e <;> rw [e] <;> constructor <;> grind

theorem split_const : fval 4728779608772575232 = 134217729 := by
  rw [(fval_pos_lt (by omega)).1, show fmag 4728779608772575232 = 4503599660924928 by decide, show fpl 4728779608772575232 = -((25 : Nat) : Int) by decide]
  have h := p2_neg ((25 : Nat) : Int)
  rw [p2_nat, show ((2 ^ 25 : Nat) : Rat) = 33554432 from rfl] at h
  rw [show ((4503599660924928 : Nat) : Rat) = 4503599660924928 from rfl]
  generalize p2 (-((25 : Nat) : Int)) = v at *
  grind

theorem halves_words {a : Nat} (h : SafeW (frung a)) :
    ∃ c d x y, Halves a c d x y ∧ Fin64 x ∧ Fin64 y ∧ x < 18446744073709551616 ∧ y < 18446744073709551616 ∧ (fval x < 4294967296 * p2 450 ∧ -(4294967296 * p2 450) < fval x) ∧ (fval y < 4294967296 * p2 450 ∧ -(4294967296 * p2 450) < fval y) ∧
      ((fval a = 0 ∧ fval x = 0 ∧ fval y = 0) ∨ (573 ≤ frung a / 4503599627370496 ∧ ∃ X Y, NH (fval a) (fval x) (fval y) (frung a / 4503599627370496 - 1) X Y)) := by
  have fa_ : Fin64 a := by unfold Fin64; unfold SafeW at h; omega
  have fk : Fin64 4728779608772575232 := by unfold Fin64 frung; decide
  have ba := safe_bound h
  have he := p2_pos 450
  have ht : 1099511627776 * p2 450 ≤ p2 1023 := by
    have : p2 490 = 1099511627776 * p2 450 := by rw [show (490 : Int) = ((40 : Nat) : Int) + 450 by omega, p2_add, p2_nat]; rfl
    rw [← this]; exact p2_mono (by omega)
  have hk := split_const
  have lim : ∀ q : Rat, q ≤ 549755813888 * p2 450 → -q ≤ 549755813888 * p2 450 → Lim q := fun q h1 h2 => ⟨by grind, by grind⟩
  generalize p2 450 = c0 at *
  obtain ⟨c, s0, fc, lc, rc⟩ := mul_bits fk fa_ (by rw [hk]; exact lim _ (by grind) (by grind))
  rw [hk] at rc
  have bc := rc.rn.twice (c := 134217729 * c0) (by grind) (by grind)
  obtain ⟨d, s1, fd, ld, rd⟩ := sub_bits fc fa_ (lim _ (by grind) (by grind))
  have bd := rd.rn.twice (c := 268435459 * c0) (by grind) (by grind)
  obtain ⟨x, s2, fx, lx, rx⟩ := sub_bits fc fd (lim _ (by grind) (by grind))
  have bx := rx.rn.twice (c := 805306376 * c0) (by grind) (by grind)
  obtain ⟨y, s3, fy, ly, ry⟩ := sub_bits fa_ fx (lim _ (by grind) (by grind))
  have bY := ry.rn.twice (c := 1610612753 * c0) (by grind) (by grind)
  refine ⟨c, d, x, y, ⟨s0, s1, s2, s3⟩, fx, fy, lx, ly, ⟨by grind, by grind⟩, ⟨by grind, by grind⟩, ?_⟩
  rcases h with h | h
  · left
    have a0 : fval a = 0 := fval_zero_iff.2 h
    have e1 := rc.rn.exact (by rw [a0, show (134217729 : Rat) * 0 = 0 by grind]; exact F_zero)
    rw [a0, show (134217729 : Rat) * 0 = 0 by grind] at e1
    have e2 := rd.rn.exact (by rw [a0, e1, show (0 : Rat) - 0 = 0 by grind]; exact F_zero)
    rw [a0, e1, show (0 : Rat) - 0 = 0 by grind] at e2
    have e3 := rx.rn.exact (by rw [e2, e1, show (0 : Rat) - 0 = 0 by grind]; exact F_zero)
    rw [e2, e1, show (0 : Rat) - 0 = 0 by grind] at e3
    have e4 := ry.rn.exact (by rw [a0, e3, show (0 : Rat) - 0 = 0 by grind]; exact F_zero)
    rw [a0, e3, show (0 : Rat) - 0 = 0 by grind] at e4
    exact ⟨a0, e3, e4⟩
  · right
    refine ⟨by omega, ?_⟩
    obtain ⟨m, hc, hm⟩ := fc_norm (b := a) (by omega)
    exact halves_nh hc hm rc.rn rd.rn rx.rn ry.rn

theorem U_mul (S1 S2 R : Nat) (h : S1 + S2 = R + 1074) : U S1 * U S2 = U R := by
  unfold U
  rw [← p2_add]; congr 1; omega

set_option maxHeartbeats 1000000 in
theorem prod_words {a b : Nat} (ha : SafeW (frung a)) (hb : SafeW (frung b)) :
    ∃ x a1 a2 b1 b2 p1 l1 q2 l2 p3 l3 p4 y c d c' d', Halves a c d a1 a2 ∧ Halves b c' d' b1 b2 ∧ TwoProd a b x a1 a2 b1 b2 p1 l1 q2 l2 p3 l3 p4 y ∧ Fin64 x ∧ Fin64 y ∧ x < 18446744073709551616 ∧ y < 18446744073709551616 ∧ RV (fval a * fval b) (fval x) ∧ fval x + fval y = fval a * fval b := by
  have fa_ : Fin64 a := by unfold Fin64; unfold SafeW at ha; omega
  have fb_ : Fin64 b := by unfold Fin64; unfold SafeW at hb; omega
  have ba := safe_bound ha
  have bb := safe_bound hb
  obtain ⟨c, d, a1, a2, H1, f1, f2, _, _, u1, u2, n1⟩ := halves_words ha
  obtain ⟨c', d', b1, b2, H2, g1, g2, _, _, v1, v2, n2⟩ := halves_words hb
  have he := p2_pos 450
  have ht : 1208925819614629174706176 * (p2 450 * p2 450) ≤ p2 1023 := by
    rw [← p2_add]
    have : p2 980 = 1208925819614629174706176 * p2 (450 + 450) := by rw [show (980 : Int) = ((80 : Nat) : Int) + (450 + 450) by omega, p2_add, p2_nat]; rfl
    rw [← this]; exact p2_mono (by omega)
  have hg : 0 < p2 450 * p2 450 := Rat.mul_pos he he
  have bnd : ∀ {s t : Rat}, s < 4294967296 * p2 450 → -(4294967296 * p2 450) < s → t < 4294967296 * p2 450 → -(4294967296 * p2 450) < t → s * t ≤ 18446744073709551616 * (p2 450 * p2 450) ∧ -(s * t) ≤ 18446744073709551616 * (p2 450 * p2 450) := by
    intro s t h1 h2 h3 h4
    have := abs_mul_lt h2 h1 h4 h3
    rw [show 4294967296 * p2 450 * (4294967296 * p2 450) = 18446744073709551616 * (p2 450 * p2 450) by grind] at this
    constructor <;> grind
  have w0 := bnd (s := fval a) (t := fval b) (by grind) (by grind) (by grind) (by grind)
  have w1 := bnd u1.1 u1.2 v1.1 v1.2
  have w2 := bnd u2.1 u2.2 v1.1 v1.2
  have w3 := bnd u1.1 u1.2 v2.1 v2.2
  have w4 := bnd u2.1 u2.2 v2.1 v2.2
  have lim : ∀ q : Rat, q ≤ 604462909807314587353088 * (p2 450 * p2 450) → -q ≤ 604462909807314587353088 * (p2 450 * p2 450) → Lim q := fun q h1 h2 => ⟨by grind, by grind⟩
  clear bnd ba bb u1 u2 v1 v2 ht he
  generalize p2 450 * p2 450 = g at *
  obtain ⟨x, s0, fx, lx, rx⟩ := mul_bits fa_ fb_ (lim _ (by grind) (by grind))
  have bx := rx.rn.twice (c := 18446744073709551616 * g) (by grind) (by grind)
  obtain ⟨p1, s1, fp1, _, r1⟩ := mul_bits f1 g1 (lim _ (by grind) (by grind))
  have k1 := r1.rn.twice (c := 18446744073709551616 * g) (by grind) (by grind)
  obtain ⟨l1, s2, fl1, _, r2⟩ := sub_bits fx fp1 (lim _ (by grind) (by grind))
  have k2 := r2.rn.twice (c := 73786976294838206464 * g) (by grind) (by grind)
  obtain ⟨q2, s3, fq2, _, r3⟩ := mul_bits f2 g1 (lim _ (by grind) (by grind))
  have k3 := r3.rn.twice (c := 18446744073709551616 * g) (by grind) (by grind)
  obtain ⟨l2, s4, fl2, _, r4⟩ := sub_bits fl1 fq2 (lim _ (by grind) (by grind))
  have k4 := r4.rn.twice (c := 295147905179352825856 * g) (by grind) (by grind)
  obtain ⟨p3, s5, fp3, _, r5⟩ := mul_bits f1 g2 (lim _ (by grind) (by grind))
  have k5 := r5.rn.twice (c := 18446744073709551616 * g) (by grind) (by grind)
  obtain ⟨l3, s6, fl3, _, r6⟩ := sub_bits fl2 fp3 (lim _ (by grind) (by grind))
  have k6 := r6.rn.twice (c := 1180591620717411303424 * g) (by grind) (by grind)
  obtain ⟨p4, s7, fp4, _, r7⟩ := mul_bits f2 g2 (lim _ (by grind) (by grind))
  have k7 := r7.rn.twice (c := 18446744073709551616 * g) (by grind) (by grind)
  obtain ⟨y, s8, fy, ly, r8⟩ := sub_bits fp4 fl3 (lim _ (by grind) (by grind))
  refine ⟨x, a1, a2, b1, b2, p1, l1, q2, l2, p3, l3, p4, y, c, d, c', d', H1, H2, ⟨s0, s1, s2, s3, s4, s5, s6, s7, s8⟩, fx, fy, lx, ly, rx, ?_⟩
  have zero : fval a * fval b = 0 → fval a1 * fval b1 = 0 → fval a2 * fval b1 = 0 → fval a1 * fval b2 = 0 → fval a2 * fval b2 = 0 → fval x + fval y = fval a * fval b := by
    intro z0 z1 z2 z3 z4
    rw [z0] at rx
    rw [z1] at r1
    rw [z2] at r3
    rw [z3] at r5
    rw [z4] at r7
    have o : (0 : Rat) - 0 = 0 := by grind
    have ex := rx.rn.exact F_zero
    have e1 := r1.rn.exact F_zero
    rw [ex, e1, o] at r2
    have e2 := r2.rn.exact F_zero
    have e3 := r3.rn.exact F_zero
    rw [e2, e3, o] at r4
    have e4 := r4.rn.exact F_zero
    have e5 := r5.rn.exact F_zero
    rw [e4, e5, o] at r6
    have e6 := r6.rn.exact F_zero
    have e7 := r7.rn.exact F_zero
    rw [e7, e6, o] at r8
    have e8 := r8.rn.exact F_zero
    rw [ex, e8, z0]; grind
  rcases n1 with ⟨z, z1, z2⟩ | ⟨i1, X1, Y1, N1⟩
  · exact zero (by rw [z]; grind) (by rw [z1]; grind) (by rw [z2]; grind) (by rw [z1]; grind) (by rw [z2]; grind)
  · rcases n2 with ⟨z, z1, z2⟩ | ⟨i2, X2, Y2, N2⟩
    · exact zero (by rw [z]; grind) (by rw [z1]; grind) (by rw [z1]; grind) (by rw [z2]; grind) (by rw [z2]; grind)
    · exact twoProd_core N1 N2 (U_mul _ _ (frung a / 4503599627370496 - 1 + (frung b / 4503599627370496 - 1) - 1074) (by omega)) rx.rn r1.rn r2.rn r3.rn r4.rn r5.rn r6.rn r7.rn r8.rn

end Go.Proofs.YtfcgndgmbmkdgaaDoor

/- awake: the examples. -/
namespace Go.Proofs.YtfcgndgmbmkdgaaDoor
open Go.RowKit

theorem ex1 : TwoSum 4845873199050653696 4607182418800017408 4845873199050653696 0 4845873199050653696 4607182418800017408 0 4607182418800017408 := ⟨by decide +kernel, by decide +kernel, by decide +kernel, by decide +kernel, by decide +kernel, by decide +kernel⟩
theorem ex2 : TwoSum 4845873199050653697 4607182418800017408 4845873199050653698 4611686018427387904 4845873199050653697 13830554455654793216 0 13830554455654793216 := ⟨by decide +kernel, by decide +kernel, by decide +kernel, by decide +kernel, by decide +kernel, by decide +kernel⟩
theorem ex3 : TwoSum 4607182418800017408 13826050856027422720 4602678819172646912 13826050856027422720 4607182418800017408 0 0 0 := ⟨by decide +kernel, by decide +kernel, by decide +kernel, by decide +kernel, by decide +kernel, by decide +kernel⟩
theorem ex4 : Halves 4728779608772575232 4850376798745133056 4850376798711578624 4728779608739020800 4607182418800017408 := ⟨by decide +kernel, by decide +kernel, by decide +kernel, by decide +kernel⟩
theorem ex5 : TwoProd 4728779608772575232 4728779608772575232 4850376798745133056 4728779608739020800 4607182418800017408 4728779608739020800 4607182418800017408 4850376798678024192 4733283208366391296 4728779608739020800 4728779608739020800 4728779608739020800 0 4607182418800017408 4607182418800017408 := ⟨by decide +kernel, by decide +kernel, by decide +kernel, by decide +kernel, by decide +kernel, by decide +kernel, by decide +kernel, by decide +kernel, by decide +kernel⟩
theorem ex3' : TwoSum 4607182418800017408 (fflip 4602678819172646912) 4602678819172646912 13826050856027422720 4607182418800017408 0 0 0 := ex3

end Go.Proofs.YtfcgndgmbmkdgaaDoor

/- What Sum, Diff and Prod answer, and what follows of it. -/
namespace Go.Proofs.YtfcgndgmbmkdgaaDoor
open Go.RowKit

/-- A number's float and what was rounded off, if that is promised; else 0, 0. -/
def Pair (dom : Prop) (q : Rat) (x y : Nat) : Prop :=
  Fin64 x ∧ Fin64 y ∧ x < 18446744073709551616 ∧ y < 18446744073709551616 ∧ ((dom ∧ RV q (fval x) ∧ fval x + fval y = q) ∨ (¬ dom ∧ x = 0 ∧ y = 0))

theorem pair_zero {dom : Prop} {q : Rat} (h : ¬ dom) : Pair dom q 0 0 := ⟨fin_zero, fin_zero, by omega, by omega, Or.inr ⟨h, rfl, rfl⟩⟩

theorem flip_lt {a : Nat} (h : a < 18446744073709551616) : fflip a < 18446744073709551616 := by unfold fflip; split <;> omega
theorem frung_flip {a : Nat} (h : a < 18446744073709551616) : frung (fflip a) = frung a := by unfold fflip frung; split <;> omega
theorem fval_flip {a : Nat} (h : a < 18446744073709551616) (hf : Fin64 a) : fval (fflip a) = -fval a := by
  unfold Fin64 frung at hf
  unfold fflip
  split
  · rename_i hs
    rw [Nat.add_comm]; exact fval_word (by omega)
  · rename_i hs
    obtain ⟨r, rfl⟩ : ∃ r, a = 9223372036854775808 + r := ⟨a - 9223372036854775808, by omega⟩
    rw [fval_word (by omega), show 9223372036854775808 + r - 9223372036854775808 = r by omega]; grind

theorem order_same {x v : Nat} (hx : Fin64 x) (hv : Fin64 v) (h : fval x = fval v) : (FloatKind.f64.format.order x v == some .eq) = true := by
  show (Ieee.double.order x v == some .eq) = true
  rw [order_fin hx hv, h, if_neg Rat.lt_irrefl, if_pos rfl]; rfl

theorem pair_rest {dom : Prop} {q : Rat} {x y : Nat} (h : Pair dom q x y) (hL : dom → Lim q) : ∃ s, floatBits .add .f64 x y = some s ∧ (FloatKind.f64.format.order s x == some .eq) = true := by
  obtain ⟨fx, fy, _, _, h⟩ := h
  rcases h with ⟨hd, hv, he⟩ | ⟨_, rfl, rfl⟩
  · obtain ⟨s, hs, fs, _, hr⟩ := add_bits fx fy (by rw [he]; exact hL hd)
    rw [he] at hr
    exact ⟨s, hs, order_same fs fx (hr.fn hv)⟩
  · exact ⟨0, by decide +kernel, by decide +kernel⟩

theorem pair_eq {dom dom' : Prop} {q q' : Rat} {x y v w : Nat} (h : Pair dom q x y) (h' : Pair dom' q' v w) (hd : dom ↔ dom') (hq : dom → q = q') :
    (FloatKind.f64.format.order x v == some .eq) = true ∧ (FloatKind.f64.format.order y w == some .eq) = true := by
  obtain ⟨fx, fy, _, _, h⟩ := h
  obtain ⟨fv, fw, _, _, h'⟩ := h'
  rcases h with ⟨d, hv, he⟩ | ⟨d, rfl, rfl⟩ <;> rcases h' with ⟨d', hv', he'⟩ | ⟨d', rfl, rfl⟩
  · have e := hq d
    subst e
    have e1 := hv.fn hv'
    exact ⟨order_same fx fv e1, order_same fy fw (by grind)⟩
  · exact absurd (hd.1 d) d'
  · exact absurd (hd.2 d') d
  · exact ⟨order_same fx fv rfl, order_same fy fw rfl⟩

theorem pair_neg {dom dom' : Prop} {q q' : Rat} {x y v w : Nat} (h : Pair dom q x y) (h' : Pair dom' q' v w) (hd : dom ↔ dom') (hq : dom → q' = -q) :
    (FloatKind.f64.format.order v (fflip x) == some .eq) = true ∧ (FloatKind.f64.format.order w (fflip y) == some .eq) = true := by
  obtain ⟨fx, fy, lx, ly, h⟩ := h
  obtain ⟨fv, fw, _, _, h'⟩ := h'
  have gx : Fin64 (fflip x) := by unfold Fin64; rw [frung_flip lx]; exact fx
  have gy : Fin64 (fflip y) := by unfold Fin64; rw [frung_flip ly]; exact fy
  have vx := fval_flip lx fx
  have vy := fval_flip ly fy
  rcases h with ⟨d, hv, he⟩ | ⟨d, rfl, rfl⟩ <;> rcases h' with ⟨d', hv', he'⟩ | ⟨d', rfl, rfl⟩
  · have e := hq d
    subst e
    have e1 := hv.neg.fn hv'
    exact ⟨order_same fv gx (by rw [vx]; grind), order_same fw gy (by rw [vy]; grind)⟩
  · exact absurd (hd.1 d) d'
  · exact absurd (hd.2 d') d
  · rw [fval_zero] at vx
    have z : (0 : Rat) = -0 := by grind
    exact ⟨order_same fv gx (by rw [vx, fval_zero]; exact z), order_same fw gy (by rw [vx, fval_zero]; exact z)⟩

def TameW (a b : Nat) : Prop := frung a ≤ 9110782046170513408 ∧ frung b ≤ 9110782046170513408
def SafeP (a b : Nat) : Prop := SafeW (frung a) ∧ SafeW (frung b)

theorem sum_pair (a b : Nat) (w : World) (ha : a < 18446744073709551616) (hb : b < 18446744073709551616) :
    Calls Tryd.prog 54 #[.float .f64 a, .float .f64 b] w fun e w' => (∃ x y, e = .returned (.tuple #[.float .f64 x, .float .f64 y]) ∧ Pair (TameW a b) (fval a + fval b) x y) ∧ Below w.heap.size w w' := by
  by_cases h : TameW a b
  · obtain ⟨x, fb, fa, lb, la, y, hs, fx, fy, lx, ly, hv, he⟩ := twoSum_words h.1 h.2
    refine (sum_yes a b x fb fa lb la y w ha hb h.1 h.2 hs).mono ?_
    rintro e w' ⟨rfl, hbel⟩
    exact ⟨⟨x, y, rfl, fx, fy, lx, ly, Or.inl ⟨h, hv, he⟩⟩, hbel⟩
  · refine (sum_no a b w ha hb h).mono ?_
    rintro e w' ⟨rfl, hbel⟩
    exact ⟨⟨0, 0, rfl, pair_zero h⟩, hbel⟩

theorem prod_pair (a b : Nat) (w : World) (ha : a < 18446744073709551616) (hb : b < 18446744073709551616) :
    Calls Tryd.prog 57 #[.float .f64 a, .float .f64 b] w fun e w' => (∃ x y, e = .returned (.tuple #[.float .f64 x, .float .f64 y]) ∧ Pair (SafeP a b) (fval a * fval b) x y) ∧ Below w.heap.size w w' := by
  by_cases h : SafeP a b
  · obtain ⟨x, a1, a2, b1, b2, p1, l1, q2, l2, p3, l3, p4, y, c, d, c', d', H1, H2, hs, fx, fy, lx, ly, hv, he⟩ := prod_words h.1 h.2
    refine (prod_yes a b x a1 a2 b1 b2 p1 l1 q2 l2 p3 l3 p4 y c d c' d' w ha hb h.1 h.2 H1 H2 hs).mono ?_
    rintro e w' ⟨rfl, hbel⟩
    exact ⟨⟨x, y, rfl, fx, fy, lx, ly, Or.inl ⟨h, hv, he⟩⟩, hbel⟩
  · refine (prod_no a b w ha hb h).mono ?_
    rintro e w' ⟨rfl, hbel⟩
    exact ⟨⟨0, 0, rfl, pair_zero h⟩, hbel⟩

theorem lim_sum {a b : Nat} (h : TameW a b) : Lim (fval a + fval b) ∧ Lim (fval a - fval b) := by
  have b1 := tame_bound h.1
  have b2 := tame_bound h.2
  have hc := p2_pos 1000
  have ht := lim_top
  refine ⟨⟨?_, ?_⟩, ⟨?_, ?_⟩⟩ <;> rw [ht] <;> grind

theorem lim_prod {a b : Nat} (h : SafeP a b) : Lim (fval a * fval b) := by
  have b1 := safe_bound h.1
  have b2 := safe_bound h.2
  have he := p2_pos 450
  have := abs_mul_lt (a := fval a) (b := 2 * p2 450) (c := fval b) (d := 2 * p2 450) (by grind) (by grind) (by grind) (by grind)
  have ht : 2 * p2 450 * (2 * p2 450) ≤ p2 1023 := by
    rw [show 2 * p2 450 * (2 * p2 450) = p2 (1 + 450 + (1 + 450)) by rw [p2_add, p2_add, p2_one]]; exact p2_mono (by omega)
  exact ⟨by grind, by grind⟩


end Go.Proofs.YtfcgndgmbmkdgaaDoor

/- The lowest bit of a float, as package expand tells it. -/
namespace Go.Proofs.YtfcgndgmbmkdgaaDoor
open Go.RowKit

theorem land_pred (t m : Nat) : (2 ^ t * (2 * m + 1)) &&& (2 ^ t * (2 * m + 1) - 1) = 2 ^ t * (2 * m) := by
  induction t with
  | zero =>
    rw [Nat.pow_zero, Nat.one_mul, Nat.one_mul, show 2 * m + 1 - 1 = 2 * m by omega]
    apply Nat.eq_of_testBit_eq
    intro i
    rw [Nat.testBit_and]
    cases i with
    | zero => simp [Nat.testBit_zero]
    | succ i => rw [Nat.testBit_succ, Nat.testBit_succ, show (2 * m + 1) / 2 = m by omega, show 2 * m / 2 = m by omega]; simp
  | succ t ih =>
    have hp : 0 < 2 ^ t * (2 * m + 1) := Nat.mul_pos (Nat.two_pow_pos t) (by omega)
    have e1 : 2 ^ (t + 1) * (2 * m + 1) = 2 * (2 ^ t * (2 * m + 1)) := by rw [Nat.pow_succ]; grind
    have e2 : 2 ^ (t + 1) * (2 * m) = 2 * (2 ^ t * (2 * m)) := by rw [Nat.pow_succ]; grind
    rw [e1, e2, ← ih]
    generalize 2 ^ t * (2 * m + 1) = a at *
    apply Nat.eq_of_testBit_eq
    intro i
    rw [Nat.testBit_and]
    cases i with
    | zero => simp [Nat.testBit_zero]
    | succ i => rw [Nat.testBit_succ, Nat.testBit_succ, Nat.testBit_succ, show 2 * a / 2 = a by omega, show (2 * a - 1) / 2 = a - 1 by omega, show 2 * (a &&& (a - 1)) / 2 = a &&& (a - 1) by omega, Nat.testBit_and]
theorem low_bit {n : Nat} (h : n ≠ 0) : ∃ t m, n = 2 ^ t * (2 * m + 1) := by
  induction n using Nat.strongRecOn with
  | ind n ih =>
    by_cases ho : n % 2 = 1
    · exact ⟨0, n / 2, by rw [Nat.pow_zero, Nat.one_mul]; omega⟩
    · obtain ⟨t, m, e⟩ := ih (n / 2) (by omega) (by omega)
      exact ⟨t + 1, m, by rw [Nat.pow_succ]; have : n = 2 * (n / 2) := by omega
                          rw [this, e]; grind⟩

/-- What lies in a word: its lowest bit among the bits of the fraction. -/
theorem frac_bit {b : Nat} (hf : b % 4503599627370496 ≠ 0) : ∃ t m, t < 52 ∧ b = 2 ^ t * (2 * m + 1) ∧ b % 4503599627370496 = 2 ^ t * ((2 * m + 1) % 2 ^ (52 - t)) ∧ 2 ^ t ≤ b % 4503599627370496 := by
  obtain ⟨t, m, e⟩ := low_bit (n := b) (by omega)
  have ht : t < 52 := by
    rcases Nat.lt_or_ge t 52 with h | h
    · exact h
    · exfalso
      obtain ⟨j, rfl⟩ : ∃ j, t = 52 + j := ⟨t - 52, by omega⟩
      rw [Nat.pow_add, show (2 : Nat) ^ 52 = 4503599627370496 from rfl, Nat.mul_assoc] at e
      rw [e, Nat.mul_mod_right] at hf
      exact hf rfl
  have e52 : 4503599627370496 = 2 ^ t * 2 ^ (52 - t) := by rw [← Nat.pow_add, show t + (52 - t) = 52 by omega]
  have em : b % 4503599627370496 = 2 ^ t * ((2 * m + 1) % 2 ^ (52 - t)) := by
    rw [e52, e, Nat.mul_mod_mul_left]
  refine ⟨t, m, ht, e, em, ?_⟩
  rw [em]
  have : (2 * m + 1) % 2 ^ (52 - t) ≠ 0 := by
    intro h0
    rw [em, h0] at hf
    exact hf (by simp)
  have := Nat.mul_le_mul_left (2 ^ t) (Nat.pos_of_ne_zero this)
  omega

theorem frung_cut {b t : Nat} (h : 2 ^ t ≤ b % 4503599627370496) : frung (b - 2 ^ t) = frung b - 2 ^ t ∧ fneg (b - 2 ^ t) = fneg b ∧ fpl (frung b - 2 ^ t) = fpl (frung b) ∧ fmag (frung b - 2 ^ t) = fmag (frung b) - 2 ^ t ∧ 2 ^ t ≤ fmag (frung b) := by
  generalize 2 ^ t = x at *
  unfold frung fneg fpl fmag
  refine ⟨by omega, ?_, ?_, ?_, ?_⟩
  · rw [show (b - x) / 9223372036854775808 = b / 9223372036854775808 by omega]
  · split <;> split <;> omega
  · split <;> split <;> omega
  · split <;> omega

/-- l is the lowest bit of the float b. -/
def LB (b l : Nat) : Prop := l < 9218868437227405312 ∧ ((frung b = 0 ∧ l = 0) ∨ (frung b ≠ 0 ∧ ∃ (L : Nat) (m : Int), fval l = U L ∧ fval b = (m : Rat) * U L ∧ m % 2 = 1))

theorem sgn_odd {b : Nat} {m : Nat} {L : Nat} (h : ((fmag (frung b) : Nat) : Rat) * p2 (fpl (frung b)) = ((2 * m + 1 : Nat) : Rat) * U L) : ∃ k : Int, fval b = (k : Rat) * U L ∧ k % 2 = 1 := by
  rw [fval_eq, h]
  unfold sgn1
  cases fneg b
  · exact ⟨(2 * m + 1 : Nat), by rw [if_neg (by decide)]; show 1 * (((2 * m + 1 : Nat) : Rat) * U L) = ((2 * m + 1 : Nat) : Rat) * U L; grind, by omega⟩
  · refine ⟨-((2 * m + 1 : Nat) : Int), ?_, by omega⟩
    rw [if_pos rfl, Rat.intCast_neg]
    show -1 * (((2 * m + 1 : Nat) : Rat) * U L) = -((2 * m + 1 : Nat) : Rat) * U L
    grind
theorem fpl_U (r : Nat) : ∃ P : Nat, p2 (fpl r) = U P := by
  refine ⟨(fpl r + 1074).toNat, ?_⟩
  unfold U
  rw [show (((fpl r + 1074).toNat : Nat) : Int) - 1074 = fpl r by unfold fpl; split <;> omega]

set_option maxHeartbeats 1000000 in
theorem lowest_pow (b : Nat) (w : World) (hb : b < 18446744073709551616) (h0 : b % 4503599627370496 = 0) : Calls Tryd.prog 61 #[.float .f64 b] w fun e w' => e = .returned (.float .f64 (frung b)) ∧ w' = w := by
  have r1 := run_bits b
  have h1 : bits .and .u64 (b : Int) 4503599627370495 = 0 := by
    rw [show (4503599627370495 : Int) = ((4503599627370495 : Nat) : Int) from rfl, u64_and_nat b _ hb (by omega), show (4503599627370495 : Nat) = 2 ^ 52 - 1 by decide, Nat.and_two_pow_sub_one_eq_mod, show (2 : Nat) ^ 52 = 4503599627370496 from rfl, h0]; rfl
  have HA : Hid (∀ w, Calls Tryd.prog 5 #[.float .f64 b] w fun e w' => e = .returned (.float .f64 (frung b)) ∧ w' = w) := fun w => abs_any b w hb
  clear h0 hb
  go_enter Tryd.func61, Tryd.ntmps61
  go_wp2_with fail
  refine (HA.out _).mono ?_
  rintro e w1 ⟨rfl, rfl⟩
  go_wp2
  go_ret
  exact ⟨rfl, rfl⟩
set_option maxHeartbeats 1000000 in
theorem lowest_frac (b c d : Nat) (w : World) (hb : b < 18446744073709551616) (h0 : b % 4503599627370496 ≠ 0) (hc : b &&& (b - 1) = c) (hd : floatBits .sub .f64 b c = some d) (hdl : d < 18446744073709551616) : Calls Tryd.prog 61 #[.float .f64 b] w fun e w' => e = .returned (.float .f64 (frung d)) ∧ w' = w := by
  have r1 := run_bits b
  have r2 := run_frombits c
  have h1 : (bits .and .u64 (b : Int) 4503599627370495 == 0) = false := by
    rw [show (4503599627370495 : Int) = ((4503599627370495 : Nat) : Int) from rfl, u64_and_nat b _ hb (by omega), show (4503599627370495 : Nat) = 2 ^ 52 - 1 by decide, Nat.and_two_pow_sub_one_eq_mod, show (2 : Nat) ^ 52 = 4503599627370496 from rfl]
    rw [beq_eq_false_iff_ne]; omega
  have hb1 : (1 : Int) ≤ (b : Int) := by omega
  have hbl : (b : Int) < 18446744073709551616 := by omega
  have h2 : bits .and .u64 (b : Int) ((b : Int) - 1) = (c : Int) := by
    rw [show (b : Int) - 1 = ((b - 1 : Nat) : Int) by omega, u64_and_nat b _ hb (by omega), hc]
  have rs : ∀ w, (binOp .sub 22 (.float .f64 b) (.float .f64 c)).run Tryd.prog w = .ok (.float .f64 d) w := fun w => run_float_arith w .sub _ .f64 _ _ _ hd
  have HA : Hid (∀ w, Calls Tryd.prog 5 #[.float .f64 d] w fun e w' => e = .returned (.float .f64 (frung d)) ∧ w' = w) := fun w => abs_any d w hdl
  clear h0 hb hc hd hdl
  go_enter Tryd.func61, Tryd.ntmps61
  go_wp2_with fail
  refine (HA.out _).mono ?_
  rintro e w1 ⟨rfl, rfl⟩
  go_wp2
  go_ret
  exact ⟨rfl, rfl⟩

theorem lowestE_any (b : Nat) (w : World) (hb : b < 18446744073709551616) (hf : Fin64 b) : Calls Tryd.prog 61 #[.float .f64 b] w fun e w' => (∃ l, e = .returned (.float .f64 l) ∧ LB b l) ∧ w' = w := by
  have hfr : frung b < 9218868437227405312 := hf
  by_cases h0 : b % 4503599627370496 = 0
  · refine (lowest_pow b w hb h0).mono ?_
    rintro e w' ⟨rfl, rfl⟩
    refine ⟨⟨_, rfl, hfr, ?_⟩, rfl⟩
    by_cases hz : frung b = 0
    · exact Or.inl ⟨hz, hz⟩
    · right
      refine ⟨hz, ?_⟩
      have hm : fmag (frung b) = 4503599627370496 := by unfold fmag; unfold frung at *; split <;> omega
      obtain ⟨P, hP⟩ := fpl_U (frung b)
      have e1 : ((fmag (frung b) : Nat) : Rat) * p2 (fpl (frung b)) = U (P + 52) := by rw [hP, hm, U_52]; rfl
      have hv : fval (frung b) = U (P + 52) := by rw [(fval_pos_lt hfr).1]; exact e1
      obtain ⟨k, hk1, hk2⟩ := sgn_odd (b := b) (m := 0) (L := P + 52) (by rw [e1, show ((2 * 0 + 1 : Nat) : Rat) = 1 from rfl]; grind)
      exact ⟨P + 52, k, hv, hk1, hk2⟩
  · obtain ⟨t, m, ht, e1, e2, e3⟩ := frac_bit h0
    have hc : b &&& (b - 1) = b - 2 ^ t := by
      conv => lhs; rw [e1]
      rw [land_pred, e1]
      have : 2 ^ t * (2 * m + 1) = 2 ^ t * (2 * m) + 2 ^ t := by grind
      omega
    obtain ⟨c1, c2, c3, c4, c5⟩ := frung_cut e3
    obtain ⟨P, hP⟩ := fpl_U (frung b)
    have hle : 2 ^ t ≤ frung b := by unfold frung; omega
    have fc : Fin64 (b - 2 ^ t) := by unfold Fin64; rw [c1]; exact Nat.lt_of_le_of_lt (Nat.sub_le _ _) hfr
    have hd : fval b - fval (b - 2 ^ t) = sgn1 (fneg b) * U (P + t) := by
      have e5 : ((fmag (frung b) : Nat) : Rat) = ((fmag (frung b) - 2 ^ t : Nat) : Rat) + ((2 ^ t : Nat) : Rat) := by rw [← Rat.natCast_add, Nat.sub_add_cancel c5]
      rw [fval_eq b, fval_eq (b - 2 ^ t), c1, c2, c3, c4, hP, U_add, e5]
      grind
    have hF : F (fval b - fval (b - 2 ^ t)) := by
      rw [hd]
      unfold sgn1
      cases fneg b
      · exact ⟨P + t, 1, by rw [if_neg (by decide), one_rat], by omega, by omega⟩
      · exact ⟨P + t, -1, by rw [if_pos rfl]; rfl, by omega, by omega⟩
    have hlim : Lim (fval b - fval (b - 2 ^ t)) := by
      rw [hd]
      have hPb : P + t ≤ 2096 := by
        have h1 : p2 (fpl (frung b)) = U P := hP
        unfold U at h1
        have h2 : fpl (frung b) = (P : Int) - 1074 := by
          have a := (p2_le_iff (a := fpl (frung b)) (b := (P : Int) - 1074)).1 (by rw [h1]; exact Rat.le_refl)
          have b := (p2_le_iff (b := fpl (frung b)) (a := (P : Int) - 1074)).1 (by rw [h1]; exact Rat.le_refl)
          omega
        unfold fpl at h2
        split at h2 <;> omega
      have h1 : U (P + t) < p2 1023 := by unfold U; exact p2_lt (by omega)
      have h2 := U_pos (P + t)
      unfold sgn1
      cases fneg b
      · rw [if_neg (by decide)]; exact ⟨by grind, by grind⟩
      · rw [if_pos rfl]; exact ⟨by grind, by grind⟩
    obtain ⟨d, d1, d2, d3, d4⟩ := sub_bits hf fc hlim
    have dv : fval d = sgn1 (fneg b) * U (P + t) := by rw [← hd]; exact d4.rn.exact hF
    refine (lowest_frac b (b - 2 ^ t) d w hb h0 hc d1 d3).mono ?_
    rintro e w' ⟨rfl, rfl⟩
    refine ⟨⟨_, rfl, d2, Or.inr ⟨by unfold frung; omega, ?_⟩⟩, rfl⟩
    have hv : fval (frung d) = U (P + t) := by
      have h1 := fval_nonneg (r := frung d) d2
      have h2 := U_pos (P + t)
      have hs : sgn1 (fneg b) = 1 ∨ sgn1 (fneg b) = -1 := by unfold sgn1; split <;> simp
      rcases fval_abs d with e | e <;> rcases hs with hs | hs <;> rw [hs] at dv <;> grind
    have hodd : ∃ j, fmag (frung b) = 2 ^ t * (2 * j + 1) := by
      have hfm : fmag (frung b) = b % 4503599627370496 ∨ fmag (frung b) = 4503599627370496 + b % 4503599627370496 := by
        unfold fmag frung; split <;> omega
      have e52 : 4503599627370496 = 2 ^ t * (2 * 2 ^ (51 - t)) := by rw [← Nat.pow_succ', ← Nat.pow_add, show t + (51 - t).succ = 52 by omega]
      have hmod : ∃ j, (2 * m + 1) % 2 ^ (52 - t) = 2 * j + 1 := by
        refine ⟨(2 * m + 1) % 2 ^ (52 - t) / 2, ?_⟩
        have : (2 * m + 1) % 2 ^ (52 - t) % 2 = 1 := by
          rw [Nat.mod_mod_of_dvd _ (by rw [show 52 - t = (51 - t) + 1 by omega, Nat.pow_succ]; exact Nat.dvd_mul_left _ _)]; omega
        omega
      obtain ⟨j, hj⟩ := hmod
      rcases hfm with h | h
      · exact ⟨j, by rw [h, e2, hj]⟩
      · exact ⟨2 ^ (51 - t) + j, by rw [h, e2, hj, e52]; grind⟩
    obtain ⟨j, hj⟩ := hodd
    obtain ⟨k, hk1, hk2⟩ := sgn_odd (b := b) (m := j) (L := P + t) (by rw [hj, hP, U_add, Rat.natCast_mul]; grind)
    exact ⟨P + t, k, hv, hk1, hk2⟩

end Go.Proofs.YtfcgndgmbmkdgaaDoor

/- How many bits a float has; that two numbers are the same. -/
namespace Go.Proofs.YtfcgndgmbmkdgaaDoor
open Go.RowKit
attribute [local go_sem ↓] Go.wp_at_zero Go.wp_at_succ

theorem run_store_float (P : Program) (w : World) (a : Addr) (m : Mode) (k : FloatKind) (b : Nat) : (store a (.float k b) m).run P w = stored P w a (.float k b) m := run_store P w a _ m rfl
theorem keepN3 {w W W' : World} {p1 p2 p3 : Addr} {x1 x2 x3 : Value} (h : W.cell? p1 = some x1 ∧ W.cell? p2 = some x2 ∧ W.cell? p3 = some x3 ∧ Below w.heap.size w W) (hb : Below W.heap.size W W') : W'.cell? p1 = some x1 ∧ W'.cell? p2 = some x2 ∧ W'.cell? p3 = some x3 ∧ Below w.heap.size w W' :=
  ⟨box_cell hb h.1, box_cell hb h.2.1, box_cell hb h.2.2.1, h.2.2.2.trans (hb.mono h.2.2.2.size)⟩
theorem keepN2 {w W W' : World} {p1 p2 : Addr} {x1 x2 : Value} (h : W.cell? p1 = some x1 ∧ W.cell? p2 = some x2 ∧ Below w.heap.size w W) (hb : Below W.heap.size W W') : W'.cell? p1 = some x1 ∧ W'.cell? p2 = some x2 ∧ Below w.heap.size w W' :=
  ⟨box_cell hb h.1, box_cell hb h.2.1, h.2.2.trans (hb.mono h.2.2.size)⟩
theorem den_fin {b : Nat} (h : Fin64 b) : den b = fval b := by unfold den; exact if_pos h
theorem den_Fit (b : Nat) : Fit (den b) := (den_fit b).mono (by omega) (by omega)
theorem Rf.agg {w : World} {v : Value} {q : Rat} (h : Rf w v q) : ∃ S a n c E, v = .agg #[.int .i64 S, .slice a n c, .int .i64 E] := by
  obtain ⟨S, a, n, c, E, h, _⟩ := h.sgn
  exact ⟨S, a, n, c, E, h⟩

theorem low_ge {q : Rat} {l m n s : Int} (hl : q = (m : Rat) * p2 l) (ho : m % 2 = 1) (hq : q = (n : Rat) * p2 s) : s ≤ l := by
  rcases Int.lt_or_le l s with hlt | hle
  · exfalso
    obtain ⟨j, rfl⟩ : ∃ j : Nat, s = l + 1 + (j : Int) := ⟨(s - l - 1).toNat, by omega⟩
    have e : (m : Rat) * p2 l = ((n * ((2 ^ j : Nat) : Int) * 2 : Int) : Rat) * p2 l := by
      rw [← hl, hq, show l + 1 + (j : Int) = (j : Int) + (1 + l) by omega, p2_add, p2_add, p2_one, p2_nat, Rat.intCast_mul, Rat.intCast_mul]
      show _ = (n : Rat) * ((2 ^ j : Nat) : Rat) * 2 * p2 l
      grind
    have := int_eq (p2_pos l) e
    omega
  · exact hle
/-- At most 26 bits. -/
theorem few_bits {q : Rat} {l h m n : Int} {s : Int} (hl : q = (m : Rat) * p2 l) (ho : m % 2 = 1) (hh : (p2 h ≤ q ∧ q < p2 (h + 1)) ∨ (p2 h ≤ -q ∧ -q < p2 (h + 1))) (hq : q = (n : Rat) * p2 s) (n1 : -67108864 ≤ n) (n2 : n ≤ 67108864) : h - l + 1 ≤ 26 := by
  have hls : s ≤ l := low_ge hl ho hq
  have hp := p2_pos s
  have e26 : p2 (s + 26) = 67108864 * p2 s := by rw [show s + 26 = ((26 : Nat) : Int) + s by omega, p2_add, p2_nat]; rfl
  have a1 := Rat.mul_le_mul_of_nonneg_right (Rat.intCast_le_intCast.2 n2) (Rat.le_of_lt hp)
  have a2 := Rat.mul_le_mul_of_nonneg_right (Rat.intCast_le_intCast.2 n1) (Rat.le_of_lt hp)
  rw [show ((67108864 : Int) : Rat) = 67108864 from rfl, ← hq] at a1
  rw [show ((-67108864 : Int) : Rat) = -67108864 from rfl, ← hq] at a2
  have hle : p2 h ≤ p2 (s + 26) := by rw [e26]; rcases hh with hh | hh <;> grind
  have hle := p2_le_iff.1 hle
  rcases Int.lt_or_le h (s + 26) with h1 | h1
  · omega
  · have : h = s + 26 := by omega
    subst this
    have hqq : q = p2 (s + 26) ∨ q = -p2 (s + 26) := by rw [e26] at hh ⊢; rcases hh with hh | hh <;> grind
    have hl2 : s + 26 ≤ l := by
      rcases Int.lt_or_le l (s + 26) with hlt | hle
      · exfalso
        obtain ⟨j, hj⟩ : ∃ j : Nat, s + 26 = l + 1 + (j : Int) := ⟨(s + 26 - l - 1).toNat, by omega⟩
        have e0 : p2 (s + 26) = ((((2 ^ j : Nat) : Int) * 2 : Int) : Rat) * p2 l := by
          rw [hj, show l + 1 + (j : Int) = (j : Int) + (1 + l) by omega, p2_add, p2_add, p2_one, p2_nat, Rat.intCast_mul]
          show _ = ((2 ^ j : Nat) : Rat) * 2 * p2 l
          grind
        rcases hqq with e | e
        · rw [hl, e0] at e
          have := int_eq (p2_pos l) e
          omega
        · have e : (m : Rat) * p2 l = ((-(((2 ^ j : Nat) : Int) * 2) : Int) : Rat) * p2 l := by rw [← hl, e, e0, Rat.intCast_neg]; grind
          have := int_eq (p2_pos l) e
          omega
      · exact hle
    omega

end Go.Proofs.YtfcgndgmbmkdgaaDoor

/- A number and the floats about the one nearest to it: plain facts. Nextafter. -/
namespace Go.Proofs.YtfcgndgmbmkdgaaDoor
open Go.RowKit

theorem near_between {q : Rat} {r : Nat} (h : Near q r) (hq : 0 < q) (hr : r + 1 < 9218868437227405312) :
    2 * q ≤ fval r + fval (r + 1) ∧ (2 * q = fval r + fval (r + 1) → r % 2 = 0) ∧ (r ≠ 0 → fval r + fval (r - 1) ≤ 2 * q ∧ (2 * q = fval r + fval (r - 1) → r % 2 = 0)) := by
  rcases h with ⟨rfl, _⟩ | ⟨_, T, k, hl, hh, e⟩
  · exact absurd hq (by grind)
  · have hb := kept_bounds hl hh
    have e' : r = T * 4503599627370496 + k := by omega
    have hv := fval_rung T k hb.1 hb.2 (by omega)
    have hU := half_unit T
    have hu := p2_pos ((T : Int) - 1075)
    obtain ⟨l1, l2⟩ := hl
    obtain ⟨s1, s2, s3, s4⟩ := hh
    rw [show ((9007199254740992 : Int) : Rat) = 9007199254740992 from rfl] at l1
    have e1 : ((2 * (k : Int) - 1 : Int) : Rat) = 2 * ((k : Nat) : Rat) - 1 := by rw [Rat.intCast_sub, Rat.intCast_mul]; rfl
    have e2 : ((2 * (k : Int) + 1 : Int) : Rat) = 2 * ((k : Nat) : Rat) + 1 := by rw [Rat.intCast_add, Rat.intCast_mul]; rfl
    rw [e1] at s1 s3
    rw [e2] at s2 s4
    rw [e']
    have hpar : (T * 4503599627370496 + k) % 2 = k % 2 := by omega
    rw [hpar, hv]
    refine ⟨?_, ?_, ?_⟩
    · by_cases hk : k < 9007199254740992
      · have hv1 := fval_rung T (k + 1) (by omega) (by omega) (by omega)
        rw [show T * 4503599627370496 + k + 1 = T * 4503599627370496 + (k + 1) by omega, hv1, hU, Rat.natCast_add]
        rw [show ((1 : Nat) : Rat) = 1 from rfl]
        grind
      · have hv1 := fval_rung (T + 1) 4503599627370497 (by omega) (by omega) (by omega)
        rw [show T * 4503599627370496 + k + 1 = (T + 1) * 4503599627370496 + 4503599627370497 by omega, hv1, U_succ, hU]
        obtain rfl : k = 9007199254740992 := by omega
        rw [show ((9007199254740992 : Nat) : Rat) = 9007199254740992 from rfl] at *
        rw [show ((4503599627370497 : Nat) : Rat) = 4503599627370497 from rfl]
        grind
    · intro he
      by_cases hk : k < 9007199254740992
      · have hv1 := fval_rung T (k + 1) (by omega) (by omega) (by omega)
        rw [show T * 4503599627370496 + k + 1 = T * 4503599627370496 + (k + 1) by omega, hv1, hU, Rat.natCast_add] at he
        rw [show ((1 : Nat) : Rat) = 1 from rfl] at he
        exact s4 (by grind)
      · exfalso
        have hv1 := fval_rung (T + 1) 4503599627370497 (by omega) (by omega) (by omega)
        rw [show T * 4503599627370496 + k + 1 = (T + 1) * 4503599627370496 + 4503599627370497 by omega, hv1, U_succ, hU] at he
        obtain rfl : k = 9007199254740992 := by omega
        rw [show ((9007199254740992 : Nat) : Rat) = 9007199254740992 from rfl] at *
        rw [show ((4503599627370497 : Nat) : Rat) = 4503599627370497 from rfl] at he
        grind
    · intro h0
      by_cases hk : T = 0 ∨ 4503599627370497 ≤ k
      · have hk1 : 1 ≤ k := by rcases hk with rfl | hk <;> omega
        obtain ⟨j, rfl⟩ : ∃ j, k = j + 1 := ⟨k - 1, by omega⟩
        have hv1 := fval_rung T j (by omega) (by omega) (by omega)
        rw [show T * 4503599627370496 + (j + 1) - 1 = T * 4503599627370496 + j by omega, hv1, hU]
        rw [Rat.natCast_add, show ((1 : Nat) : Rat) = 1 from rfl] at *
        exact ⟨by grind, fun he => s3 (by grind)⟩
      · obtain ⟨S, rfl⟩ : ∃ S, T = S + 1 := ⟨T - 1, by omega⟩
        obtain rfl : k = 4503599627370496 := by omega
        have hv1 := fval_rung S 9007199254740991 (by omega) (by omega) (by omega)
        rw [show (S + 1) * 4503599627370496 + 4503599627370496 - 1 = S * 4503599627370496 + 9007199254740991 by omega, hv1]
        have hUS : U S = p2 (((S + 1 : Nat) : Int) - 1075) := by unfold U; congr 1; omega
        rw [hU, hUS]
        rw [show ((9007199254740991 : Nat) : Rat) = 9007199254740991 from rfl, show ((4503599627370496 : Nat) : Rat) = 4503599627370496 from rfl]
        rcases l1 with l1 | l1
        · omega
        · exact ⟨by grind, fun he => by grind⟩

theorem isNaN_fin {b : Nat} (h : Fin64 b) (w : World) : Calls Tryd.prog 23 #[.float .f64 b] w fun e w' => e = .returned (.bool false) ∧ w' = w := by
  have := isNaN_any b w
  rwa [show isnan b = false by unfold isnan; exact decide_eq_false (by unfold Fin64 at h; omega)] at this
theorem finMax : Fin64 9218868437227405311 := by unfold Fin64 frung; decide

theorem next_lt {r : Nat} (h : r < 9218868437227405311) : fval r < fval 9218868437227405311 := fval_lt h (by omega)
theorem pos_fval {r : Nat} (h : r < 9218868437227405312) (h0 : r ≠ 0) : 0 < fval r := by
  have := fval_lt (r := 0) (s := r) (by omega) h
  rwa [fval0] at this
theorem fin_small {r : Nat} (h : r < 9218868437227405312) : Fin64 r := by unfold Fin64 frung; omega

set_option maxHeartbeats 1000000 in
theorem copysign_pos (a b : Nat) (w : World) (h1 : bits .andNot .u64 (a : Int) 9223372036854775808 = (a : Int)) (h2 : bits .and .u64 (b : Int) 9223372036854775808 = 0) (h3 : bits .or .u64 (a : Int) 0 = (a : Int)) : Calls Tryd.prog 68 #[.float .f64 a, .float .f64 b] w fun e w' => e = .returned (.float .f64 a) ∧ w' = w := by
  have r1 := run_bits a
  have r2 := run_bits b
  have r3 := run_frombits a
  go_enter Tryd.func68, Tryd.ntmps68
  go_wp2
  go_ret
  exact ⟨rfl, rfl⟩

end Go.Proofs.YtfcgndgmbmkdgaaDoor

/- Which lists of floats may be, as package expand tells it. -/
namespace Go.Proofs.YtfcgndgmbmkdgaaDoor
open Go.RowKit

/-- A slice of floats: their words. -/
structure Fs (w : World) (s : Value) (bs : List Nat) : Prop where
  form : ∃ a c, s = .slice a bs.length c ∧ bs.length ≤ c ∧ c ≤ 9223372036854775807 ∧ (bs = [] ∨ ∃ g off, a = some ⟨g, off, none⟩ ∧ ∀ k, k < bs.length → w.cell? ⟨g, off + k, none⟩ = some (.float .f64 (bs.getD k 0)))
  word : ∀ b ∈ bs, b < 18446744073709551616
theorem Fs.later {w w' : World} {s : Value} {bs : List Nat} (h : Fs w s bs) (hb : Below w.heap.size w w') : Fs w' s bs := by
  obtain ⟨⟨a, c, hs, hc, hm, hf⟩, h2⟩ := h
  refine ⟨⟨a, c, hs, hc, hm, ?_⟩, h2⟩
  rcases hf with hf | ⟨g, off, ha, hf⟩
  · exact Or.inl hf
  · exact Or.inr ⟨g, off, ha, fun k hk => box_cell hb (hf k hk)⟩

/-- The float at i may stand there. -/
def MayAt (lo hi : Nat) (bs : List Nat) (i : Nat) : Prop := lo ≤ frung (bs.getD i 0) ∧ frung (bs.getD i 0) ≤ hi ∧ frung (bs.getD i 0) ≠ 0 ∧ (0 < i → Lo (fval (bs.getD (i - 1) 0)) (fval (bs.getD i 0)))
/-- The list may be, with magnitudes from lo to hi. -/
def MayP (lo hi : Nat) (bs : List Nat) : Prop := bs.length ≤ 64 ∧ ∀ i, i < bs.length → MayAt lo hi bs i

theorem getD_word {bs : List Nat} (h : ∀ b ∈ bs, b < 18446744073709551616) (i : Nat) : bs.getD i 0 < 18446744073709551616 := by
  by_cases hi : i < bs.length
  · rw [show bs.getD i 0 = bs[i] by simp [List.getD, hi]]; exact h _ (List.getElem_mem hi)
  · simp [List.getD, List.getElem?_eq_none (Nat.le_of_not_lt hi)]
theorem ab_fval (b : Nat) (h : Fin64 b) : fval (frung b) = ab (fval b) := by
  have h1 := fval_nonneg (r := frung b) h
  unfold ab
  rcases fval_abs b with e | e <;> rw [e] <;> split <;> grind

/-- What is held against the lowest bit. -/
theorem lo_test {p x l : Nat} (hp : Fin64 p) (hl : LB x l) : FloatKind.f64.format.order (frung p) l == some .lt ↔ frung x ≠ 0 ∧ Lo (fval p) (fval x) := by
  have fp : Fin64 (frung p) := fin_small hp
  have fl : Fin64 l := fin_small hl.1
  rw [order_val fp fl, ab_fval p hp]
  have h0 := ab_nonneg (fval p)
  rcases hl.2 with ⟨z, rfl⟩ | ⟨z, L, m, h1, h2, h3⟩
  · rw [fval0, if_neg (by grind)]
    constructor
    · intro h
      split at h <;> cases h
    · intro h; exact absurd z h.1
  · rw [h1]
    by_cases h : ab (fval p) < U L
    · rw [if_pos h]
      exact ⟨fun _ => ⟨z, L, h, m, h2⟩, fun _ => rfl⟩
    · rw [if_neg h]
      constructor
      · intro h
        split at h <;> cases h
      · rintro ⟨_, t, a, n, b⟩
        exfalso
        have ht : t ≤ L := by
          rcases Nat.lt_or_ge L t with hlt | hge
          · exfalso
            obtain ⟨j, rfl⟩ : ∃ j, t = L + 1 + j := ⟨t - L - 1, by omega⟩
            have e : (m : Rat) * U L = ((n * ((2 ^ j : Nat) : Int) * 2 : Int) : Rat) * U L := by
              rw [← h2, b, show L + 1 + j = (L + 1) + j by omega, U_add, U_succ, Rat.intCast_mul, Rat.intCast_mul]
              show _ = (n : Rat) * ((2 ^ j : Nat) : Rat) * 2 * U L
              grind
            have := int_eq (U_pos L) e
            omega
          · exact hge
        have := U_mono ht
        grind

set_option maxRecDepth 100000 in
set_option maxHeartbeats 4000000 in
theorem mayBe_walk (g off c lo hi : Nat) (bs : List Nat) (w : World) (hc : ∀ k, k < bs.length → w.cell? ⟨g, off + k, none⟩ = some (.float .f64 (bs.getD k 0))) (hw : ∀ b ∈ bs, b < 18446744073709551616) (hl : bs.length ≤ 64) (h1 : lo < 9218868437227405312) (h2 : hi < 9218868437227405312) :
    Calls Tryd.prog 35 #[.slice (some ⟨g, off, none⟩) bs.length c, .float .f64 lo, .float .f64 hi] w fun e w' => (∃ t, e = .returned (.bool t) ∧ (t = true ↔ MayP lo hi bs)) ∧ w' = w := by
  have HC : Hid (∀ k, k < bs.length → w.cell? ⟨g, off + k, none⟩ = some (.float .f64 (bs.getD k 0))) := hc
  have HW : Hid (∀ b ∈ bs, b < 18446744073709551616) := hw
  have l1 : (bs.length : Int) ≤ 64 := by omega
  have HL : Hid (lo < 9218868437227405312 ∧ hi < 9218868437227405312) := ⟨h1, h2⟩
  clear hc hw h1 h2
  go_enter Tryd.func35, Tryd.ntmps35
  go_wp2
  go_loop [7, 16] (fun b i => ∃ (k : Nat) (p : Nat), i = .int .i64 (k : Nat) ∧ b = .float .f64 (frung p) ∧ k ≤ bs.length ∧ Hid ((∀ i, i < k → MayAt lo hi bs i) ∧ p = (if k = 0 then 0 else bs.getD (k - 1) 0))) (fun _ i => bs.length - (intOf i).toNat)
  case atStart => exact ⟨0, 0, rfl, rfl, by omega, fun i hi => by omega, rfl⟩
  case round =>
    obtain ⟨k, p, rfl, rfl, hk, hok⟩ := hrel
    by_cases hlt : k < bs.length
    · have hlt' : (k : Int) < (bs.length : Int) := by omega
      have hk0 : (0 : Int) ≤ (k : Int) := by omega
      have hck := HC.out k hlt
      obtain ⟨x, hx⟩ : ∃ x : Nat, Hid (bs.getD k 0 = x) := ⟨_, rfl⟩
      rw [hx.out] at hck
      have hxw : x < 18446744073709551616 := by rw [← hx.out]; exact getD_word HW.out k
      have hfr : frung x < 9223372036854775808 := Nat.mod_lt _ (by omega)
      have HA : Hid (∀ w, Calls Tryd.prog 5 #[.float .f64 x] w fun e w' => e = .returned (.float .f64 (frung x)) ∧ w' = w) := fun w => abs_any x w hxw
      have q1 := const_leq (r := frung x) (c := lo) hfr HL.out.1
      have q2 := leq_word (r := frung x) (c := hi) hfr HL.out.2
      have HXW : Hid (x < 18446744073709551616) := hxw
      have hno : ¬ MayAt lo hi bs k → ¬ MayP lo hi bs := fun h1 h2 => h1 (h2.2 k hlt)
      have HNO : Hid (¬ MayAt lo hi bs k → ¬ MayP lo hi bs) := hno
      clear hxw hfr hno
      by_cases c1 : lo ≤ frung x ∧ frung x ≤ 9218868437227405312
      · rw [decide_eq_true c1] at q1
        by_cases c2 : frung x ≤ hi
        · rw [decide_eq_true c2] at q2
          have fx : Fin64 x := by unfold Fin64; have := HL.out; omega
          have HB : Hid (∀ w, Calls Tryd.prog 61 #[.float .f64 x] w fun e w' => (∃ l, e = .returned (.float .f64 l) ∧ LB x l) ∧ w' = w) := fun w => lowestE_any x w HXW.out fx
          have HFX : Hid (Fin64 x ∧ lo ≤ frung x ∧ frung x ≤ hi) := ⟨fx, c1.1, c2⟩
          have fp : Fin64 p := by
            rw [hok.out.2]
            split
            · exact fin0
            · have := (hok.out.1 (k - 1) (by omega)).2.1
              unfold Fin64; have := HL.out; omega
          have HFP : Hid (Fin64 p) := fp
          clear c1 c2 fx fp
          go_wp2_with fail
          refine (HA.out _).mono ?_
          rintro e w1 ⟨rfl, rfl⟩
          go_wp2_with fail
          refine (HB.out _).mono ?_
          rintro e w1 ⟨⟨l, rfl, hlb⟩, rfl⟩
          have htest := lo_test HFP.out hlb
          have HT : Hid (FloatKind.f64.format.order (frung p) l == some .lt ↔ frung x ≠ 0 ∧ Lo (fval p) (fval x)) := htest
          have HLB : Hid (LB x l) := hlb
          clear hlb htest
          by_cases c3 : (FloatKind.f64.format.order (frung p) l == some .lt) = true
          · have HM : Hid (MayAt lo hi bs k) := by
              have h3 := HT.out.1 c3
              refine ⟨by rw [hx.out]; exact HFX.out.2.1, by rw [hx.out]; exact HFX.out.2.2, by rw [hx.out]; exact h3.1, fun hp => ?_⟩
              have := hok.out.2
              rw [if_neg (by omega)] at this
              rw [← this, hx.out]; exact h3.2
            go_wp2
            go_round
            case rel => exact ⟨k + 1, x, by go_num, rfl, by omega, fun i hi => by
              by_cases e : i = k
              · rw [e]; exact HM.out
              · exact hok.out.1 i (by omega), by rw [if_neg (by omega), show k + 1 - 1 = k by omega]; exact hx.out.symm⟩
            case measure => simp [intOf]; omega
          · have HM : Hid (¬ MayAt lo hi bs k) := by
              intro h
              refine c3 (HT.out.2 ⟨by rw [← hx.out]; exact h.2.2.1, ?_⟩)
              rw [hok.out.2]
              by_cases hk0 : k = 0
              · rw [if_pos hk0, fval0]
                have hz := h.2.2.1
                rw [hx.out] at hz
                rcases HLB.out.2 with ⟨z, _⟩ | ⟨z, L, m, _, h2, _⟩
                · exact absurd z hz
                · exact ⟨L, by show ab 0 < U L; rw [show ab 0 = 0 by unfold ab; grind]; exact U_pos L, m, h2⟩
              · rw [if_neg hk0, ← hx.out]
                exact h.2.2.2 (by omega)
            have c3' : (FloatKind.f64.format.order (frung p) l == some .lt) = false := by simpa using c3
            clear c3
            go_wp2
            go_ret
            exact ⟨⟨false, rfl, by simp; exact HNO.out HM.out⟩, rfl⟩
        · rw [decide_eq_false c2] at q2
          have HM : Hid (¬ MayAt lo hi bs k) := fun h => c2 (by rw [← hx.out]; exact h.2.1)
          clear c1 c2
          go_wp2_with fail
          refine (HA.out _).mono ?_
          rintro e w1 ⟨rfl, rfl⟩
          go_wp2
          go_ret
          exact ⟨⟨false, rfl, by simp; exact HNO.out HM.out⟩, rfl⟩
      · rw [decide_eq_false c1] at q1
        have HM : Hid (¬ MayAt lo hi bs k) := fun h => c1 ⟨by rw [← hx.out]; exact h.1, by have := h.2.1; rw [hx.out] at this; have := HL.out; omega⟩
        clear c1 q2
        go_wp2_with fail
        refine (HA.out _).mono ?_
        rintro e w1 ⟨rfl, rfl⟩
        go_wp2
        go_ret
        exact ⟨⟨false, rfl, by simp; exact HNO.out HM.out⟩, rfl⟩
    · obtain rfl : k = bs.length := by omega
      have hltb : decide ((bs.length : Int) < (bs.length : Int)) = false := decide_eq_false (by omega)
      go_wp2
      go_ret
      exact ⟨Or.inr ⟨rfl, hl, hok.out.1⟩, rfl⟩

set_option maxRecDepth 100000 in
set_option maxHeartbeats 1000000 in
theorem mayBe_none (a : Option Addr) (c lo hi : Nat) (w : World) :
    Calls Tryd.prog 35 #[.slice a 0 c, .float .f64 lo, .float .f64 hi] w fun e w' => e = .returned (.bool true) ∧ w' = w := by
  go_enter Tryd.func35, Tryd.ntmps35
  go_wp2
  go_loop [7, 16] (fun b i => ∃ p, i = .int .i64 0 ∧ b = .float .f64 p) (fun _ i => 0)
  case atStart => exact ⟨0, rfl, rfl⟩
  case round =>
    obtain ⟨p, rfl, rfl⟩ := hrel
    go_wp2
    go_ret
    exact ⟨rfl, rfl⟩
set_option maxRecDepth 100000 in
set_option maxHeartbeats 1000000 in
theorem mayBe_long (a : Option Addr) (n c lo hi : Nat) (w : World) (h : 64 < n) :
    Calls Tryd.prog 35 #[.slice a n c, .float .f64 lo, .float .f64 hi] w fun e w' => e = .returned (.bool false) ∧ w' = w := by
  have h' : decide (64 < (n : Int)) = true := decide_eq_true (by omega)
  clear h
  go_enter Tryd.func35, Tryd.ntmps35
  go_wp2
  go_ret
  exact ⟨rfl, rfl⟩

set_option maxRecDepth 100000 in
/-- Which lists may be is what the program tells. -/
theorem mayBe_any (lo hi : Nat) (s : Value) (bs : List Nat) (w : World) (h : Fs w s bs) (h1 : lo < 9218868437227405312) (h2 : hi < 9218868437227405312) :
    Calls Tryd.prog 35 #[s, .float .f64 lo, .float .f64 hi] w fun e w' => (∃ t, e = .returned (.bool t) ∧ (t = true ↔ MayP lo hi bs)) ∧ w' = w := by
  obtain ⟨⟨a, c, rfl, hc, hm, hf⟩, hw⟩ := h
  by_cases hl : bs.length ≤ 64
  · rcases hf with rfl | ⟨g, off, rfl, hf⟩
    · exact (mayBe_none a c lo hi w).mono fun e w' q => ⟨⟨true, q.1, fun _ => ⟨by simp, fun i hi => by simp at hi⟩, fun _ => rfl⟩, q.2⟩
    · exact mayBe_walk g off c lo hi bs w hf hw hl h1 h2
  · exact (mayBe_long a bs.length c lo hi w (by omega)).mono fun e w' q => ⟨⟨false, q.1, ⟨fun h => Bool.noConfusion h, fun h => absurd h.1 hl⟩⟩, q.2⟩

end Go.Proofs.YtfcgndgmbmkdgaaDoor

/- Package expand: whether a list may be, its last float, its sign, a list that grows. -/
namespace Go.Proofs.YtfcgndgmbmkdgaaDoor
open Go.RowKit

set_option maxRecDepth 100000 in
theorem check_any (s : Value) (bs : List Nat) (w : World) (h : Fs w s bs) :
    Calls Tryd.prog 13 #[s] w fun e w' => (∃ t, e = .returned (.bool t) ∧ (t = true ↔ MayP 0 9065746049896808448 bs)) ∧ w' = w := by
  have HA : Hid (∀ w, Fs w s bs → Calls Tryd.prog 35 #[s, .float .f64 0, .float .f64 9065746049896808448] w fun e w' => (∃ t, e = .returned (.bool t) ∧ (t = true ↔ MayP 0 9065746049896808448 bs)) ∧ w' = w) := fun w h => mayBe_any _ _ s bs w h (by omega) (by omega)
  have HF : Hid (Fs w s bs) := h
  clear h
  go_enter Tryd.func13, Tryd.ntmps13
  go_wp2_with fail
  refine (HA.out _ HF.out).mono ?_
  rintro e w1 ⟨⟨t, rfl, ht⟩, rfl⟩
  have HT : Hid (t = true ↔ MayP 0 9065746049896808448 bs) := ht
  clear ht
  go_wp2_with fail
  go_ret
  exact ⟨⟨t, rfl, HT.out⟩, rfl⟩
set_option maxRecDepth 100000 in
theorem safeE_any (s : Value) (bs : List Nat) (w : World) (h : Fs w s bs) :
    Calls Tryd.prog 29 #[s] w fun e w' => (∃ t, e = .returned (.bool t) ∧ (t = true ↔ MayP 2580562586483294208 6633802251116740608 bs)) ∧ w' = w := by
  have HA : Hid (∀ w, Fs w s bs → Calls Tryd.prog 35 #[s, .float .f64 2580562586483294208, .float .f64 6633802251116740608] w fun e w' => (∃ t, e = .returned (.bool t) ∧ (t = true ↔ MayP 2580562586483294208 6633802251116740608 bs)) ∧ w' = w) := fun w h => mayBe_any _ _ s bs w h (by omega) (by omega)
  have HF : Hid (Fs w s bs) := h
  clear h
  go_enter Tryd.func29, Tryd.ntmps29
  go_wp2_with fail
  refine (HA.out _ HF.out).mono ?_
  rintro e w1 ⟨⟨t, rfl, ht⟩, rfl⟩
  have HT : Hid (t = true ↔ MayP 2580562586483294208 6633802251116740608 bs) := ht
  clear ht
  go_wp2_with fail
  go_ret
  exact ⟨⟨t, rfl, HT.out⟩, rfl⟩
set_option maxRecDepth 100000 in
theorem addable_any (s : Value) (bs : List Nat) (w : World) (h : Fs w s bs) :
    Calls Tryd.prog 42 #[s] w fun e w' => (∃ t, e = .returned (.bool t) ∧ (t = true ↔ MayP 0 8660422083433463808 bs)) ∧ w' = w := by
  have HA : Hid (∀ w, Fs w s bs → Calls Tryd.prog 35 #[s, .float .f64 0, .float .f64 8660422083433463808] w fun e w' => (∃ t, e = .returned (.bool t) ∧ (t = true ↔ MayP 0 8660422083433463808 bs)) ∧ w' = w) := fun w h => mayBe_any _ _ s bs w h (by omega) (by omega)
  have HF : Hid (Fs w s bs) := h
  clear h
  go_enter Tryd.func42, Tryd.ntmps42
  go_wp2_with fail
  refine (HA.out _ HF.out).mono ?_
  rintro e w1 ⟨⟨t, rfl, ht⟩, rfl⟩
  have HT : Hid (t = true ↔ MayP 0 8660422083433463808 bs) := ht
  clear ht
  go_wp2_with fail
  go_ret
  exact ⟨⟨t, rfl, HT.out⟩, rfl⟩

/-- The last word, 0 of none. -/
def lastW (bs : List Nat) : Nat := bs.getD (bs.length - 1) 0
set_option maxRecDepth 100000 in
theorem lead_walk (g off n c x : Nat) (w : World) (hc : w.cell? ⟨g, off + n, none⟩ = some (.float .f64 x)) (hn : n < 1000000) :
    Calls Tryd.prog 52 #[.slice (some ⟨g, off, none⟩) (n + 1) c] w fun e w' => e = .returned (.float .f64 x) ∧ w' = w := by
  have e9 : (n : Int) < 1000000 := by omega
  clear hn
  have e0 : ((n : Int) + 1 == 0) = false := by simp; omega
  have e3 : (n : Int) < (n : Int) + 1 := by omega
  have e4 : (0 : Int) ≤ (n : Int) := by omega
  go_enter Tryd.func52, Tryd.ntmps52
  go_wp2
  go_ret
  exact ⟨rfl, rfl⟩
set_option maxRecDepth 100000 in
theorem lead_any (s : Value) (bs : List Nat) (w : World) (h : Fs w s bs) (hlen : bs.length ≤ 1000000) :
    Calls Tryd.prog 52 #[s] w fun e w' => e = .returned (.float .f64 (lastW bs)) ∧ w' = w := by
  obtain ⟨⟨a, c, rfl, hc, hm, hf⟩, hw⟩ := h
  rcases hf with rfl | ⟨g, off, rfl, hf⟩
  · go_enter Tryd.func52, Tryd.ntmps52
    go_wp2
    go_ret
    exact ⟨rfl, rfl⟩
  · by_cases h0 : bs.length = 0
    · have : bs = [] := List.eq_nil_of_length_eq_zero h0
      subst this
      clear hf
      go_enter Tryd.func52, Tryd.ntmps52
      go_wp2
      go_ret
      exact ⟨rfl, rfl⟩
    · obtain ⟨n, hn⟩ : ∃ n, bs.length = n + 1 := ⟨bs.length - 1, by omega⟩
      rw [show lastW bs = bs.getD n 0 by unfold lastW; rw [hn]; rfl, hn]
      exact lead_walk g off n c _ w (hf n (by omega)) (by omega)

theorem order_nan_self {b : Nat} (h : Fin64 b) : FloatKind.f64.format.order b b = some .eq := by
  rw [order_val h h, if_neg Rat.lt_irrefl, if_pos rfl]
set_option maxRecDepth 100000 in
theorem nan_fin (b : Nat) (w : World) (h : Fin64 b) : Calls Tryd.prog 81 #[.float .f64 b] w fun e w' => e = .returned (.bool false) ∧ w' = w := by
  have h1 := order_nan_self h
  clear h
  go_enter Tryd.func81, Tryd.ntmps81
  go_wp2
  go_ret
  exact ⟨rfl, rfl⟩
set_option maxRecDepth 100000 in
set_option maxHeartbeats 1000000 in
theorem compare_zero (b : Nat) (w : World) (h : Fin64 b) : Calls Tryd.prog 62 #[.float .f64 b, .float .f64 0] w fun e w' => e = .returned (.int .i64 (sgq (fval b))) ∧ w' = w := by
  have HN : Hid (∀ w, Calls Tryd.prog 81 #[.float .f64 b] w fun e w' => e = .returned (.bool false) ∧ w' = w) := fun w => nan_fin b w h
  have HZ : Hid (∀ w, Calls Tryd.prog 81 #[.float .f64 0] w fun e w' => e = .returned (.bool false) ∧ w' = w) := fun w => nan_fin 0 w fin0
  have ho := order_val h fin0
  rw [fval0] at ho
  clear h
  have key : ∀ o, FloatKind.f64.format.order b 0 = some o → Calls Tryd.prog 62 #[.float .f64 b, .float .f64 0] w fun e w' => e = .returned (.int .i64 (match o with | .lt => -1 | .eq => 0 | .gt => 1)) ∧ w' = w := by
    intro o hb
    clear ho
    cases o <;>
    · go_enter Tryd.func62, Tryd.ntmps62
      go_wp2_with fail
      refine (HN.out _).mono ?_
      rintro e w1 ⟨rfl, rfl⟩
      go_wp2_with fail
      refine (HZ.out _).mono ?_
      rintro e w1 ⟨rfl, rfl⟩
      go_wp2
      go_ret
      exact ⟨rfl, rfl⟩
  refine (key _ ho).mono ?_
  rintro e w' ⟨rfl, rfl⟩
  refine ⟨?_, rfl⟩
  unfold sgq
  by_cases h1 : fval b < 0
  · rw [if_pos h1]; simp [h1]
  · by_cases h2 : fval b = 0
    · rw [if_neg h1, if_pos h2, h2]; simp
    · rw [if_neg h1, if_neg h2]
      have h3 : 0 < fval b := by grind
      simp [h1, h2]
set_option maxRecDepth 100000 in
theorem signOf_any (s : Value) (bs : List Nat) (w : World) (h : Fs w s bs) (hf : Fin64 (lastW bs)) (hlen : bs.length ≤ 1000000) :
    Calls Tryd.prog 36 #[s] w fun e w' => e = .returned (.int .i64 (sgq (fval (lastW bs)))) ∧ w' = w := by
  have HA : Hid (∀ w, Fs w s bs → Calls Tryd.prog 52 #[s] w fun e w' => e = .returned (.float .f64 (lastW bs)) ∧ w' = w) := fun w h => lead_any s bs w h hlen
  have HF : Hid (Fs w s bs) := h
  have HB : Hid (∀ w, Calls Tryd.prog 62 #[.float .f64 (lastW bs), .float .f64 0] w fun e w' => e = .returned (.int .i64 (sgq (fval (lastW bs)))) ∧ w' = w) := fun w => compare_zero _ w hf
  clear h hf hlen
  go_enter Tryd.func36, Tryd.ntmps36
  go_wp2_with fail
  refine (HA.out _ HF.out).mono ?_
  rintro e w1 ⟨rfl, rfl⟩
  go_wp2_with fail
  refine (HB.out _).mono ?_
  rintro e w1 ⟨rfl, rfl⟩
  go_wp2_with fail
  go_ret
  exact ⟨rfl, rfl⟩

end Go.Proofs.YtfcgndgmbmkdgaaDoor

/- Package expand: lists of its own; a list that grows; a list turned about. -/
namespace Go.Proofs.YtfcgndgmbmkdgaaDoor
open Go.RowKit

def f64s (bs : List Nat) : List Value := bs.map (Value.float .f64)
theorem infoF : (Tryd.prog.info? 22).map (fun i => (i.zero, i.size, i.bytes)) = some (some (.float .f64 0), 1, 8) := by kernel_rfl
theorem undF : Tryd.prog.underlying 28 = some (.slice 22) := by kernel_rfl

/-- A list of floats that lies in a row of the call's own. -/
structure Fr (w : World) (B : Nat) (v : Value) (bs : List Nat) : Prop where
  own : w.ownsRow B 22 1 v bs.length (f64s bs)
  word : ∀ b ∈ bs, b < 18446744073709551616
theorem Fr.fs {w : World} {B : Nat} {v : Value} {bs : List Nat} (h : Fr w B v bs) : Fs w v bs := by
  refine ⟨?_, h.word⟩
  rcases h.own.2 with ⟨h1, h2⟩ | ⟨g, cap, cur, h1, h2, h3, h4, h5, _⟩
  · exact ⟨none, 0, by rw [h1, h2], by omega, by omega, Or.inl (List.eq_nil_of_length_eq_zero h2)⟩
  · refine ⟨_, cap, h1, h4, by unfold maxLen at h5; omega, Or.inr ⟨g, 0, rfl, fun k hk => ?_⟩⟩
    have := h.own.cells (g := g) (by rw [h1]; rfl) k (.float .f64 (bs.getD k 0)) (by simp [f64s, List.getD, hk])
    rwa [show (⟨g, 0, none⟩ : Addr).add k = ⟨g, 0 + k, none⟩ by unfold Addr.add; split <;> simp_all] at this
theorem Fr.mono {w : World} {B B' : Nat} {v : Value} {bs : List Nat} (h : Fr w B v bs) (hB : B' ≤ B) : Fr w B' v bs := by
  refine ⟨⟨h.own.1, ?_⟩, h.word⟩
  rcases h.own.2 with h1 | ⟨g, cap, cur, h1, h2, h3⟩
  · exact Or.inl h1
  · exact Or.inr ⟨g, cap, cur, h1, by omega, h3⟩
theorem Fr.later {w w' : World} {B : Nat} {v : Value} {bs : List Nat} (h : Fr w B v bs) (hb : Below w.heap.size w w') : Fr w' B v bs := by
  refine ⟨⟨h.own.1, ?_⟩, h.word⟩
  rcases h.own.2 with h1 | ⟨g, cap, cur, h1, h2, h3, h4⟩
  · exact Or.inl h1
  · refine Or.inr ⟨g, cap, cur, h1, h2, ?_, h4⟩
    rw [hb.block g (Array.getElem?_eq_some_iff.1 h3).1]; exact h3
theorem Fr.nil (w : World) (B : Nat) : Fr w B (.slice none 0 0) [] := ⟨World.ownsRow_nil w B _ 1, fun b hb => by cases hb⟩
theorem Fr.low {w : World} {B : Nat} {v : Value} {bs : List Nat} (h : Fr w B v bs) {a : Addr} (hb : a.block < B) (x : Value) : Fr (w.setCell a x) B v bs :=
  ⟨ownsRow_setCell_below h.own hb x, h.word⟩

/-- The list with x behind its end, unless x is 0. -/
def gw (bs : List Nat) (x : Nat) : List Nat := if frung x = 0 then bs else bs ++ [x]

set_option maxRecDepth 100000 in
set_option maxHeartbeats 1000000 in
theorem grown_any (B : Nat) (v : Value) (bs : List Nat) (x : Nat) (w : World) (h : Fr w B v bs) (hB : B ≤ w.heap.size) (hx : x < 18446744073709551616) (hl : bs.length ≤ 1000000) :
    Calls Tryd.prog 22 #[v, .float .f64 x] w fun e w' => (∃ v', e = .returned v' ∧ Fr w' B v' (gw bs x)) ∧ Below B w w' := by
  have H : Hid (Fr w B v bs) := h
  have HX : Hid (x < 18446744073709551616) := hx
  have q := eql_zero2 x
  clear h hx
  by_cases h0 : frung x = 0
  · rw [decide_eq_true h0] at q
    have HG : Hid (gw bs x = bs) := by show gw bs x = bs; unfold gw; rw [if_pos h0]
    clear h0
    go_enter Tryd.func22, Tryd.ntmps22
    go_wp2
    go_ret
    exact ⟨⟨v, rfl, by rw [HG.out]; exact H.out⟩, Below.refl _ _⟩
  · rw [decide_eq_false h0] at q
    have HG : Hid (gw bs x = bs ++ [x]) := by show gw bs x = _; unfold gw; rw [if_neg h0]
    clear h0
    obtain ⟨i0, hi0, hz0, hz1, hz2⟩ := info_parts infoF
    go_enter Tryd.func22, Tryd.ntmps22
    go_wp2_with (at_builtin; refine wpList_append_own _ rfl _ _ _ rfl B 22 i0 _ 1 8 undF hi0 hz0 hz1 hz2 rfl (by omega) v bs.length (f64s bs) rfl (H.out.own.alloc _) ⟨w.heap.size, 0, none⟩ 1 1 [.float .f64 x] rfl rfl (World.news_of_block (cs := #[.float .f64 x]) (t := 22) (fr := (0, 0)) (heap_alloc_new w _)) (by simp [Value.oneCell']) (by unfold maxLen; omega) (by omega) (by simp; omega) ?_; intro v' w1 hown hgrow hnil)
    go_ret
    refine ⟨⟨v', rfl, ?_⟩, ?_⟩
    · rw [HG.out]
      refine ⟨?_, ?_⟩
      · rw [List.length_append]
        simpa [f64s] using hown
      · intro b hb
        rcases List.mem_append.1 hb with hb | hb
        · exact H.out.word b hb
        · rw [List.mem_singleton.1 hb]; exact HX.out
    · exact ((Below.refl B w).alloc hB _).grown hgrow (by simp; omega) (fun k hk => (H.out.own.lt k hk).1)

end Go.Proofs.YtfcgndgmbmkdgaaDoor

/- Package expand: the next float of two lists. -/
namespace Go.Proofs.YtfcgndgmbmkdgaaDoor
open Go.RowKit
attribute [local go_sem ↓] Go.wp_at_zero Go.wp_at_succ

set_option maxRecDepth 100000 in
set_option maxHeartbeats 4000000 in
theorem next_A (be bf ge oe ne ce cf x : Nat) (af ao : Option Addr) (w : World) (ha : (if ce = 1 then some (⟨ge, oe, none⟩ : Addr) else some ⟨ge, oe + 1, none⟩) = ao)
    (h1 : w.cell? ⟨be, 0, none⟩ = some (.slice (some ⟨ge, oe, none⟩) (ne + 1) ce)) (h2 : w.cell? ⟨bf, 0, none⟩ = some (.slice af 0 cf)) (h3 : w.cell? ⟨ge, oe, none⟩ = some (.float .f64 x)) (h4 : w.frozen? ⟨be, 0, none⟩ = false) (h5 : ne + 1 ≤ ce) (h6 : ce ≤ 9223372036854775807) :
    Calls Tryd.prog 56 #[.pointer (some ⟨bf, 0, none⟩), .pointer (some ⟨be, 0, none⟩)] w fun e w' => e = .returned (.float .f64 x) ∧ w' = (w.setCell ⟨be, 0, none⟩ (.slice ao ne (ce - 1))).drew.drew := by
  have l1 : (ne : Int) + 1 ≤ (ce : Int) := by omega
  have l2 : (ce : Int) ≤ 9223372036854775807 := by omega
  clear h5 h6
  go_enter Tryd.func56, Tryd.ntmps56
  go_wp2
  go_region
  go_wp2
  go_region
  clear h1 h2 h3 h4 l1 l2 ha
  go_wp2
  go_ret
  exact ⟨rfl, rfl⟩

set_option maxRecDepth 100000 in
set_option maxHeartbeats 4000000 in
theorem next_B (be bf gf of nf cf ce x : Nat) (ae ao : Option Addr) (w : World) (ha : (if cf = 1 then some (⟨gf, of, none⟩ : Addr) else some ⟨gf, of + 1, none⟩) = ao)
    (h1 : w.cell? ⟨bf, 0, none⟩ = some (.slice (some ⟨gf, of, none⟩) (nf + 1) cf)) (h2 : w.cell? ⟨be, 0, none⟩ = some (.slice ae 0 ce)) (h3 : w.cell? ⟨gf, of, none⟩ = some (.float .f64 x)) (h4 : w.frozen? ⟨bf, 0, none⟩ = false) (h5 : nf + 1 ≤ cf) (h6 : cf ≤ 9223372036854775807) :
    Calls Tryd.prog 56 #[.pointer (some ⟨bf, 0, none⟩), .pointer (some ⟨be, 0, none⟩)] w fun e w' => e = .returned (.float .f64 x) ∧ w' = (w.setCell ⟨bf, 0, none⟩ (.slice ao nf (cf - 1))).drew.drew := by
  have l1 : (nf : Int) + 1 ≤ (cf : Int) := by omega
  have l2 : (cf : Int) ≤ 9223372036854775807 := by omega
  have e0 : ((nf : Int) + 1 == 0) = false := by simp; omega
  clear h5 h6
  go_enter Tryd.func56, Tryd.ntmps56
  go_wp2
  go_region
  go_wp2
  go_region
  clear h1 h2 h3 h4 l1 l2 ha
  go_wp2
  go_ret
  exact ⟨rfl, rfl⟩

set_option maxRecDepth 100000 in
set_option maxHeartbeats 4000000 in
theorem next_C (be bf ge oe ne ce gf of nf cf x y : Nat) (ae af : Option Addr) (w : World) (hae : (if ce = 1 then some (⟨ge, oe, none⟩ : Addr) else some ⟨ge, oe + 1, none⟩) = ae) (haf : (if cf = 1 then some (⟨gf, of, none⟩ : Addr) else some ⟨gf, of + 1, none⟩) = af)
    (h1 : w.cell? ⟨be, 0, none⟩ = some (.slice (some ⟨ge, oe, none⟩) (ne + 1) ce)) (h2 : w.cell? ⟨bf, 0, none⟩ = some (.slice (some ⟨gf, of, none⟩) (nf + 1) cf)) (h3 : w.cell? ⟨ge, oe, none⟩ = some (.float .f64 x)) (h4 : w.cell? ⟨gf, of, none⟩ = some (.float .f64 y)) (f1 : w.frozen? ⟨be, 0, none⟩ = false) (f2 : w.frozen? ⟨bf, 0, none⟩ = false)
    (n1 : ne + 1 ≤ ce) (n2 : ce ≤ 9223372036854775807) (m1 : nf + 1 ≤ cf) (m2 : cf ≤ 9223372036854775807) (hx : x < 18446744073709551616) (hy : y < 18446744073709551616) (fy : Fin64 y) :
    Calls Tryd.prog 56 #[.pointer (some ⟨bf, 0, none⟩), .pointer (some ⟨be, 0, none⟩)] w fun e w' =>
      (frung x ≤ frung y ∧ e = .returned (.float .f64 x) ∧ w' = (w.setCell ⟨be, 0, none⟩ (.slice ae ne (ce - 1))).drew.drew) ∨ (¬ frung x ≤ frung y ∧ e = .returned (.float .f64 y) ∧ w' = (w.setCell ⟨bf, 0, none⟩ (.slice af nf (cf - 1))).drew.drew) := by
  have l1 : (ne : Int) + 1 ≤ (ce : Int) := by omega
  have l2 : (ce : Int) ≤ 9223372036854775807 := by omega
  have l3 : (nf : Int) + 1 ≤ (cf : Int) := by omega
  have l4 : (cf : Int) ≤ 9223372036854775807 := by omega
  have e0 : ((nf : Int) + 1 == 0) = false := by simp; omega
  have e1 : decide (0 < (ne : Int) + 1) = true := decide_eq_true (by omega)
  have HA : Hid (∀ w, Calls Tryd.prog 5 #[.float .f64 x] w fun e w' => e = .returned (.float .f64 (frung x)) ∧ w' = w) := fun w => abs_any x w hx
  have HB : Hid (∀ w, Calls Tryd.prog 5 #[.float .f64 y] w fun e w' => e = .returned (.float .f64 (frung y)) ∧ w' = w) := fun w => abs_any y w hy
  have q := leq_word (r := frung x) (c := frung y) (Nat.mod_lt _ (by omega)) fy
  clear n1 n2 m1 m2 hx hy fy
  by_cases hle : frung x ≤ frung y
  · rw [decide_eq_true hle] at q
    have HL : Hid (frung x ≤ frung y) := hle
    clear hle
    go_enter Tryd.func56, Tryd.ntmps56
    go_wp2
    go_region_held3 (fun W => W.cell? ⟨be, 0, none⟩ = some (.slice (some ⟨ge, oe, none⟩) (ne + 1) ce) ∧ W.cell? ⟨bf, 0, none⟩ = some (.slice (some ⟨gf, of, none⟩) (nf + 1) cf) ∧ W.cell? ⟨ge, oe, none⟩ = some (.float .f64 x) ∧ W.cell? ⟨gf, of, none⟩ = some (.float .f64 y))
      (first
        | assumption
        | exact ⟨by go_simp, by go_simp, by go_simp, by go_simp⟩)
      (first
        | (refine (HA.out _).mono ?_; rintro e w3 ⟨rfl, rfl⟩)
        | (refine (HB.out _).mono ?_; rintro e w3 ⟨rfl, rfl⟩))
    go_wp2
    go_region
    clear h1 h2 h3 h4 l1 l2 l3 l4
    go_wp2
    go_ret
    exact Or.inl ⟨HL.out, rfl, rfl⟩
  · rw [decide_eq_false hle] at q
    have HL : Hid (¬ frung x ≤ frung y) := hle
    clear hle
    go_enter Tryd.func56, Tryd.ntmps56
    go_wp2
    go_region_held3 (fun W => W.cell? ⟨be, 0, none⟩ = some (.slice (some ⟨ge, oe, none⟩) (ne + 1) ce) ∧ W.cell? ⟨bf, 0, none⟩ = some (.slice (some ⟨gf, of, none⟩) (nf + 1) cf) ∧ W.cell? ⟨ge, oe, none⟩ = some (.float .f64 x) ∧ W.cell? ⟨gf, of, none⟩ = some (.float .f64 y))
      (first
        | assumption
        | exact ⟨by go_simp, by go_simp, by go_simp, by go_simp⟩)
      (first
        | (refine (HA.out _).mono ?_; rintro e w3 ⟨rfl, rfl⟩)
        | (refine (HB.out _).mono ?_; rintro e w3 ⟨rfl, rfl⟩))
    go_wp2
    go_region
    clear h1 h2 h3 h4 l1 l2 l3 l4
    go_wp2
    go_ret
    exact Or.inr ⟨HL.out, rfl, rfl⟩

end Go.Proofs.YtfcgndgmbmkdgaaDoor
