/- Own texts, put together: Et Ew Eh Ex. -/
import Derived.Test.YtcgbnjoajieggaaGreatQ12
import Derived.Test.YtcgbnjoajieggaaGreatQ19
import Derived.Test.YtcgbnjoajieggaaGreatQ21
namespace Go.Proofs.YtcgbnjoajieggaaGreat
/- Sums of tame words: what is rounded off is told exactly. -/
section
theorem RN.twice {q x c : Rat} (h : RN q x) (h1 : q ≤ c) (h2 : -q ≤ c) : x ≤ 2 * c ∧ -x ≤ 2 * c := by
 obtain ⟨T, k, R⟩ := h
 have := R.best (y := 0) (c := c) F_zero (by grind) (by grind)
 constructor <;> grind
theorem fval_abs (b : Nat) : (fval b = fval (frung b) ∨ fval b = -fval (frung b)) := by
 have e1 : frung (frung b) = frung b := by unfold frung; omega
 have e2 : fneg (frung b) = false := by unfold fneg frung; simp
 rw [fval_eq b, fval_eq (frung b), e1, e2]
 generalize ((fmag (frung b) : Nat) : Rat) * p2 (fpl (frung b)) = z
 cases fneg b <;> simp [sgn1] <;> grind
theorem tame_top : fval 9110782046170513408 = p2 1000 := by
 rw [(fval_pos_lt (by omega)).1, show fmag 9110782046170513408 = 4503599627370496 by decide, show fpl 9110782046170513408 = 948 by decide]
 rw [show (1000 : Int) = 948 + ((52 : Nat) : Int) by omega, p2_add, p2_nat, Rat.mul_comm]
theorem tame_bound {a : Nat} (h : frung a ≤ 9110782046170513408) : fval a ≤ p2 1000 ∧ -fval a ≤ p2 1000 := by
 have h1 : fval (frung a) ≤ p2 1000 := by
   rw [← tame_top]
   rcases Nat.lt_or_ge (frung a) 9110782046170513408 with e | e
   · exact Rat.le_of_lt (fval_lt e (by omega))
   · rw [show frung a = 9110782046170513408 by omega]; exact Rat.le_refl
 have h2 := fval_nonneg (r := frung a) (by omega)
 rcases fval_abs a with e | e <;> rw [e] <;> constructor <;> grind
theorem lim_top : p2 1023 = 8388608 * p2 1000 := by
 rw [show (1023 : Int) = ((23 : Nat) : Int) + 1000 by omega, p2_add, p2_nat]; rfl
theorem twoSum_words {a b : Nat} (ha : frung a ≤ 9110782046170513408) (hb : frung b ≤ 9110782046170513408) :
   ∃ x fb fa lb la y, TwoSum a b x fb fa lb la y ∧ Fin64 x ∧ Fin64 y ∧ x < 18446744073709551616 ∧ y < 18446744073709551616 ∧ RV (fval a + fval b) (fval x) ∧ fval x + fval y = fval a + fval b := by
 have fa_ : Fin64 a := by unfold Fin64; omega
 have fb_ : Fin64 b := by unfold Fin64; omega
 have ba := tame_bound ha
 have bb := tame_bound hb
 have hc := p2_pos 1000
 have ht := lim_top
 generalize p2 1000 = c at *
 have lim : ∀ q : Rat, q ≤ 1000 * c → -q ≤ 1000 * c → Lim q := fun q h1 h2 => ⟨by rw [ht]; grind, by rw [ht]; grind⟩
 obtain ⟨x, s0, fx, lx, rx⟩ := add_bits fa_ fb_ (lim _ (by grind) (by grind))
 have bx := rx.rn.twice (c := 2 * c) (by grind) (by grind)
 obtain ⟨vb, s1, fvb, lvb, rvb⟩ := sub_bits fx fa_ (lim _ (by grind) (by grind))
 have bvb := rvb.rn.twice (c := 5 * c) (by grind) (by grind)
 obtain ⟨va, s2, fva, lva, rva⟩ := sub_bits fx fvb (lim _ (by grind) (by grind))
 have bva := rva.rn.twice (c := 14 * c) (by grind) (by grind)
 obtain ⟨lb, s3, flb, llb, rlb⟩ := sub_bits fb_ fvb (lim _ (by grind) (by grind))
 have blb := rlb.rn.twice (c := 11 * c) (by grind) (by grind)
 obtain ⟨la, s4, fla, lla, rla⟩ := sub_bits fa_ fva (lim _ (by grind) (by grind))
 have bla := rla.rn.twice (c := 29 * c) (by grind) (by grind)
 obtain ⟨y, s5, fy, ly, ry⟩ := add_bits fla flb (lim _ (by grind) (by grind))
 exact ⟨x, vb, va, lb, la, y, ⟨s0, s1, s2, s3, s4, s5⟩, fx, fy, lx, ly, rx, twoSum_exact (fc_word fa_) (fc_word fb_) (fc_word fx) rx.rn rvb.rn rva.rn rlb.rn rla.rn ry.rn⟩
end

/- Products of safe words: what is rounded off is told exactly. -/
section
theorem fc_norm {b : Nat} (hn : 9007199254740992 ≤ frung b) : ∃ m, FC (fval b) (frung b / 4503599627370496 - 1) m ∧ (4503599627370496 ≤ m ∨ m ≤ -4503599627370496) := by
 have hm := fmag_lt (frung b)
 have hm2 : 4503599627370496 ≤ fmag (frung b) := by unfold fmag; rw [if_neg (by omega)]; omega
 have c : FC ((fmag (frung b) : Nat) * p2 (fpl (frung b))) (frung b / 4503599627370496 - 1) (fmag (frung b) : Int) := by
   refine ⟨?_, by omega, by omega, Or.inr (Or.inl (by omega))⟩
   unfold U fpl
   rw [if_neg (by omega), show ((frung b / 4503599627370496 - 1 : Nat) : Int) - 1074 = -1074 + ((frung b / 4503599627370496 - 1 : Nat) : Int) by omega]; rfl
 rw [fval_eq]
 unfold sgn1
 cases fneg b
 · refine ⟨_, ?_, Or.inl (by omega : (4503599627370496 : Int) ≤ (fmag (frung b) : Int))⟩
   rw [if_neg (by decide), Rat.one_mul]; exact c
 · refine ⟨-(fmag (frung b) : Int), ?_, Or.inr (by omega)⟩
   rw [if_pos rfl]
   have := c.neg
   rwa [show -((fmag (frung b) : Nat) * p2 (fpl (frung b)) : Rat) = -1 * ((fmag (frung b) : Nat) * p2 (fpl (frung b))) by grind] at this
theorem safe_top : fval 6633802251116740608 = p2 450 := by
 rw [(fval_pos_lt (by omega)).1, show fmag 6633802251116740608 = 4503599627370496 by decide, show fpl 6633802251116740608 = 398 by decide]
 rw [show (450 : Int) = 398 + ((52 : Nat) : Int) by omega, p2_add, p2_nat, Rat.mul_comm]
theorem safe_bound {a : Nat} (h : SafeW (frung a)) : fval a ≤ p2 450 ∧ -fval a ≤ p2 450 := by
 have hr : frung a ≤ 6633802251116740608 := by unfold SafeW at h; omega
 have h1 : fval (frung a) ≤ p2 450 := by
   rw [← safe_top]
   rcases Nat.lt_or_ge (frung a) 6633802251116740608 with e | e
   · exact Rat.le_of_lt (fval_lt e (by omega))
   · rw [show frung a = 6633802251116740608 by omega]; exact Rat.le_refl
 have h2 := fval_nonneg (r := frung a) (by omega)
 rcases fval_abs a with e | e <;> rw [e] <;> constructor <;> grind
theorem split_const : fval 4728779608772575232 = 134217729 := by
 rw [(fval_pos_lt (by omega)).1, show fmag 4728779608772575232 = 4503599660924928 by decide, show fpl 4728779608772575232 = -((25 : Nat) : Int) by decide]
 have h := p2_neg ((25 : Nat) : Int)
 rw [p2_nat, show ((2 ^ 25 : Nat) : Rat) = 33554432 from rfl] at h
 rw [show ((4503599660924928 : Nat) : Rat) = 4503599660924928 from rfl]
 generalize p2 (-((25 : Nat) : Int)) = v at *
 grind
theorem halves_words {a : Nat} (h : SafeW (frung a)) :
   ∃ c d x y, Halves a c d x y ∧ Fin64 x ∧ Fin64 y ∧ x < 18446744073709551616 ∧ y < 18446744073709551616 ∧ (fval x < 4294967296 * p2 450 ∧ -(4294967296 * p2 450) < fval x) ∧ (fval y < 4294967296 * p2 450 ∧ -(4294967296 * p2 450) < fval y) ∧
     ((fval a = 0 ∧ fval x = 0 ∧ fval y = 0) ∨ (573 ≤ frung a / 4503599627370496 ∧ ∃ X Y, NH (fval a) (fval x) (fval y) (frung a / 4503599627370496 - 1) X Y)) := by
 have fa_ : Fin64 a := by unfold Fin64; unfold SafeW at h; omega
 have fk : Fin64 4728779608772575232 := by unfold Fin64 frung; decide
 have ba := safe_bound h
 have he := p2_pos 450
 have ht : 1099511627776 * p2 450 ≤ p2 1023 := by
   have : p2 490 = 1099511627776 * p2 450 := by rw [show (490 : Int) = ((40 : Nat) : Int) + 450 by omega, p2_add, p2_nat]; rfl
   rw [← this]; exact p2_mono (by omega)
 have hk := split_const
 have lim : ∀ q : Rat, q ≤ 549755813888 * p2 450 → -q ≤ 549755813888 * p2 450 → Lim q := fun q h1 h2 => ⟨by grind, by grind⟩
 generalize p2 450 = c0 at *
 obtain ⟨c, s0, fc, lc, rc⟩ := mul_bits fk fa_ (by rw [hk]; exact lim _ (by grind) (by grind))
 rw [hk] at rc
 have bc := rc.rn.twice (c := 134217729 * c0) (by grind) (by grind)
 obtain ⟨d, s1, fd, ld, rd⟩ := sub_bits fc fa_ (lim _ (by grind) (by grind))
 have bd := rd.rn.twice (c := 268435459 * c0) (by grind) (by grind)
 obtain ⟨x, s2, fx, lx, rx⟩ := sub_bits fc fd (lim _ (by grind) (by grind))
 have bx := rx.rn.twice (c := 805306376 * c0) (by grind) (by grind)
 obtain ⟨y, s3, fy, ly, ry⟩ := sub_bits fa_ fx (lim _ (by grind) (by grind))
 have bY := ry.rn.twice (c := 1610612753 * c0) (by grind) (by grind)
 refine ⟨c, d, x, y, ⟨s0, s1, s2, s3⟩, fx, fy, lx, ly, ⟨by grind, by grind⟩, ⟨by grind, by grind⟩, ?_⟩
 rcases h with h | h
 · left
   have a0 : fval a = 0 := fval_zero_iff.2 h
   have e1 := rc.rn.exact (by rw [a0, show (134217729 : Rat) * 0 = 0 by grind]; exact F_zero)
   rw [a0, show (134217729 : Rat) * 0 = 0 by grind] at e1
   have e2 := rd.rn.exact (by rw [a0, e1, show (0 : Rat) - 0 = 0 by grind]; exact F_zero)
   rw [a0, e1, show (0 : Rat) - 0 = 0 by grind] at e2
   have e3 := rx.rn.exact (by rw [e2, e1, show (0 : Rat) - 0 = 0 by grind]; exact F_zero)
   rw [e2, e1, show (0 : Rat) - 0 = 0 by grind] at e3
   have e4 := ry.rn.exact (by rw [a0, e3, show (0 : Rat) - 0 = 0 by grind]; exact F_zero)
   rw [a0, e3, show (0 : Rat) - 0 = 0 by grind] at e4
   exact ⟨a0, e3, e4⟩
 · right
   refine ⟨by omega, ?_⟩
   obtain ⟨m, hc, hm⟩ := fc_norm (b := a) (by omega)
   exact halves_nh hc hm rc.rn rd.rn rx.rn ry.rn
theorem U_mul (S1 S2 R : Nat) (h : S1 + S2 = R + 1074) : U S1 * U S2 = U R := by
 unfold U
 rw [← p2_add]; congr 1; omega
set_option maxHeartbeats 1000000 in
theorem prod_words {a b : Nat} (ha : SafeW (frung a)) (hb : SafeW (frung b)) :
   ∃ x a1 a2 b1 b2 p1 l1 q2 l2 p3 l3 p4 y c d c' d', Halves a c d a1 a2 ∧ Halves b c' d' b1 b2 ∧ TwoProd a b x a1 a2 b1 b2 p1 l1 q2 l2 p3 l3 p4 y ∧ Fin64 x ∧ Fin64 y ∧ x < 18446744073709551616 ∧ y < 18446744073709551616 ∧ RV (fval a * fval b) (fval x) ∧ fval x + fval y = fval a * fval b := by
 have fa_ : Fin64 a := by unfold Fin64; unfold SafeW at ha; omega
 have fb_ : Fin64 b := by unfold Fin64; unfold SafeW at hb; omega
 have ba := safe_bound ha
 have bb := safe_bound hb
 obtain ⟨c, d, a1, a2, H1, f1, f2, _, _, u1, u2, n1⟩ := halves_words ha
 obtain ⟨c', d', b1, b2, H2, g1, g2, _, _, v1, v2, n2⟩ := halves_words hb
 have he := p2_pos 450
 have ht : 1208925819614629174706176 * (p2 450 * p2 450) ≤ p2 1023 := by
   rw [← p2_add]
   have : p2 980 = 1208925819614629174706176 * p2 (450 + 450) := by rw [show (980 : Int) = ((80 : Nat) : Int) + (450 + 450) by omega, p2_add, p2_nat]; rfl
   rw [← this]; exact p2_mono (by omega)
 have hg : 0 < p2 450 * p2 450 := Rat.mul_pos he he
 have bnd : ∀ {s t : Rat}, s < 4294967296 * p2 450 → -(4294967296 * p2 450) < s → t < 4294967296 * p2 450 → -(4294967296 * p2 450) < t → s * t ≤ 18446744073709551616 * (p2 450 * p2 450) ∧ -(s * t) ≤ 18446744073709551616 * (p2 450 * p2 450) := by
   intro s t h1 h2 h3 h4
   have := abs_mul_lt h2 h1 h4 h3
   rw [show 4294967296 * p2 450 * (4294967296 * p2 450) = 18446744073709551616 * (p2 450 * p2 450) by grind] at this
   constructor <;> grind
 have w0 := bnd (s := fval a) (t := fval b) (by grind) (by grind) (by grind) (by grind)
 have w1 := bnd u1.1 u1.2 v1.1 v1.2
 have w2 := bnd u2.1 u2.2 v1.1 v1.2
 have w3 := bnd u1.1 u1.2 v2.1 v2.2
 have w4 := bnd u2.1 u2.2 v2.1 v2.2
 have lim : ∀ q : Rat, q ≤ 604462909807314587353088 * (p2 450 * p2 450) → -q ≤ 604462909807314587353088 * (p2 450 * p2 450) → Lim q := fun q h1 h2 => ⟨by grind, by grind⟩
 clear bnd ba bb u1 u2 v1 v2 ht he
 generalize p2 450 * p2 450 = g at *
 obtain ⟨x, s0, fx, lx, rx⟩ := mul_bits fa_ fb_ (lim _ (by grind) (by grind))
 have bx := rx.rn.twice (c := 18446744073709551616 * g) (by grind) (by grind)
 obtain ⟨p1, s1, fp1, _, r1⟩ := mul_bits f1 g1 (lim _ (by grind) (by grind))
 have k1 := r1.rn.twice (c := 18446744073709551616 * g) (by grind) (by grind)
 obtain ⟨l1, s2, fl1, _, r2⟩ := sub_bits fx fp1 (lim _ (by grind) (by grind))
 have k2 := r2.rn.twice (c := 73786976294838206464 * g) (by grind) (by grind)
 obtain ⟨q2, s3, fq2, _, r3⟩ := mul_bits f2 g1 (lim _ (by grind) (by grind))
 have k3 := r3.rn.twice (c := 18446744073709551616 * g) (by grind) (by grind)
 obtain ⟨l2, s4, fl2, _, r4⟩ := sub_bits fl1 fq2 (lim _ (by grind) (by grind))
 have k4 := r4.rn.twice (c := 295147905179352825856 * g) (by grind) (by grind)
 obtain ⟨p3, s5, fp3, _, r5⟩ := mul_bits f1 g2 (lim _ (by grind) (by grind))
 have k5 := r5.rn.twice (c := 18446744073709551616 * g) (by grind) (by grind)
 obtain ⟨l3, s6, fl3, _, r6⟩ := sub_bits fl2 fp3 (lim _ (by grind) (by grind))
 have k6 := r6.rn.twice (c := 1180591620717411303424 * g) (by grind) (by grind)
 obtain ⟨p4, s7, fp4, _, r7⟩ := mul_bits f2 g2 (lim _ (by grind) (by grind))
 have k7 := r7.rn.twice (c := 18446744073709551616 * g) (by grind) (by grind)
 obtain ⟨y, s8, fy, ly, r8⟩ := sub_bits fp4 fl3 (lim _ (by grind) (by grind))
 refine ⟨x, a1, a2, b1, b2, p1, l1, q2, l2, p3, l3, p4, y, c, d, c', d', H1, H2, ⟨s0, s1, s2, s3, s4, s5, s6, s7, s8⟩, fx, fy, lx, ly, rx, ?_⟩
 have zero : fval a * fval b = 0 → fval a1 * fval b1 = 0 → fval a2 * fval b1 = 0 → fval a1 * fval b2 = 0 → fval a2 * fval b2 = 0 → fval x + fval y = fval a * fval b := by
   intro z0 z1 z2 z3 z4
   rw [z0] at rx
   rw [z1] at r1
   rw [z2] at r3
   rw [z3] at r5
   rw [z4] at r7
   have o : (0 : Rat) - 0 = 0 := by grind
   have ex := rx.rn.exact F_zero
   have e1 := r1.rn.exact F_zero
   rw [ex, e1, o] at r2
   have e2 := r2.rn.exact F_zero
   have e3 := r3.rn.exact F_zero
   rw [e2, e3, o] at r4
   have e4 := r4.rn.exact F_zero
   have e5 := r5.rn.exact F_zero
   rw [e4, e5, o] at r6
   have e6 := r6.rn.exact F_zero
   have e7 := r7.rn.exact F_zero
   rw [e7, e6, o] at r8
   have e8 := r8.rn.exact F_zero
   rw [ex, e8, z0]; grind
 rcases n1 with ⟨z, z1, z2⟩ | ⟨i1, X1, Y1, N1⟩
 · exact zero (by rw [z]; grind) (by rw [z1]; grind) (by rw [z2]; grind) (by rw [z1]; grind) (by rw [z2]; grind)
 · rcases n2 with ⟨z, z1, z2⟩ | ⟨i2, X2, Y2, N2⟩
   · exact zero (by rw [z]; grind) (by rw [z1]; grind) (by rw [z1]; grind) (by rw [z2]; grind) (by rw [z2]; grind)
   · exact twoProd_core N1 N2 (U_mul _ _ (frung a / 4503599627370496 - 1 + (frung b / 4503599627370496 - 1) - 1074) (by omega)) rx.rn r1.rn r2.rn r3.rn r4.rn r5.rn r6.rn r7.rn r8.rn
end

/- awake: the examples. -/
section
open Go.RowKit
theorem ex1 : TwoSum 4845873199050653696 4607182418800017408 4845873199050653696 0 4845873199050653696 4607182418800017408 0 4607182418800017408 := ⟨by decide +kernel, by decide +kernel, by decide +kernel, by decide +kernel, by decide +kernel, by decide +kernel⟩
end

/- What Sum, Diff and Prod answer, and what follows of it. -/
section
open Go.RowKit
def Pair (dom : Prop) (q : Rat) (x y : Nat) : Prop :=
 Fin64 x ∧ Fin64 y ∧ x < 18446744073709551616 ∧ y < 18446744073709551616 ∧ ((dom ∧ RV q (fval x) ∧ fval x + fval y = q) ∨ (¬ dom ∧ x = 0 ∧ y = 0))
theorem pair_zero {dom : Prop} {q : Rat} (h : ¬ dom) : Pair dom q 0 0 := ⟨fin_zero, fin_zero, by omega, by omega, Or.inr ⟨h, rfl, rfl⟩⟩
theorem flip_lt {a : Nat} (h : a < 18446744073709551616) : fflip a < 18446744073709551616 := by unfold fflip; split <;> omega
theorem frung_flip {a : Nat} (h : a < 18446744073709551616) : frung (fflip a) = frung a := by unfold fflip frung; split <;> omega
theorem fval_flip {a : Nat} (h : a < 18446744073709551616) (hf : Fin64 a) : fval (fflip a) = -fval a := by
 unfold Fin64 frung at hf
 unfold fflip
 split
 · rename_i hs
   rw [Nat.add_comm]; exact fval_word (by omega)
 · rename_i hs
   obtain ⟨r, rfl⟩ : ∃ r, a = 9223372036854775808 + r := ⟨a - 9223372036854775808, by omega⟩
   rw [fval_word (by omega), show 9223372036854775808 + r - 9223372036854775808 = r by omega]; grind
def TameW (a b : Nat) : Prop := frung a ≤ 9110782046170513408 ∧ frung b ≤ 9110782046170513408
def SafeP (a b : Nat) : Prop := SafeW (frung a) ∧ SafeW (frung b)
theorem sum_pair (a b : Nat) (w : World) (ha : a < 18446744073709551616) (hb : b < 18446744073709551616) :
   Calls Tryz.prog 172 #[.float .f64 a, .float .f64 b] w fun e w' => (∃ x y, e = .returned (.tuple #[.float .f64 x, .float .f64 y]) ∧ Pair (TameW a b) (fval a + fval b) x y) ∧ Below w.heap.size w w' := by
 by_cases h : TameW a b
 · obtain ⟨x, fb, fa, lb, la, y, hs, fx, fy, lx, ly, hv, he⟩ := twoSum_words h.1 h.2
   refine (sum_yes a b x fb fa lb la y w ha hb h.1 h.2 hs).mono ?_
   rintro e w' ⟨rfl, hbel⟩
   exact ⟨⟨x, y, rfl, fx, fy, lx, ly, Or.inl ⟨h, hv, he⟩⟩, hbel⟩
 · refine (sum_no a b w ha hb h).mono ?_
   rintro e w' ⟨rfl, hbel⟩
   exact ⟨⟨0, 0, rfl, pair_zero h⟩, hbel⟩
theorem diff_pair (a b : Nat) (w : World) (ha : a < 18446744073709551616) (hb : b < 18446744073709551616) :
   Calls Tryz.prog 99 #[.float .f64 a, .float .f64 b] w fun e w' => (∃ x y, e = .returned (.tuple #[.float .f64 x, .float .f64 y]) ∧ Pair (TameW a b) (fval a - fval b) x y) ∧ Below w.heap.size w w' := by
 by_cases h : TameW a b
 · obtain ⟨x, fb, fa, lb, la, y, hs, fx, fy, lx, ly, hv, he⟩ := twoSum_words (b := fflip b) h.1 (by rw [frung_flip hb]; exact h.2)
   rw [fval_flip hb (by unfold Fin64; have := h.2; omega), show fval a + -fval b = fval a - fval b by grind] at hv he
   refine (diff_yes a b x fb fa lb la y w ha hb h.1 h.2 hs).mono ?_
   rintro e w' ⟨rfl, hbel⟩
   exact ⟨⟨x, y, rfl, fx, fy, lx, ly, Or.inl ⟨h, hv, he⟩⟩, hbel⟩
 · refine (diff_no a b w ha hb h).mono ?_
   rintro e w' ⟨rfl, hbel⟩
   exact ⟨⟨0, 0, rfl, pair_zero h⟩, hbel⟩
theorem prod_pair (a b : Nat) (w : World) (ha : a < 18446744073709551616) (hb : b < 18446744073709551616) :
   Calls Tryz.prog 176 #[.float .f64 a, .float .f64 b] w fun e w' => (∃ x y, e = .returned (.tuple #[.float .f64 x, .float .f64 y]) ∧ Pair (SafeP a b) (fval a * fval b) x y) ∧ Below w.heap.size w w' := by
 by_cases h : SafeP a b
 · obtain ⟨x, a1, a2, b1, b2, p1, l1, q2, l2, p3, l3, p4, y, c, d, c', d', H1, H2, hs, fx, fy, lx, ly, hv, he⟩ := prod_words h.1 h.2
   refine (prod_yes a b x a1 a2 b1 b2 p1 l1 q2 l2 p3 l3 p4 y c d c' d' w ha hb h.1 h.2 H1 H2 hs).mono ?_
   rintro e w' ⟨rfl, hbel⟩
   exact ⟨⟨x, y, rfl, fx, fy, lx, ly, Or.inl ⟨h, hv, he⟩⟩, hbel⟩
 · refine (prod_no a b w ha hb h).mono ?_
   rintro e w' ⟨rfl, hbel⟩
   exact ⟨⟨0, 0, rfl, pair_zero h⟩, hbel⟩
end
end Go.Proofs.YtcgbnjoajieggaaGreat
