/- Own texts, put together: Et Eu Ev Ew Eh Ex Xe Ha Hc. -/
import Derived.Test.YtmcllgoeldfgmaaDoorQ6
/- Sums of tame words: what is rounded off is told exactly. -/
namespace Go.Proofs.YtmcllgoeldfgmaaDoor

/-- A rounded number is at most twice as great. -/
theorem RN.twice {q x c : Rat} (h : RN q x) (h1 : q ≤ c) (h2 : -q ≤ c) : x ≤ 2 * c ∧ -x ≤ 2 * c := by
  obtain ⟨T, k, R⟩ := h
  have := R.best (y := 0) (c := c) F_zero (by grind) (by grind)
  constructor <;> grind

theorem fval_abs (b : Nat) : (fval b = fval (frung b) ∨ fval b = -fval (frung b)) := by
  have e1 : frung (frung b) = frung b := by unfold frung; omega
  have e2 : fneg (frung b) = false := by unfold fneg frung; simp
  rw [fval_eq b, fval_eq (frung b), e1, e2]
  generalize ((fmag (frung b) : Nat) : Rat) * p2 (fpl (frung b)) = z
  cases fneg b <;> simp [sgn1] <;> grind

theorem tame_top : fval 9110782046170513408 = p2 1000 := by
  rw [(fval_pos_lt (by omega)).1, show fmag 9110782046170513408 = 4503599627370496 by decide, show fpl 9110782046170513408 = 948 by decide]
  rw [show (1000 : Int) = 948 + ((52 : Nat) : Int) by omega, p2_add, p2_nat, Rat.mul_comm]

theorem tame_bound {a : Nat} (h : frung a ≤ 9110782046170513408) : fval a ≤ p2 1000 ∧ -fval a ≤ p2 1000 := by
  have h1 : fval (frung a) ≤ p2 1000 := by
    rw [← tame_top]
    rcases Nat.lt_or_ge (frung a) 9110782046170513408 with e | e
    · exact Rat.le_of_lt (fval_lt e (by omega))
    · rw [show frung a = 9110782046170513408 by omega]; exact Rat.le_refl
  have h2 := fval_nonneg (r := frung a) (by omega)
  rcases fval_abs a with e | e <;> rw [e] <;> constructor <;> grind

theorem lim_top : p2 1023 = 8388608 * p2 1000 := by
  rw [show (1023 : Int) = ((23 : Nat) : Int) + 1000 by omega, p2_add, p2_nat]; rfl

theorem twoSum_words {a b : Nat} (ha : frung a ≤ 9110782046170513408) (hb : frung b ≤ 9110782046170513408) :
    ∃ x fb fa lb la y, TwoSum a b x fb fa lb la y ∧ Fin64 x ∧ Fin64 y ∧ x < 18446744073709551616 ∧ y < 18446744073709551616 ∧ RV (fval a + fval b) (fval x) ∧ fval x + fval y = fval a + fval b := by
  have fa_ : Fin64 a := by unfold Fin64; omega
  have fb_ : Fin64 b := by unfold Fin64; omega
  have ba := tame_bound ha
  have bb := tame_bound hb
  have hc := p2_pos 1000
  have ht := lim_top
  generalize p2 1000 = c at *
  have lim : ∀ q : Rat, q ≤ 1000 * c → -q ≤ 1000 * c → Lim q := fun q h1 h2 => ⟨by rw [ht]; grind, by rw [ht]; grind⟩
  obtain ⟨x, s0, fx, lx, rx⟩ := add_bits fa_ fb_ (lim _ (by grind) (by grind))
  have bx := rx.rn.twice (c := 2 * c) (by grind) (by grind)
  obtain ⟨vb, s1, fvb, lvb, rvb⟩ := sub_bits fx fa_ (lim _ (by grind) (by grind))
  have bvb := rvb.rn.twice (c := 5 * c) (by grind) (by grind)
  obtain ⟨va, s2, fva, lva, rva⟩ := sub_bits fx fvb (lim _ (by grind) (by grind))
  have bva := rva.rn.twice (c := 14 * c) (by grind) (by grind)
  obtain ⟨lb, s3, flb, llb, rlb⟩ := sub_bits fb_ fvb (lim _ (by grind) (by grind))
  have blb := rlb.rn.twice (c := 11 * c) (by grind) (by grind)
  obtain ⟨la, s4, fla, lla, rla⟩ := sub_bits fa_ fva (lim _ (by grind) (by grind))
  have bla := rla.rn.twice (c := 29 * c) (by grind) (by grind)
  obtain ⟨y, s5, fy, ly, ry⟩ := add_bits fla flb (lim _ (by grind) (by grind))
  exact ⟨x, vb, va, lb, la, y, ⟨s0, s1, s2, s3, s4, s5⟩, fx, fy, lx, ly, rx, twoSum_exact (fc_word fa_) (fc_word fb_) (fc_word fx) rx.rn rvb.rn rva.rn rlb.rn rla.rn ry.rn⟩

end Go.Proofs.YtmcllgoeldfgmaaDoor

/- A float's halves, and two floats multiplied (Veltkamp, Dekker), in plain numbers. -/
namespace Go.Proofs.YtmcllgoeldfgmaaDoor

theorem U_up (S j : Nat) (n : Rat) (h : ((2 ^ j : Nat) : Rat) = n) : U (S + j) = n * U S := by rw [U_add, h]

/-- Halves of a float above 0. -/
theorem halves_pos {a c d x y : Rat} {S : Nat} {A : Int} (ca : FC a S A) (hA : 4503599627370496 ≤ A) (R1 : RN (134217729 * a) c) (R2 : RN (c - a) d) (R3 : RN (c - d) x) (R4 : RN (a - x) y) :
    ∃ X Y : Int, x = (X : Rat) * U (S + 27) ∧ -67108864 ≤ X ∧ X ≤ 67108864 ∧ y = (Y : Rat) * U S ∧ -67108864 ≤ Y ∧ Y ≤ 67108864 ∧ x + y = a := by
  have hu := U_pos S
  have u26 := U_up S 26 67108864 rfl
  have u27 := U_up S 27 134217728 rfl
  have u28 := U_up S 28 268435456 rfl
  have u29 := U_up S 29 536870912 rfl
  have hs := (ca.size).1
  have hl : 4503599627370496 * U S ≤ a := by
    have := Rat.mul_le_mul_of_nonneg_right (Rat.intCast_le_intCast.2 hA) (Rat.le_of_lt hu)
    rw [show ((4503599627370496 : Int) : Rat) = 4503599627370496 from rfl] at this
    rw [ca.hz]; exact this
  obtain ⟨T, k, R⟩ := R1
  have hT : S + 27 ≤ T := by
    rcases Nat.lt_or_ge T (S + 27) with h | h
    · have := U_mono (show T ≤ S + 26 by omega)
      have h4 := R.h4
      exfalso; grind
    · exact h
  have hT2 : T ≤ S + 28 := by
    rcases Nat.lt_or_ge (S + 28) T with h | h
    · have := U_mono (show S + 29 ≤ T by omega)
      exfalso
      rcases R.h3 with h3 | h3 | h3
      · omega
      · grind
      · grind
    · exact h
  have mc : M (U (S + 27)) c := M.down hT R.m
  have r1 := R.h1
  have r2 := R.h2
  -- what is rounded next lies between 2^79 and 2^80 units
  have low : 604462909807314587353088 * U S ≤ c - a := by
    rcases (by omega : T = S + 27 ∨ T = S + 28) with rfl | rfl
    · by_cases e : A = 4503599627370496
      · have ea : a = 4503599627370496 * U S := by rw [ca.hz, e]; rfl
        have : c = 134217729 * a := R.mult ⟨4503599660924928, by rw [ea, u27, show ((4503599660924928 : Int) : Rat) = 4503599660924928 from rfl]; grind⟩
        rw [this, ea]; grind
      · have := Rat.mul_le_mul_of_nonneg_right (Rat.intCast_le_intCast.2 (show (4503599627370497 : Int) ≤ A by omega)) (Rat.le_of_lt hu)
        rw [show ((4503599627370497 : Int) : Rat) = 4503599627370497 from rfl, ← ca.hz] at this
        grind
    · rcases R.h3 with h3 | h3 | h3
      · omega
      · grind
      · grind
  have high : c - a ≤ 1208925819614629174706176 * U S := by
    have : U T ≤ U (S + 28) := U_mono hT2
    grind
  obtain ⟨T2, k2, Q⟩ := R2
  have hT3 : S + 27 ≤ T2 := by
    rcases Nat.lt_or_ge T2 (S + 27) with h | h
    · have := U_mono (show T2 ≤ S + 26 by omega)
      have h4 := Q.h4
      exfalso; grind
    · exact h
  have md : M (U (S + 27)) d := M.down hT3 Q.m
  have err : d - (c - a) ≤ 67108864 * U S ∧ -(d - (c - a)) ≤ 67108864 * U S := by
    have q1 := Q.h1
    have q2 := Q.h2
    rcases Nat.lt_or_ge T2 (S + 28) with h | h
    · have e : T2 = S + 27 := by omega
      subst e
      constructor <;> grind
    · have hle := U_mono h
      have e : c - a = 4503599627370496 * U (S + 28) := by
        rcases Q.h3 with h3 | h3 | h3
        · omega
        · grind
        · grind
      have : T2 = S + 28 := by
        rcases Nat.lt_or_ge (S + 28) T2 with h' | h'
        · have := U_mono (show S + 29 ≤ T2 by omega)
          exfalso
          rcases Q.h3 with h3 | h3 | h3
          · omega
          · grind
          · grind
        · omega
      subst this
      have := Q.mult ⟨4503599627370496, by rw [e]; rfl⟩
      rw [this]; constructor <;> grind
  have m3 : M (U (S + 27)) (c - d) := mc.sub md
  obtain ⟨X, hX⟩ := m3
  have hu27 := U_pos (S + 27)
  have x1 : X ≤ 67108864 := by
    have : (X : Rat) * U (S + 27) < ((67108865 : Int) : Rat) * U (S + 27) := by
      rw [← hX, show ((67108865 : Int) : Rat) = 67108865 from rfl, u27]; grind
    have := cast_lt hu27 this
    omega
  have x2 : -67108864 ≤ X := by
    have : ((-67108865 : Int) : Rat) * U (S + 27) < (X : Rat) * U (S + 27) := by
      rw [← hX, show ((-67108865 : Int) : Rat) = -67108865 from rfl, u27]; grind
    have := cast_lt hu27 this
    omega
  have ex : x = c - d := R3.exact ⟨S + 27, X, hX, by omega, by omega⟩
  have m4 : M (U S) (a - x) := by rw [ex]; exact ca.mul.sub (M.down (by omega) (mc.sub md))
  obtain ⟨Y, hY⟩ := m4
  have ey0 : a - x = d - (c - a) := by rw [ex]; grind
  have y1 : Y ≤ 67108864 := by
    have : (Y : Rat) * U S < ((67108865 : Int) : Rat) * U S := by
      rw [← hY, ey0, show ((67108865 : Int) : Rat) = 67108865 from rfl]; grind
    have := cast_lt hu this
    omega
  have y2 : -67108864 ≤ Y := by
    have : ((-67108865 : Int) : Rat) * U S < (Y : Rat) * U S := by
      rw [← hY, ey0, show ((-67108865 : Int) : Rat) = -67108865 from rfl]; grind
    have := cast_lt hu this
    omega
  have ey : y = a - x := R4.exact ⟨S, Y, hY, by omega, by omega⟩
  exact ⟨X, Y, by rw [ex, hX], x2, x1, by rw [ey, hY], y2, y1, by rw [ey]; grind⟩

end Go.Proofs.YtmcllgoeldfgmaaDoor

/- Two floats multiplied: what is rounded off is told exactly (Dekker), in plain numbers. -/
namespace Go.Proofs.YtmcllgoeldfgmaaDoor

theorem RN.neg {q x : Rat} (h : RN q x) : RN (-q) (-x) := by obtain ⟨T, k, R⟩ := h; exact ⟨T, _, R.neg⟩

/-- A float and its halves. -/
structure NH (a a1 a2 : Rat) (S : Nat) (X Y : Int) : Prop where
  h1 : a1 = (X : Rat) * U (S + 27)
  x1 : -67108864 ≤ X
  x2 : X ≤ 67108864
  h2 : a2 = (Y : Rat) * U S
  y1 : -67108864 ≤ Y
  y2 : Y ≤ 67108864
  sum : a1 + a2 = a
  lo : 4503599627370496 * U S ≤ a ∨ 4503599627370496 * U S ≤ -a
  hi1 : a < 9007199254740992 * U S
  hi2 : -(9007199254740992 * U S) < a

theorem halves_nh {a c d x y : Rat} {S : Nat} {A : Int} (ca : FC a S A) (hA : 4503599627370496 ≤ A ∨ A ≤ -4503599627370496) (R1 : RN (134217729 * a) c) (R2 : RN (c - a) d) (R3 : RN (c - d) x) (R4 : RN (a - x) y) : ∃ X Y, NH a x y S X Y := by
  have hu := U_pos S
  have hs := ca.size
  have lo : 4503599627370496 * U S ≤ a ∨ 4503599627370496 * U S ≤ -a := by
    rcases hA with h | h
    · left
      have := Rat.mul_le_mul_of_nonneg_right (Rat.intCast_le_intCast.2 h) (Rat.le_of_lt hu)
      rw [show ((4503599627370496 : Int) : Rat) = 4503599627370496 from rfl] at this
      rw [ca.hz]; exact this
    · right
      have := Rat.mul_le_mul_of_nonneg_right (Rat.intCast_le_intCast.2 h) (Rat.le_of_lt hu)
      rw [show ((-4503599627370496 : Int) : Rat) = -4503599627370496 from rfl] at this
      rw [ca.hz]; grind
  rcases hA with hA | hA
  · obtain ⟨X, Y, e1, b1, b2, e2, b3, b4, e3⟩ := halves_pos ca hA R1 R2 R3 R4
    exact ⟨X, Y, e1, b1, b2, e2, b3, b4, e3, lo, by grind, by grind⟩
  · have n1 := R1.neg
    have n2 := R2.neg
    have n3 := R3.neg
    have n4 := R4.neg
    rw [show -(134217729 * a) = 134217729 * -a by grind] at n1
    rw [show -(c - a) = -c - -a by grind] at n2
    rw [show -(c - d) = -c - -d by grind] at n3
    rw [show -(a - x) = -a - -x by grind] at n4
    obtain ⟨X, Y, e1, b1, b2, e2, b3, b4, e3⟩ := halves_pos ca.neg (by omega) n1 n2 n3 n4
    exact ⟨-X, -Y, by rw [Rat.intCast_neg]; grind, by omega, by omega, by rw [Rat.intCast_neg]; grind, by omega, by omega, by grind, lo, by grind, by grind⟩

theorem mul_bound {X Y : Int} (a : -67108864 ≤ X) (b : X ≤ 67108864) (c : -67108864 ≤ Y) (d : Y ≤ 67108864) : -4503599627370496 ≤ X * Y ∧ X * Y ≤ 4503599627370496 := by
  have h : (X * Y).natAbs ≤ 67108864 * 67108864 := by rw [Int.natAbs_mul]; exact Nat.mul_le_mul (by omega) (by omega)
  omega

theorem prod_lo {a b c d : Rat} (hc : 0 < c) (hd : 0 < d) (h1 : c ≤ a ∨ c ≤ -a) (h2 : d ≤ b ∨ d ≤ -b) : c * d ≤ a * b ∨ c * d ≤ -(a * b) := by
  have key : ∀ {p q : Rat}, c ≤ p → d ≤ q → c * d ≤ p * q := fun {p q} h h' => by
    have e1 := Rat.mul_le_mul_of_nonneg_right h (Rat.le_of_lt hd)
    have e2 := Rat.mul_le_mul_of_nonneg_left h' (show 0 ≤ p by grind)
    exact Rat.le_trans e1 e2
  rcases h1 with h1 | h1 <;> rcases h2 with h2 | h2
  · exact Or.inl (key h1 h2)
  · right; have := key h1 h2; grind
  · right; have := key h1 h2; grind
  · left; have := key h1 h2; grind

theorem twoProd_core {a b x a1 a2 b1 b2 p1 l1 q2 l2 p3 l3 p4 y : Rat} {S1 S2 R : Nat} {X1 Y1 X2 Y2 : Int} (ha : NH a a1 a2 S1 X1 Y1) (hb : NH b b1 b2 S2 X2 Y2) (hR : U S1 * U S2 = U R)
    (Rx : RN (a * b) x) (R1 : RN (a1 * b1) p1) (R2 : RN (x - p1) l1) (R3 : RN (a2 * b1) q2) (R4 : RN (l1 - q2) l2) (R5 : RN (a1 * b2) p3) (R6 : RN (l2 - p3) l3) (R7 : RN (a2 * b2) p4) (R8 : RN (p4 - l3) y) : x + y = a * b := by
  have hu1 := U_pos S1
  have hu2 := U_pos S2
  have hV := U_pos R
  have v27 := U_up R 27 134217728 rfl
  have v51 := U_up R 51 2251799813685248 rfl
  have v52 := U_up R 52 4503599627370496 rfl
  have v53 := U_up R 53 9007199254740992 rfl
  have v54 := U_up R 54 18014398509481984 rfl
  have s27 := U_up S1 27 134217728 rfl
  have t27 := U_up S2 27 134217728 rfl
  have e1 : a1 * b1 = ((X1 * X2 : Int) : Rat) * U (R + 54) := by rw [ha.h1, hb.h1, s27, t27, v54, ← hR, Rat.intCast_mul]; grind
  have e2 : a2 * b1 = ((Y1 * X2 : Int) : Rat) * U (R + 27) := by rw [ha.h2, hb.h1, t27, v27, ← hR, Rat.intCast_mul]; grind
  have e3 : a1 * b2 = ((X1 * Y2 : Int) : Rat) * U (R + 27) := by rw [ha.h1, hb.h2, s27, v27, ← hR, Rat.intCast_mul]; grind
  have e4 : a2 * b2 = ((Y1 * Y2 : Int) : Rat) * U R := by rw [ha.h2, hb.h2, ← hR, Rat.intCast_mul]; grind
  have m1 := mul_bound ha.x1 ha.x2 hb.x1 hb.x2
  have m2 := mul_bound ha.y1 ha.y2 hb.x1 hb.x2
  have m3 := mul_bound ha.x1 ha.x2 hb.y1 hb.y2
  have m4 := mul_bound ha.y1 ha.y2 hb.y1 hb.y2
  have big : ∀ {z : Rat} {T : Nat} {n : Int}, z = (n : Rat) * U T → -4503599627370496 ≤ n ∧ n ≤ 4503599627370496 → z ≤ 4503599627370496 * U T ∧ -z ≤ 4503599627370496 * U T := by
    intro z T n hz hn
    have hu := U_pos T
    have f1 := Rat.mul_le_mul_of_nonneg_right (Rat.intCast_le_intCast.2 hn.2) (Rat.le_of_lt hu)
    have f2 := Rat.mul_le_mul_of_nonneg_right (Rat.intCast_le_intCast.2 hn.1) (Rat.le_of_lt hu)
    rw [show ((4503599627370496 : Int) : Rat) = 4503599627370496 from rfl] at f1
    rw [show ((-4503599627370496 : Int) : Rat) = -4503599627370496 from rfl] at f2
    rw [hz]; constructor <;> grind
  have z2 := big e2 m2
  have z3 := big e3 m3
  have z4 := big e4 m4
  have x1 := R1.exact ⟨_, _, e1, by omega, by omega⟩
  have x3 := R3.exact ⟨_, _, e2, by omega, by omega⟩
  have x5 := R5.exact ⟨_, _, e3, by omega, by omega⟩
  have x7 := R7.exact ⟨_, _, e4, by omega, by omega⟩
  have M1 : M (U (R + 54)) (a1 * b1) := ⟨_, e1⟩
  have M2 : M (U (R + 27)) (a2 * b1) := ⟨_, e2⟩
  have M3 : M (U (R + 27)) (a1 * b2) := ⟨_, e3⟩
  have M4 : M (U R) (a2 * b2) := ⟨_, e4⟩
  have eN : a * b = a1 * b1 + a2 * b1 + a1 * b2 + a2 * b2 := by rw [← ha.sum, ← hb.sum]; grind
  have lo := prod_lo (by grind) (by grind) ha.lo hb.lo
  have hi := abs_mul_lt ha.hi2 ha.hi1 hb.hi2 hb.hi1
  rw [show 4503599627370496 * U S1 * (4503599627370496 * U S2) = 20282409603651670423947251286016 * (U S1 * U S2) by grind, hR] at lo
  rw [show 9007199254740992 * U S1 * (9007199254740992 * U S2) = 81129638414606681695789005144064 * (U S1 * U S2) by grind, hR] at hi
  clear e1 e2 e3 e4 m1 m2 m3 m4 big R1 R3 R5 R7 hR s27 t27
  subst x1 x3 x5 x7
  generalize a * b = N at *
  generalize a1 * b1 = w1 at *
  generalize a2 * b1 = w2 at *
  generalize a1 * b2 = w3 at *
  generalize a2 * b2 = w4 at *
  obtain ⟨T, k, Q⟩ := Rx
  have q1 := Q.h1
  have q2 := Q.h2
  have hT : R + 52 ≤ T := by
    rcases Nat.lt_or_ge T (R + 52) with h | h
    · have := U_mono (show T ≤ R + 51 by omega)
      have h4 := Q.h4
      have h5 := Q.h5
      exfalso
      rcases lo with lo | lo <;> grind
    · exact h
  have hT2 : U T ≤ 9007199254740992 * U R := by
    rcases Nat.lt_or_ge T (R + 54) with h | h
    · have := U_mono (show T ≤ R + 53 by omega)
      grind
    · have := U_mono h
      exfalso
      rcases Q.h3 with h3 | h3 | h3
      · omega
      · grind
      · grind
  have mx : M (U (R + 52)) x := M.down hT Q.m
  have k1 := R2.exact (M.small 268435458 (by omega) (mx.sub (M.down (by omega) M1))
    (by rw [show ((268435458 + 1 : Int) : Rat) = 268435459 from rfl, v52]; grind) (by rw [show ((268435458 + 1 : Int) : Rat) = 268435459 from rfl, v52]; grind))
  have k2 := R4.exact (by
    rw [k1]
    exact M.small 4503599694479360 (by omega) (((M.down (by omega) mx).sub (M.down (by omega) M1)).sub M2)
      (by rw [show ((4503599694479360 + 1 : Int) : Rat) = 4503599694479361 from rfl, v27]; grind) (by rw [show ((4503599694479360 + 1 : Int) : Rat) = 4503599694479361 from rfl, v27]; grind))
  have k3 := R6.exact (by
    rw [k2, k1]
    exact M.small 67108864 (by omega) ((((M.down (by omega) mx).sub (M.down (by omega) M1)).sub M2).sub M3)
      (by rw [show ((67108864 + 1 : Int) : Rat) = 67108865 from rfl, v27]; grind) (by rw [show ((67108864 + 1 : Int) : Rat) = 67108865 from rfl, v27]; grind))
  have k4 := R8.exact (by
    rw [k3, k2, k1]
    exact M.small 4503599627370496 (by omega) (M4.sub ((((M.down (by omega) mx).sub (M.down (by omega) M1)).sub (M.down (by omega) M2)).sub (M.down (by omega) M3)))
      (by rw [show ((4503599627370496 + 1 : Int) : Rat) = 4503599627370497 from rfl]; grind) (by rw [show ((4503599627370496 + 1 : Int) : Rat) = 4503599627370497 from rfl]; grind))
  rw [k4, k3, k2, k1, eN]; grind

end Go.Proofs.YtmcllgoeldfgmaaDoor

/- Products of safe words: what is rounded off is told exactly. -/
namespace Go.Proofs.YtmcllgoeldfgmaaDoor

theorem fc_norm {b : Nat} (hn : 9007199254740992 ≤ frung b) : ∃ m, FC (fval b) (frung b / 4503599627370496 - 1) m ∧ (4503599627370496 ≤ m ∨ m ≤ -4503599627370496) := by
  have hm := fmag_lt (frung b)
  have hm2 : 4503599627370496 ≤ fmag (frung b) := by unfold fmag; rw [if_neg (by omega)]; omega
  have c : FC ((fmag (frung b) : Nat) * p2 (fpl (frung b))) (frung b / 4503599627370496 - 1) (fmag (frung b) : Int) := by
    refine ⟨?_, by omega, by omega, Or.inr (Or.inl (by omega))⟩
    unfold U fpl
    rw [if_neg (by omega), show ((frung b / 4503599627370496 - 1 : Nat) : Int) - 1074 = -1074 + ((frung b / 4503599627370496 - 1 : Nat) : Int) by omega]; rfl
  rw [fval_eq]
  unfold sgn1
  cases fneg b
  · refine ⟨_, ?_, Or.inl (by omega : (4503599627370496 : Int) ≤ (fmag (frung b) : Int))⟩
    rw [if_neg (by decide), Rat.one_mul]; exact c
  · refine ⟨-(fmag (frung b) : Int), ?_, Or.inr (by omega)⟩
    rw [if_pos rfl]
    have := c.neg
    rwa [show -((fmag (frung b) : Nat) * p2 (fpl (frung b)) : Rat) = -1 * ((fmag (frung b) : Nat) * p2 (fpl (frung b))) by grind] at this

theorem safe_top : fval 6633802251116740608 = p2 450 := by
  rw [(fval_pos_lt (by omega)).1, show fmag 6633802251116740608 = 4503599627370496 by decide, show fpl 6633802251116740608 = 398 by decide]
  rw [show (450 : Int) = 398 + ((52 : Nat) : Int) by omega, p2_add, p2_nat, Rat.mul_comm]

theorem safe_bound {a : Nat} (h : SafeW (frung a)) : fval a ≤ p2 450 ∧ -fval a ≤ p2 450 := by
  have hr : frung a ≤ 6633802251116740608 := by unfold SafeW at h; omega
  have h1 : fval (frung a) ≤ p2 450 := by
    rw [← safe_top]
    rcases Nat.lt_or_ge (frung a) 6633802251116740608 with e | e
    · exact Rat.le_of_lt (fval_lt e (by omega))
    · rw [show frung a = 6633802251116740608 by omega]; exact Rat.le_refl
  have h2 := fval_nonneg (r := frung a) (by omega)
  rcases fval_abs a with e | e <;> rw [e] <;> constructor <;> grind

theorem split_const : fval 4728779608772575232 = 134217729 := by
  rw [(fval_pos_lt (by omega)).1, show fmag 4728779608772575232 = 4503599660924928 by decide, show fpl 4728779608772575232 = -((25 : Nat) : Int) by decide]
  have h := p2_neg ((25 : Nat) : Int)
  rw [p2_nat, show ((2 ^ 25 : Nat) : Rat) = 33554432 from rfl] at h
  rw [show ((4503599660924928 : Nat) : Rat) = 4503599660924928 from rfl]
  generalize p2 (-((25 : Nat) : Int)) = v at *
  grind

theorem halves_words {a : Nat} (h : SafeW (frung a)) :
    ∃ c d x y, Halves a c d x y ∧ Fin64 x ∧ Fin64 y ∧ x < 18446744073709551616 ∧ y < 18446744073709551616 ∧ (fval x < 4294967296 * p2 450 ∧ -(4294967296 * p2 450) < fval x) ∧ (fval y < 4294967296 * p2 450 ∧ -(4294967296 * p2 450) < fval y) ∧
      ((fval a = 0 ∧ fval x = 0 ∧ fval y = 0) ∨ (573 ≤ frung a / 4503599627370496 ∧ ∃ X Y, NH (fval a) (fval x) (fval y) (frung a / 4503599627370496 - 1) X Y)) := by
  have fa_ : Fin64 a := by unfold Fin64; unfold SafeW at h; omega
  have fk : Fin64 4728779608772575232 := by unfold Fin64 frung; decide
  have ba := safe_bound h
  have he := p2_pos 450
  have ht : 1099511627776 * p2 450 ≤ p2 1023 := by
    have : p2 490 = 1099511627776 * p2 450 := by rw [show (490 : Int) = ((40 : Nat) : Int) + 450 by omega, p2_add, p2_nat]; rfl
    rw [← this]; exact p2_mono (by omega)
  have hk := split_const
  have lim : ∀ q : Rat, q ≤ 549755813888 * p2 450 → -q ≤ 549755813888 * p2 450 → Lim q := fun q h1 h2 => ⟨by grind, by grind⟩
  generalize p2 450 = c0 at *
  obtain ⟨c, s0, fc, lc, rc⟩ := mul_bits fk fa_ (by rw [hk]; exact lim _ (by grind) (by grind))
  rw [hk] at rc
  have bc := rc.rn.twice (c := 134217729 * c0) (by grind) (by grind)
  obtain ⟨d, s1, fd, ld, rd⟩ := sub_bits fc fa_ (lim _ (by grind) (by grind))
  have bd := rd.rn.twice (c := 268435459 * c0) (by grind) (by grind)
  obtain ⟨x, s2, fx, lx, rx⟩ := sub_bits fc fd (lim _ (by grind) (by grind))
  have bx := rx.rn.twice (c := 805306376 * c0) (by grind) (by grind)
  obtain ⟨y, s3, fy, ly, ry⟩ := sub_bits fa_ fx (lim _ (by grind) (by grind))
  have bY := ry.rn.twice (c := 1610612753 * c0) (by grind) (by grind)
  refine ⟨c, d, x, y, ⟨s0, s1, s2, s3⟩, fx, fy, lx, ly, ⟨by grind, by grind⟩, ⟨by grind, by grind⟩, ?_⟩
  rcases h with h | h
  · left
    have a0 : fval a = 0 := fval_zero_iff.2 h
    have e1 := rc.rn.exact (by rw [a0, show (134217729 : Rat) * 0 = 0 by grind]; exact F_zero)
    rw [a0, show (134217729 : Rat) * 0 = 0 by grind] at e1
    have e2 := rd.rn.exact (by rw [a0, e1, show (0 : Rat) - 0 = 0 by grind]; exact F_zero)
    rw [a0, e1, show (0 : Rat) - 0 = 0 by grind] at e2
    have e3 := rx.rn.exact (by rw [e2, e1, show (0 : Rat) - 0 = 0 by grind]; exact F_zero)
    rw [e2, e1, show (0 : Rat) - 0 = 0 by grind] at e3
    have e4 := ry.rn.exact (by rw [a0, e3, show (0 : Rat) - 0 = 0 by grind]; exact F_zero)
    rw [a0, e3, show (0 : Rat) - 0 = 0 by grind] at e4
    exact ⟨a0, e3, e4⟩
  · right
    refine ⟨by omega, ?_⟩
    obtain ⟨m, hc, hm⟩ := fc_norm (b := a) (by omega)
    exact halves_nh hc hm rc.rn rd.rn rx.rn ry.rn

theorem U_mul (S1 S2 R : Nat) (h : S1 + S2 = R + 1074) : U S1 * U S2 = U R := by
  unfold U
  rw [← p2_add]; congr 1; omega

set_option maxHeartbeats 1000000 in
theorem prod_words {a b : Nat} (ha : SafeW (frung a)) (hb : SafeW (frung b)) :
    ∃ x a1 a2 b1 b2 p1 l1 q2 l2 p3 l3 p4 y c d c' d', Halves a c d a1 a2 ∧ Halves b c' d' b1 b2 ∧ TwoProd a b x a1 a2 b1 b2 p1 l1 q2 l2 p3 l3 p4 y ∧ Fin64 x ∧ Fin64 y ∧ x < 18446744073709551616 ∧ y < 18446744073709551616 ∧ RV (fval a * fval b) (fval x) ∧ fval x + fval y = fval a * fval b := by
  have fa_ : Fin64 a := by unfold Fin64; unfold SafeW at ha; omega
  have fb_ : Fin64 b := by unfold Fin64; unfold SafeW at hb; omega
  have ba := safe_bound ha
  have bb := safe_bound hb
  obtain ⟨c, d, a1, a2, H1, f1, f2, _, _, u1, u2, n1⟩ := halves_words ha
  obtain ⟨c', d', b1, b2, H2, g1, g2, _, _, v1, v2, n2⟩ := halves_words hb
  have he := p2_pos 450
  have ht : 1208925819614629174706176 * (p2 450 * p2 450) ≤ p2 1023 := by
    rw [← p2_add]
    have : p2 980 = 1208925819614629174706176 * p2 (450 + 450) := by rw [show (980 : Int) = ((80 : Nat) : Int) + (450 + 450) by omega, p2_add, p2_nat]; rfl
    rw [← this]; exact p2_mono (by omega)
  have hg : 0 < p2 450 * p2 450 := Rat.mul_pos he he
  have bnd : ∀ {s t : Rat}, s < 4294967296 * p2 450 → -(4294967296 * p2 450) < s → t < 4294967296 * p2 450 → -(4294967296 * p2 450) < t → s * t ≤ 18446744073709551616 * (p2 450 * p2 450) ∧ -(s * t) ≤ 18446744073709551616 * (p2 450 * p2 450) := by
    intro s t h1 h2 h3 h4
    have := abs_mul_lt h2 h1 h4 h3
    rw [show 4294967296 * p2 450 * (4294967296 * p2 450) = 18446744073709551616 * (p2 450 * p2 450) by grind] at this
    constructor <;> grind
  have w0 := bnd (s := fval a) (t := fval b) (by grind) (by grind) (by grind) (by grind)
  have w1 := bnd u1.1 u1.2 v1.1 v1.2
  have w2 := bnd u2.1 u2.2 v1.1 v1.2
  have w3 := bnd u1.1 u1.2 v2.1 v2.2
  have w4 := bnd u2.1 u2.2 v2.1 v2.2
  have lim : ∀ q : Rat, q ≤ 604462909807314587353088 * (p2 450 * p2 450) → -q ≤ 604462909807314587353088 * (p2 450 * p2 450) → Lim q := fun q h1 h2 => ⟨by grind, by grind⟩
  clear bnd ba bb u1 u2 v1 v2 ht he
  generalize p2 450 * p2 450 = g at *
  obtain ⟨x, s0, fx, lx, rx⟩ := mul_bits fa_ fb_ (lim _ (by grind) (by grind))
  have bx := rx.rn.twice (c := 18446744073709551616 * g) (by grind) (by grind)
  obtain ⟨p1, s1, fp1, _, r1⟩ := mul_bits f1 g1 (lim _ (by grind) (by grind))
  have k1 := r1.rn.twice (c := 18446744073709551616 * g) (by grind) (by grind)
  obtain ⟨l1, s2, fl1, _, r2⟩ := sub_bits fx fp1 (lim _ (by grind) (by grind))
  have k2 := r2.rn.twice (c := 73786976294838206464 * g) (by grind) (by grind)
  obtain ⟨q2, s3, fq2, _, r3⟩ := mul_bits f2 g1 (lim _ (by grind) (by grind))
  have k3 := r3.rn.twice (c := 18446744073709551616 * g) (by grind) (by grind)
  obtain ⟨l2, s4, fl2, _, r4⟩ := sub_bits fl1 fq2 (lim _ (by grind) (by grind))
  have k4 := r4.rn.twice (c := 295147905179352825856 * g) (by grind) (by grind)
  obtain ⟨p3, s5, fp3, _, r5⟩ := mul_bits f1 g2 (lim _ (by grind) (by grind))
  have k5 := r5.rn.twice (c := 18446744073709551616 * g) (by grind) (by grind)
  obtain ⟨l3, s6, fl3, _, r6⟩ := sub_bits fl2 fp3 (lim _ (by grind) (by grind))
  have k6 := r6.rn.twice (c := 1180591620717411303424 * g) (by grind) (by grind)
  obtain ⟨p4, s7, fp4, _, r7⟩ := mul_bits f2 g2 (lim _ (by grind) (by grind))
  have k7 := r7.rn.twice (c := 18446744073709551616 * g) (by grind) (by grind)
  obtain ⟨y, s8, fy, ly, r8⟩ := sub_bits fp4 fl3 (lim _ (by grind) (by grind))
  refine ⟨x, a1, a2, b1, b2, p1, l1, q2, l2, p3, l3, p4, y, c, d, c', d', H1, H2, ⟨s0, s1, s2, s3, s4, s5, s6, s7, s8⟩, fx, fy, lx, ly, rx, ?_⟩
  have zero : fval a * fval b = 0 → fval a1 * fval b1 = 0 → fval a2 * fval b1 = 0 → fval a1 * fval b2 = 0 → fval a2 * fval b2 = 0 → fval x + fval y = fval a * fval b := by
    intro z0 z1 z2 z3 z4
    rw [z0] at rx
    rw [z1] at r1
    rw [z2] at r3
    rw [z3] at r5
    rw [z4] at r7
    have o : (0 : Rat) - 0 = 0 := by grind
    have ex := rx.rn.exact F_zero
    have e1 := r1.rn.exact F_zero
    rw [ex, e1, o] at r2
    have e2 := r2.rn.exact F_zero
    have e3 := r3.rn.exact F_zero
    rw [e2, e3, o] at r4
    have e4 := r4.rn.exact F_zero
    have e5 := r5.rn.exact F_zero
    rw [e4, e5, o] at r6
    have e6 := r6.rn.exact F_zero
    have e7 := r7.rn.exact F_zero
    rw [e7, e6, o] at r8
    have e8 := r8.rn.exact F_zero
    rw [ex, e8, z0]; grind
  rcases n1 with ⟨z, z1, z2⟩ | ⟨i1, X1, Y1, N1⟩
  · exact zero (by rw [z]; grind) (by rw [z1]; grind) (by rw [z2]; grind) (by rw [z1]; grind) (by rw [z2]; grind)
  · rcases n2 with ⟨z, z1, z2⟩ | ⟨i2, X2, Y2, N2⟩
    · exact zero (by rw [z]; grind) (by rw [z1]; grind) (by rw [z1]; grind) (by rw [z2]; grind) (by rw [z2]; grind)
    · exact twoProd_core N1 N2 (U_mul _ _ (frung a / 4503599627370496 - 1 + (frung b / 4503599627370496 - 1) - 1074) (by omega)) rx.rn r1.rn r2.rn r3.rn r4.rn r5.rn r6.rn r7.rn r8.rn

end Go.Proofs.YtmcllgoeldfgmaaDoor

/- awake: the examples. -/
namespace Go.Proofs.YtmcllgoeldfgmaaDoor
open Go.RowKit

theorem ex1 : TwoSum 4845873199050653696 4607182418800017408 4845873199050653696 0 4845873199050653696 4607182418800017408 0 4607182418800017408 := ⟨by decide +kernel, by decide +kernel, by decide +kernel, by decide +kernel, by decide +kernel, by decide +kernel⟩
theorem ex2 : TwoSum 4845873199050653697 4607182418800017408 4845873199050653698 4611686018427387904 4845873199050653697 13830554455654793216 0 13830554455654793216 := ⟨by decide +kernel, by decide +kernel, by decide +kernel, by decide +kernel, by decide +kernel, by decide +kernel⟩
theorem ex3 : TwoSum 4607182418800017408 13826050856027422720 4602678819172646912 13826050856027422720 4607182418800017408 0 0 0 := ⟨by decide +kernel, by decide +kernel, by decide +kernel, by decide +kernel, by decide +kernel, by decide +kernel⟩
theorem ex4 : Halves 4728779608772575232 4850376798745133056 4850376798711578624 4728779608739020800 4607182418800017408 := ⟨by decide +kernel, by decide +kernel, by decide +kernel, by decide +kernel⟩
theorem ex5 : TwoProd 4728779608772575232 4728779608772575232 4850376798745133056 4728779608739020800 4607182418800017408 4728779608739020800 4607182418800017408 4850376798678024192 4733283208366391296 4728779608739020800 4728779608739020800 4728779608739020800 0 4607182418800017408 4607182418800017408 := ⟨by decide +kernel, by decide +kernel, by decide +kernel, by decide +kernel, by decide +kernel, by decide +kernel, by decide +kernel, by decide +kernel, by decide +kernel⟩
theorem ex3' : TwoSum 4607182418800017408 (fflip 4602678819172646912) 4602678819172646912 13826050856027422720 4607182418800017408 0 0 0 := ex3

end Go.Proofs.YtmcllgoeldfgmaaDoor

/- What Sum, Diff and Prod answer, and what follows of it. -/
namespace Go.Proofs.YtmcllgoeldfgmaaDoor
open Go.RowKit

/-- A number's float and what was rounded off, if that is promised; else 0, 0. -/
def Pair (dom : Prop) (q : Rat) (x y : Nat) : Prop :=
  Fin64 x ∧ Fin64 y ∧ x < 18446744073709551616 ∧ y < 18446744073709551616 ∧ ((dom ∧ RV q (fval x) ∧ fval x + fval y = q) ∨ (¬ dom ∧ x = 0 ∧ y = 0))

theorem pair_zero {dom : Prop} {q : Rat} (h : ¬ dom) : Pair dom q 0 0 := ⟨fin_zero, fin_zero, by omega, by omega, Or.inr ⟨h, rfl, rfl⟩⟩

theorem flip_lt {a : Nat} (h : a < 18446744073709551616) : fflip a < 18446744073709551616 := by unfold fflip; split <;> omega
theorem frung_flip {a : Nat} (h : a < 18446744073709551616) : frung (fflip a) = frung a := by unfold fflip frung; split <;> omega
theorem fval_flip {a : Nat} (h : a < 18446744073709551616) (hf : Fin64 a) : fval (fflip a) = -fval a := by
  unfold Fin64 frung at hf
  unfold fflip
  split
  · rename_i hs
    rw [Nat.add_comm]; exact fval_word (by omega)
  · rename_i hs
    obtain ⟨r, rfl⟩ : ∃ r, a = 9223372036854775808 + r := ⟨a - 9223372036854775808, by omega⟩
    rw [fval_word (by omega), show 9223372036854775808 + r - 9223372036854775808 = r by omega]; grind

theorem order_same {x v : Nat} (hx : Fin64 x) (hv : Fin64 v) (h : fval x = fval v) : (FloatKind.f64.format.order x v == some .eq) = true := by
  show (Ieee.double.order x v == some .eq) = true
  rw [order_fin hx hv, h, if_neg Rat.lt_irrefl, if_pos rfl]; rfl

theorem pair_rest {dom : Prop} {q : Rat} {x y : Nat} (h : Pair dom q x y) (hL : dom → Lim q) : ∃ s, floatBits .add .f64 x y = some s ∧ (FloatKind.f64.format.order s x == some .eq) = true := by
  obtain ⟨fx, fy, _, _, h⟩ := h
  rcases h with ⟨hd, hv, he⟩ | ⟨_, rfl, rfl⟩
  · obtain ⟨s, hs, fs, _, hr⟩ := add_bits fx fy (by rw [he]; exact hL hd)
    rw [he] at hr
    exact ⟨s, hs, order_same fs fx (hr.fn hv)⟩
  · exact ⟨0, by decide +kernel, by decide +kernel⟩

theorem pair_eq {dom dom' : Prop} {q q' : Rat} {x y v w : Nat} (h : Pair dom q x y) (h' : Pair dom' q' v w) (hd : dom ↔ dom') (hq : dom → q = q') :
    (FloatKind.f64.format.order x v == some .eq) = true ∧ (FloatKind.f64.format.order y w == some .eq) = true := by
  obtain ⟨fx, fy, _, _, h⟩ := h
  obtain ⟨fv, fw, _, _, h'⟩ := h'
  rcases h with ⟨d, hv, he⟩ | ⟨d, rfl, rfl⟩ <;> rcases h' with ⟨d', hv', he'⟩ | ⟨d', rfl, rfl⟩
  · have e := hq d
    subst e
    have e1 := hv.fn hv'
    exact ⟨order_same fx fv e1, order_same fy fw (by grind)⟩
  · exact absurd (hd.1 d) d'
  · exact absurd (hd.2 d') d
  · exact ⟨order_same fx fv rfl, order_same fy fw rfl⟩

theorem pair_neg {dom dom' : Prop} {q q' : Rat} {x y v w : Nat} (h : Pair dom q x y) (h' : Pair dom' q' v w) (hd : dom ↔ dom') (hq : dom → q' = -q) :
    (FloatKind.f64.format.order v (fflip x) == some .eq) = true ∧ (FloatKind.f64.format.order w (fflip y) == some .eq) = true := by
  obtain ⟨fx, fy, lx, ly, h⟩ := h
  obtain ⟨fv, fw, _, _, h'⟩ := h'
  have gx : Fin64 (fflip x) := by unfold Fin64; rw [frung_flip lx]; exact fx
  have gy : Fin64 (fflip y) := by unfold Fin64; rw [frung_flip ly]; exact fy
  have vx := fval_flip lx fx
  have vy := fval_flip ly fy
  rcases h with ⟨d, hv, he⟩ | ⟨d, rfl, rfl⟩ <;> rcases h' with ⟨d', hv', he'⟩ | ⟨d', rfl, rfl⟩
  · have e := hq d
    subst e
    have e1 := hv.neg.fn hv'
    exact ⟨order_same fv gx (by rw [vx]; grind), order_same fw gy (by rw [vy]; grind)⟩
  · exact absurd (hd.1 d) d'
  · exact absurd (hd.2 d') d
  · rw [fval_zero] at vx
    have z : (0 : Rat) = -0 := by grind
    exact ⟨order_same fv gx (by rw [vx, fval_zero]; exact z), order_same fw gy (by rw [vx, fval_zero]; exact z)⟩

def TameW (a b : Nat) : Prop := frung a ≤ 9110782046170513408 ∧ frung b ≤ 9110782046170513408
def SafeP (a b : Nat) : Prop := SafeW (frung a) ∧ SafeW (frung b)

theorem sum_pair (a b : Nat) (w : World) (ha : a < 18446744073709551616) (hb : b < 18446744073709551616) :
    Calls Tryd.prog 96 #[.float .f64 a, .float .f64 b] w fun e w' => (∃ x y, e = .returned (.tuple #[.float .f64 x, .float .f64 y]) ∧ Pair (TameW a b) (fval a + fval b) x y) ∧ Below w.heap.size w w' := by
  by_cases h : TameW a b
  · obtain ⟨x, fb, fa, lb, la, y, hs, fx, fy, lx, ly, hv, he⟩ := twoSum_words h.1 h.2
    refine (sum_yes a b x fb fa lb la y w ha hb h.1 h.2 hs).mono ?_
    rintro e w' ⟨rfl, hbel⟩
    exact ⟨⟨x, y, rfl, fx, fy, lx, ly, Or.inl ⟨h, hv, he⟩⟩, hbel⟩
  · refine (sum_no a b w ha hb h).mono ?_
    rintro e w' ⟨rfl, hbel⟩
    exact ⟨⟨0, 0, rfl, pair_zero h⟩, hbel⟩

theorem prod_pair (a b : Nat) (w : World) (ha : a < 18446744073709551616) (hb : b < 18446744073709551616) :
    Calls Tryd.prog 99 #[.float .f64 a, .float .f64 b] w fun e w' => (∃ x y, e = .returned (.tuple #[.float .f64 x, .float .f64 y]) ∧ Pair (SafeP a b) (fval a * fval b) x y) ∧ Below w.heap.size w w' := by
  by_cases h : SafeP a b
  · obtain ⟨x, a1, a2, b1, b2, p1, l1, q2, l2, p3, l3, p4, y, c, d, c', d', H1, H2, hs, fx, fy, lx, ly, hv, he⟩ := prod_words h.1 h.2
    refine (prod_yes a b x a1 a2 b1 b2 p1 l1 q2 l2 p3 l3 p4 y c d c' d' w ha hb h.1 h.2 H1 H2 hs).mono ?_
    rintro e w' ⟨rfl, hbel⟩
    exact ⟨⟨x, y, rfl, fx, fy, lx, ly, Or.inl ⟨h, hv, he⟩⟩, hbel⟩
  · refine (prod_no a b w ha hb h).mono ?_
    rintro e w' ⟨rfl, hbel⟩
    exact ⟨⟨0, 0, rfl, pair_zero h⟩, hbel⟩

theorem lim_sum {a b : Nat} (h : TameW a b) : Lim (fval a + fval b) ∧ Lim (fval a - fval b) := by
  have b1 := tame_bound h.1
  have b2 := tame_bound h.2
  have hc := p2_pos 1000
  have ht := lim_top
  refine ⟨⟨?_, ?_⟩, ⟨?_, ?_⟩⟩ <;> rw [ht] <;> grind

theorem lim_prod {a b : Nat} (h : SafeP a b) : Lim (fval a * fval b) := by
  have b1 := safe_bound h.1
  have b2 := safe_bound h.2
  have he := p2_pos 450
  have := abs_mul_lt (a := fval a) (b := 2 * p2 450) (c := fval b) (d := 2 * p2 450) (by grind) (by grind) (by grind) (by grind)
  have ht : 2 * p2 450 * (2 * p2 450) ≤ p2 1023 := by
    rw [show 2 * p2 450 * (2 * p2 450) = p2 (1 + 450 + (1 + 450)) by rw [p2_add, p2_add, p2_one]]; exact p2_mono (by omega)
  exact ⟨by grind, by grind⟩


end Go.Proofs.YtmcllgoeldfgmaaDoor

/- The lowest bit of a float, as package expand tells it. -/
namespace Go.Proofs.YtmcllgoeldfgmaaDoor
open Go.RowKit

theorem land_pred (t m : Nat) : (2 ^ t * (2 * m + 1)) &&& (2 ^ t * (2 * m + 1) - 1) = 2 ^ t * (2 * m) := by
  induction t with
  | zero =>
    rw [Nat.pow_zero, Nat.one_mul, Nat.one_mul, show 2 * m + 1 - 1 = 2 * m by omega]
    apply Nat.eq_of_testBit_eq
    intro i
    rw [Nat.testBit_and]
    cases i with
    | zero => simp [Nat.testBit_zero]
    | succ i => rw [Nat.testBit_succ, Nat.testBit_succ, show (2 * m + 1) / 2 = m by omega, show 2 * m / 2 = m by omega]; simp
  | succ t ih =>
    have hp : 0 < 2 ^ t * (2 * m + 1) := Nat.mul_pos (Nat.two_pow_pos t) (by omega)
    have e1 : 2 ^ (t + 1) * (2 * m + 1) = 2 * (2 ^ t * (2 * m + 1)) := by rw [Nat.pow_succ]; grind
    have e2 : 2 ^ (t + 1) * (2 * m) = 2 * (2 ^ t * (2 * m)) := by rw [Nat.pow_succ]; grind
    rw [e1, e2, ← ih]
    generalize 2 ^ t * (2 * m + 1) = a at *
    apply Nat.eq_of_testBit_eq
    intro i
    rw [Nat.testBit_and]
    cases i with
    | zero => simp [Nat.testBit_zero]
    | succ i => rw [Nat.testBit_succ, Nat.testBit_succ, Nat.testBit_succ, show 2 * a / 2 = a by omega, show (2 * a - 1) / 2 = a - 1 by omega, show 2 * (a &&& (a - 1)) / 2 = a &&& (a - 1) by omega, Nat.testBit_and]
theorem low_bit {n : Nat} (h : n ≠ 0) : ∃ t m, n = 2 ^ t * (2 * m + 1) := by
  induction n using Nat.strongRecOn with
  | ind n ih =>
    by_cases ho : n % 2 = 1
    · exact ⟨0, n / 2, by rw [Nat.pow_zero, Nat.one_mul]; omega⟩
    · obtain ⟨t, m, e⟩ := ih (n / 2) (by omega) (by omega)
      exact ⟨t + 1, m, by rw [Nat.pow_succ]; have : n = 2 * (n / 2) := by omega
                          rw [this, e]; grind⟩

/-- What lies in a word: its lowest bit among the bits of the fraction. -/
theorem frac_bit {b : Nat} (hf : b % 4503599627370496 ≠ 0) : ∃ t m, t < 52 ∧ b = 2 ^ t * (2 * m + 1) ∧ b % 4503599627370496 = 2 ^ t * ((2 * m + 1) % 2 ^ (52 - t)) ∧ 2 ^ t ≤ b % 4503599627370496 := by
  obtain ⟨t, m, e⟩ := low_bit (n := b) (by omega)
  have ht : t < 52 := by
    rcases Nat.lt_or_ge t 52 with h | h
    · exact h
    · exfalso
      obtain ⟨j, rfl⟩ : ∃ j, t = 52 + j := ⟨t - 52, by omega⟩
      rw [Nat.pow_add, show (2 : Nat) ^ 52 = 4503599627370496 from rfl, Nat.mul_assoc] at e
      rw [e, Nat.mul_mod_right] at hf
      exact hf rfl
  have e52 : 4503599627370496 = 2 ^ t * 2 ^ (52 - t) := by rw [← Nat.pow_add, show t + (52 - t) = 52 by omega]
  have em : b % 4503599627370496 = 2 ^ t * ((2 * m + 1) % 2 ^ (52 - t)) := by
    rw [e52, e, Nat.mul_mod_mul_left]
  refine ⟨t, m, ht, e, em, ?_⟩
  rw [em]
  have : (2 * m + 1) % 2 ^ (52 - t) ≠ 0 := by
    intro h0
    rw [em, h0] at hf
    exact hf (by simp)
  have := Nat.mul_le_mul_left (2 ^ t) (Nat.pos_of_ne_zero this)
  omega

theorem frung_cut {b t : Nat} (h : 2 ^ t ≤ b % 4503599627370496) : frung (b - 2 ^ t) = frung b - 2 ^ t ∧ fneg (b - 2 ^ t) = fneg b ∧ fpl (frung b - 2 ^ t) = fpl (frung b) ∧ fmag (frung b - 2 ^ t) = fmag (frung b) - 2 ^ t ∧ 2 ^ t ≤ fmag (frung b) := by
  generalize 2 ^ t = x at *
  unfold frung fneg fpl fmag
  refine ⟨by omega, ?_, ?_, ?_, ?_⟩
  · rw [show (b - x) / 9223372036854775808 = b / 9223372036854775808 by omega]
  · split <;> split <;> omega
  · split <;> split <;> omega
  · split <;> omega

/-- l is the lowest bit of the float b. -/
def LB (b l : Nat) : Prop := l < 9218868437227405312 ∧ ((frung b = 0 ∧ l = 0) ∨ (frung b ≠ 0 ∧ ∃ (L : Nat) (m : Int), fval l = U L ∧ fval b = (m : Rat) * U L ∧ m % 2 = 1))

theorem sgn_odd {b : Nat} {m : Nat} {L : Nat} (h : ((fmag (frung b) : Nat) : Rat) * p2 (fpl (frung b)) = ((2 * m + 1 : Nat) : Rat) * U L) : ∃ k : Int, fval b = (k : Rat) * U L ∧ k % 2 = 1 := by
  rw [fval_eq, h]
  unfold sgn1
  cases fneg b
  · exact ⟨(2 * m + 1 : Nat), by rw [if_neg (by decide)]; show 1 * (((2 * m + 1 : Nat) : Rat) * U L) = ((2 * m + 1 : Nat) : Rat) * U L; grind, by omega⟩
  · refine ⟨-((2 * m + 1 : Nat) : Int), ?_, by omega⟩
    rw [if_pos rfl, Rat.intCast_neg]
    show -1 * (((2 * m + 1 : Nat) : Rat) * U L) = -((2 * m + 1 : Nat) : Rat) * U L
    grind
theorem fpl_U (r : Nat) : ∃ P : Nat, p2 (fpl r) = U P := by
  refine ⟨(fpl r + 1074).toNat, ?_⟩
  unfold U
  rw [show (((fpl r + 1074).toNat : Nat) : Int) - 1074 = fpl r by unfold fpl; split <;> omega]

set_option maxHeartbeats 1000000 in
theorem lowest_pow (b : Nat) (w : World) (hb : b < 18446744073709551616) (h0 : b % 4503599627370496 = 0) : Calls Tryd.prog 100 #[.float .f64 b] w fun e w' => e = .returned (.float .f64 (frung b)) ∧ w' = w := by
  have r1 := run_bits b
  have h1 : bits .and .u64 (b : Int) 4503599627370495 = 0 := by
    rw [show (4503599627370495 : Int) = ((4503599627370495 : Nat) : Int) from rfl, u64_and_nat b _ hb (by omega), show (4503599627370495 : Nat) = 2 ^ 52 - 1 by decide, Nat.and_two_pow_sub_one_eq_mod, show (2 : Nat) ^ 52 = 4503599627370496 from rfl, h0]; rfl
  have HA : Hid (∀ w, Calls Tryd.prog 37 #[.float .f64 b] w fun e w' => e = .returned (.float .f64 (frung b)) ∧ w' = w) := fun w => abs_any b w hb
  clear h0 hb
  go_enter Tryd.func100, Tryd.ntmps100
  go_wp2_with fail
  refine (HA.out _).mono ?_
  rintro e w1 ⟨rfl, rfl⟩
  go_wp2
  go_ret
  exact ⟨rfl, rfl⟩
set_option maxHeartbeats 1000000 in
theorem lowest_frac (b c d : Nat) (w : World) (hb : b < 18446744073709551616) (h0 : b % 4503599627370496 ≠ 0) (hc : b &&& (b - 1) = c) (hd : floatBits .sub .f64 b c = some d) (hdl : d < 18446744073709551616) : Calls Tryd.prog 100 #[.float .f64 b] w fun e w' => e = .returned (.float .f64 (frung d)) ∧ w' = w := by
  have r1 := run_bits b
  have r2 := run_frombits c
  have h1 : (bits .and .u64 (b : Int) 4503599627370495 == 0) = false := by
    rw [show (4503599627370495 : Int) = ((4503599627370495 : Nat) : Int) from rfl, u64_and_nat b _ hb (by omega), show (4503599627370495 : Nat) = 2 ^ 52 - 1 by decide, Nat.and_two_pow_sub_one_eq_mod, show (2 : Nat) ^ 52 = 4503599627370496 from rfl]
    rw [beq_eq_false_iff_ne]; omega
  have hb1 : (1 : Int) ≤ (b : Int) := by omega
  have hbl : (b : Int) < 18446744073709551616 := by omega
  have h2 : bits .and .u64 (b : Int) ((b : Int) - 1) = (c : Int) := by
    rw [show (b : Int) - 1 = ((b - 1 : Nat) : Int) by omega, u64_and_nat b _ hb (by omega), hc]
  have rs : ∀ w, (binOp .sub 31 (.float .f64 b) (.float .f64 c)).run Tryd.prog w = .ok (.float .f64 d) w := fun w => run_float_arith w .sub _ .f64 _ _ _ hd
  have HA : Hid (∀ w, Calls Tryd.prog 37 #[.float .f64 d] w fun e w' => e = .returned (.float .f64 (frung d)) ∧ w' = w) := fun w => abs_any d w hdl
  clear h0 hb hc hd hdl
  go_enter Tryd.func100, Tryd.ntmps100
  go_wp2_with fail
  refine (HA.out _).mono ?_
  rintro e w1 ⟨rfl, rfl⟩
  go_wp2
  go_ret
  exact ⟨rfl, rfl⟩

theorem lowestE_any (b : Nat) (w : World) (hb : b < 18446744073709551616) (hf : Fin64 b) : Calls Tryd.prog 100 #[.float .f64 b] w fun e w' => (∃ l, e = .returned (.float .f64 l) ∧ LB b l) ∧ w' = w := by
  have hfr : frung b < 9218868437227405312 := hf
  by_cases h0 : b % 4503599627370496 = 0
  · refine (lowest_pow b w hb h0).mono ?_
    rintro e w' ⟨rfl, rfl⟩
    refine ⟨⟨_, rfl, hfr, ?_⟩, rfl⟩
    by_cases hz : frung b = 0
    · exact Or.inl ⟨hz, hz⟩
    · right
      refine ⟨hz, ?_⟩
      have hm : fmag (frung b) = 4503599627370496 := by unfold fmag; unfold frung at *; split <;> omega
      obtain ⟨P, hP⟩ := fpl_U (frung b)
      have e1 : ((fmag (frung b) : Nat) : Rat) * p2 (fpl (frung b)) = U (P + 52) := by rw [hP, hm, U_52]; rfl
      have hv : fval (frung b) = U (P + 52) := by rw [(fval_pos_lt hfr).1]; exact e1
      obtain ⟨k, hk1, hk2⟩ := sgn_odd (b := b) (m := 0) (L := P + 52) (by rw [e1, show ((2 * 0 + 1 : Nat) : Rat) = 1 from rfl]; grind)
      exact ⟨P + 52, k, hv, hk1, hk2⟩
  · obtain ⟨t, m, ht, e1, e2, e3⟩ := frac_bit h0
    have hc : b &&& (b - 1) = b - 2 ^ t := by
      conv => lhs; rw [e1]
      rw [land_pred, e1]
      have : 2 ^ t * (2 * m + 1) = 2 ^ t * (2 * m) + 2 ^ t := by grind
      omega
    obtain ⟨c1, c2, c3, c4, c5⟩ := frung_cut e3
    obtain ⟨P, hP⟩ := fpl_U (frung b)
    have hle : 2 ^ t ≤ frung b := by unfold frung; omega
    have fc : Fin64 (b - 2 ^ t) := by unfold Fin64; rw [c1]; exact Nat.lt_of_le_of_lt (Nat.sub_le _ _) hfr
    have hd : fval b - fval (b - 2 ^ t) = sgn1 (fneg b) * U (P + t) := by
      have e5 : ((fmag (frung b) : Nat) : Rat) = ((fmag (frung b) - 2 ^ t : Nat) : Rat) + ((2 ^ t : Nat) : Rat) := by rw [← Rat.natCast_add, Nat.sub_add_cancel c5]
      rw [fval_eq b, fval_eq (b - 2 ^ t), c1, c2, c3, c4, hP, U_add, e5]
      grind
    have hF : F (fval b - fval (b - 2 ^ t)) := by
      rw [hd]
      unfold sgn1
      cases fneg b
      · exact ⟨P + t, 1, by rw [if_neg (by decide), one_rat], by omega, by omega⟩
      · exact ⟨P + t, -1, by rw [if_pos rfl]; rfl, by omega, by omega⟩
    have hlim : Lim (fval b - fval (b - 2 ^ t)) := by
      rw [hd]
      have hPb : P + t ≤ 2096 := by
        have h1 : p2 (fpl (frung b)) = U P := hP
        unfold U at h1
        have h2 : fpl (frung b) = (P : Int) - 1074 := by
          have a := (p2_le_iff (a := fpl (frung b)) (b := (P : Int) - 1074)).1 (by rw [h1]; exact Rat.le_refl)
          have b := (p2_le_iff (b := fpl (frung b)) (a := (P : Int) - 1074)).1 (by rw [h1]; exact Rat.le_refl)
          omega
        unfold fpl at h2
        split at h2 <;> omega
      have h1 : U (P + t) < p2 1023 := by unfold U; exact p2_lt (by omega)
      have h2 := U_pos (P + t)
      unfold sgn1
      cases fneg b
      · rw [if_neg (by decide)]; exact ⟨by grind, by grind⟩
      · rw [if_pos rfl]; exact ⟨by grind, by grind⟩
    obtain ⟨d, d1, d2, d3, d4⟩ := sub_bits hf fc hlim
    have dv : fval d = sgn1 (fneg b) * U (P + t) := by rw [← hd]; exact d4.rn.exact hF
    refine (lowest_frac b (b - 2 ^ t) d w hb h0 hc d1 d3).mono ?_
    rintro e w' ⟨rfl, rfl⟩
    refine ⟨⟨_, rfl, d2, Or.inr ⟨by unfold frung; omega, ?_⟩⟩, rfl⟩
    have hv : fval (frung d) = U (P + t) := by
      have h1 := fval_nonneg (r := frung d) d2
      have h2 := U_pos (P + t)
      have hs : sgn1 (fneg b) = 1 ∨ sgn1 (fneg b) = -1 := by unfold sgn1; split <;> simp
      rcases fval_abs d with e | e <;> rcases hs with hs | hs <;> rw [hs] at dv <;> grind
    have hodd : ∃ j, fmag (frung b) = 2 ^ t * (2 * j + 1) := by
      have hfm : fmag (frung b) = b % 4503599627370496 ∨ fmag (frung b) = 4503599627370496 + b % 4503599627370496 := by
        unfold fmag frung; split <;> omega
      have e52 : 4503599627370496 = 2 ^ t * (2 * 2 ^ (51 - t)) := by rw [← Nat.pow_succ', ← Nat.pow_add, show t + (51 - t).succ = 52 by omega]
      have hmod : ∃ j, (2 * m + 1) % 2 ^ (52 - t) = 2 * j + 1 := by
        refine ⟨(2 * m + 1) % 2 ^ (52 - t) / 2, ?_⟩
        have : (2 * m + 1) % 2 ^ (52 - t) % 2 = 1 := by
          rw [Nat.mod_mod_of_dvd _ (by rw [show 52 - t = (51 - t) + 1 by omega, Nat.pow_succ]; exact Nat.dvd_mul_left _ _)]; omega
        omega
      obtain ⟨j, hj⟩ := hmod
      rcases hfm with h | h
      · exact ⟨j, by rw [h, e2, hj]⟩
      · exact ⟨2 ^ (51 - t) + j, by rw [h, e2, hj, e52]; grind⟩
    obtain ⟨j, hj⟩ := hodd
    obtain ⟨k, hk1, hk2⟩ := sgn_odd (b := b) (m := j) (L := P + t) (by rw [hj, hP, U_add, Rat.natCast_mul]; grind)
    exact ⟨P + t, k, hv, hk1, hk2⟩

end Go.Proofs.YtmcllgoeldfgmaaDoor

/- How many bits a float has; that two numbers are the same. -/
namespace Go.Proofs.YtmcllgoeldfgmaaDoor
open Go.RowKit
attribute [local go_sem ↓] Go.wp_at_zero Go.wp_at_succ

theorem run_store_float (P : Program) (w : World) (a : Addr) (m : Mode) (k : FloatKind) (b : Nat) : (store a (.float k b) m).run P w = stored P w a (.float k b) m := run_store P w a _ m rfl
theorem cmp_same (v1 v2 : Value) (q1 q2 : Rat) (w : World) (h1 : Rf w v1 q1) (h2 : Rf w v2 q2) (b1 : Fit q1) (b2 : Fit q2) (hq : q1 = q2) : Calls Tryd.prog 34 #[v1, v2] w fun e w' => e = .returned (.int .i64 0) ∧ Below w.heap.size w w' := by
  have h := cmp_rf v1 v2 q1 q2 w h1 h2 b1 b2
  have e : sgq (q1 - q2) = 0 := by unfold sgq; rw [if_neg (by grind), if_pos (by grind)]
  rwa [e] at h

theorem keepN3 {w W W' : World} {p1 p2 p3 : Addr} {x1 x2 x3 : Value} (h : W.cell? p1 = some x1 ∧ W.cell? p2 = some x2 ∧ W.cell? p3 = some x3 ∧ Below w.heap.size w W) (hb : Below W.heap.size W W') : W'.cell? p1 = some x1 ∧ W'.cell? p2 = some x2 ∧ W'.cell? p3 = some x3 ∧ Below w.heap.size w W' :=
  ⟨box_cell hb h.1, box_cell hb h.2.1, box_cell hb h.2.2.1, h.2.2.2.trans (hb.mono h.2.2.2.size)⟩
theorem keepN2 {w W W' : World} {p1 p2 : Addr} {x1 x2 : Value} (h : W.cell? p1 = some x1 ∧ W.cell? p2 = some x2 ∧ Below w.heap.size w W) (hb : Below W.heap.size W W') : W'.cell? p1 = some x1 ∧ W'.cell? p2 = some x2 ∧ Below w.heap.size w W' :=
  ⟨box_cell hb h.1, box_cell hb h.2.1, h.2.2.trans (hb.mono h.2.2.size)⟩
theorem den_fin {b : Nat} (h : Fin64 b) : den b = fval b := by unfold den; exact if_pos h
theorem den_Fit (b : Nat) : Fit (den b) := (den_fit b).mono (by omega) (by omega)
theorem Rf.agg {w : World} {v : Value} {q : Rat} (h : Rf w v q) : ∃ S a n c E, v = .agg #[.int .i64 S, .slice a n c, .int .i64 E] := by
  obtain ⟨S, a, n, c, E, h, _⟩ := h.sgn
  exact ⟨S, a, n, c, E, h⟩

theorem low_ge {q : Rat} {l m n s : Int} (hl : q = (m : Rat) * p2 l) (ho : m % 2 = 1) (hq : q = (n : Rat) * p2 s) : s ≤ l := by
  rcases Int.lt_or_le l s with hlt | hle
  · exfalso
    obtain ⟨j, rfl⟩ : ∃ j : Nat, s = l + 1 + (j : Int) := ⟨(s - l - 1).toNat, by omega⟩
    have e : (m : Rat) * p2 l = ((n * ((2 ^ j : Nat) : Int) * 2 : Int) : Rat) * p2 l := by
      rw [← hl, hq, show l + 1 + (j : Int) = (j : Int) + (1 + l) by omega, p2_add, p2_add, p2_one, p2_nat, Rat.intCast_mul, Rat.intCast_mul]
      show _ = (n : Rat) * ((2 ^ j : Nat) : Rat) * 2 * p2 l
      grind
    have := int_eq (p2_pos l) e
    omega
  · exact hle
/-- At most 26 bits. -/
theorem few_bits {q : Rat} {l h m n : Int} {s : Int} (hl : q = (m : Rat) * p2 l) (ho : m % 2 = 1) (hh : (p2 h ≤ q ∧ q < p2 (h + 1)) ∨ (p2 h ≤ -q ∧ -q < p2 (h + 1))) (hq : q = (n : Rat) * p2 s) (n1 : -67108864 ≤ n) (n2 : n ≤ 67108864) : h - l + 1 ≤ 26 := by
  have hls : s ≤ l := low_ge hl ho hq
  have hp := p2_pos s
  have e26 : p2 (s + 26) = 67108864 * p2 s := by rw [show s + 26 = ((26 : Nat) : Int) + s by omega, p2_add, p2_nat]; rfl
  have a1 := Rat.mul_le_mul_of_nonneg_right (Rat.intCast_le_intCast.2 n2) (Rat.le_of_lt hp)
  have a2 := Rat.mul_le_mul_of_nonneg_right (Rat.intCast_le_intCast.2 n1) (Rat.le_of_lt hp)
  rw [show ((67108864 : Int) : Rat) = 67108864 from rfl, ← hq] at a1
  rw [show ((-67108864 : Int) : Rat) = -67108864 from rfl, ← hq] at a2
  have hle : p2 h ≤ p2 (s + 26) := by rw [e26]; rcases hh with hh | hh <;> grind
  have hle := p2_le_iff.1 hle
  rcases Int.lt_or_le h (s + 26) with h1 | h1
  · omega
  · have : h = s + 26 := by omega
    subst this
    have hqq : q = p2 (s + 26) ∨ q = -p2 (s + 26) := by rw [e26] at hh ⊢; rcases hh with hh | hh <;> grind
    have hl2 : s + 26 ≤ l := by
      rcases Int.lt_or_le l (s + 26) with hlt | hle
      · exfalso
        obtain ⟨j, hj⟩ : ∃ j : Nat, s + 26 = l + 1 + (j : Int) := ⟨(s + 26 - l - 1).toNat, by omega⟩
        have e0 : p2 (s + 26) = ((((2 ^ j : Nat) : Int) * 2 : Int) : Rat) * p2 l := by
          rw [hj, show l + 1 + (j : Int) = (j : Int) + (1 + l) by omega, p2_add, p2_add, p2_one, p2_nat, Rat.intCast_mul]
          show _ = ((2 ^ j : Nat) : Rat) * 2 * p2 l
          grind
        rcases hqq with e | e
        · rw [hl, e0] at e
          have := int_eq (p2_pos l) e
          omega
        · have e : (m : Rat) * p2 l = ((-(((2 ^ j : Nat) : Int) * 2) : Int) : Rat) * p2 l := by rw [← hl, e, e0, Rat.intCast_neg]; grind
          have := int_eq (p2_pos l) e
          omega
      · exact hle
    omega

end Go.Proofs.YtmcllgoeldfgmaaDoor

/- A number and the floats about the one nearest to it: plain facts. Nextafter. -/
namespace Go.Proofs.YtmcllgoeldfgmaaDoor
open Go.RowKit

theorem near_between {q : Rat} {r : Nat} (h : Near q r) (hq : 0 < q) (hr : r + 1 < 9218868437227405312) :
    2 * q ≤ fval r + fval (r + 1) ∧ (2 * q = fval r + fval (r + 1) → r % 2 = 0) ∧ (r ≠ 0 → fval r + fval (r - 1) ≤ 2 * q ∧ (2 * q = fval r + fval (r - 1) → r % 2 = 0)) := by
  rcases h with ⟨rfl, _⟩ | ⟨_, T, k, hl, hh, e⟩
  · exact absurd hq (by grind)
  · have hb := kept_bounds hl hh
    have e' : r = T * 4503599627370496 + k := by omega
    have hv := fval_rung T k hb.1 hb.2 (by omega)
    have hU := half_unit T
    have hu := p2_pos ((T : Int) - 1075)
    obtain ⟨l1, l2⟩ := hl
    obtain ⟨s1, s2, s3, s4⟩ := hh
    rw [show ((9007199254740992 : Int) : Rat) = 9007199254740992 from rfl] at l1
    have e1 : ((2 * (k : Int) - 1 : Int) : Rat) = 2 * ((k : Nat) : Rat) - 1 := by rw [Rat.intCast_sub, Rat.intCast_mul]; rfl
    have e2 : ((2 * (k : Int) + 1 : Int) : Rat) = 2 * ((k : Nat) : Rat) + 1 := by rw [Rat.intCast_add, Rat.intCast_mul]; rfl
    rw [e1] at s1 s3
    rw [e2] at s2 s4
    rw [e']
    have hpar : (T * 4503599627370496 + k) % 2 = k % 2 := by omega
    rw [hpar, hv]
    refine ⟨?_, ?_, ?_⟩
    · by_cases hk : k < 9007199254740992
      · have hv1 := fval_rung T (k + 1) (by omega) (by omega) (by omega)
        rw [show T * 4503599627370496 + k + 1 = T * 4503599627370496 + (k + 1) by omega, hv1, hU, Rat.natCast_add]
        rw [show ((1 : Nat) : Rat) = 1 from rfl]
        grind
      · have hv1 := fval_rung (T + 1) 4503599627370497 (by omega) (by omega) (by omega)
        rw [show T * 4503599627370496 + k + 1 = (T + 1) * 4503599627370496 + 4503599627370497 by omega, hv1, U_succ, hU]
        obtain rfl : k = 9007199254740992 := by omega
        rw [show ((9007199254740992 : Nat) : Rat) = 9007199254740992 from rfl] at *
        rw [show ((4503599627370497 : Nat) : Rat) = 4503599627370497 from rfl]
        grind
    · intro he
      by_cases hk : k < 9007199254740992
      · have hv1 := fval_rung T (k + 1) (by omega) (by omega) (by omega)
        rw [show T * 4503599627370496 + k + 1 = T * 4503599627370496 + (k + 1) by omega, hv1, hU, Rat.natCast_add] at he
        rw [show ((1 : Nat) : Rat) = 1 from rfl] at he
        exact s4 (by grind)
      · exfalso
        have hv1 := fval_rung (T + 1) 4503599627370497 (by omega) (by omega) (by omega)
        rw [show T * 4503599627370496 + k + 1 = (T + 1) * 4503599627370496 + 4503599627370497 by omega, hv1, U_succ, hU] at he
        obtain rfl : k = 9007199254740992 := by omega
        rw [show ((9007199254740992 : Nat) : Rat) = 9007199254740992 from rfl] at *
        rw [show ((4503599627370497 : Nat) : Rat) = 4503599627370497 from rfl] at he
        grind
    · intro h0
      by_cases hk : T = 0 ∨ 4503599627370497 ≤ k
      · have hk1 : 1 ≤ k := by rcases hk with rfl | hk <;> omega
        obtain ⟨j, rfl⟩ : ∃ j, k = j + 1 := ⟨k - 1, by omega⟩
        have hv1 := fval_rung T j (by omega) (by omega) (by omega)
        rw [show T * 4503599627370496 + (j + 1) - 1 = T * 4503599627370496 + j by omega, hv1, hU]
        rw [Rat.natCast_add, show ((1 : Nat) : Rat) = 1 from rfl] at *
        exact ⟨by grind, fun he => s3 (by grind)⟩
      · obtain ⟨S, rfl⟩ : ∃ S, T = S + 1 := ⟨T - 1, by omega⟩
        obtain rfl : k = 4503599627370496 := by omega
        have hv1 := fval_rung S 9007199254740991 (by omega) (by omega) (by omega)
        rw [show (S + 1) * 4503599627370496 + 4503599627370496 - 1 = S * 4503599627370496 + 9007199254740991 by omega, hv1]
        have hUS : U S = p2 (((S + 1 : Nat) : Int) - 1075) := by unfold U; congr 1; omega
        rw [hU, hUS]
        rw [show ((9007199254740991 : Nat) : Rat) = 9007199254740991 from rfl, show ((4503599627370496 : Nat) : Rat) = 4503599627370496 from rfl]
        rcases l1 with l1 | l1
        · omega
        · exact ⟨by grind, fun he => by grind⟩

theorem isNaN_fin {b : Nat} (h : Fin64 b) (w : World) : Calls Tryd.prog 55 #[.float .f64 b] w fun e w' => e = .returned (.bool false) ∧ w' = w := by
  have := isNaN_any b w
  rwa [show isnan b = false by unfold isnan; exact decide_eq_false (by unfold Fin64 at h; omega)] at this
theorem finMax : Fin64 9218868437227405311 := by unfold Fin64 frung; decide

theorem next_lt {r : Nat} (h : r < 9218868437227405311) : fval r < fval 9218868437227405311 := fval_lt h (by omega)
theorem pos_fval {r : Nat} (h : r < 9218868437227405312) (h0 : r ≠ 0) : 0 < fval r := by
  have := fval_lt (r := 0) (s := r) (by omega) h
  rwa [fval0] at this
theorem fin_small {r : Nat} (h : r < 9218868437227405312) : Fin64 r := by unfold Fin64 frung; omega

set_option maxHeartbeats 1000000 in
theorem next_up (r : Nat) (w : World) (h : r < 9218868437227405311) (h0 : r ≠ 0) : Calls Tryd.prog 66 #[.float .f64 r, .float .f64 9218868437227405311] w fun e w' => e = .returned (.float .f64 (r + 1)) ∧ w' = w := by
  have f1 := fin_small (r := r) (by omega)
  have p1 := pos_fval (r := r) (by omega) h0
  have l1 := next_lt h
  have o1 : FloatKind.f64.format.order r 9218868437227405311 = some .lt := by rw [order_val f1 finMax, if_pos l1]
  have o2 : FloatKind.f64.format.order r 0 = some .gt := by rw [order_val f1 fin0, fval0, if_neg (by grind), if_neg (by grind)]
  have o3 : FloatKind.f64.format.order 9218868437227405311 r = some .gt := by rw [order_val finMax f1, if_neg (by grind), if_neg (by grind)]
  have HN : Hid (∀ w, Calls Tryd.prog 55 #[.float .f64 r] w fun e w' => e = .returned (.bool false) ∧ w' = w) := isNaN_fin f1
  have HM : Hid (∀ w, Calls Tryd.prog 55 #[.float .f64 9218868437227405311] w fun e w' => e = .returned (.bool false) ∧ w' = w) := isNaN_fin finMax
  have rb := run_bits r
  have rf : ∀ w, (callFunc 58 #[.int .u64 ((r : Int) + 1)]).run Tryd.prog w = .ok (.value (.float .f64 (r + 1))) w := fun w => by have := run_frombits (r + 1) w; simpa using this
  have hri : (r : Int) < 9218868437227405311 := by omega
  clear f1 p1 l1 h h0
  go_enter Tryd.func66, Tryd.ntmps66
  go_wp2_with fail
  refine (HN.out _).mono ?_
  rintro e w1 ⟨rfl, rfl⟩
  go_wp2_with fail
  refine (HM.out _).mono ?_
  rintro e w1 ⟨rfl, rfl⟩
  go_wp2
  go_ret
  exact ⟨by rfl, rfl⟩

set_option maxHeartbeats 1000000 in
theorem next_down (r : Nat) (w : World) (h : r < 9218868437227405311) (h0 : r ≠ 0) : Calls Tryd.prog 66 #[.float .f64 r, .float .f64 0] w fun e w' => e = .returned (.float .f64 (r - 1)) ∧ w' = w := by
  have f1 := fin_small (r := r) (by omega)
  have p1 := pos_fval (r := r) (by omega) h0
  have o2 : FloatKind.f64.format.order r 0 = some .gt := by rw [order_val f1 fin0, fval0, if_neg (by grind), if_neg (by grind)]
  have o3 : FloatKind.f64.format.order 0 r = some .lt := by rw [order_val fin0 f1, fval0, if_pos p1]
  have HN : Hid (∀ w, Calls Tryd.prog 55 #[.float .f64 r] w fun e w' => e = .returned (.bool false) ∧ w' = w) := isNaN_fin f1
  have HM : Hid (∀ w, Calls Tryd.prog 55 #[.float .f64 0] w fun e w' => e = .returned (.bool false) ∧ w' = w) := isNaN_fin fin0
  have rb := run_bits r
  have rf : ∀ w, (callFunc 58 #[.int .u64 ((r : Int) - 1)]).run Tryd.prog w = .ok (.value (.float .f64 (r - 1))) w := fun w => by
    have := run_frombits (r - 1) w
    rwa [show (((r - 1 : Nat)) : Int) = (r : Int) - 1 by omega] at this
  have hri : (r : Int) < 9218868437227405311 := by omega
  have hr0 : (1 : Int) ≤ (r : Int) := by omega
  clear f1 p1 h h0
  go_enter Tryd.func66, Tryd.ntmps66
  go_wp2_with fail
  refine (HN.out _).mono ?_
  rintro e w1 ⟨rfl, rfl⟩
  go_wp2_with fail
  refine (HM.out _).mono ?_
  rintro e w1 ⟨rfl, rfl⟩
  go_wp2
  go_ret
  exact ⟨by rfl, rfl⟩

set_option maxHeartbeats 1000000 in
theorem copysign_pos (a b : Nat) (w : World) (h1 : bits .andNot .u64 (a : Int) 9223372036854775808 = (a : Int)) (h2 : bits .and .u64 (b : Int) 9223372036854775808 = 0) (h3 : bits .or .u64 (a : Int) 0 = (a : Int)) : Calls Tryd.prog 90 #[.float .f64 a, .float .f64 b] w fun e w' => e = .returned (.float .f64 a) ∧ w' = w := by
  have r1 := run_bits a
  have r2 := run_bits b
  have r3 := run_frombits a
  go_enter Tryd.func90, Tryd.ntmps90
  go_wp2
  go_ret
  exact ⟨rfl, rfl⟩

set_option maxHeartbeats 1000000 in
theorem next_zero (x : Nat) (w : World) (h : x = 0 ∨ x = 9223372036854775808) : Calls Tryd.prog 66 #[.float .f64 x, .float .f64 9218868437227405311] w fun e w' => e = .returned (.float .f64 1) ∧ w' = w := by
  have f1 : Fin64 x := by unfold Fin64 frung; omega
  have z1 : fval x = 0 := fval_zero_iff.2 (by unfold frung; omega)
  have l1 := next_lt (r := 0) (by omega)
  rw [fval0] at l1
  have o1 : FloatKind.f64.format.order x 9218868437227405311 = some .lt := by rw [order_val f1 finMax, z1, if_pos l1]
  have o2 : FloatKind.f64.format.order x 0 = some .eq := by rw [order_val f1 fin0, fval0, z1, if_neg (by grind), if_pos rfl]
  have HN : Hid (∀ w, Calls Tryd.prog 55 #[.float .f64 x] w fun e w' => e = .returned (.bool false) ∧ w' = w) := isNaN_fin f1
  have HM : Hid (∀ w, Calls Tryd.prog 55 #[.float .f64 9218868437227405311] w fun e w' => e = .returned (.bool false) ∧ w' = w) := isNaN_fin finMax
  have rf : ∀ w, (callFunc 58 #[.int .u64 1]).run Tryd.prog w = .ok (.value (.float .f64 1)) w := run_frombits 1
  have HC : Hid (∀ w, Calls Tryd.prog 90 #[.float .f64 1, .float .f64 9218868437227405311] w fun e w' => e = .returned (.float .f64 1) ∧ w' = w) := fun w => copysign_pos 1 9218868437227405311 w (by decide +kernel) (by decide +kernel) (by decide +kernel)
  clear f1 z1 l1 h
  go_enter Tryd.func66, Tryd.ntmps66
  go_wp2_with fail
  refine (HN.out _).mono ?_
  rintro e w1 ⟨rfl, rfl⟩
  go_wp2_with fail
  refine (HM.out _).mono ?_
  rintro e w1 ⟨rfl, rfl⟩
  go_wp2_with fail
  refine (HC.out _).mono ?_
  rintro e w1 ⟨rfl, rfl⟩
  go_wp2
  go_ret
  exact ⟨by rfl, rfl⟩

end Go.Proofs.YtmcllgoeldfgmaaDoor
