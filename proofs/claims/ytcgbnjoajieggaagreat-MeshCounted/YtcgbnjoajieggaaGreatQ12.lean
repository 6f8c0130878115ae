/- Own texts, put together: Eu Ev. -/
import Derived.Test.YtcgbnjoajieggaaGreatQ9
namespace Go.Proofs.YtcgbnjoajieggaaGreat
/- A float's halves, and two floats multiplied (Veltkamp, Dekker), in plain numbers. -/
section
theorem U_up (S j : Nat) (n : Rat) (h : ((2 ^ j : Nat) : Rat) = n) : U (S + j) = n * U S := by rw [U_add, h]
theorem halves_pos {a c d x y : Rat} {S : Nat} {A : Int} (ca : FC a S A) (hA : 4503599627370496 ≤ A) (R1 : RN (134217729 * a) c) (R2 : RN (c - a) d) (R3 : RN (c - d) x) (R4 : RN (a - x) y) :
   ∃ X Y : Int, x = (X : Rat) * U (S + 27) ∧ -67108864 ≤ X ∧ X ≤ 67108864 ∧ y = (Y : Rat) * U S ∧ -67108864 ≤ Y ∧ Y ≤ 67108864 ∧ x + y = a := by
 have hu := U_pos S
 have u26 := U_up S 26 67108864 rfl
 have u27 := U_up S 27 134217728 rfl
 have u28 := U_up S 28 268435456 rfl
 have u29 := U_up S 29 536870912 rfl
 have hs := (ca.size).1
 have hl : 4503599627370496 * U S ≤ a := by
   have := Rat.mul_le_mul_of_nonneg_right (Rat.intCast_le_intCast.2 hA) (Rat.le_of_lt hu)
   rw [show ((4503599627370496 : Int) : Rat) = 4503599627370496 from rfl] at this
   rw [ca.hz]; exact this
 obtain ⟨T, k, R⟩ := R1
 have hT : S + 27 ≤ T := by
   rcases Nat.lt_or_ge T (S + 27) with h | h
   · have := U_mono (show T ≤ S + 26 by omega)
     have h4 := R.h4
     exfalso; grind
   · exact h
 have hT2 : T ≤ S + 28 := by
   rcases Nat.lt_or_ge (S + 28) T with h | h
   · have := U_mono (show S + 29 ≤ T by omega)
     exfalso
     rcases R.h3 with h3 | h3 | h3
     · omega
     · grind
     · grind
   · exact h
 have mc : M (U (S + 27)) c := M.down hT R.m
 have r1 := R.h1
 have r2 := R.h2
 -- what is rounded next lies between 2^79 and 2^80 units
 have low : 604462909807314587353088 * U S ≤ c - a := by
   rcases (by omega : T = S + 27 ∨ T = S + 28) with rfl | rfl
   · by_cases e : A = 4503599627370496
     · have ea : a = 4503599627370496 * U S := by rw [ca.hz, e]; rfl
       have : c = 134217729 * a := R.mult ⟨4503599660924928, by rw [ea, u27, show ((4503599660924928 : Int) : Rat) = 4503599660924928 from rfl]; grind⟩
       rw [this, ea]; grind
     · have := Rat.mul_le_mul_of_nonneg_right (Rat.intCast_le_intCast.2 (show (4503599627370497 : Int) ≤ A by omega)) (Rat.le_of_lt hu)
       rw [show ((4503599627370497 : Int) : Rat) = 4503599627370497 from rfl, ← ca.hz] at this
       grind
   · rcases R.h3 with h3 | h3 | h3
     · omega
     · grind
     · grind
 have high : c - a ≤ 1208925819614629174706176 * U S := by
   have : U T ≤ U (S + 28) := U_mono hT2
   grind
 obtain ⟨T2, k2, Q⟩ := R2
 have hT3 : S + 27 ≤ T2 := by
   rcases Nat.lt_or_ge T2 (S + 27) with h | h
   · have := U_mono (show T2 ≤ S + 26 by omega)
     have h4 := Q.h4
     exfalso; grind
   · exact h
 have md : M (U (S + 27)) d := M.down hT3 Q.m
 have err : d - (c - a) ≤ 67108864 * U S ∧ -(d - (c - a)) ≤ 67108864 * U S := by
   have q1 := Q.h1
   have q2 := Q.h2
   rcases Nat.lt_or_ge T2 (S + 28) with h | h
   · have e : T2 = S + 27 := by omega
     subst e
     constructor <;> grind
   · have hle := U_mono h
     have e : c - a = 4503599627370496 * U (S + 28) := by
       rcases Q.h3 with h3 | h3 | h3
       · omega
       · grind
       · grind
     have : T2 = S + 28 := by
       rcases Nat.lt_or_ge (S + 28) T2 with h' | h'
       · have := U_mono (show S + 29 ≤ T2 by omega)
         exfalso
         rcases Q.h3 with h3 | h3 | h3
         · omega
         · grind
         · grind
       · omega
     subst this
     have := Q.mult ⟨4503599627370496, by rw [e]; rfl⟩
     rw [this]; constructor <;> grind
 have m3 : M (U (S + 27)) (c - d) := mc.sub md
 obtain ⟨X, hX⟩ := m3
 have hu27 := U_pos (S + 27)
 have x1 : X ≤ 67108864 := by
   have : (X : Rat) * U (S + 27) < ((67108865 : Int) : Rat) * U (S + 27) := by
     rw [← hX, show ((67108865 : Int) : Rat) = 67108865 from rfl, u27]; grind
   have := cast_lt hu27 this
   omega
 have x2 : -67108864 ≤ X := by
   have : ((-67108865 : Int) : Rat) * U (S + 27) < (X : Rat) * U (S + 27) := by
     rw [← hX, show ((-67108865 : Int) : Rat) = -67108865 from rfl, u27]; grind
   have := cast_lt hu27 this
   omega
 have ex : x = c - d := R3.exact ⟨S + 27, X, hX, by omega, by omega⟩
 have m4 : M (U S) (a - x) := by rw [ex]; exact ca.mul.sub (M.down (by omega) (mc.sub md))
 obtain ⟨Y, hY⟩ := m4
 have ey0 : a - x = d - (c - a) := by rw [ex]; grind
 have y1 : Y ≤ 67108864 := by
   have : (Y : Rat) * U S < ((67108865 : Int) : Rat) * U S := by
     rw [← hY, ey0, show ((67108865 : Int) : Rat) = 67108865 from rfl]; grind
   have := cast_lt hu this
   omega
 have y2 : -67108864 ≤ Y := by
   have : ((-67108865 : Int) : Rat) * U S < (Y : Rat) * U S := by
     rw [← hY, ey0, show ((-67108865 : Int) : Rat) = -67108865 from rfl]; grind
   have := cast_lt hu this
   omega
 have ey : y = a - x := R4.exact ⟨S, Y, hY, by omega, by omega⟩
 exact ⟨X, Y, by rw [ex, hX], x2, x1, by rw [ey, hY], y2, y1, by rw [ey]; grind⟩
end

/- Two floats multiplied: what is rounded off is told exactly (Dekker), in plain numbers. -/
section
theorem RN.neg {q x : Rat} (h : RN q x) : RN (-q) (-x) := by obtain ⟨T, k, R⟩ := h; exact ⟨T, _, R.neg⟩
structure NH (a a1 a2 : Rat) (S : Nat) (X Y : Int) : Prop where
 h1 : a1 = (X : Rat) * U (S + 27)
 x1 : -67108864 ≤ X
 x2 : X ≤ 67108864
 h2 : a2 = (Y : Rat) * U S
 y1 : -67108864 ≤ Y
 y2 : Y ≤ 67108864
 sum : a1 + a2 = a
 lo : 4503599627370496 * U S ≤ a ∨ 4503599627370496 * U S ≤ -a
 hi1 : a < 9007199254740992 * U S
 hi2 : -(9007199254740992 * U S) < a
theorem halves_nh {a c d x y : Rat} {S : Nat} {A : Int} (ca : FC a S A) (hA : 4503599627370496 ≤ A ∨ A ≤ -4503599627370496) (R1 : RN (134217729 * a) c) (R2 : RN (c - a) d) (R3 : RN (c - d) x) (R4 : RN (a - x) y) : ∃ X Y, NH a x y S X Y := by
 have hu := U_pos S
 have hs := ca.size
 have lo : 4503599627370496 * U S ≤ a ∨ 4503599627370496 * U S ≤ -a := by
   rcases hA with h | h
   · left
     have := Rat.mul_le_mul_of_nonneg_right (Rat.intCast_le_intCast.2 h) (Rat.le_of_lt hu)
     rw [show ((4503599627370496 : Int) : Rat) = 4503599627370496 from rfl] at this
     rw [ca.hz]; exact this
   · right
     have := Rat.mul_le_mul_of_nonneg_right (Rat.intCast_le_intCast.2 h) (Rat.le_of_lt hu)
     rw [show ((-4503599627370496 : Int) : Rat) = -4503599627370496 from rfl] at this
     rw [ca.hz]; grind
 rcases hA with hA | hA
 · obtain ⟨X, Y, e1, b1, b2, e2, b3, b4, e3⟩ := halves_pos ca hA R1 R2 R3 R4
   exact ⟨X, Y, e1, b1, b2, e2, b3, b4, e3, lo, by grind, by grind⟩
 · have n1 := R1.neg
   have n2 := R2.neg
   have n3 := R3.neg
   have n4 := R4.neg
   rw [show -(134217729 * a) = 134217729 * -a by grind] at n1
   rw [show -(c - a) = -c - -a by grind] at n2
   rw [show -(c - d) = -c - -d by grind] at n3
   rw [show -(a - x) = -a - -x by grind] at n4
   obtain ⟨X, Y, e1, b1, b2, e2, b3, b4, e3⟩ := halves_pos ca.neg (by omega) n1 n2 n3 n4
   exact ⟨-X, -Y, by rw [Rat.intCast_neg]; grind, by omega, by omega, by rw [Rat.intCast_neg]; grind, by omega, by omega, by grind, lo, by grind, by grind⟩
theorem mul_bound {X Y : Int} (a : -67108864 ≤ X) (b : X ≤ 67108864) (c : -67108864 ≤ Y) (d : Y ≤ 67108864) : -4503599627370496 ≤ X * Y ∧ X * Y ≤ 4503599627370496 := by
 have h : (X * Y).natAbs ≤ 67108864 * 67108864 := by rw [Int.natAbs_mul]; exact Nat.mul_le_mul (by omega) (by omega)
 omega
theorem prod_lo {a b c d : Rat} (hc : 0 < c) (hd : 0 < d) (h1 : c ≤ a ∨ c ≤ -a) (h2 : d ≤ b ∨ d ≤ -b) : c * d ≤ a * b ∨ c * d ≤ -(a * b) := by
 have key : ∀ {p q : Rat}, c ≤ p → d ≤ q → c * d ≤ p * q := fun {p q} h h' => by
   have e1 := Rat.mul_le_mul_of_nonneg_right h (Rat.le_of_lt hd)
   have e2 := Rat.mul_le_mul_of_nonneg_left h' (show 0 ≤ p by grind)
   exact Rat.le_trans e1 e2
 rcases h1 with h1 | h1 <;> rcases h2 with h2 | h2
 · exact Or.inl (key h1 h2)
 · right; have := key h1 h2; grind
 · right; have := key h1 h2; grind
 · left; have := key h1 h2; grind
theorem twoProd_core {a b x a1 a2 b1 b2 p1 l1 q2 l2 p3 l3 p4 y : Rat} {S1 S2 R : Nat} {X1 Y1 X2 Y2 : Int} (ha : NH a a1 a2 S1 X1 Y1) (hb : NH b b1 b2 S2 X2 Y2) (hR : U S1 * U S2 = U R)
   (Rx : RN (a * b) x) (R1 : RN (a1 * b1) p1) (R2 : RN (x - p1) l1) (R3 : RN (a2 * b1) q2) (R4 : RN (l1 - q2) l2) (R5 : RN (a1 * b2) p3) (R6 : RN (l2 - p3) l3) (R7 : RN (a2 * b2) p4) (R8 : RN (p4 - l3) y) : x + y = a * b := by
 have hu1 := U_pos S1
 have hu2 := U_pos S2
 have hV := U_pos R
 have v27 := U_up R 27 134217728 rfl
 have v51 := U_up R 51 2251799813685248 rfl
 have v52 := U_up R 52 4503599627370496 rfl
 have v53 := U_up R 53 9007199254740992 rfl
 have v54 := U_up R 54 18014398509481984 rfl
 have s27 := U_up S1 27 134217728 rfl
 have t27 := U_up S2 27 134217728 rfl
 have e1 : a1 * b1 = ((X1 * X2 : Int) : Rat) * U (R + 54) := by rw [ha.h1, hb.h1, s27, t27, v54, ← hR, Rat.intCast_mul]; grind
 have e2 : a2 * b1 = ((Y1 * X2 : Int) : Rat) * U (R + 27) := by rw [ha.h2, hb.h1, t27, v27, ← hR, Rat.intCast_mul]; grind
 have e3 : a1 * b2 = ((X1 * Y2 : Int) : Rat) * U (R + 27) := by rw [ha.h1, hb.h2, s27, v27, ← hR, Rat.intCast_mul]; grind
 have e4 : a2 * b2 = ((Y1 * Y2 : Int) : Rat) * U R := by rw [ha.h2, hb.h2, ← hR, Rat.intCast_mul]; grind
 have m1 := mul_bound ha.x1 ha.x2 hb.x1 hb.x2
 have m2 := mul_bound ha.y1 ha.y2 hb.x1 hb.x2
 have m3 := mul_bound ha.x1 ha.x2 hb.y1 hb.y2
 have m4 := mul_bound ha.y1 ha.y2 hb.y1 hb.y2
 have big : ∀ {z : Rat} {T : Nat} {n : Int}, z = (n : Rat) * U T → -4503599627370496 ≤ n ∧ n ≤ 4503599627370496 → z ≤ 4503599627370496 * U T ∧ -z ≤ 4503599627370496 * U T := by
   intro z T n hz hn
   have hu := U_pos T
   have f1 := Rat.mul_le_mul_of_nonneg_right (Rat.intCast_le_intCast.2 hn.2) (Rat.le_of_lt hu)
   have f2 := Rat.mul_le_mul_of_nonneg_right (Rat.intCast_le_intCast.2 hn.1) (Rat.le_of_lt hu)
   rw [show ((4503599627370496 : Int) : Rat) = 4503599627370496 from rfl] at f1
   rw [show ((-4503599627370496 : Int) : Rat) = -4503599627370496 from rfl] at f2
   rw [hz]; constructor <;> grind
 have z2 := big e2 m2
 have z3 := big e3 m3
 have z4 := big e4 m4
 have x1 := R1.exact ⟨_, _, e1, by omega, by omega⟩
 have x3 := R3.exact ⟨_, _, e2, by omega, by omega⟩
 have x5 := R5.exact ⟨_, _, e3, by omega, by omega⟩
 have x7 := R7.exact ⟨_, _, e4, by omega, by omega⟩
 have M1 : M (U (R + 54)) (a1 * b1) := ⟨_, e1⟩
 have M2 : M (U (R + 27)) (a2 * b1) := ⟨_, e2⟩
 have M3 : M (U (R + 27)) (a1 * b2) := ⟨_, e3⟩
 have M4 : M (U R) (a2 * b2) := ⟨_, e4⟩
 have eN : a * b = a1 * b1 + a2 * b1 + a1 * b2 + a2 * b2 := by rw [← ha.sum, ← hb.sum]; grind
 have lo := prod_lo (by grind) (by grind) ha.lo hb.lo
 have hi := abs_mul_lt ha.hi2 ha.hi1 hb.hi2 hb.hi1
 rw [show 4503599627370496 * U S1 * (4503599627370496 * U S2) = 20282409603651670423947251286016 * (U S1 * U S2) by grind, hR] at lo
 rw [show 9007199254740992 * U S1 * (9007199254740992 * U S2) = 81129638414606681695789005144064 * (U S1 * U S2) by grind, hR] at hi
 clear e1 e2 e3 e4 m1 m2 m3 m4 big R1 R3 R5 R7 hR s27 t27
 subst x1 x3 x5 x7
 generalize a * b = N at *
 generalize a1 * b1 = w1 at *
 generalize a2 * b1 = w2 at *
 generalize a1 * b2 = w3 at *
 generalize a2 * b2 = w4 at *
 obtain ⟨T, k, Q⟩ := Rx
 have q1 := Q.h1
 have q2 := Q.h2
 have hT : R + 52 ≤ T := by
   rcases Nat.lt_or_ge T (R + 52) with h | h
   · have := U_mono (show T ≤ R + 51 by omega)
     have h4 := Q.h4
     have h5 := Q.h5
     exfalso
     rcases lo with lo | lo <;> grind
   · exact h
 have hT2 : U T ≤ 9007199254740992 * U R := by
   rcases Nat.lt_or_ge T (R + 54) with h | h
   · have := U_mono (show T ≤ R + 53 by omega)
     grind
   · have := U_mono h
     exfalso
     rcases Q.h3 with h3 | h3 | h3
     · omega
     · grind
     · grind
 have mx : M (U (R + 52)) x := M.down hT Q.m
 have k1 := R2.exact (M.small 268435458 (by omega) (mx.sub (M.down (by omega) M1))
   (by rw [show ((268435458 + 1 : Int) : Rat) = 268435459 from rfl, v52]; grind) (by rw [show ((268435458 + 1 : Int) : Rat) = 268435459 from rfl, v52]; grind))
 have k2 := R4.exact (by
   rw [k1]
   exact M.small 4503599694479360 (by omega) (((M.down (by omega) mx).sub (M.down (by omega) M1)).sub M2)
     (by rw [show ((4503599694479360 + 1 : Int) : Rat) = 4503599694479361 from rfl, v27]; grind) (by rw [show ((4503599694479360 + 1 : Int) : Rat) = 4503599694479361 from rfl, v27]; grind))
 have k3 := R6.exact (by
   rw [k2, k1]
   exact M.small 67108864 (by omega) ((((M.down (by omega) mx).sub (M.down (by omega) M1)).sub M2).sub M3)
     (by rw [show ((67108864 + 1 : Int) : Rat) = 67108865 from rfl, v27]; grind) (by rw [show ((67108864 + 1 : Int) : Rat) = 67108865 from rfl, v27]; grind))
 have k4 := R8.exact (by
   rw [k3, k2, k1]
   exact M.small 4503599627370496 (by omega) (M4.sub ((((M.down (by omega) mx).sub (M.down (by omega) M1)).sub (M.down (by omega) M2)).sub (M.down (by omega) M3)))
     (by rw [show ((4503599627370496 + 1 : Int) : Rat) = 4503599627370497 from rfl]; grind) (by rw [show ((4503599627370496 + 1 : Int) : Rat) = 4503599627370497 from rfl]; grind))
 rw [k4, k3, k2, k1, eN]; grind
end
end Go.Proofs.YtcgbnjoajieggaaGreat
