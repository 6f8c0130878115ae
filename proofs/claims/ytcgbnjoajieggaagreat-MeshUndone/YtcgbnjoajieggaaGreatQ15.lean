/- Own texts, put together: Oa. -/
import Derived.Test.YtcgbnjoajieggaaGreatQ11
/- Signs that are told fast, and differences as lists: plain facts. -/
namespace Go.Proofs.YtcgbnjoajieggaaGreat
theorem RN.mm {q x : Rat} {t : Nat} (h : RN q x) (hm : M (U t) q) : M (U t) x := by
 obtain ⟨_, _, R⟩ := h
 exact hm.rnd R
theorem RN.rel {q x : Rat} {t : Nat} (h : RN q x) (hm : M (U t) q) : 9007199254740992 * ab (q - x) ≤ ab x := by
 obtain ⟨T, k, R⟩ := h
 rcases Nat.lt_or_ge t T with ht | ht
 · have hu := U_pos T
   have h1 := R.h1
   have h2 := R.h2
   have hx := R.hx
   have hd : 2 * ab (q - x) ≤ U T := by
     have : ab (q - x) ≤ U T / 2 := ab_le.2 ⟨by grind, by grind⟩
     grind
   have hk : 4503599627370496 * U T ≤ ab x := by
     rcases R.h3 with h | h | h
     · omega
     · have : (4503599627370495 : Int) < k := by
         apply cast_lt hu
         rw [← hx, show ((4503599627370495 : Int) : Rat) = 4503599627370495 from rfl]
         grind
       have h3 : (4503599627370496 : Int) ≤ k := by omega
       have h4 : ((4503599627370496 : Int) : Rat) * U T ≤ (k : Rat) * U T := Rat.mul_le_mul_of_nonneg_right (Rat.intCast_le_intCast.2 h3) (Rat.le_of_lt hu)
       rw [← hx, show ((4503599627370496 : Int) : Rat) = 4503599627370496 from rfl] at h4
       exact le_ab.2 (Or.inl h4)
     · have : k < (-4503599627370495 : Int) := by
         apply cast_lt hu
         rw [← hx, show ((-4503599627370495 : Int) : Rat) = -4503599627370495 from rfl]
         grind
       have h3 : k ≤ (-4503599627370496 : Int) := by omega
       have h4 : (k : Rat) * U T ≤ ((-4503599627370496 : Int) : Rat) * U T := Rat.mul_le_mul_of_nonneg_right (Rat.intCast_le_intCast.2 h3) (Rat.le_of_lt hu)
       rw [← hx, show ((-4503599627370496 : Int) : Rat) = -4503599627370496 from rfl] at h4
       exact le_ab.2 (Or.inr (by grind))
   grind
 · have e := R.mult (hm.down ht)
   subst e
   rw [show x - x = 0 by grind, show ab 0 = 0 by unfold ab; grind]
   have := ab_nonneg x
   grind
theorem prod_err {p q x y L : Rat} (h1 : 9007199254740992 * ab (p - x) ≤ ab x) (h2 : 9007199254740992 * ab (q - y) ≤ ab y) (h3 : 9007199254740992 * ab (x * y - L) ≤ ab L) :
   9223372036854775808 * ab (p * q - L) ≤ 3073 * ab L := by
 have a0 := ab_nonneg x
 have b0 := ab_nonneg y
 have f0 := ab_nonneg (q - y)
 have d0 := ab_nonneg q
 have hd : ab q ≤ ab y + ab (q - y) := by
   have := ab_add y (q - y)
   rwa [show y + (q - y) = q by grind] at this
 have t1 : ab (p * q - x * y) ≤ ab (p - x) * ab q + ab x * ab (q - y) := by
   have := ab_add ((p - x) * q) (x * (q - y))
   rw [ab_mul, ab_mul, show (p - x) * q + x * (q - y) = p * q - x * y by grind] at this
   exact this
 have t2 : ab (p * q - L) ≤ ab (p * q - x * y) + ab (x * y - L) := by
   have := ab_add (p * q - x * y) (x * y - L)
   rwa [show p * q - x * y + (x * y - L) = p * q - L by grind] at this
 have t3 : ab (x * y) ≤ ab L + ab (x * y - L) := by
   have := ab_add L (x * y - L)
   rwa [show L + (x * y - L) = x * y by grind] at this
 rw [ab_mul] at t3
 have m1 := Rat.mul_le_mul_of_nonneg_right h1 d0
 have m2 := Rat.mul_le_mul_of_nonneg_left hd a0
 have m3 := Rat.mul_le_mul_of_nonneg_left h2 a0
 have m4 := Rat.mul_nonneg a0 b0
 have m5 := Rat.mul_nonneg a0 f0
 have l0 := ab_nonneg L
 generalize ab (p * q - L) = g1 at *
 generalize ab (p * q - x * y) = g2 at *
 generalize ab (x * y - L) = g3 at *
 generalize ab (p - x) = e at *
 generalize ab (q - y) = f at *
 generalize ab x = a at *
 generalize ab y = b at *
 generalize ab q = d at *
 generalize ab L = l at *
 have n1 : 9007199254740992 * (e * d) ≤ a * d := by grind
 have n2 : a * d ≤ a * b + a * f := by grind
 have n3 : 9007199254740992 * (a * f) ≤ a * b := by grind
 clear m1 m2 m3
 generalize e * d = z1 at *
 generalize a * d = z2 at *
 generalize a * b = z3 at *
 generalize a * f = z4 at *
 grind
theorem fast_sign {P Q L R s z : Rat} (h1 : 9223372036854775808 * ab (P - L) ≤ 3073 * ab L) (h2 : 9223372036854775808 * ab (Q - R) ≤ 3073 * ab R) (h3 : 9007199254740992 * ab (L - R - s) ≤ ab s) (h4 : 9007199254740992 * ab (ab L + ab R - z) ≤ ab z) (hz : 0 ≤ z) (h5 : z ≤ 2251799813685248 * ab s) :
   (0 < s ∧ 0 < P - Q) ∨ (s < 0 ∧ P - Q < 0) ∨ (s = 0 ∧ P - Q = 0) := by
 have ez : ab z = z := by unfold ab; rw [if_neg (by grind)]
 rw [ez] at h4
 obtain ⟨p1, p2⟩ := ab_self (P - L)
 obtain ⟨q1, q2⟩ := ab_self (Q - R)
 obtain ⟨s1, s2⟩ := ab_self (L - R - s)
 obtain ⟨z1, z2⟩ := ab_self (ab L + ab R - z)
 have l0 := ab_nonneg L
 have r0 := ab_nonneg R
 have g0 := ab_nonneg (ab L + ab R - z)
 rcases (by grind : 0 < s ∨ 0 = s ∨ s < 0) with hs | hs | hs
 · left
   have es : ab s = s := by unfold ab; rw [if_neg (by grind)]
   rw [es] at h3 h5
   refine ⟨hs, ?_⟩
   generalize ab (P - L) = v1 at *
   generalize ab (Q - R) = v2 at *
   generalize ab (L - R - s) = v3 at *
   generalize ab (ab L + ab R - z) = v4 at *
   generalize ab L = v5 at *
   generalize ab R = v6 at *
   grind
 · right; right
   have es : ab s = 0 := by rw [← hs]; rfl
   rw [es] at h5
   have z0 : z = 0 := by grind
   subst z0
   have e1 : ab L = 0 := by grind
   have e2 : ab R = 0 := by grind
   rw [e1] at h1
   rw [e2] at h2
   have := ab_zero (x := P - L) (by grind)
   have := ab_zero (x := Q - R) (by grind)
   have := ab_zero (x := L) (by grind)
   have := ab_zero (x := R) (by grind)
   exact ⟨hs.symm, by grind⟩
 · right; left
   have es : ab s = -s := by unfold ab; rw [if_pos hs]
   rw [es] at h3 h5
   refine ⟨hs, ?_⟩
   generalize ab (P - L) = v1 at *
   generalize ab (Q - R) = v2 at *
   generalize ab (L - R - s) = v3 at *
   generalize ab (ab L + ab R - z) = v4 at *
   generalize ab L = v5 at *
   generalize ab R = v6 at *
   grind
theorem F_less {z : Rat} {t : Nat} (hz : F z) (hm : M (U t) z) (ht : 104 ≤ t) : F (U 1023 * z) := by
 obtain ⟨S, m, e, m1, m2⟩ := hz
 rcases Nat.lt_or_ge S 51 with h | h
 · have hb : ab z < U t := by
     have hu := U_pos S
     have h1 := F.abs e m1 m2
     have h2 : 9007199254740992 * U S = U (S + 53) := by rw [U_add]; rfl
     have h3 := U_lt_iff.2 (show S + 53 < t by omega)
     exact ab_lt.2 ⟨by grind, by grind⟩
   have z0 : z = 0 := by
     apply Classical.byContradiction
     intro h0
     have := hm.ge (U_pos t) h0
     grind
   rw [z0, Rat.mul_zero]
   exact F_zero
 · refine ⟨S - 51, m, ?_, m1, m2⟩
   have := U_mulX' (s := 1023) (t := S) (r := S - 51) (by omega)
   rw [e, ← this]
   grind
theorem F_int (n : Int) (h1 : -9007199254740992 ≤ n) (h2 : n ≤ 9007199254740992) : F (n : Rat) :=
 ⟨1074, n, by rw [show U 1074 = 1 from by unfold U; exact p2_zero]; grind, h1, h2⟩
theorem RN.lo {q x y : Rat} (h : RN q x) (e : x + y = q) : Lo y x := by
 obtain ⟨T, k, R⟩ := h
 have hu := U_pos T
 have h1 := R.h1
 have h2 := R.h2
 exact ⟨T, ab_lt.2 ⟨by grind, by grind⟩, R.m⟩
end Go.Proofs.YtcgbnjoajieggaaGreat
