/- A float's halves, and two floats multiplied (Veltkamp, Dekker), in plain numbers. -/
import Derived.Test.YtfocdhapjljooaaEq
namespace Go.Proofs.Ytfocdhapjljooaa

theorem U_up (S j : Nat) (n : Rat) (h : ((2 ^ j : Nat) : Rat) = n) : U (S + j) = n * U S := by rw [U_add, h]

/-- Halves of a float above 0. -/
theorem halves_pos {a c d x y : Rat} {S : Nat} {A : Int} (ca : FC a S A) (hA : 4503599627370496 ≤ A) (R1 : RN (134217729 * a) c) (R2 : RN (c - a) d) (R3 : RN (c - d) x) (R4 : RN (a - x) y) :
    ∃ X Y : Int, x = (X : Rat) * U (S + 27) ∧ -67108864 ≤ X ∧ X ≤ 67108864 ∧ y = (Y : Rat) * U S ∧ -67108864 ≤ Y ∧ Y ≤ 67108864 ∧ x + y = a := by
  have hu := U_pos S
  have u26 := U_up S 26 67108864 rfl
  have u27 := U_up S 27 134217728 rfl
  have u28 := U_up S 28 268435456 rfl
  have u29 := U_up S 29 536870912 rfl
  have hs := (ca.size).1
  have hl : 4503599627370496 * U S ≤ a := by
    have := Rat.mul_le_mul_of_nonneg_right (Rat.intCast_le_intCast.2 hA) (Rat.le_of_lt hu)
    rw [show ((4503599627370496 : Int) : Rat) = 4503599627370496 from rfl] at this
    rw [ca.hz]; exact this
  obtain ⟨T, k, R⟩ := R1
  have hT : S + 27 ≤ T := by
    rcases Nat.lt_or_ge T (S + 27) with h | h
    · have := U_mono (show T ≤ S + 26 by omega)
      have h4 := R.h4
      exfalso; grind
    · exact h
  have hT2 : T ≤ S + 28 := by
    rcases Nat.lt_or_ge (S + 28) T with h | h
    · have := U_mono (show S + 29 ≤ T by omega)
      exfalso
      rcases R.h3 with h3 | h3 | h3
      · omega
      · grind
      · grind
    · exact h
  have mc : M (U (S + 27)) c := M.down hT R.m
  have r1 := R.h1
  have r2 := R.h2
  -- what is rounded next lies between 2^79 and 2^80 units
  have low : 604462909807314587353088 * U S ≤ c - a := by
    rcases (by omega : T = S + 27 ∨ T = S + 28) with rfl | rfl
    · by_cases e : A = 4503599627370496
      · have ea : a = 4503599627370496 * U S := by rw [ca.hz, e]; rfl
        have : c = 134217729 * a := R.mult ⟨4503599660924928, by rw [ea, u27, show ((4503599660924928 : Int) : Rat) = 4503599660924928 from rfl]; grind⟩
        rw [this, ea]; grind
      · have := Rat.mul_le_mul_of_nonneg_right (Rat.intCast_le_intCast.2 (show (4503599627370497 : Int) ≤ A by omega)) (Rat.le_of_lt hu)
        rw [show ((4503599627370497 : Int) : Rat) = 4503599627370497 from rfl, ← ca.hz] at this
        grind
    · rcases R.h3 with h3 | h3 | h3
      · omega
      · grind
      · grind
  have high : c - a ≤ 1208925819614629174706176 * U S := by
    have : U T ≤ U (S + 28) := U_mono hT2
    grind
  obtain ⟨T2, k2, Q⟩ := R2
  have hT3 : S + 27 ≤ T2 := by
    rcases Nat.lt_or_ge T2 (S + 27) with h | h
    · have := U_mono (show T2 ≤ S + 26 by omega)
      have h4 := Q.h4
      exfalso; grind
    · exact h
  have md : M (U (S + 27)) d := M.down hT3 Q.m
  have err : d - (c - a) ≤ 67108864 * U S ∧ -(d - (c - a)) ≤ 67108864 * U S := by
    have q1 := Q.h1
    have q2 := Q.h2
    rcases Nat.lt_or_ge T2 (S + 28) with h | h
    · have e : T2 = S + 27 := by omega
      subst e
      constructor <;> grind
    · have hle := U_mono h
      have e : c - a = 4503599627370496 * U (S + 28) := by
        rcases Q.h3 with h3 | h3 | h3
        · omega
        · grind
        · grind
      have : T2 = S + 28 := by
        rcases Nat.lt_or_ge (S + 28) T2 with h' | h'
        · have := U_mono (show S + 29 ≤ T2 by omega)
          exfalso
          rcases Q.h3 with h3 | h3 | h3
          · omega
          · grind
          · grind
        · omega
      subst this
      have := Q.mult ⟨4503599627370496, by rw [e]; rfl⟩
      rw [this]; constructor <;> grind
  have m3 : M (U (S + 27)) (c - d) := mc.sub md
  obtain ⟨X, hX⟩ := m3
  have hu27 := U_pos (S + 27)
  have x1 : X ≤ 67108864 := by
    have : (X : Rat) * U (S + 27) < ((67108865 : Int) : Rat) * U (S + 27) := by
      rw [← hX, show ((67108865 : Int) : Rat) = 67108865 from rfl, u27]; grind
    have := cast_lt hu27 this
    omega
  have x2 : -67108864 ≤ X := by
    have : ((-67108865 : Int) : Rat) * U (S + 27) < (X : Rat) * U (S + 27) := by
      rw [← hX, show ((-67108865 : Int) : Rat) = -67108865 from rfl, u27]; grind
    have := cast_lt hu27 this
    omega
  have ex : x = c - d := R3.exact ⟨S + 27, X, hX, by omega, by omega⟩
  have m4 : M (U S) (a - x) := by rw [ex]; exact ca.mul.sub (M.down (by omega) (mc.sub md))
  obtain ⟨Y, hY⟩ := m4
  have ey0 : a - x = d - (c - a) := by rw [ex]; grind
  have y1 : Y ≤ 67108864 := by
    have : (Y : Rat) * U S < ((67108865 : Int) : Rat) * U S := by
      rw [← hY, ey0, show ((67108865 : Int) : Rat) = 67108865 from rfl]; grind
    have := cast_lt hu this
    omega
  have y2 : -67108864 ≤ Y := by
    have : ((-67108865 : Int) : Rat) * U S < (Y : Rat) * U S := by
      rw [← hY, ey0, show ((-67108865 : Int) : Rat) = -67108865 from rfl]; grind
    have := cast_lt hu this
    omega
  have ey : y = a - x := R4.exact ⟨S, Y, hY, by omega, by omega⟩
  exact ⟨X, Y, by rw [ex, hX], x2, x1, by rw [ey, hY], y2, y1, by rw [ey]; grind⟩

end Go.Proofs.Ytfocdhapjljooaa
