/- Own texts, put together: Eq. -/
import Derived.Test.YtkgnlobakicnjaaDoorQ9
/- Two floats added: what is rounded off is told exactly (Dekker, Knuth). -/
namespace Go.Proofs.YtkgnlobakicnjaaDoor
structure FC (z : Rat) (S : Nat) (m : Int) : Prop where
 hz : z = (m : Rat) * U S
 m1 : -9007199254740992 < m
 m2 : m < 9007199254740992
 h3 : S = 0 ∨ 4503599627370496 ≤ m ∨ m ≤ -4503599627370496
theorem FC.f {z : Rat} {S : Nat} {m : Int} (h : FC z S m) : F z := ⟨S, m, h.hz, by have := h.m1; omega, by have := h.m2; omega⟩
theorem FC.neg {z : Rat} {S : Nat} {m : Int} (h : FC z S m) : FC (-z) S (-m) :=
 ⟨by rw [h.hz, Rat.intCast_neg]; grind, by have := h.m2; omega, by have := h.m1; omega, by have := h.h3; omega⟩
theorem Rnd.neg {q x : Rat} {T : Nat} {k : Int} (R : Rnd q x T k) : Rnd (-q) (-x) T (-k) := by
 obtain ⟨hx, h1, h2, h3, h4, h5, k1, k2⟩ := R
 exact ⟨by rw [hx, Rat.intCast_neg]; grind, by grind, by grind, by rcases h3 with h | h | h; exact Or.inl h; exact Or.inr (Or.inr (by grind)); exact Or.inr (Or.inl (by grind)), by grind, by grind, by omega, by omega⟩
theorem FC.mul {z : Rat} {S : Nat} {m : Int} (h : FC z S m) : M (U S) z := ⟨m, h.hz⟩
theorem FC.size {z : Rat} {S : Nat} {m : Int} (h : FC z S m) : z ≤ 9007199254740991 * U S ∧ -z ≤ 9007199254740991 * U S := by
 have hu := U_pos S
 have m1 := h.m1
 have m2 := h.m2
 have a1 := Rat.mul_le_mul_of_nonneg_right (Rat.intCast_le_intCast.2 (by omega : m ≤ 9007199254740991)) (Rat.le_of_lt hu)
 have a2 := Rat.mul_le_mul_of_nonneg_right (Rat.intCast_le_intCast.2 (by omega : -9007199254740991 ≤ m)) (Rat.le_of_lt hu)
 rw [show ((9007199254740991 : Int) : Rat) = 9007199254740991 from rfl] at a1
 rw [show ((-9007199254740991 : Int) : Rat) = -9007199254740991 from rfl] at a2
 rw [h.hz]
 constructor <;> grind
def RN (q x : Rat) : Prop := ∃ T k, Rnd q x T k
theorem RN.exact {q x : Rat} (h : RN q x) (hf : F q) : x = q := by obtain ⟨_, _, R⟩ := h; exact R.exact hf
end Go.Proofs.YtkgnlobakicnjaaDoor
