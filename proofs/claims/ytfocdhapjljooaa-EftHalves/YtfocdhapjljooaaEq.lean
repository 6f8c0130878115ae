/- Two floats added: what is rounded off is told exactly (Dekker, Knuth). -/
import Derived.Test.YtfocdhapjljooaaEp
namespace Go.Proofs.Ytfocdhapjljooaa

/-- A float in its own form: fewer than 2^53 units, and not fewer than 2^52 but at the least unit. -/
structure FC (z : Rat) (S : Nat) (m : Int) : Prop where
  hz : z = (m : Rat) * U S
  m1 : -9007199254740992 < m
  m2 : m < 9007199254740992
  h3 : S = 0 ∨ 4503599627370496 ≤ m ∨ m ≤ -4503599627370496
theorem FC.f {z : Rat} {S : Nat} {m : Int} (h : FC z S m) : F z := ⟨S, m, h.hz, by have := h.m1; omega, by have := h.m2; omega⟩
theorem FC.neg {z : Rat} {S : Nat} {m : Int} (h : FC z S m) : FC (-z) S (-m) :=
  ⟨by rw [h.hz, Rat.intCast_neg]; grind, by have := h.m2; omega, by have := h.m1; omega, by have := h.h3; omega⟩
theorem Rnd.neg {q x : Rat} {T : Nat} {k : Int} (R : Rnd q x T k) : Rnd (-q) (-x) T (-k) := by
  obtain ⟨hx, h1, h2, h3, h4, h5, k1, k2⟩ := R
  exact ⟨by rw [hx, Rat.intCast_neg]; grind, by grind, by grind, by rcases h3 with h | h | h; exact Or.inl h; exact Or.inr (Or.inr (by grind)); exact Or.inr (Or.inl (by grind)), by grind, by grind, by omega, by omega⟩
theorem FC.mul {z : Rat} {S : Nat} {m : Int} (h : FC z S m) : M (U S) z := ⟨m, h.hz⟩
/-- Its size. -/
theorem FC.size {z : Rat} {S : Nat} {m : Int} (h : FC z S m) : z ≤ 9007199254740991 * U S ∧ -z ≤ 9007199254740991 * U S := by
  have hu := U_pos S
  have m1 := h.m1
  have m2 := h.m2
  have a1 := Rat.mul_le_mul_of_nonneg_right (Rat.intCast_le_intCast.2 (by omega : m ≤ 9007199254740991)) (Rat.le_of_lt hu)
  have a2 := Rat.mul_le_mul_of_nonneg_right (Rat.intCast_le_intCast.2 (by omega : -9007199254740991 ≤ m)) (Rat.le_of_lt hu)
  rw [show ((9007199254740991 : Int) : Rat) = 9007199254740991 from rfl] at a1
  rw [show ((-9007199254740991 : Int) : Rat) = -9007199254740991 from rfl] at a2
  rw [h.hz]
  constructor <;> grind
theorem FC.least {z : Rat} {S : Nat} {m : Int} (h : FC z S m) (h0 : S ≠ 0) : 4503599627370496 * U S ≤ z ∨ 4503599627370496 * U S ≤ -z := by
  have hu := U_pos S
  rcases h.h3 with e | e | e
  · exact absurd e h0
  · left
    have := Rat.mul_le_mul_of_nonneg_right (Rat.intCast_le_intCast.2 e) (Rat.le_of_lt hu)
    rw [show ((4503599627370496 : Int) : Rat) = 4503599627370496 from rfl] at this
    rw [h.hz]; exact this
  · right
    have := Rat.mul_le_mul_of_nonneg_right (Rat.intCast_le_intCast.2 e) (Rat.le_of_lt hu)
    rw [show ((-4503599627370496 : Int) : Rat) = -4503599627370496 from rfl] at this
    rw [h.hz]; grind

/-- What is rounded off of a sum may be (one way round). -/
theorem err_le {a b x : Rat} {T : Nat} {k : Int} {S1 S2 : Nat} {A B : Int} (R : Rnd (a + b) x T k) (ca : FC a S1 A) (cb : FC b S2 B) (h : S1 ≤ S2) : F (a + b - x) := by
  have hb : M (U S1) b := M.down h cb.mul
  rcases Nat.lt_or_ge T S1 with ht | ht
  · have := R.mult (M.down (Nat.le_of_lt ht) (ca.mul.add hb))
    rw [this, show a + b - (a + b) = (0 : Rat) by grind]; exact F_zero
  · have hm : M (U S1) (a + b - x) := (ca.mul.add hb).sub (M.down ht R.m)
    have hs := ca.size
    have hu := U_pos S1
    have hbest := R.best (c := 9007199254740991 * U S1) cb.f (by grind) (by grind)
    refine M.small 9007199254740991 (by omega) hm ?_ ?_
    · rw [show ((9007199254740991 + 1 : Int) : Rat) = 9007199254740992 from rfl]; grind
    · rw [show ((9007199254740991 + 1 : Int) : Rat) = 9007199254740992 from rfl]; grind

theorem err_f {a b x : Rat} {T : Nat} {k : Int} {S1 S2 : Nat} {A B : Int} (R : Rnd (a + b) x T k) (ca : FC a S1 A) (cb : FC b S2 B) : F (a + b - x) := by
  rcases Nat.le_total S1 S2 with h | h
  · exact err_le R ca cb h
  · have e : a + b = b + a := by grind
    rw [e] at R ⊢
    exact err_le R cb ca h

/-- The greater one taken off the sum. -/
theorem fast_pos {a b x : Rat} {T : Nat} {k : Int} {S1 S2 : Nat} {A B : Int} (R : Rnd (a + b) x T k) (ca : FC a S1 A) (cb : FC b S2 B) (h1 : b ≤ a) (h2 : -b ≤ a) : F (x - a) := by
  have hu := U_pos S1
  have hU := U_pos T
  have r1 := R.h1
  have r2 := R.h2
  have hs := ca.size
  rcases Nat.lt_or_ge T S1 with ht | ht
  · have hl := ca.least (by omega)
    have hl' := U_lt ht
    rcases Nat.lt_or_ge S2 T with h3 | h3
    · have hm : M (U T) (x - a) := R.m.sub (M.down (Nat.le_of_lt ht) ca.mul)
      have hbs := cb.size
      have hbl := U_lt h3
      refine M.small 4503599627370496 (by omega) hm ?_ ?_
      · rw [show ((4503599627370496 + 1 : Int) : Rat) = 4503599627370497 from rfl]; grind
      · rw [show ((4503599627370496 + 1 : Int) : Rat) = 4503599627370497 from rfl]; grind
    · have := R.mult ((M.down (Nat.le_of_lt ht) ca.mul).add (M.down h3 cb.mul))
      rw [this, show a + b - a = b by grind]; exact cb.f
  · have hm : M (U S1) (x - a) := (M.down ht R.m).sub ca.mul
    rcases Nat.lt_or_ge T (S1 + 2) with h3 | h3
    · have hT : U T = U S1 ∨ U T = 2 * U S1 := by
        rcases (by omega : T = S1 ∨ T = S1 + 1) with rfl | rfl
        · exact Or.inl rfl
        · exact Or.inr (U_succ S1)
      refine M.small 9007199254740992 (by omega) hm ?_ ?_
      · rw [show ((9007199254740992 + 1 : Int) : Rat) = 9007199254740993 from rfl]; grind
      · rw [show ((9007199254740992 + 1 : Int) : Rat) = 9007199254740993 from rfl]; grind
    · have h4 := U_lt2 h3
      exfalso
      rcases R.h3 with h5 | h5 | h5
      · omega
      · grind
      · grind

theorem fast {a b x : Rat} {T : Nat} {k : Int} {S1 S2 : Nat} {A B : Int} (R : Rnd (a + b) x T k) (ca : FC a S1 A) (cb : FC b S2 B) (h : (0 ≤ a ∧ b ≤ a ∧ -b ≤ a) ∨ (a ≤ 0 ∧ b ≤ -a ∧ -b ≤ -a)) : F (x - a) := by
  rcases h with ⟨_, h1, h2⟩ | ⟨_, h1, h2⟩
  · exact fast_pos R ca cb h1 h2
  · have R' := R.neg
    rw [show -(a + b) = -a + -b by grind] at R'
    have := (fast_pos R' ca.neg cb.neg (by grind) (by grind)).neg
    rwa [show -(-x - -a) = x - a by grind] at this

/-- What b gave to the sum, taken off b. -/
theorem left_f {a b x fb : Rat} {T T' : Nat} {k k' : Int} {S2 : Nat} {B : Int} (R : Rnd (a + b) x T k) (R' : Rnd (x - a) fb T' k') (cb : FC b S2 B) (h : (a ≤ b ∧ -a ≤ b) ∨ (a ≤ -b ∧ -a ≤ -b)) : F (b - fb) := by
  have hv := U_pos S2
  have hU := U_pos T
  have hU' := U_pos T'
  have r1 := R.h1
  have r2 := R.h2
  have hs := cb.size
  have hbest := R'.best (y := b) (c := U T / 2) cb.f (by grind) (by grind)
  have hUv : U T ≤ 2 * U S2 := by
    rcases Nat.lt_or_ge T (S2 + 2) with h3 | h3
    · rw [← U_succ]; exact U_mono (by omega)
    · have h4 := U_lt2 h3
      exfalso
      rcases R.h3 with h5 | h5 | h5
      · omega
      · grind
      · grind
  rcases Nat.lt_or_ge T' S2 with ht | ht
  · have hm : M (U T') (b - fb) := (M.down (Nat.le_of_lt ht) cb.mul).sub R'.m
    have hl := cb.least (by omega)
    have h4 := R'.h4
    have h5 := R'.h5
    have hv2 : U S2 ≤ 2 * U T' := by
      rcases Nat.lt_or_ge S2 (T' + 2) with h6 | h6
      · rw [← U_succ]; exact U_mono (by omega)
      · have h7 := U_lt2 h6
        exfalso
        rcases hl with h8 | h8
        · grind
        · grind
    refine M.small 4 (by omega) hm ?_ ?_
    · rw [show ((4 + 1 : Int) : Rat) = 5 from rfl]; grind
    · rw [show ((4 + 1 : Int) : Rat) = 5 from rfl]; grind
  · have hm : M (U S2) (b - fb) := cb.mul.sub (M.down ht R'.m)
    refine M.small 2 (by omega) hm ?_ ?_
    · rw [show ((2 + 1 : Int) : Rat) = 3 from rfl]; grind
    · rw [show ((2 + 1 : Int) : Rat) = 3 from rfl]; grind

/-- Two floats that nearly cancel. -/
theorem near_cancel {a b : Rat} {S1 S2 : Nat} {A B : Int} (ca : FC a S1 A) (cb : FC b S2 B) (h : (0 ≤ a ∧ b ≤ -a ∧ -b ≤ 2 * a) ∨ (a ≤ 0 ∧ -a ≤ b ∧ b ≤ -(2 * a))) : F (a + b) := by
  have hu := U_pos S1
  have hs := ca.size
  have hS : S1 ≤ S2 := by
    rcases Nat.lt_or_ge S2 S1 with h3 | h3
    · exfalso
      have h4 := ca.least (by omega)
      have h5 := cb.size
      have h6 := U_lt h3
      have := U_pos S2
      rcases h with h | h <;> rcases h4 with h4 | h4 <;> grind
    · exact h3
  refine M.small 9007199254740991 (by omega) (ca.mul.add (M.down hS cb.mul)) ?_ ?_
  · rw [show ((9007199254740991 + 1 : Int) : Rat) = 9007199254740992 from rfl]; rcases h with h | h <;> grind
  · rw [show ((9007199254740991 + 1 : Int) : Rat) = 9007199254740992 from rfl]; rcases h with h | h <;> grind

/-- x is q, rounded. -/
def RN (q x : Rat) : Prop := ∃ T k, Rnd q x T k
theorem RN.exact {q x : Rat} (h : RN q x) (hf : F q) : x = q := by obtain ⟨_, _, R⟩ := h; exact R.exact hf

theorem twoSum_exact {a b x fb fa lb la y : Rat} (ca : ∃ S m, FC a S m) (cb : ∃ S m, FC b S m) (cx : ∃ S m, FC x S m) (R1 : RN (a + b) x) (R2 : RN (x - a) fb) (R3 : RN (x - fb) fa) (R4 : RN (b - fb) lb) (R5 : RN (a - fa) la) (R6 : RN (la + lb) y) : x + y = a + b := by
  obtain ⟨S1, A, ca⟩ := ca
  obtain ⟨S2, B, cb⟩ := cb
  obtain ⟨S3, X, cx⟩ := cx
  obtain ⟨T, k, R⟩ := R1
  have he := err_f R ca cb
  -- all is told where the last two steps are exact
  have fin : la = a - fa → lb = b - fb → fa + fb = x → x + y = a + b := by
    intro e1 e2 e3
    have e : la + lb = a + b - x := by rw [e1, e2]; grind
    have := R6.exact (by rw [e]; exact he)
    grind
  by_cases hab : (0 ≤ a ∧ b ≤ a ∧ -b ≤ a) ∨ (a ≤ 0 ∧ b ≤ -a ∧ -b ≤ -a)
  · have e1 := R2.exact (fast R ca cb hab)
    have e2 := R3.exact (by rw [e1, show x - (x - a) = a by grind]; exact ca.f)
    have e3 := R4.exact (by rw [e1, show b - (x - a) = a + b - x by grind]; exact he)
    have e4 := R5.exact (by rw [e2, e1, show a - (x - (x - a)) = (0 : Rat) by grind]; exact F_zero)
    exact fin e4 e3 (by grind)
  · by_cases hax : (0 ≤ x ∧ a ≤ x ∧ -a ≤ x) ∨ (x ≤ 0 ∧ a ≤ -x ∧ -a ≤ -x)
    · obtain ⟨T', k', R'⟩ := R2
      have R2' : Rnd (x + -a) fb T' k' := by rwa [show x - a = x + -a by grind] at R'
      have hf := (fast R2' cx ca.neg (by rcases hax with h | h; exact Or.inl ⟨h.1, by grind, by grind⟩; exact Or.inr ⟨h.1, by grind, by grind⟩)).neg
      have e2 := R3.exact (by rwa [show -(fb - x) = x - fb by grind] at hf)
      have e4 := R5.exact (by
        have := (err_f R2' cx ca.neg).neg
        rwa [show -(x + -a - fb) = a - fa by grind] at this)
      have e3 := R4.exact (left_f R R' cb (by grind))
      exact fin e4 e3 (by grind)
    · have hc : F (a + b) := by
        have hx2 : (a + b < a ∨ a + b < -a) ∧ (-(a + b) < a ∨ -(a + b) < -a) := by
          have b1 := R.best (y := a) (c := b) ca.f
          have b2 := R.best (y := -a) (c := a + a + b) ca.neg.f
          have b3 := R.best (y := a) (c := -b) ca.f
          have b4 := R.best (y := -a) (c := -(a + a + b)) ca.neg.f
          constructor <;> grind
        exact near_cancel ca cb (by grind)
      have e0 := R.exact hc
      have e1 := R2.exact (by rw [e0, show a + b - a = b by grind]; exact cb.f)
      have e2 := R3.exact (by rw [e1, e0, show a + b - (a + b - a) = a by grind]; exact ca.f)
      have e3 := R4.exact (by rw [e1, e0, show b - (a + b - a) = (0 : Rat) by grind]; exact F_zero)
      have e4 := R5.exact (by rw [e2, e1, e0, show a - (a + b - (a + b - a)) = (0 : Rat) by grind]; exact F_zero)
      exact fin e4 e3 (by grind)

end Go.Proofs.Ytfocdhapjljooaa
