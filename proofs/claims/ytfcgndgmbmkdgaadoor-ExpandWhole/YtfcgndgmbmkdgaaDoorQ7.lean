/- Own texts, put together: Eq Eb Ec Ed Er Es Zr Zs Xa Xb. -/
import Derived.Test.YtfcgndgmbmkdgaaDoorQ1
import Derived.Test.YtfcgndgmbmkdgaaDoorQ6
import Derived.WalkKit
import Derived.WalkSpells
import Derived.WalkLawsBesides
import Derived.Laws.FloatArith
/- Two floats added: what is rounded off is told exactly (Dekker, Knuth). -/
namespace Go.Proofs.YtfcgndgmbmkdgaaDoor

/-- A float in its own form: fewer than 2^53 units, and not fewer than 2^52 but at the least unit. -/
structure FC (z : Rat) (S : Nat) (m : Int) : Prop where
  hz : z = (m : Rat) * U S
  m1 : -9007199254740992 < m
  m2 : m < 9007199254740992
  h3 : S = 0 ∨ 4503599627370496 ≤ m ∨ m ≤ -4503599627370496
theorem FC.f {z : Rat} {S : Nat} {m : Int} (h : FC z S m) : F z := ⟨S, m, h.hz, by have := h.m1; omega, by have := h.m2; omega⟩
theorem FC.neg {z : Rat} {S : Nat} {m : Int} (h : FC z S m) : FC (-z) S (-m) :=
  ⟨by rw [h.hz, Rat.intCast_neg]; grind, by have := h.m2; omega, by have := h.m1; omega, by have := h.h3; omega⟩
theorem Rnd.neg {q x : Rat} {T : Nat} {k : Int} (R : Rnd q x T k) : Rnd (-q) (-x) T (-k) := by
  obtain ⟨hx, h1, h2, h3, h4, h5, k1, k2⟩ := R
  exact ⟨by rw [hx, Rat.intCast_neg]; grind, by grind, by grind, by rcases h3 with h | h | h; exact Or.inl h; exact Or.inr (Or.inr (by grind)); exact Or.inr (Or.inl (by grind)), by grind, by grind, by omega, by omega⟩
theorem FC.mul {z : Rat} {S : Nat} {m : Int} (h : FC z S m) : M (U S) z := ⟨m, h.hz⟩
/-- Its size. -/
theorem FC.size {z : Rat} {S : Nat} {m : Int} (h : FC z S m) : z ≤ 9007199254740991 * U S ∧ -z ≤ 9007199254740991 * U S := by
  have hu := U_pos S
  have m1 := h.m1
  have m2 := h.m2
  have a1 := Rat.mul_le_mul_of_nonneg_right (Rat.intCast_le_intCast.2 (by omega : m ≤ 9007199254740991)) (Rat.le_of_lt hu)
  have a2 := Rat.mul_le_mul_of_nonneg_right (Rat.intCast_le_intCast.2 (by omega : -9007199254740991 ≤ m)) (Rat.le_of_lt hu)
  rw [show ((9007199254740991 : Int) : Rat) = 9007199254740991 from rfl] at a1
  rw [show ((-9007199254740991 : Int) : Rat) = -9007199254740991 from rfl] at a2
  rw [h.hz]
  constructor <;> grind
theorem FC.least {z : Rat} {S : Nat} {m : Int} (h : FC z S m) (h0 : S ≠ 0) : 4503599627370496 * U S ≤ z ∨ 4503599627370496 * U S ≤ -z := by
  have hu := U_pos S
  rcases h.h3 with e | e | e
  · exact absurd e h0
  · left
    have := Rat.mul_le_mul_of_nonneg_right (Rat.intCast_le_intCast.2 e) (Rat.le_of_lt hu)
    rw [show ((4503599627370496 : Int) : Rat) = 4503599627370496 from rfl] at this
    rw [h.hz]; exact this
  · right
    have := Rat.mul_le_mul_of_nonneg_right (Rat.intCast_le_intCast.2 e) (Rat.le_of_lt hu)
    rw [show ((-4503599627370496 : Int) : Rat) = -4503599627370496 from rfl] at this
    rw [h.hz]; grind

/-- What is rounded off of a sum may be (one way round). -/
theorem err_le {a b x : Rat} {T : Nat} {k : Int} {S1 S2 : Nat} {A B : Int} (R : Rnd (a + b) x T k) (ca : FC a S1 A) (cb : FC b S2 B) (h : S1 ≤ S2) : F (a + b - x) := by
  have hb : M (U S1) b := M.down h cb.mul
  rcases Nat.lt_or_ge T S1 with ht | ht
  · have := R.mult (M.down (Nat.le_of_lt ht) (ca.mul.add hb))
    rw [this, show a + b - (a + b) = (0 : Rat) by grind]; exact F_zero
  · have hm : M (U S1) (a + b - x) := (ca.mul.add hb).sub (M.down ht R.m)
    have hs := ca.size
    have hu := U_pos S1
    have hbest := R.best (c := 9007199254740991 * U S1) cb.f (by grind) (by grind)
    refine M.small 9007199254740991 (by omega) hm ?_ ?_
    · rw [show ((9007199254740991 + 1 : Int) : Rat) = 9007199254740992 from rfl]; grind
    · rw [show ((9007199254740991 + 1 : Int) : Rat) = 9007199254740992 from rfl]; grind

theorem err_f {a b x : Rat} {T : Nat} {k : Int} {S1 S2 : Nat} {A B : Int} (R : Rnd (a + b) x T k) (ca : FC a S1 A) (cb : FC b S2 B) : F (a + b - x) := by
  rcases Nat.le_total S1 S2 with h | h
  · exact err_le R ca cb h
  · have e : a + b = b + a := by grind
    rw [e] at R ⊢
    exact err_le R cb ca h

/-- The greater one taken off the sum. -/
theorem fast_pos {a b x : Rat} {T : Nat} {k : Int} {S1 S2 : Nat} {A B : Int} (R : Rnd (a + b) x T k) (ca : FC a S1 A) (cb : FC b S2 B) (h1 : b ≤ a) (h2 : -b ≤ a) : F (x - a) := by
  have hu := U_pos S1
  have hU := U_pos T
  have r1 := R.h1
  have r2 := R.h2
  have hs := ca.size
  rcases Nat.lt_or_ge T S1 with ht | ht
  · have hl := ca.least (by omega)
    have hl' := U_lt ht
    rcases Nat.lt_or_ge S2 T with h3 | h3
    · have hm : M (U T) (x - a) := R.m.sub (M.down (Nat.le_of_lt ht) ca.mul)
      have hbs := cb.size
      have hbl := U_lt h3
      refine M.small 4503599627370496 (by omega) hm ?_ ?_
      · rw [show ((4503599627370496 + 1 : Int) : Rat) = 4503599627370497 from rfl]; grind
      · rw [show ((4503599627370496 + 1 : Int) : Rat) = 4503599627370497 from rfl]; grind
    · have := R.mult ((M.down (Nat.le_of_lt ht) ca.mul).add (M.down h3 cb.mul))
      rw [this, show a + b - a = b by grind]; exact cb.f
  · have hm : M (U S1) (x - a) := (M.down ht R.m).sub ca.mul
    rcases Nat.lt_or_ge T (S1 + 2) with h3 | h3
    · have hT : U T = U S1 ∨ U T = 2 * U S1 := by
        rcases (by omega : T = S1 ∨ T = S1 + 1) with rfl | rfl
        · exact Or.inl rfl
        · exact Or.inr (U_succ S1)
      refine M.small 9007199254740992 (by omega) hm ?_ ?_
      · rw [show ((9007199254740992 + 1 : Int) : Rat) = 9007199254740993 from rfl]; grind
      · rw [show ((9007199254740992 + 1 : Int) : Rat) = 9007199254740993 from rfl]; grind
    · have h4 := U_lt2 h3
      exfalso
      rcases R.h3 with h5 | h5 | h5
      · omega
      · grind
      · grind

theorem fast {a b x : Rat} {T : Nat} {k : Int} {S1 S2 : Nat} {A B : Int} (R : Rnd (a + b) x T k) (ca : FC a S1 A) (cb : FC b S2 B) (h : (0 ≤ a ∧ b ≤ a ∧ -b ≤ a) ∨ (a ≤ 0 ∧ b ≤ -a ∧ -b ≤ -a)) : F (x - a) := by
  rcases h with ⟨_, h1, h2⟩ | ⟨_, h1, h2⟩
  · exact fast_pos R ca cb h1 h2
  · have R' := R.neg
    rw [show -(a + b) = -a + -b by grind] at R'
    have := (fast_pos R' ca.neg cb.neg (by grind) (by grind)).neg
    rwa [show -(-x - -a) = x - a by grind] at this

/-- What b gave to the sum, taken off b. -/
theorem left_f {a b x fb : Rat} {T T' : Nat} {k k' : Int} {S2 : Nat} {B : Int} (R : Rnd (a + b) x T k) (R' : Rnd (x - a) fb T' k') (cb : FC b S2 B) (h : (a ≤ b ∧ -a ≤ b) ∨ (a ≤ -b ∧ -a ≤ -b)) : F (b - fb) := by
  have hv := U_pos S2
  have hU := U_pos T
  have hU' := U_pos T'
  have r1 := R.h1
  have r2 := R.h2
  have hs := cb.size
  have hbest := R'.best (y := b) (c := U T / 2) cb.f (by grind) (by grind)
  have hUv : U T ≤ 2 * U S2 := by
    rcases Nat.lt_or_ge T (S2 + 2) with h3 | h3
    · rw [← U_succ]; exact U_mono (by omega)
    · have h4 := U_lt2 h3
      exfalso
      rcases R.h3 with h5 | h5 | h5
      · omega
      · grind
      · grind
  rcases Nat.lt_or_ge T' S2 with ht | ht
  · have hm : M (U T') (b - fb) := (M.down (Nat.le_of_lt ht) cb.mul).sub R'.m
    have hl := cb.least (by omega)
    have h4 := R'.h4
    have h5 := R'.h5
    have hv2 : U S2 ≤ 2 * U T' := by
      rcases Nat.lt_or_ge S2 (T' + 2) with h6 | h6
      · rw [← U_succ]; exact U_mono (by omega)
      · have h7 := U_lt2 h6
        exfalso
        rcases hl with h8 | h8
        · grind
        · grind
    refine M.small 4 (by omega) hm ?_ ?_
    · rw [show ((4 + 1 : Int) : Rat) = 5 from rfl]; grind
    · rw [show ((4 + 1 : Int) : Rat) = 5 from rfl]; grind
  · have hm : M (U S2) (b - fb) := cb.mul.sub (M.down ht R'.m)
    refine M.small 2 (by omega) hm ?_ ?_
    · rw [show ((2 + 1 : Int) : Rat) = 3 from rfl]; grind
    · rw [show ((2 + 1 : Int) : Rat) = 3 from rfl]; grind

/-- Two floats that nearly cancel. -/
theorem near_cancel {a b : Rat} {S1 S2 : Nat} {A B : Int} (ca : FC a S1 A) (cb : FC b S2 B) (h : (0 ≤ a ∧ b ≤ -a ∧ -b ≤ 2 * a) ∨ (a ≤ 0 ∧ -a ≤ b ∧ b ≤ -(2 * a))) : F (a + b) := by
  have hu := U_pos S1
  have hs := ca.size
  have hS : S1 ≤ S2 := by
    rcases Nat.lt_or_ge S2 S1 with h3 | h3
    · exfalso
      have h4 := ca.least (by omega)
      have h5 := cb.size
      have h6 := U_lt h3
      have := U_pos S2
      rcases h with h | h <;> rcases h4 with h4 | h4 <;> grind
    · exact h3
  refine M.small 9007199254740991 (by omega) (ca.mul.add (M.down hS cb.mul)) ?_ ?_
  · rw [show ((9007199254740991 + 1 : Int) : Rat) = 9007199254740992 from rfl]; rcases h with h | h <;> grind
  · rw [show ((9007199254740991 + 1 : Int) : Rat) = 9007199254740992 from rfl]; rcases h with h | h <;> grind

/-- x is q, rounded. -/
def RN (q x : Rat) : Prop := ∃ T k, Rnd q x T k
theorem RN.exact {q x : Rat} (h : RN q x) (hf : F q) : x = q := by obtain ⟨_, _, R⟩ := h; exact R.exact hf

theorem twoSum_exact {a b x fb fa lb la y : Rat} (ca : ∃ S m, FC a S m) (cb : ∃ S m, FC b S m) (cx : ∃ S m, FC x S m) (R1 : RN (a + b) x) (R2 : RN (x - a) fb) (R3 : RN (x - fb) fa) (R4 : RN (b - fb) lb) (R5 : RN (a - fa) la) (R6 : RN (la + lb) y) : x + y = a + b := by
  obtain ⟨S1, A, ca⟩ := ca
  obtain ⟨S2, B, cb⟩ := cb
  obtain ⟨S3, X, cx⟩ := cx
  obtain ⟨T, k, R⟩ := R1
  have he := err_f R ca cb
  -- all is told where the last two steps are exact
  have fin : la = a - fa → lb = b - fb → fa + fb = x → x + y = a + b := by
    intro e1 e2 e3
    have e : la + lb = a + b - x := by rw [e1, e2]; grind
    have := R6.exact (by rw [e]; exact he)
    grind
  by_cases hab : (0 ≤ a ∧ b ≤ a ∧ -b ≤ a) ∨ (a ≤ 0 ∧ b ≤ -a ∧ -b ≤ -a)
  · have e1 := R2.exact (fast R ca cb hab)
    have e2 := R3.exact (by rw [e1, show x - (x - a) = a by grind]; exact ca.f)
    have e3 := R4.exact (by rw [e1, show b - (x - a) = a + b - x by grind]; exact he)
    have e4 := R5.exact (by rw [e2, e1, show a - (x - (x - a)) = (0 : Rat) by grind]; exact F_zero)
    exact fin e4 e3 (by grind)
  · by_cases hax : (0 ≤ x ∧ a ≤ x ∧ -a ≤ x) ∨ (x ≤ 0 ∧ a ≤ -x ∧ -a ≤ -x)
    · obtain ⟨T', k', R'⟩ := R2
      have R2' : Rnd (x + -a) fb T' k' := by rwa [show x - a = x + -a by grind] at R'
      have hf := (fast R2' cx ca.neg (by rcases hax with h | h; exact Or.inl ⟨h.1, by grind, by grind⟩; exact Or.inr ⟨h.1, by grind, by grind⟩)).neg
      have e2 := R3.exact (by rwa [show -(fb - x) = x - fb by grind] at hf)
      have e4 := R5.exact (by
        have := (err_f R2' cx ca.neg).neg
        rwa [show -(x + -a - fb) = a - fa by grind] at this)
      have e3 := R4.exact (left_f R R' cb (by grind))
      exact fin e4 e3 (by grind)
    · have hc : F (a + b) := by
        have hx2 : (a + b < a ∨ a + b < -a) ∧ (-(a + b) < a ∨ -(a + b) < -a) := by
          have b1 := R.best (y := a) (c := b) ca.f
          have b2 := R.best (y := -a) (c := a + a + b) ca.neg.f
          have b3 := R.best (y := a) (c := -b) ca.f
          have b4 := R.best (y := -a) (c := -(a + a + b)) ca.neg.f
          constructor <;> grind
        exact near_cancel ca cb (by grind)
      have e0 := R.exact hc
      have e1 := R2.exact (by rw [e0, show a + b - a = b by grind]; exact cb.f)
      have e2 := R3.exact (by rw [e1, e0, show a + b - (a + b - a) = a by grind]; exact ca.f)
      have e3 := R4.exact (by rw [e1, e0, show b - (a + b - a) = (0 : Rat) by grind]; exact F_zero)
      have e4 := R5.exact (by rw [e2, e1, e0, show a - (a + b - (a + b - a)) = (0 : Rat) by grind]; exact F_zero)
      exact fin e4 e3 (by grind)

end Go.Proofs.YtfcgndgmbmkdgaaDoor

/- Which floats are tame, which are safe: the program's. -/
namespace Go.Proofs.YtfcgndgmbmkdgaaDoor
open Go.RowKit

theorem leq_word {r c : Nat} (hr : r < 9223372036854775808) (hc : c < 9218868437227405312) : (FloatKind.f64.format.order r c == some .lt || FloatKind.f64.format.order r c == some .eq) = decide (r ≤ c) := by
  show (Ieee.double.order r c == some .lt || Ieee.double.order r c == some .eq) = _
  rcases Nat.lt_or_ge 9218868437227405312 r with h | h
  · rw [order_nan_left (by unfold frung; omega)]
    simp; omega
  · rw [order_rung h hc]
    rcases Nat.lt_trichotomy r c with e | e | e
    · rw [if_pos e]; simp; omega
    · subst e; simp
    · rw [if_neg (by omega), if_neg (by omega)]; simp; omega

theorem geq_word {r c : Nat} (hr : r ≤ 9218868437227405312) (hc : c < 9218868437227405312) : (FloatKind.f64.format.order r c == some .gt || FloatKind.f64.format.order r c == some .eq) = decide (c ≤ r) := by
  show (Ieee.double.order r c == some .gt || Ieee.double.order r c == some .eq) = _
  rw [order_rung hr hc]
  rcases Nat.lt_trichotomy r c with e | e | e
  · rw [if_pos e]; simp; omega
  · subst e; simp
  · rw [if_neg (by omega), if_neg (by omega)]; simp; omega

theorem order_nan_right {b c : Nat} (hb : 9218868437227405312 < frung b) : Ieee.double.order c b = none := by
  obtain ⟨s, t, e⟩ := read_nan hb
  unfold Ieee.Format.order
  rw [e]
  cases Ieee.double.read c <;> rfl

theorem inf_right {c : Nat} (hc : Fin64 c) : Ieee.double.order c 9218868437227405312 = some .lt := by
  have h1 := read_fin hc
  have h2 := read_inf (b := 9218868437227405312) (by decide)
  have h3 : fneg 9218868437227405312 = false := by decide
  unfold Ieee.Format.order
  rw [h1, h2, h3]
  rfl

/-- A float c, not above r. -/
theorem const_leq {r c : Nat} (hr : r < 9223372036854775808) (hc : c < 9218868437227405312) : (FloatKind.f64.format.order c r == some .lt || FloatKind.f64.format.order c r == some .eq) = decide (c ≤ r ∧ r ≤ 9218868437227405312) := by
  show (Ieee.double.order c r == some .lt || Ieee.double.order c r == some .eq) = _
  rcases Nat.lt_trichotomy 9218868437227405312 r with h | h | h
  · rw [order_nan_right (by unfold frung; omega)]
    simp; omega
  · subst h
    rw [inf_right (by unfold Fin64 frung; omega)]
    simp; omega
  · rw [order_rung (Nat.le_of_lt hc) h]
    rcases Nat.lt_trichotomy c r with e | e | e
    · rw [if_pos e]; simp; omega
    · subst e; simp; omega
    · rw [if_neg (by omega), if_neg (by omega)]; simp; omega

theorem eql_zero {r : Nat} (hr : r < 9223372036854775808) : (FloatKind.f64.format.order r 0 == some .eq) = decide (r = 0) := by
  show (Ieee.double.order r 0 == some .eq) = _
  rcases Nat.lt_or_ge 9218868437227405312 r with h | h
  · rw [order_nan_left (by unfold frung; omega)]
    simp; omega
  · rw [order_rung h (by omega)]
    by_cases e : r = 0
    · subst e; simp
    · rw [if_neg (by omega), if_neg e]; simp [e]

theorem tame_any (b : Nat) (w : World) (hb : b < 18446744073709551616) :
    Calls Tryd.prog 73 #[.float .f64 b] w fun e w' => e = .returned (.bool (decide (frung b ≤ 9110782046170513408))) ∧ w' = w := by
  have h1 := leq_word (r := frung b) (c := 9110782046170513408) (by unfold frung; omega) (by omega)
  have HA : Hid (Calls Tryd.prog 5 #[.float .f64 b] w fun e w' => e = .returned (.float .f64 (frung b)) ∧ w' = w) := abs_any b w hb
  generalize decide (frung b ≤ 9110782046170513408) = res at *
  generalize frung b = r at *
  go_enter Tryd.func73, Tryd.ntmps73
  go_wp2_with fail
  refine HA.out.mono ?_
  rintro e w' ⟨rfl, rfl⟩
  go_wp2
  go_ret
  exact ⟨rfl, rfl⟩

/-- Which words are safe floats. -/
def SafeW (r : Nat) : Prop := r = 0 ∨ (2580562586483294208 ≤ r ∧ r ≤ 6633802251116740608)
instance (r : Nat) : Decidable (SafeW r) := by unfold SafeW; exact inferInstance

set_option maxHeartbeats 1000000 in
theorem safe_any (b : Nat) (w : World) (hb : b < 18446744073709551616) :
    Calls Tryd.prog 75 #[.float .f64 b] w fun e w' => e = .returned (.bool (decide (SafeW (frung b)))) ∧ w' = w := by
  have hr : frung b < 9223372036854775808 := by unfold frung; omega
  have h1 := eql_zero hr
  have h2 := const_leq (r := frung b) (c := 2580562586483294208) hr (by omega)
  have h3 := leq_word (r := frung b) (c := 6633802251116740608) hr (by omega)
  have key : Hid (decide (SafeW (frung b)) = (decide (frung b = 0) || decide (2580562586483294208 ≤ frung b ∧ frung b ≤ 9218868437227405312) && decide (frung b ≤ 6633802251116740608))) := by
    unfold Hid SafeW
    by_cases e1 : frung b = 0 <;> by_cases e2 : 2580562586483294208 ≤ frung b <;> by_cases e3 : frung b ≤ 6633802251116740608 <;> simp [e1, e2, e3] <;> omega
  have HA : Hid (Calls Tryd.prog 5 #[.float .f64 b] w fun e w' => e = .returned (.float .f64 (frung b)) ∧ w' = w) := abs_any b w hb
  clear hr hb
  generalize decide (SafeW (frung b)) = res at *
  generalize frung b = r at *
  generalize decide (r = 0) = t1 at *
  generalize decide (2580562586483294208 ≤ r ∧ r ≤ 9218868437227405312) = t2 at *
  generalize decide (r ≤ 6633802251116740608) = t3 at *
  have ek := key.out
  clear key
  cases t1 <;> cases t2 <;> cases t3 <;> (simp at ek; subst ek; go_enter Tryd.func75, Tryd.ntmps75; go_wp2_with fail; refine HA.out.mono ?_; rintro e w' ⟨rfl, rfl⟩; go_wp2; go_ret; exact ⟨rfl, rfl⟩)

end Go.Proofs.YtfcgndgmbmkdgaaDoor

/- Which floats are tame, which are safe: the document's. -/
namespace Go.Proofs.YtfcgndgmbmkdgaaDoor
open Go.RowKit

theorem pw_up : ∀ k, k < 1000 → floatBits .mul .f64 ((1023 + k) * 4503599627370496) 4611686018427387904 = some ((1024 + k) * 4503599627370496) := by decide +kernel
theorem pw_down : ∀ k, k < 450 → floatBits .quo .f64 ((1023 - k) * 4503599627370496) 4611686018427387904 = some ((1022 - k) * 4503599627370496) := by decide +kernel



end Go.Proofs.YtfcgndgmbmkdgaaDoor

/- Tame and safe, as the document has them. -/
namespace Go.Proofs.YtfcgndgmbmkdgaaDoor
open Go.RowKit

/-- A float turned about. -/
def fflip (b : Nat) : Nat := if b < 9223372036854775808 then b + 9223372036854775808 else b - 9223372036854775808

theorem negF_eq (b : Nat) (hb : b < 18446744073709551616) : Op.negFloat .f64 b = fflip b := by
  show b ^^^ 2 ^ 63 = fflip b
  unfold fflip
  split
  · rename_i h
    have := Nat.two_pow_add_eq_or_of_lt (i := 63) (b := b) (by simpa using h) 1
    rw [show b + 9223372036854775808 = 2 ^ 63 * 1 + b by omega, this]
    apply Nat.eq_of_testBit_eq
    intro i
    simp only [Nat.testBit_xor, Nat.testBit_or, Nat.testBit_two_pow, Nat.mul_one]
    by_cases e : 63 = i
    · subst e
      have : b.testBit 63 = false := Nat.testBit_lt_two_pow (by simpa using h)
      simp [this]
    · simp [e]
  · rename_i h
    obtain ⟨r, rfl⟩ : ∃ r, b = 9223372036854775808 + r := ⟨b - 9223372036854775808, by omega⟩
    have hr : r < 2 ^ 63 := by omega
    have := Nat.two_pow_add_eq_or_of_lt (i := 63) (b := r) hr 1
    rw [show 9223372036854775808 + r - 9223372036854775808 = r by omega, show 9223372036854775808 + r = 2 ^ 63 * 1 + r by omega, this]
    apply Nat.eq_of_testBit_eq
    intro i
    simp only [Nat.testBit_xor, Nat.testBit_or, Nat.testBit_two_pow, Nat.mul_one]
    by_cases e : 63 = i
    · subst e
      have : r.testBit 63 = false := Nat.testBit_lt_two_pow hr
      simp [this]
    · simp [e]

theorem run_negF (b : Nat) (hb : b < 18446744073709551616) (w : World) : (Op.unary .neg (.float .f64 b)).run Tryd.prog w = .ok (.float .f64 (fflip b)) w := by
  show Result.ok (Value.float .f64 (Op.negFloat .f64 b)) w = _
  rw [negF_eq b hb]

theorem eql_self (b : Nat) : (FloatKind.f64.format.order b b == some .eq) = decide (frung b ≤ 9218868437227405312) := by
  show (Ieee.double.order b b == some .eq) = _
  rcases Nat.lt_trichotomy (frung b) 9218868437227405312 with h | h | h
  · rw [order_fin h h, if_neg Rat.lt_irrefl, if_pos rfl]; simp; omega
  · rw [order_inf_self h]; simp; omega
  · rw [order_nan_left h]; simp; omega

theorem fin_zero : Fin64 0 := by unfold Fin64 frung; decide
theorem fval_zero : fval 0 = 0 := fval_zero_iff.2 rfl

theorem eql_zero2 (b : Nat) : (FloatKind.f64.format.order b 0 == some .eq) = decide (frung b = 0) := by
  show (Ieee.double.order b 0 == some .eq) = _
  rcases Nat.lt_trichotomy (frung b) 9218868437227405312 with h | h | h
  · rw [order_fin h fin_zero, fval_zero]
    by_cases e : fval b = 0
    · rw [e, if_neg Rat.lt_irrefl, if_pos rfl]; simp [fval_zero_iff.1 e]
    · have : frung b ≠ 0 := fun e' => e (fval_zero_iff.2 e')
      by_cases e2 : fval b < 0
      · rw [if_pos e2]; simp [this]
      · rw [if_neg e2, if_neg e]; simp [this]
  · rw [order_inf_fin h fin_zero]
    cases fneg b <;> simp <;> omega
  · rw [order_nan_left h]; simp; omega

theorem lt_zero (b : Nat) (hb : b < 18446744073709551616) : (FloatKind.f64.format.order b 0 == some .lt) = decide (9223372036854775808 < b ∧ frung b ≤ 9218868437227405312) := by
  show (Ieee.double.order b 0 == some .lt) = _
  rcases Nat.lt_trichotomy (frung b) 9218868437227405312 with h | h | h
  · rw [order_fin h fin_zero, fval_zero]
    rcases Nat.lt_or_ge b 9223372036854775808 with hs | hs
    · have e : frung b = b := by unfold frung; omega
      have := fval_nonneg (r := b) (by omega)
      rw [if_neg (by grind)]
      by_cases e2 : fval b = 0
      · rw [if_pos e2]; simp; omega
      · rw [if_neg e2]; simp; omega
    · obtain ⟨r, rfl⟩ : ∃ r, b = 9223372036854775808 + r := ⟨b - 9223372036854775808, by omega⟩
      have e : frung (9223372036854775808 + r) = r := by unfold frung; omega
      rw [e] at h
      rw [fval_word h]
      rcases Nat.eq_zero_or_pos r with e2 | e2
      · subst e2
        rw [fval_zero, if_neg (by grind), if_pos (by grind)]; simp
      · have := fval_lt e2 h
        rw [fval_zero] at this
        rw [if_pos (by grind)]; simp [e]; omega
  · rw [order_inf_fin h fin_zero]
    have : fneg b = decide (9223372036854775808 < b) := by
      unfold frung at h
      unfold fneg
      rcases Nat.lt_or_ge b 9223372036854775808 with hs | hs
      · rw [show b / 9223372036854775808 % 2 = 0 by omega]; simp; omega
      · rw [show b / 9223372036854775808 % 2 = 1 by omega]; simp; omega
    rw [this]
    by_cases e : 9223372036854775808 < b <;> simp [e] <;> omega
  · rw [order_nan_left h]; simp; omega

/-- A float's size. -/
def szw (b : Nat) : Nat := if 9223372036854775808 < b ∧ frung b ≤ 9218868437227405312 then b - 9223372036854775808 else b

theorem szw_leq {b c : Nat} (hb : b < 18446744073709551616) (h : frung b ≤ 9218868437227405312) (h0 : 0 < c) (hc : c < 9218868437227405312) :
    (FloatKind.f64.format.order (szw b) c == some .lt || FloatKind.f64.format.order (szw b) c == some .eq) = decide (frung b ≤ c) := by
  rcases Nat.lt_trichotomy b 9223372036854775808 with hs | hs | hs
  · have e : szw b = b := by unfold szw; rw [if_neg (by omega)]
    have e2 : frung b = b := by unfold frung; omega
    rw [e, leq_word hs hc, e2]
  · subst hs
    have e : szw 9223372036854775808 = 9223372036854775808 := by decide
    have e2 : frung 9223372036854775808 = 0 := by decide
    rw [e, e2]
    show (Ieee.double.order 9223372036854775808 c == some .lt || Ieee.double.order 9223372036854775808 c == some .eq) = _
    have hf : fval 9223372036854775808 = 0 := fval_zero_iff.2 e2
    have := fval_lt h0 hc
    rw [fval_zero] at this
    rw [order_fin (by unfold Fin64; rw [e2]; omega) (by unfold Fin64 frung; omega), hf, if_pos this]
    simp
  · have e : szw b = frung b := by unfold szw; rw [if_pos ⟨hs, h⟩]; unfold frung; omega
    rw [e, leq_word (by unfold frung; omega) hc]

theorem szw_geq {b c : Nat} (hb : b < 18446744073709551616) (h : frung b ≤ 9218868437227405312) (h0 : frung b ≠ 0) (hc : c < 9218868437227405312) :
    (FloatKind.f64.format.order (szw b) c == some .gt || FloatKind.f64.format.order (szw b) c == some .eq) = decide (c ≤ frung b) := by
  have e : szw b = frung b := by
    unfold szw
    split
    · unfold frung; omega
    · unfold frung at *; omega
  rw [e, geq_word h hc]


end Go.Proofs.YtfcgndgmbmkdgaaDoor

/- What the language has of a sum, a difference, a product of two floats: the number, rounded. -/
namespace Go.Proofs.YtfcgndgmbmkdgaaDoor

/-- x is q, rounded: the one float. -/
def RV (q x : Rat) : Prop := ∃ r, r < 9218868437227405312 ∧ ((0 ≤ q ∧ Near q r ∧ x = fval r) ∨ (q ≤ 0 ∧ Near (-q) r ∧ x = -fval r))

theorem RV.fn {q x y : Rat} (h1 : RV q x) (h2 : RV q y) : x = y := by
  obtain ⟨r, _, h1⟩ := h1
  obtain ⟨s, _, h2⟩ := h2
  have z : ∀ {p : Rat}, 0 ≤ p → p ≤ 0 → p = 0 := fun a b => Rat.le_antisymm b a
  rcases h1 with ⟨a, n1, e1⟩ | ⟨a, n1, e1⟩ <;> rcases h2 with ⟨b, n2, e2⟩ | ⟨b, n2, e2⟩
  · rw [e1, e2, near_fun n1 n2]
  · have := z a b
    subst this
    rw [show -(0 : Rat) = 0 by grind] at n2
    rw [e1, e2, near_zero n1, near_zero n2, fval_zero]; grind
  · have := z b a
    subst this
    rw [show -(0 : Rat) = 0 by grind] at n1
    rw [e1, e2, near_zero n1, near_zero n2, fval_zero]; grind
  · rw [e1, e2, near_fun n1 n2]

theorem RV.neg {q x : Rat} (h : RV q x) : RV (-q) (-x) := by
  obtain ⟨r, hr, h⟩ := h
  refine ⟨r, hr, ?_⟩
  rcases h with ⟨a, n, e⟩ | ⟨a, n, e⟩
  · exact Or.inr ⟨by grind, by rwa [show - -q = q by grind], by rw [e]⟩
  · exact Or.inl ⟨by grind, n, by rw [e]; grind⟩

theorem fval_rung (T k : Nat) (hk : k ≤ 9007199254740992) (hT : T = 0 ∨ 4503599627370496 ≤ k) (hr : T * 4503599627370496 + k < 9218868437227405312) : fval (T * 4503599627370496 + k) = ((k : Nat) : Rat) * U T := by
  rw [(fval_pos_lt hr).1]
  unfold U
  rcases Nat.lt_or_ge k 4503599627370496 with h | h
  · have e : T = 0 := by omega
    subst e
    rw [show fmag (0 * 4503599627370496 + k) = k by unfold fmag; rw [if_pos (by omega)]; omega, show fpl (0 * 4503599627370496 + k) = ((0 : Nat) : Int) - 1074 by unfold fpl; rw [if_pos (by omega)]; rfl]
  · rcases Nat.lt_or_ge k 9007199254740992 with h2 | h2
    · rw [show fmag (T * 4503599627370496 + k) = k by unfold fmag; rw [if_neg (by omega)]; omega, show fpl (T * 4503599627370496 + k) = (T : Int) - 1074 by unfold fpl; rw [if_neg (by omega)]; omega]
    · have e : k = 9007199254740992 := by omega
      subst e
      rw [show fmag (T * 4503599627370496 + 9007199254740992) = 4503599627370496 by unfold fmag; rw [if_neg (by omega)]; omega, show fpl (T * 4503599627370496 + 9007199254740992) = 1 + ((T : Int) - 1074) by unfold fpl; rw [if_neg (by omega)]; omega, p2_add, p2_one]
      rw [show ((9007199254740992 : Nat) : Rat) = 9007199254740992 from rfl, show ((4503599627370496 : Nat) : Rat) = 4503599627370496 from rfl]
      grind

theorem half_unit (T : Nat) : U T = 2 * p2 ((T : Int) - 1075) := by
  unfold U
  rw [show (T : Int) - 1074 = 1 + ((T : Int) - 1075) by omega, p2_add, p2_one]

theorem near_rnd {q : Rat} {r : Nat} (h : Near q r) (hr : r < 9218868437227405312) : ∃ T k, Rnd q (fval r) T k := by
  rcases h with ⟨rfl, rfl⟩ | ⟨hq, T, k, hl, hh, e⟩
  · have hu := U_pos 0
    exact ⟨0, 0, by rw [fval_zero]; rw [show ((0 : Int) : Rat) = 0 from rfl]; grind, by rw [fval_zero]; grind, by rw [fval_zero]; grind, Or.inl rfl, by grind, by grind, by omega, by omega⟩
  · have hb := kept_bounds hl hh
    have e' : r = T * 4503599627370496 + k := by omega
    have hv := fval_rung T k hb.1 hb.2 (by omega)
    rw [← e'] at hv
    have hU := half_unit T
    have hu := p2_pos ((T : Int) - 1075)
    obtain ⟨l1, l2⟩ := hl
    obtain ⟨s1, s2, _, _⟩ := hh
    rw [show ((18014398509481984 : Int) : Rat) = 18014398509481984 from rfl] at l2
    rw [show ((9007199254740992 : Int) : Rat) = 9007199254740992 from rfl] at l1
    have e1 : ((2 * (k : Int) - 1 : Int) : Rat) = 2 * ((k : Nat) : Rat) - 1 := by rw [Rat.intCast_sub, Rat.intCast_mul]; rfl
    have e2 : ((2 * (k : Int) + 1 : Int) : Rat) = 2 * ((k : Nat) : Rat) + 1 := by rw [Rat.intCast_add, Rat.intCast_mul]; rfl
    rw [e1] at s1
    rw [e2] at s2
    have kv : ((k : Nat) : Rat) * U T = 2 * (((k : Nat) : Rat) * p2 ((T : Int) - 1075)) := by rw [hU]; grind
    have z1 : (2 * ((k : Nat) : Rat) - 1) * p2 ((T : Int) - 1075) = 2 * (((k : Nat) : Rat) * p2 ((T : Int) - 1075)) - p2 ((T : Int) - 1075) := by grind
    have z2 : (2 * ((k : Nat) : Rat) + 1) * p2 ((T : Int) - 1075) = 2 * (((k : Nat) : Rat) * p2 ((T : Int) - 1075)) + p2 ((T : Int) - 1075) := by grind
    rw [z1] at s1
    rw [z2] at s2
    have hx : fval r = ((k : Int) : Rat) * U T := by rw [hv]; rfl
    rw [kv] at hv
    clear z1 z2 kv e1 e2 e e'
    generalize ((k : Nat) : Rat) * p2 ((T : Int) - 1075) = Z at *
    generalize p2 ((T : Int) - 1075) = h at *
    refine ⟨T, (k : Int), hx, by rw [hv, hU]; grind, by rw [hv, hU]; grind, ?_, by rw [hU]; grind, by rw [hU]; grind, by omega, by omega⟩
    rcases l1 with l1 | l1
    · exact Or.inl l1
    · exact Or.inr (Or.inl (by rw [hU]; grind))

theorem RV.rn {q x : Rat} (h : RV q x) : RN q x := by
  obtain ⟨r, hr, h⟩ := h
  rcases h with ⟨_, n, rfl⟩ | ⟨_, n, rfl⟩
  · exact near_rnd n hr
  · obtain ⟨T, k, R⟩ := near_rnd n hr
    have := R.neg
    rw [show - -q = q by grind] at this
    exact ⟨T, _, this⟩

theorem near_lt {q : Rat} {r : Nat} (h : Near q r) (hq : q < p2 1023) : r < 9218868437227405312 := by
  rcases h with ⟨rfl, rfl⟩ | ⟨_, T, k, hl, hh, e⟩
  · omega
  · have hb := kept_bounds hl hh
    have hT : T < 2045 := by
      rcases hl.1 with h | h
      · omega
      · have e1 : ((9007199254740992 : Int) : Rat) * p2 ((T : Int) - 1075) = p2 ((T : Int) - 1022) := by
          rw [show (T : Int) - 1022 = ((T : Int) - 1075) + ((53 : Nat) : Int) by omega, p2_add, p2_nat, Rat.mul_comm]; rfl
        rw [e1] at h
        have := p2_lt_iff.1 (lt_of_le_lt h hq)
        omega
    omega

/-- A word's own form. -/
theorem fc_word {b : Nat} (h : Fin64 b) : ∃ S m, FC (fval b) S m := by
  have key : ∀ r, r < 9218868437227405312 → ∃ S m, FC ((fmag r : Nat) * p2 (fpl r)) S m := by
    intro r _
    have hm := fmag_lt r
    by_cases h : r < 4503599627370496
    · refine ⟨0, (fmag r : Int), ?_, by omega, by omega, Or.inl rfl⟩
      unfold U fpl
      rw [if_pos h]; rfl
    · refine ⟨r / 4503599627370496 - 1, (fmag r : Int), ?_, by omega, by omega, Or.inr (Or.inl ?_)⟩
      · unfold U fpl
        rw [if_neg h, show ((r / 4503599627370496 - 1 : Nat) : Int) - 1074 = -1074 + ((r / 4503599627370496 - 1 : Nat) : Int) by omega]; rfl
      · unfold fmag; rw [if_neg h]; omega
  obtain ⟨S, m, c⟩ := key (frung b) h
  unfold fval sgn1
  cases fneg b
  · refine ⟨S, m, ?_⟩
    rw [if_neg (by decide), Rat.one_mul]; exact c
  · refine ⟨S, -m, ?_⟩
    rw [if_pos rfl]
    have := c.neg
    rwa [show -((fmag (frung b) : Nat) * p2 (fpl (frung b)) : Rat) = -1 * ((fmag (frung b) : Nat) * p2 (fpl (frung b))) by grind] at this

/-- A number written. -/
theorem write_rv (s : Bool) (m : Nat) (place : Int) (hq : ((m : Nat) : Rat) * p2 place < p2 1023) : ∃ r, Ieee.double.write (.number s m place) = r ∧ Fin64 r ∧ r < 18446744073709551616 ∧ RV (sgn1 s * ((m : Nat) * p2 place)) (fval r) := by
  have fin : ∀ r0, r0 < 9218868437227405312 → Near ((m : Nat) * p2 place) r0 → ∃ r, Ieee.double.word s r0 = r ∧ Fin64 r ∧ r < 18446744073709551616 ∧ RV (sgn1 s * ((m : Nat) * p2 place)) (fval r) := by
    intro r0 h0 hn
    have hnn := (near_nonneg hn).1
    unfold sgn1
    cases s
    · refine ⟨r0, rfl, by unfold Fin64 frung; omega, by omega, r0, h0, Or.inl ?_⟩
      rw [if_neg (by decide), Rat.one_mul]
      exact ⟨hnn, hn, rfl⟩
    · refine ⟨9223372036854775808 + r0, by rw [Ieee.Format.word, d_sw]; rfl, by unfold Fin64 frung; omega, by omega, r0, h0, Or.inr ?_⟩
      rw [if_pos rfl, fval_word h0]
      generalize ((m : Nat) : Rat) * p2 place = z at *
      exact ⟨by grind, by rwa [show -(-1 * z) = z by grind], rfl⟩
  show ∃ r, Ieee.double.nearest s m place = r ∧ _
  by_cases hm : m = 0
  · subst hm
    have : Ieee.double.nearest s 0 place = Ieee.double.word s 0 := by unfold Ieee.Format.nearest; rw [if_pos rfl]
    rw [this]
    exact fin 0 (by omega) (Or.inl ⟨by rw [show ((0 : Nat) : Rat) = 0 from rfl]; grind, rfl⟩)
  · obtain ⟨r0, e, hn⟩ := nearest_near s m place hm
    rw [e]
    exact fin r0 (near_lt hn hq) hn

end Go.Proofs.YtfcgndgmbmkdgaaDoor

/- Sums, differences and products of words. -/
namespace Go.Proofs.YtfcgndgmbmkdgaaDoor

def Lim (q : Rat) : Prop := q < p2 1023 ∧ -q < p2 1023

theorem abs_total (n : Int) (u : Rat) : ((n.natAbs : Nat) : Rat) * u = (if n < 0 then -((n : Rat) * u) else (n : Rat) * u) := by
  by_cases h : n < 0
  · rw [if_pos h]
    have e : ((n.natAbs : Nat) : Rat) = ((-n : Int) : Rat) := by
      rw [show ((n.natAbs : Nat) : Rat) = ((n.natAbs : Int) : Rat) from rfl, show (n.natAbs : Int) = -n by omega]
    rw [e, Rat.intCast_neg]; grind
  · rw [if_neg h]
    rw [show ((n.natAbs : Nat) : Rat) = ((n.natAbs : Int) : Rat) from rfl, show (n.natAbs : Int) = n by omega]

theorem sum_datum (s t : Bool) (m n : Nat) (i j : Int) (hq : Lim (sgn1 s * (((m : Nat) : Rat) * p2 i) + sgn1 t * (((n : Nat) : Rat) * p2 j))) :
    ∃ r, ((Ieee.Datum.number s m i).sum (Ieee.Datum.number t n j)).map Ieee.double.write = some r ∧ Fin64 r ∧ r < 18446744073709551616 ∧ RV (sgn1 s * (((m : Nat) : Rat) * p2 i) + sgn1 t * (((n : Nat) : Rat) * p2 j)) (fval r) := by
  unfold Ieee.Datum.sum
  simp only [Option.map_some]
  obtain ⟨base, hbase⟩ : ∃ b : Int, b = min i j := ⟨_, rfl⟩
  rw [← hbase]
  have e1 := signed_p2 s m (i - base).toNat base
  have e2 := signed_p2 t n (j - base).toNat base
  rw [show base + (((i - base).toNat : Nat) : Int) = i by omega] at e1
  rw [show base + (((j - base).toNat : Nat) : Int) = j by omega] at e2
  obtain ⟨total, ht⟩ : ∃ z : Int, z = Ieee.signed s m (i - base).toNat + Ieee.signed t n (j - base).toNat := ⟨_, rfl⟩
  rw [← ht]
  have eq : sgn1 s * ((m : Nat) * p2 i) + sgn1 t * ((n : Nat) * p2 j) = (total : Rat) * p2 base := by
    rw [← e1, ← e2, ht, Rat.intCast_add]; grind
  rw [eq] at hq ⊢
  have ha := abs_total total (p2 base)
  have hp := p2_pos base
  obtain ⟨sg, hsg⟩ : ∃ b : Bool, b = (if total = 0 then s && t else decide (total < 0)) := ⟨_, rfl⟩
  rw [← hsg]
  obtain ⟨r, hr, hf, hl, hv⟩ := write_rv sg total.natAbs base (by rw [ha]; split; exact hq.2; exact hq.1)
  refine ⟨r, by rw [hr], hf, hl, ?_⟩
  have : sgn1 sg * (((total.natAbs : Nat) : Rat) * p2 base) = (total : Rat) * p2 base := by
    by_cases h0 : total = 0
    · subst h0
      rw [show ((Int.natAbs 0 : Nat) : Rat) = 0 from rfl, show ((0 : Int) : Rat) = 0 from rfl]; grind
    · rw [if_neg h0] at hsg
      rw [ha, hsg]
      unfold sgn1
      by_cases h : total < 0
      · rw [if_pos h, if_pos (by simpa using h)]; grind
      · rw [if_neg h, if_neg (by simpa using h)]; grind
  rwa [this] at hv

theorem fval_eq (b : Nat) : fval b = sgn1 (fneg b) * ((fmag (frung b) : Nat) * p2 (fpl (frung b))) := rfl

theorem add_bits {a b : Nat} (ha : Fin64 a) (hb : Fin64 b) (hq : Lim (fval a + fval b)) : ∃ r, floatBits .add .f64 a b = some r ∧ Fin64 r ∧ r < 18446744073709551616 ∧ RV (fval a + fval b) (fval r) := by
  show ∃ r, ((Ieee.double.read a).sum (Ieee.double.read b)).map Ieee.double.write = some r ∧ _
  rw [read_fin ha, read_fin hb]
  exact sum_datum _ _ _ _ _ _ hq

theorem sub_bits {a b : Nat} (ha : Fin64 a) (hb : Fin64 b) (hq : Lim (fval a - fval b)) : ∃ r, floatBits .sub .f64 a b = some r ∧ Fin64 r ∧ r < 18446744073709551616 ∧ RV (fval a - fval b) (fval r) := by
  show ∃ r, ((Ieee.double.read a).sum (Ieee.double.read b).opposite).map Ieee.double.write = some r ∧ _
  rw [read_fin ha, read_fin hb]
  have e : fval a - fval b = sgn1 (fneg a) * ((fmag (frung a) : Nat) * p2 (fpl (frung a))) + sgn1 (!fneg b) * ((fmag (frung b) : Nat) * p2 (fpl (frung b))) := by
    rw [fval_eq a, fval_eq b]
    generalize ((fmag (frung b) : Nat) : Rat) * p2 (fpl (frung b)) = z
    cases fneg b <;> simp [sgn1] <;> grind
  rw [e] at hq ⊢
  exact sum_datum _ _ _ _ _ _ hq

theorem mul_bits {a b : Nat} (ha : Fin64 a) (hb : Fin64 b) (hq : Lim (fval a * fval b)) : ∃ r, floatBits .mul .f64 a b = some r ∧ Fin64 r ∧ r < 18446744073709551616 ∧ RV (fval a * fval b) (fval r) := by
  show ∃ r, ((Ieee.double.read a).product (Ieee.double.read b)).map Ieee.double.write = some r ∧ _
  rw [read_fin ha, read_fin hb]
  unfold Ieee.Datum.product
  simp only [Option.map_some]
  have e : fval a * fval b = sgn1 (fneg a ^^ fneg b) * (((fmag (frung a) * fmag (frung b) : Nat) : Rat) * p2 (fpl (frung a) + fpl (frung b))) := by
    rw [fval_eq a, fval_eq b, p2_add, Rat.natCast_mul]
    generalize ((fmag (frung a) : Nat) : Rat) = m
    generalize ((fmag (frung b) : Nat) : Rat) = n
    generalize p2 (fpl (frung a)) = u
    generalize p2 (fpl (frung b)) = v
    cases fneg a <;> cases fneg b <;> simp [sgn1] <;> grind
  rw [e] at hq ⊢
  have hnn : (0 : Rat) ≤ ((fmag (frung a) * fmag (frung b) : Nat) : Rat) * p2 (fpl (frung a) + fpl (frung b)) := Rat.mul_nonneg Rat.natCast_nonneg (Rat.le_of_lt (p2_pos _))
  obtain ⟨r, hr, h⟩ := write_rv (fneg a ^^ fneg b) (fmag (frung a) * fmag (frung b)) (fpl (frung a) + fpl (frung b)) (by
    generalize ((fmag (frung a) * fmag (frung b) : Nat) : Rat) * p2 (fpl (frung a) + fpl (frung b)) = z at *
    cases hs : (fneg a ^^ fneg b)
    · rw [hs] at hq; have := hq.1; simp [sgn1] at this; grind
    · rw [hs] at hq; have := hq.2; simp [sgn1] at this; grind)
  exact ⟨r, by rw [hr], h⟩

end Go.Proofs.YtfcgndgmbmkdgaaDoor

/- The reference's Of: what a float denotes. -/
namespace Go.Proofs.YtfcgndgmbmkdgaaDoor
open Go.RowKit

/-- What a float denotes (0 of what denotes nothing). -/
def den (b : Nat) : Rat := if frung b < 9218868437227405312 then fval b else 0

theorem frexp_mul (u : Nat) (hu : u < 4503599627370496) : floatBits .mul .f64 (1022 * 4503599627370496 + u) 4845873199050653696 = some (1075 * 4503599627370496 + u) := by
  show Ieee.double.mul (1022 * 4503599627370496 + u) 4845873199050653696 = _
  have r2 : Ieee.double.read 4845873199050653696 = .number false 4503599627370496 1 := by
    have := read_norm 1076 0 (by omega) (by omega) (by omega)
    simpa using this
  unfold Ieee.Format.mul
  rw [read_norm 1022 u (by omega) (by omega) hu, r2]
  unfold Ieee.Datum.product
  simp only [Option.map_some, Ieee.Format.write, Bool.xor_false]
  congr 1
  have h := nearest_norm (4503599627370496 + u) 52 (-1075 + ((1022 : Nat) : Int) + 1) (by omega) (by omega) (by omega) (by omega)
  rw [show (4503599627370496 + u) * 4503599627370496 = (4503599627370496 + u) * 2 ^ 52 from rfl, h]
  omega

/-- What no number comes of: some float that is no number. -/
def nanW (a b : Nat) (w : World) : Nat := Question.cut (.nanBits .f64 a b) (w.tape w.drawn (.nanBits .f64 a b))
theorem nanW_nan (a b : Nat) (w : World) : 9218868437227405312 < frung (nanW a b w) ∧ nanW a b w < 18446744073709551616 := by
  unfold nanW frung
  generalize w.tape w.drawn (.nanBits .f64 a b) = t
  simp only [Question.cut]
  have h1 : t % 2 < 2 := Nat.mod_lt _ (by omega)
  have h2 : (t / 2) % (2 ^ 52 - 1) < 2 ^ 52 - 1 := Nat.mod_lt _ (by omega)
  generalize t % 2 = x at *
  generalize (t / 2) % (2 ^ 52 - 1) = y at *
  omega
theorem run_sub_nan (a b : Nat) (h : floatBits .sub .f64 a b = none) (w : World) : (binOp .sub 22 (.float .f64 a) (.float .f64 b)).run Tryd.prog w = .ok (.float .f64 (nanW a b w)) w.drew := by
  have h' : FloatKind.f64.format.sub a b = none := h
  simp [binOp, Op.floatArith, h', nanW, Question.forced]
theorem nan_order {n : Nat} (h : 9218868437227405312 < frung n) (c : Nat) : FloatKind.f64.format.order n c = none := order_nan_left h

theorem Rf.flip {w : World} {S E : Int} {v : Value} {q : Rat} {a : Option Addr} {n c : Nat} (h : Rf w v q) (hv : v = .agg #[.int .i64 S, .slice a n c, .int .i64 E]) : Rf w (.agg #[.int .i64 (-S), .slice a n c, .int .i64 E]) (-q) := by
  obtain ⟨S', ds, E', ⟨⟨a', c', hv', hc, hf⟩, h2, h3, h4, h5⟩, k, rfl⟩ := h
  rw [hv] at hv'
  simp only [Value.agg.injEq, Array.mk.injEq, List.cons.injEq, Value.int.injEq, Value.slice.injEq, true_and, and_true] at hv'
  obtain ⟨rfl, ⟨rfl, rfl, rfl⟩, rfl⟩ := hv'
  exact ⟨-S, ds, E, ⟨⟨a, c, rfl, hc, hf⟩, h2, h3, h4, h5⟩, k.neg, by rw [Rat.intCast_neg]; grind⟩

end Go.Proofs.YtfcgndgmbmkdgaaDoor

/- The reference's Of, of any float. -/
namespace Go.Proofs.YtfcgndgmbmkdgaaDoor
open Go.RowKit

theorem order_val {a b : Nat} (ha : Fin64 a) (hb : Fin64 b) : FloatKind.f64.format.order a b = some (if fval a < fval b then .lt else if fval a = fval b then .eq else .gt) := order_fin ha hb
theorem fin0 : Fin64 0 := by unfold Fin64 frung; decide
theorem fval0 : fval 0 = 0 := fval_zero_iff.2 rfl
theorem rv_zero {x : Rat} (h : RV 0 x) : x = 0 := by
  obtain ⟨r, _, h⟩ := h
  rcases h with ⟨_, n, rfl⟩ | ⟨_, n, rfl⟩
  · rw [near_zero n]; exact fval0
  · rw [show (-0 : Rat) = 0 by grind] at n
    rw [near_zero n, fval0]; grind
theorem self_sub {b : Nat} (h : Fin64 b) : ∃ n, floatBits .sub .f64 b b = some n ∧ FloatKind.f64.format.order n 0 = some .eq := by
  obtain ⟨r, h1, h2, _, h3⟩ := sub_bits h h (by
    have := p2_pos 1023
    exact ⟨by grind, by grind⟩)
  rw [show fval b - fval b = 0 by grind] at h3
  have h4 := rv_zero h3
  refine ⟨r, h1, ?_⟩
  rw [order_val h2 fin0, h4, fval0, if_neg (by grind), if_pos rfl]

theorem den_fit (b : Nat) : Bd 1024 (-1074) (den b) := by
  unfold den
  split
  · rename_i h; exact fval_bd h
  · exact bd_zero _ _

end Go.Proofs.YtfcgndgmbmkdgaaDoor

/- Lists of floats that rise and do not overlap: plain facts. -/
namespace Go.Proofs.YtfcgndgmbmkdgaaDoor

/-- The magnitude. -/
def ab (x : Rat) : Rat := if x < 0 then -x else x
theorem ab_le {x c : Rat} : ab x ≤ c ↔ x ≤ c ∧ -x ≤ c := by unfold ab; split <;> grind
theorem ab_lt {x c : Rat} : ab x < c ↔ x < c ∧ -x < c := by unfold ab; split <;> grind
theorem le_ab {x c : Rat} : c ≤ ab x ↔ c ≤ x ∨ c ≤ -x := by unfold ab; split <;> grind
theorem ab_self (x : Rat) : x ≤ ab x ∧ -x ≤ ab x := ab_le.1 Rat.le_refl
theorem ab_nonneg (x : Rat) : 0 ≤ ab x := by unfold ab; split <;> grind
theorem ab_neg (x : Rat) : ab (-x) = ab x := by unfold ab; split <;> split <;> grind
theorem ab_add (x y : Rat) : ab (x + y) ≤ ab x + ab y := by
  have := ab_self x
  have := ab_self y
  rw [ab_le]; constructor <;> grind
theorem ab_pos {x : Rat} (h : x ≠ 0) : 0 < ab x := by unfold ab; split <;> grind
theorem ab_zero {x : Rat} (h : ab x ≤ 0) : x = 0 := by
  have := ab_le.1 h
  grind

theorem U_le_iff {S T : Nat} : U S ≤ U T ↔ S ≤ T := by unfold U; rw [p2_le_iff]; omega
theorem U_lt_iff {S T : Nat} : U S < U T ↔ S < T := by unfold U; rw [p2_lt_iff]; omega
theorem two_rat (j : Nat) : (((2 ^ j : Nat) : Int) : Rat) = ((2 ^ j : Nat) : Rat) := rfl

/-- A multiple that is not nought is not less than the unit. -/
theorem M.ge {u x : Rat} (hu : 0 < u) (h : M u x) (h0 : x ≠ 0) : u ≤ ab x := by
  obtain ⟨k, rfl⟩ := h
  have hk : k ≠ 0 := by intro e; subst e; exact h0 (by rw [show ((0 : Int) : Rat) = 0 from rfl]; grind)
  rw [le_ab]
  rcases Int.lt_or_le 0 k with h | h
  · left
    have := Rat.mul_le_mul_of_nonneg_right (Rat.intCast_le_intCast.2 (show (1 : Int) ≤ k by omega)) (Rat.le_of_lt hu)
    rw [one_rat] at this; grind
  · right
    have := Rat.mul_le_mul_of_nonneg_right (Rat.intCast_le_intCast.2 (show (1 : Int) ≤ -k by omega)) (Rat.le_of_lt hu)
    rw [one_rat, Rat.intCast_neg] at this; grind
theorem M.room1 {s t : Nat} {z : Rat} (h : M (U t) z) (hst : t ≤ s) (hz : z < U s) : z ≤ U s - U t := by
  obtain ⟨k, rfl⟩ := h
  obtain ⟨j, rfl⟩ : ∃ j, s = t + j := ⟨s - t, by omega⟩
  rw [U_add] at hz ⊢
  have hu := U_pos t
  have h1 : (k : Rat) * U t < (((2 ^ j : Nat) : Int) : Rat) * U t := hz
  have h2 := cast_lt hu h1
  have h3 : k ≤ ((2 ^ j : Nat) : Int) - 1 := by omega
  have h4 := Rat.mul_le_mul_of_nonneg_right (Rat.intCast_le_intCast.2 h3) (Rat.le_of_lt hu)
  rw [Rat.intCast_sub, one_rat, two_rat] at h4
  grind
/-- A multiple below a greater unit leaves room. -/
theorem M.room {s t : Nat} {z : Rat} (h : M (U t) z) (hst : t ≤ s) (hz : ab z < U s) : ab z ≤ U s - U t := by
  have := ab_lt.1 hz
  exact ab_le.2 ⟨h.room1 hst this.1, h.neg.room1 hst this.2⟩

/-- h is less than a unit that x is a multiple of. -/
def Lo (h x : Rat) : Prop := ∃ t, ab h < U t ∧ M (U t) x

theorem Lo.common {h x y : Rat} (h1 : Lo h x) (h2 : Lo h y) : ∃ t, ab h < U t ∧ M (U t) x ∧ M (U t) y := by
  obtain ⟨s, a, b⟩ := h1
  obtain ⟨t, c, d⟩ := h2
  rcases Nat.le_total s t with e | e
  · exact ⟨s, a, b, d.down e⟩
  · exact ⟨t, c, b.down e, d⟩
theorem Lo.add {h x y : Rat} (h1 : Lo h x) (h2 : Lo h y) : Lo h (x + y) := by
  obtain ⟨t, a, b, c⟩ := h1.common h2
  exact ⟨t, a, b.add c⟩
theorem Lo.neg {h x : Rat} (h1 : Lo h x) : Lo h (-x) := by
  obtain ⟨t, a, b⟩ := h1
  exact ⟨t, a, b.neg⟩
theorem Lo.sub {h x y : Rat} (h1 : Lo h x) (h2 : Lo h y) : Lo h (x - y) := by
  obtain ⟨t, a, b, c⟩ := h1.common h2
  exact ⟨t, a, b.sub c⟩
theorem M.rnd {q x : Rat} {T t : Nat} {k : Int} (h : M (U t) q) (R : Rnd q x T k) : M (U t) x := by
  rcases Nat.le_total T t with e | e
  · rw [R.mult (h.down e)]; exact h
  · exact R.m.down e
theorem Lo.rnd {h q x : Rat} {T : Nat} {k : Int} (h1 : Lo h q) (R : Rnd q x T k) : Lo h x := by
  obtain ⟨t, a, b⟩ := h1
  exact ⟨t, a, b.rnd R⟩
theorem Lo.lt {h x : Rat} (h1 : Lo h x) (h0 : x ≠ 0) : ab h < ab x := by
  obtain ⟨t, a, b⟩ := h1
  have := b.ge (U_pos t) h0
  grind
theorem Lo.trans {h x y : Rat} (h1 : Lo h x) (h0 : x ≠ 0) (h2 : Lo x y) : Lo h y := by
  have a := h1.lt h0
  obtain ⟨t, b, c⟩ := h2
  exact ⟨t, by grind, c⟩

/-- They rise and do not overlap. -/
def Ex (l : List Rat) : Prop := l.Pairwise Lo ∧ ∀ x ∈ l, x ≠ 0

theorem lo_list {x : Rat} {r : List Rat} (h : ∀ y ∈ r, Lo x y) (hne : r ≠ []) : ∃ t, ab x < U t ∧ ∀ y ∈ r, M (U t) y := by
  induction r with
  | nil => exact absurd rfl hne
  | cons y r ih =>
    obtain ⟨s, a, b⟩ := h y (by simp)
    by_cases e : r = []
    · subst e
      exact ⟨s, a, fun z hz => by simp at hz; rw [hz]; exact b⟩
    · obtain ⟨t, c, d⟩ := ih (fun z hz => h z (by simp [hz])) e
      rcases Nat.le_total s t with e | e
      · exact ⟨s, a, fun z hz => by
          rcases List.mem_cons.1 hz with rfl | hz
          · exact b
          · exact (d z hz).down e⟩
      · exact ⟨t, c, fun z hz => by
          rcases List.mem_cons.1 hz with rfl | hz
          · exact b.down e
          · exact d z hz⟩
theorem M_zero (u : Rat) : M u 0 := ⟨0, by rw [show ((0 : Int) : Rat) = 0 from rfl]; grind⟩
theorem M.sum {u : Rat} {l : List Rat} (h : ∀ y ∈ l, M u y) : M u l.sum := by
  induction l with
  | nil => exact M_zero u
  | cons y r ih => rw [List.sum_cons]; exact (h y (by simp)).add (ih (fun z hz => h z (by simp [hz])))

/-- All together are less than a unit that each is less than. -/
theorem Ex.bound {l : List Rat} {s : Nat} (h : Ex l) (hb : ∀ x ∈ l, ab x < U s) : ab l.sum < U s := by
  induction l with
  | nil => rw [List.sum_nil]; exact ab_lt.2 ⟨U_pos s, by have := U_pos s; grind⟩
  | cons x r ih =>
    obtain ⟨hp, h0⟩ := h
    rw [List.pairwise_cons] at hp
    have hr := ih ⟨hp.2, fun y hy => h0 y (by simp [hy])⟩ (fun y hy => hb y (by simp [hy]))
    rw [List.sum_cons]
    by_cases e : r = []
    · subst e
      rw [List.sum_nil, Rat.add_zero]
      exact hb x (by simp)
    · obtain ⟨t, a, m⟩ := lo_list hp.1 e
      have ht : t ≤ s := by
        obtain ⟨y, hy⟩ := List.exists_mem_of_ne_nil r e
        have h1 := (m y hy).ge (U_pos t) (h0 y (by simp [hy]))
        have h2 := hb y (by simp [hy])
        have h3 : U t ≤ U s := by grind
        exact U_le_iff.1 h3
      have := (M.sum m).room ht hr
      have := ab_add x r.sum
      grind

/-- A float from 2^K on is a multiple of 2^(K - 52). -/
theorem F.mult {g : Rat} {K : Nat} (hg : F g) (h : U K ≤ ab g) : M (U (K - 52)) g := by
  obtain ⟨S, m, rfl, h1, h2⟩ := hg
  have hu := U_pos S
  have hb := F.abs (z := (m : Rat) * U S) rfl h1 h2
  have hK : U K ≤ U (S + 53) := by
    rw [U_add]
    have e : ((2 ^ 53 : Nat) : Rat) = 9007199254740992 := by decide +kernel
    rw [e]
    have := ab_le.2 hb
    grind
  have hK := U_le_iff.1 hK
  by_cases e : K ≤ S + 52
  · exact M.down (by omega) ⟨m, rfl⟩
  · obtain rfl : K = S + 53 := by omega
    have hm : m = 9007199254740992 ∨ m = -9007199254740992 := by
      rw [U_add] at h
      have e : ((2 ^ 53 : Nat) : Rat) = ((9007199254740992 : Int) : Rat) := by decide +kernel
      rw [e] at h
      rcases le_ab.1 h with h | h
      · left; have := cast_le hu h; omega
      · right
        have h : ((9007199254740992 : Int) : Rat) * U S ≤ ((-m : Int) : Rat) * U S := by rw [Rat.intCast_neg]; grind
        have := cast_le hu h; omega
    rw [show S + 53 - 52 = S + 1 by omega]
    have eu := U_succ S
    rcases hm with rfl | rfl
    · exact ⟨4503599627370496, by rw [eu, show ((9007199254740992 : Int) : Rat) = 9007199254740992 from rfl, show ((4503599627370496 : Int) : Rat) = 4503599627370496 from rfl]; grind⟩
    · exact ⟨-4503599627370496, by rw [eu, show ((-9007199254740992 : Int) : Rat) = -9007199254740992 from rfl, show ((-4503599627370496 : Int) : Rat) = -4503599627370496 from rfl]; grind⟩
theorem F.mult0 {g : Rat} (hg : F g) : M (U 0) g := by
  obtain ⟨S, m, rfl, _, _⟩ := hg
  exact M.down (Nat.zero_le _) ⟨m, rfl⟩

/-- The highest bit. -/
theorem binade {u : Nat} {g : Rat} (hg : M (U u) g) (h0 : g ≠ 0) : ∃ K, u ≤ K ∧ U K ≤ ab g ∧ ab g < U (K + 1) := by
  obtain ⟨m, rfl⟩ := hg
  have hu := U_pos u
  have hm : m.natAbs ≠ 0 := by
    intro e
    have : m = 0 := by omega
    subst this
    exact h0 (by rw [show ((0 : Int) : Rat) = 0 from rfl]; grind)
  have e : ab ((m : Rat) * U u) = ((m.natAbs : Int) : Rat) * U u := by
    rcases Int.lt_or_le m 0 with h | h
    · rw [show ((m.natAbs : Nat) : Int) = -m by omega, Rat.intCast_neg]
      have h2 : (m : Rat) * U u < 0 := by
        have := Rat.mul_lt_mul_of_pos_right (Rat.intCast_lt_intCast.2 h) hu
        rw [show ((0 : Int) : Rat) = 0 from rfl] at this; grind
      unfold ab; rw [if_pos h2]; grind
    · rw [show ((m.natAbs : Nat) : Int) = m by omega]
      have h2 : 0 ≤ (m : Rat) * U u := by
        have := Rat.mul_le_mul_of_nonneg_right (Rat.intCast_le_intCast.2 h) (Rat.le_of_lt hu)
        rw [show ((0 : Int) : Rat) = 0 from rfl] at this; grind
      unfold ab; rw [if_neg (by grind)]
  refine ⟨u + Nat.log2 m.natAbs, by omega, ?_, ?_⟩
  · rw [e, U_add]
    have h1 : 2 ^ Nat.log2 m.natAbs ≤ m.natAbs := Nat.log2_self_le hm
    exact Rat.mul_le_mul_of_nonneg_right (Rat.intCast_le_intCast.2 (by omega : (((2 ^ Nat.log2 m.natAbs : Nat) : Int)) ≤ (m.natAbs : Int))) (Rat.le_of_lt hu)
  · rw [e, Nat.add_assoc, U_add]
    have h1 : m.natAbs < 2 ^ (Nat.log2 m.natAbs + 1) := Nat.lt_log2_self
    exact Rat.mul_lt_mul_of_pos_right (Rat.intCast_lt_intCast.2 (by omega : (m.natAbs : Int) < (((2 ^ (Nat.log2 m.natAbs + 1) : Nat) : Int)))) hu

end Go.Proofs.YtfcgndgmbmkdgaaDoor

/- Two lists that rise and do not overlap, joined: plain facts. -/
namespace Go.Proofs.YtfcgndgmbmkdgaaDoor

/-- What is so between two rounds of joined. (de, df: what is taken of the two; re, rf: what is left; N: none is above 2^(N - 1074).) -/
structure JInv (N : Nat) (de re df rf outs : List Rat) (Q q : Rat) : Prop where
  sum : Q + q + outs.sum = de.sum + df.sum
  ex : Ex outs
  e1 : Ex (de ++ re)
  e2 : Ex (df ++ rf)
  b1 : ∀ x ∈ de ++ re, F x ∧ ab x < U N
  b2 : ∀ x ∈ df ++ rf, F x ∧ ab x < U N
  b3 : ∀ h ∈ outs, F h ∧ ab h < U N
  low : ∀ h ∈ outs, Lo h Q ∧ Lo h q ∧ (∀ g ∈ re, Lo h g) ∧ (∀ g ∈ rf, Lo h g)
  o1 : ∀ x ∈ de, ∀ y ∈ rf, ab x ≤ ab y
  o2 : ∀ x ∈ df, ∀ y ∈ re, ab x ≤ ab y
  rq : ∃ T k, Rnd (Q + q) Q T k
  fq : F q

theorem JInv.turn {N : Nat} {de re df rf outs : List Rat} {Q q : Rat} (I : JInv N de re df rf outs Q q) : JInv N df rf de re outs Q q where
  sum := by rw [I.sum]; grind
  ex := I.ex
  e1 := I.e2
  e2 := I.e1
  b1 := I.b2
  b2 := I.b1
  b3 := I.b3
  low := fun h hh => ⟨(I.low h hh).1, (I.low h hh).2.1, (I.low h hh).2.2.2, (I.low h hh).2.2.1⟩
  o1 := I.o2
  o2 := I.o1
  rq := I.rq
  fq := I.fq

theorem Ex.left {a b : List Rat} (h : Ex (a ++ b)) : Ex a := ⟨(List.pairwise_append.1 h.1).1, fun x hx => h.2 x (by simp [hx])⟩
theorem Ex.right {a b : List Rat} (h : Ex (a ++ b)) : Ex b := ⟨(List.pairwise_append.1 h.1).2.1, fun x hx => h.2 x (by simp [hx])⟩

theorem JInv.start {N : Nat} {e f : List Rat} (h1 : Ex e) (h2 : Ex f) (b1 : ∀ x ∈ e, F x ∧ ab x < U N) (b2 : ∀ x ∈ f, F x ∧ ab x < U N) : JInv N [] e [] f [] 0 0 where
  sum := by simp only [List.sum_nil]; grind
  ex := ⟨List.Pairwise.nil, by simp⟩
  e1 := h1
  e2 := h2
  b1 := b1
  b2 := b2
  b3 := by simp
  low := by simp
  o1 := by simp
  o2 := by simp
  rq := ⟨0, 0, by
    have h0 : (0 : Rat) + 0 = 0 := by grind
    have hu := U_pos 0
    rw [h0]
    exact ⟨by rw [show ((0 : Int) : Rat) = 0 from rfl]; grind, by grind, by grind, Or.inl rfl, by grind, by grind, by omega, by omega⟩⟩
  fq := F_zero

/-- All together is less than three times as much as each. -/
theorem JInv.size {N : Nat} {de re df rf outs : List Rat} {Q q : Rat} (I : JInv N de re df rf outs Q q) : ab (Q + q) < 3 * U N := by
  have h1 := I.e1.left.bound (s := N) (fun x hx => (I.b1 x (by simp [hx])).2)
  have h2 := I.e2.left.bound (s := N) (fun x hx => (I.b2 x (by simp [hx])).2)
  have h3 := I.ex.bound (s := N) (fun x hx => (I.b3 x hx).2)
  have h4 := I.sum
  have := ab_self de.sum
  have := ab_self df.sum
  have := ab_self outs.sum
  rw [ab_lt]; constructor <;> grind

/-- What is rounded off is not more than what there is. -/
theorem Rnd.rest_le {q x : Rat} {T : Nat} {k : Int} (R : Rnd q x T k) : ab (q - x) ≤ ab q := by
  have := ab_self q
  have h := R.best (c := ab q) F_zero (by grind) (by grind)
  rw [ab_le]; constructor <;> grind
theorem Rnd.rest_le' {a q x : Rat} {T : Nat} {k : Int} (R : Rnd (a + q) x T k) (ha : F a) : ab (a + q - x) ≤ ab q := by
  have := ab_self q
  have h := R.best (c := ab q) ha (by grind) (by grind)
  rw [ab_le]; constructor <;> grind
theorem Rnd.half {q x : Rat} {T : Nat} {k : Int} (R : Rnd q x T k) : 2 * ab (q - x) ≤ U T := by
  have h1 := R.h1
  have h2 := R.h2
  unfold ab; split <;> grind
theorem Rnd.rest_lo {q x : Rat} {T : Nat} {k : Int} (R : Rnd q x T k) : Lo (q - x) x := by
  have h := R.half
  have hu := U_pos T
  have := ab_nonneg (q - x)
  exact ⟨T, by grind, R.m⟩
theorem Rnd.unit_le {q x : Rat} {T K : Nat} {k : Int} (R : Rnd q x T k) (h : ab q < U K) (hT : T ≠ 0) : T + 52 < K := by
  have h1 : U (T + 52) < U K := by
    rw [U_add]
    have e : ((2 ^ 52 : Nat) : Rat) = 4503599627370496 := by decide +kernel
    rw [e]
    have := ab_lt.1 h
    rcases R.h3 with h3 | h3 | h3
    · exact absurd h3 hT
    · grind
    · grind
  exact U_lt_iff.1 h1

/-- A multiple of the last unit is not rounded at the last unit. -/
theorem Rnd.at0 {q x : Rat} {k : Int} (R : Rnd q x 0 k) (h : M (U 0) q) : x = q := R.mult h

/-- The core of a round: what is rounded off when the next float takes in what was rounded off. -/
theorem join_core {K : Nat} {Q q g R h : Rat} {T T' : Nat} {k k' : Int} (hA : ab (Q + q) < U (K + 2)) (RQ : Rnd (Q + q) Q T k) (fq : F q) (fg : F g) (fQ : F Q) (hg1 : U K ≤ ab g) (hg2 : ab g < U (K + 1)) (RR : Rnd (g + q) R T' k') (hh : h = g + q - R) (h0 : h ≠ 0) :
    ab h < U (K - 52) ∧ ab h ≤ ab q ∧ Lo h R ∧ Lo h Q := by
  have hq := RQ.half
  rw [show Q + q - Q = q by grind] at hq
  have hle := RR.rest_le' fg
  rw [← hh] at hle
  have hlR := RR.rest_lo
  rw [← hh] at hlR
  have hT : T ≠ 0 := by
    intro e
    subst e
    have := RQ.mult ((F.mult0 fQ).add (F.mult0 fq))
    have hq0 : q = 0 := by grind
    subst hq0
    have : R = g := by
      have := RR.exact (by rw [Rat.add_zero]; exact fg)
      grind
    exact h0 (by grind)
  have hTK := RQ.unit_le hA hT
  have hT' : T' ≠ 0 := by
    intro e
    subst e
    have := RR.mult ((F.mult0 fg).add (F.mult0 fq))
    exact h0 (by grind)
  have hK : U T ≤ 2 * U (K - 52) := by
    rw [← U_succ]; exact U_mono (by omega)
  have hgm := (F.mult fg hg1).room (by omega : K - 52 ≤ K + 1) hg2
  have hu := U_pos T
  have hx : ab (g + q) ≤ U (K + 1) := by
    have := ab_add g q
    grind
  have hne : ab (g + q) ≠ U (K + 1) := by
    intro e
    have hf : F (g + q) := by
      unfold ab at e
      split at e
      · exact ⟨K + 1, -1, by rw [show ((-1 : Int) : Rat) = -1 from rfl]; grind, by omega, by omega⟩
      · exact ⟨K + 1, 1, by rw [one_rat]; grind, by omega, by omega⟩
    have := RR.exact hf
    exact h0 (by grind)
  have hT2 := RR.unit_le (K := K + 1) (by grind) hT'
  have hh2 := RR.half
  rw [← hh] at hh2
  have hu' := U_pos T'
  have hK' : U T' ≤ U (K - 52) := U_mono (by omega)
  have := ab_nonneg h
  refine ⟨by grind, hle, hlR, T, ?_, RQ.m⟩
  have := ab_nonneg q
  grind

/-- A list with h behind its end, unless h is nought. -/
def grownR (l : List Rat) (h : Rat) : List Rat := if h = 0 then l else l ++ [h]

theorem Ex.grow {l : List Rat} {h : Rat} (hl : Ex l) (hh : ∀ x ∈ l, Lo x h) : Ex (grownR l h) := by
  unfold grownR
  split
  · exact hl
  · rename_i h0
    refine ⟨List.pairwise_append.2 ⟨hl.1, by simp, fun x hx y hy => ?_⟩, fun x hx => ?_⟩
    · simp at hy; rw [hy]; exact hh x hx
    · rcases List.mem_append.1 hx with hx | hx
      · exact hl.2 x hx
      · simp at hx; rw [hx]; exact h0
theorem sum_grow (l : List Rat) (h : Rat) : (grownR l h).sum = l.sum + h := by
  unfold grownR
  split
  · rename_i e; rw [e]; grind
  · rw [List.sum_append, List.sum_cons, List.sum_nil, Rat.add_zero]
theorem mem_grow {l : List Rat} {h x : Rat} (hx : x ∈ grownR l h) : x ∈ l ∨ (x = h ∧ h ≠ 0) := by
  unfold grownR at hx
  split at hx
  · exact Or.inl hx
  · rename_i h0
    rcases List.mem_append.1 hx with hx | hx
    · exact Or.inl hx
    · simp at hx; exact Or.inr ⟨hx, h0⟩

theorem JInv.step {N : Nat} {de re df rf outs : List Rat} {Q q g R h Q' q' : Rat} {T1 T2 : Nat} {k1 k2 : Int} (I : JInv N de (g :: re) df rf outs Q q) (hmin : ∀ y ∈ rf, ab g ≤ ab y)
    (RR : Rnd (g + q) R T1 k1) (hh : R + h = g + q) (fh : F h) (RQ : Rnd (Q + R) Q' T2 k2) (hq' : Q' + q' = Q + R) (fq' : F q') : JInv N (de ++ [g]) re df rf (grownR outs h) Q' q' := by
  obtain ⟨TQ, kQ, RQ0⟩ := I.rq
  have hg := I.b1 g (by simp)
  have g0 : g ≠ 0 := I.e1.2 g (by simp)
  obtain ⟨K, _, hK1, hK2⟩ := binade (F.mult0 hg.1) g0
  have hpw := List.pairwise_append.1 I.e1.1
  have hgr : ∀ y ∈ re, Lo g y := fun y hy => (List.pairwise_cons.1 hpw.2.1).1 y hy
  have hdg : ∀ x ∈ de, Lo x g := fun x hx => hpw.2.2 x hx g (by simp)
  have hA : ab (Q + q) < U (K + 2) := by
    have h1 := I.e1.left.bound (s := K) (fun x hx => by
      obtain ⟨t, a, b⟩ := hdg x hx
      have h1 := b.ge (U_pos t) g0
      have h2 : U t < U (K + 1) := by grind
      have h3 := U_mono (show t ≤ K by have := U_lt_iff.1 h2; omega)
      grind)
    have h2 := I.e2.left.bound (s := K + 1) (fun x hx => by have := I.o2 x hx g (by simp); grind)
    have h3 := I.ex.bound (s := K) (fun x hx => by
      obtain ⟨t, a, b⟩ := (I.low x hx).2.2.1 g (by simp)
      have h1 := b.ge (U_pos t) g0
      have h2 : U t < U (K + 1) := by grind
      have h3 := U_mono (show t ≤ K by have := U_lt_iff.1 h2; omega)
      grind)
    have h4 := I.sum
    have := ab_self de.sum
    have := ab_self df.sum
    have := ab_self outs.sum
    have e1 := U_succ K
    have e2 := U_succ (K + 1)
    rw [ab_lt]; constructor <;> grind
  have hlow : ∀ x ∈ outs, Lo x R ∧ Lo x h ∧ Lo x Q' ∧ Lo x q' := by
    intro x hx
    have a := (I.low x hx).2.1
    have b := (I.low x hx).2.2.1 g (by simp)
    have c := (b.add a).rnd RR
    have d := (b.add a).sub c
    rw [show g + q - R = h by grind] at d
    have e := ((I.low x hx).1.add c).rnd RQ
    have f := ((I.low x hx).1.add c).sub e
    rw [show Q + R - Q' = q' by grind] at f
    exact ⟨c, d, e, f⟩
  have hnew : h ≠ 0 → ab h < U N ∧ Lo h Q' ∧ Lo h q' ∧ (∀ y ∈ re, Lo h y) ∧ (∀ y ∈ rf, Lo h y) := by
    intro h0
    obtain ⟨c1, c2, c3, c4⟩ := join_core hA RQ0 I.fq hg.1 RQ0.f hK1 hK2 RR (by grind) h0
    have e := (c4.add c3).rnd RQ
    have f := (c4.add c3).sub e
    rw [show Q + R - Q' = q' by grind] at f
    have hKN : U (K - 52) ≤ U N := by
      have h1 := U_mono (show K - 52 ≤ K by omega)
      have := hg.2
      grind
    refine ⟨by grind, e, f, fun y hy => ?_, fun y hy => ?_⟩
    · have h1 := (hgr y hy).lt (I.e1.2 y (by simp [hy]))
      exact ⟨K - 52, c1, F.mult (I.b1 y (by simp [hy])).1 (by grind)⟩
    · have h1 := hmin y hy
      exact ⟨K - 52, c1, F.mult (I.b2 y (by simp [hy])).1 (by grind)⟩
  refine ⟨?_, I.ex.grow (fun x hx => (hlow x hx).2.1), ?_, I.e2, ?_, I.b2, ?_, ?_, ?_, ?_, ⟨T2, k2, by rw [hq']; exact RQ⟩, fq'⟩
  · rw [sum_grow, List.sum_append]
    have := I.sum
    simp only [List.sum_cons, List.sum_nil]
    grind
  · have := I.e1
    rwa [List.append_cons] at this
  · intro x hx
    exact I.b1 x (by simp at hx ⊢; grind)
  · intro x hx
    rcases mem_grow hx with hx | ⟨rfl, h0⟩
    · exact I.b3 x hx
    · exact ⟨fh, (hnew h0).1⟩
  · intro x hx
    rcases mem_grow hx with hx | ⟨rfl, h0⟩
    · exact ⟨(hlow x hx).2.2.1, (hlow x hx).2.2.2, fun y hy => (I.low x hx).2.2.1 y (by simp [hy]), (I.low x hx).2.2.2⟩
    · exact (hnew h0).2
  · intro x hx y hy
    rcases List.mem_append.1 hx with hx | hx
    · exact I.o1 x hx y hy
    · simp at hx; rw [hx]; exact hmin y hy
  · intro x hx y hy
    exact I.o2 x hx y (by simp [hy])

/-- The end: what is left is put behind the rest. -/
theorem JInv.done {N : Nat} {de df outs : List Rat} {Q q : Rat} (I : JInv N de [] df [] outs Q q) : Ex (grownR (grownR outs q) Q) ∧ (grownR (grownR outs q) Q).sum = de.sum + df.sum ∧ (∀ x ∈ grownR (grownR outs q) Q, F x) := by
  obtain ⟨T, k, R⟩ := I.rq
  refine ⟨(I.ex.grow (fun x hx => (I.low x hx).2.1)).grow (fun x hx => ?_), ?_, fun x hx => ?_⟩
  · rcases mem_grow hx with hx | ⟨rfl, _⟩
    · exact (I.low x hx).1
    · have := R.rest_lo
      rwa [show Q + x - Q = x by grind] at this
  · rw [sum_grow, sum_grow]
    have := I.sum
    grind
  · rcases mem_grow hx with hx | ⟨rfl, _⟩
    · rcases mem_grow hx with hx | ⟨rfl, _⟩
      · exact (I.b3 x hx).1
      · exact I.fq
    · exact R.f

end Go.Proofs.YtfcgndgmbmkdgaaDoor
