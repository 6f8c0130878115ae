/- Own texts, put together: Ep Eq Eb Ec Ed Er Es Zr Zs. -/
import Derived.Test.YtmcllgoeldfgmaaDoorQ4
import Derived.WalkKit
import Derived.WalkSpells
import Derived.WalkLawsBesides
import Derived.Laws.FloatArith
/- Rounding to the nearest, in plain numbers: what is exact. -/
namespace Go.Proofs.YtmcllgoeldfgmaaDoor

/-- The units. -/
def U (T : Nat) : Rat := p2 ((T : Int) - 1074)
theorem U_pos (T : Nat) : 0 < U T := p2_pos _
theorem U_succ (T : Nat) : U (T + 1) = 2 * U T := by
  unfold U
  rw [show ((T + 1 : Nat) : Int) - 1074 = 1 + ((T : Int) - 1074) by omega, p2_add, p2_one]
theorem U_add (S j : Nat) : U (S + j) = ((2 ^ j : Nat) : Rat) * U S := by
  unfold U
  rw [show ((S + j : Nat) : Int) - 1074 = (j : Nat) + ((S : Int) - 1074) by omega, p2_add, p2_nat]
theorem U_mono {S T : Nat} (h : S ≤ T) : U S ≤ U T := p2_mono (by omega)
theorem U_lt {S T : Nat} (h : S < T) : 2 * U S ≤ U T := by rw [← U_succ]; exact U_mono h
theorem U_lt2 {S T : Nat} (h : S + 2 ≤ T) : 4 * U S ≤ U T := by
  have h1 := U_mono h
  have h2 := U_succ (S + 1)
  have h3 := U_succ S
  grind

/-- A multiple of u. -/
def M (u x : Rat) : Prop := ∃ k : Int, x = (k : Rat) * u
theorem M.add {u x y : Rat} (h1 : M u x) (h2 : M u y) : M u (x + y) := by
  obtain ⟨j, rfl⟩ := h1
  obtain ⟨k, rfl⟩ := h2
  exact ⟨j + k, by rw [Rat.intCast_add]; grind⟩
theorem M.neg {u x : Rat} (h1 : M u x) : M u (-x) := by
  obtain ⟨j, rfl⟩ := h1
  exact ⟨-j, by rw [Rat.intCast_neg]; grind⟩
theorem M.sub {u x y : Rat} (h1 : M u x) (h2 : M u y) : M u (x - y) := by
  have := h1.add h2.neg
  rwa [show x + -y = x - y by grind] at this
theorem M.down {S T : Nat} {x : Rat} (h : S ≤ T) (h1 : M (U T) x) : M (U S) x := by
  obtain ⟨k, rfl⟩ := h1
  obtain ⟨j, rfl⟩ : ∃ j, T = S + j := ⟨T - S, by omega⟩
  exact ⟨k * ((2 ^ j : Nat) : Int), by rw [U_add, Rat.intCast_mul, Rat.mul_assoc]; rfl⟩

theorem one_rat : ((1 : Int) : Rat) = 1 := rfl
theorem cast_lt {a b : Int} {u : Rat} (hu : 0 < u) (h : (a : Rat) * u < (b : Rat) * u) : a < b := by
  rcases Int.lt_or_le a b with h1 | h1
  · exact h1
  · have h2 : (b : Rat) ≤ (a : Rat) := Rat.intCast_le_intCast.2 h1
    have h3 := Rat.mul_le_mul_of_nonneg_right h2 (Rat.le_of_lt hu)
    grind
theorem cast_le {a b : Int} {u : Rat} (hu : 0 < u) (h : (a : Rat) * u ≤ (b : Rat) * u) : a ≤ b := by
  rcases Int.lt_or_le b a with h1 | h1
  · have h2 : (b : Rat) < (a : Rat) := Rat.intCast_lt_intCast.2 h1
    have h3 := Rat.mul_lt_mul_of_pos_right h2 hu
    grind
  · exact h1

/-- Of two multiples that are less than a unit apart. -/
theorem M.eq {u x y : Rat} (hu : 0 < u) (h1 : M u x) (h2 : M u y) (a : x - y < u) (b : y - x < u) : x = y := by
  obtain ⟨j, rfl⟩ := h1
  obtain ⟨k, rfl⟩ := h2
  have e1 : ((j - k : Int) : Rat) * u < ((1 : Int) : Rat) * u := by rw [Rat.intCast_sub, one_rat]; grind
  have e2 : ((k - j : Int) : Rat) * u < ((1 : Int) : Rat) * u := by rw [Rat.intCast_sub, one_rat]; grind
  have f1 := cast_lt hu e1
  have f2 := cast_lt hu e2
  have : j = k := by omega
  rw [this]

/-- What may be: at most 2^53 units. -/
def F (z : Rat) : Prop := ∃ (S : Nat) (m : Int), z = (m : Rat) * U S ∧ -9007199254740992 ≤ m ∧ m ≤ 9007199254740992
theorem F.neg {z : Rat} (h : F z) : F (-z) := by
  obtain ⟨S, m, rfl, h1, h2⟩ := h
  exact ⟨S, -m, by rw [Rat.intCast_neg]; grind, by omega, by omega⟩
theorem F_zero : F 0 := ⟨0, 0, by rw [show ((0 : Int) : Rat) = 0 from rfl]; grind, by omega, by omega⟩

/-- A multiple of a unit that is not too great may be. -/
theorem M.small {S : Nat} {z : Rat} (n : Int) (hn : n ≤ 9007199254740992) (h : M (U S) z) (a : z < ((n + 1 : Int) : Rat) * U S) (b : -z < ((n + 1 : Int) : Rat) * U S) : F z := by
  obtain ⟨k, rfl⟩ := h
  have hu := U_pos S
  have e1 := cast_lt hu a
  have e2 : ((-k : Int) : Rat) * U S < ((n + 1 : Int) : Rat) * U S := by rw [Rat.intCast_neg]; grind
  have e2 := cast_lt hu e2
  exact ⟨S, k, rfl, by omega, by omega⟩

/-- x is q, rounded: in units of U T. -/
structure Rnd (q x : Rat) (T : Nat) (k : Int) : Prop where
  hx : x = (k : Rat) * U T
  h1 : 2 * (x - q) ≤ U T
  h2 : -U T ≤ 2 * (x - q)
  h3 : T = 0 ∨ 4503599627370496 * U T ≤ q ∨ 4503599627370496 * U T ≤ -q
  h4 : q < 9007199254740992 * U T
  h5 : -q < 9007199254740992 * U T
  k1 : -9007199254740992 ≤ k
  k2 : k ≤ 9007199254740992

theorem Rnd.m {q x : Rat} {T : Nat} {k : Int} (R : Rnd q x T k) : M (U T) x := ⟨k, R.hx⟩
theorem Rnd.f {q x : Rat} {T : Nat} {k : Int} (R : Rnd q x T k) : F x := ⟨T, k, R.hx, R.k1, R.k2⟩

theorem Rnd.mult {q x : Rat} {T : Nat} {k : Int} (R : Rnd q x T k) (h : M (U T) q) : x = q := by
  have hu := U_pos T
  have h1 := R.h1
  have h2 := R.h2
  exact M.eq hu R.m h (by grind) (by grind)

theorem F.abs {z : Rat} {S : Nat} {m : Int} (h : z = (m : Rat) * U S) (h1 : -9007199254740992 ≤ m) (h2 : m ≤ 9007199254740992) : z ≤ 9007199254740992 * U S ∧ -z ≤ 9007199254740992 * U S := by
  have hu := U_pos S
  have a1 := Rat.mul_le_mul_of_nonneg_right (Rat.intCast_le_intCast.2 h2) (Rat.le_of_lt hu)
  have a2 := Rat.mul_le_mul_of_nonneg_right (Rat.intCast_le_intCast.2 h1) (Rat.le_of_lt hu)
  have e1 : ((9007199254740992 : Int) : Rat) = 9007199254740992 := rfl
  have e2 : ((-9007199254740992 : Int) : Rat) = -9007199254740992 := rfl
  rw [e1] at a1
  rw [e2] at a2
  rw [h]
  constructor <;> grind

/-- What may be is not rounded. -/
theorem Rnd.exact {q x : Rat} {T : Nat} {k : Int} (R : Rnd q x T k) (h : F q) : x = q := by
  obtain ⟨S, m, hq, h1, h2⟩ := h
  have hu := U_pos S
  rcases Nat.lt_or_ge S T with hs | hs
  · have hb := F.abs hq h1 h2
    have h3 := R.h3
    rcases Nat.lt_or_ge T (S + 2) with ht | ht
    · have e : T = S + 1 := by omega
      subst e
      have eu := U_succ S
      apply R.mult
      have hm : m = 9007199254740992 ∨ m = -9007199254740992 := by
        rcases h3 with h3 | h3 | h3
        · omega
        · left
          have : ((9007199254740992 : Int) : Rat) * U S ≤ (m : Rat) * U S := by
            rw [← hq, show ((9007199254740992 : Int) : Rat) = 9007199254740992 from rfl]; grind
          have := cast_le hu this
          omega
        · right
          have : ((9007199254740992 : Int) : Rat) * U S ≤ ((-m : Int) : Rat) * U S := by
            rw [Rat.intCast_neg, show ((9007199254740992 : Int) : Rat) = 9007199254740992 from rfl]; grind
          have := cast_le hu this
          omega
      rcases hm with rfl | rfl
      · exact ⟨4503599627370496, by rw [hq, eu, show ((9007199254740992 : Int) : Rat) = 9007199254740992 from rfl, show ((4503599627370496 : Int) : Rat) = 4503599627370496 from rfl]; grind⟩
      · exact ⟨-4503599627370496, by rw [hq, eu, show ((-9007199254740992 : Int) : Rat) = -9007199254740992 from rfl, show ((-4503599627370496 : Int) : Rat) = -4503599627370496 from rfl]; grind⟩
    · have := U_lt2 ht
      exfalso
      rcases h3 with h3 | h3 | h3
      · omega
      · grind
      · grind
  · exact R.mult (M.down hs ⟨m, hq⟩)

/-- Nothing that may be is nearer. -/
theorem Rnd.best {q x y c : Rat} {T : Nat} {k : Int} (R : Rnd q x T k) (h : F y) (c1 : -c ≤ y - q) (c2 : y - q ≤ c) : -c ≤ x - q ∧ x - q ≤ c := by
  have hu := U_pos T
  have r1 := R.h1
  have r2 := R.h2
  have key : ∀ {z d : Rat}, M (U T) z → -d ≤ z - q → z - q ≤ d → -d ≤ x - q ∧ x - q ≤ d := by
    intro z d hz d1 d2
    by_cases e : x - z < U T ∧ z - x < U T
    · have := M.eq hu R.m hz e.1 e.2
      rw [this]; exact ⟨d1, d2⟩
    · constructor <;> grind
  obtain ⟨S, m, hy, h1, h2⟩ := h
  rcases Nat.lt_or_ge S T with hs | hs
  · have hb := F.abs hy h1 h2
    have hl := U_lt hs
    rcases R.h3 with h3 | h3 | h3
    · omega
    · have := key (z := 4503599627370496 * U T) (d := q - 4503599627370496 * U T) ⟨4503599627370496, rfl⟩ (by grind) (by grind)
      constructor <;> grind
    · have := key (z := -4503599627370496 * U T) (d := -q - 4503599627370496 * U T) ⟨-4503599627370496, rfl⟩ (by grind) (by grind)
      constructor <;> grind
  · exact key (M.down hs ⟨m, hy⟩) c1 c2

end Go.Proofs.YtmcllgoeldfgmaaDoor

/- Two floats added: what is rounded off is told exactly (Dekker, Knuth). -/
namespace Go.Proofs.YtmcllgoeldfgmaaDoor

/-- A float in its own form: fewer than 2^53 units, and not fewer than 2^52 but at the least unit. -/
structure FC (z : Rat) (S : Nat) (m : Int) : Prop where
  hz : z = (m : Rat) * U S
  m1 : -9007199254740992 < m
  m2 : m < 9007199254740992
  h3 : S = 0 ∨ 4503599627370496 ≤ m ∨ m ≤ -4503599627370496
theorem FC.f {z : Rat} {S : Nat} {m : Int} (h : FC z S m) : F z := ⟨S, m, h.hz, by have := h.m1; omega, by have := h.m2; omega⟩
theorem FC.neg {z : Rat} {S : Nat} {m : Int} (h : FC z S m) : FC (-z) S (-m) :=
  ⟨by rw [h.hz, Rat.intCast_neg]; grind, by have := h.m2; omega, by have := h.m1; omega, by have := h.h3; omega⟩
theorem Rnd.neg {q x : Rat} {T : Nat} {k : Int} (R : Rnd q x T k) : Rnd (-q) (-x) T (-k) := by
  obtain ⟨hx, h1, h2, h3, h4, h5, k1, k2⟩ := R
  exact ⟨by rw [hx, Rat.intCast_neg]; grind, by grind, by grind, by rcases h3 with h | h | h; exact Or.inl h; exact Or.inr (Or.inr (by grind)); exact Or.inr (Or.inl (by grind)), by grind, by grind, by omega, by omega⟩
theorem FC.mul {z : Rat} {S : Nat} {m : Int} (h : FC z S m) : M (U S) z := ⟨m, h.hz⟩
/-- Its size. -/
theorem FC.size {z : Rat} {S : Nat} {m : Int} (h : FC z S m) : z ≤ 9007199254740991 * U S ∧ -z ≤ 9007199254740991 * U S := by
  have hu := U_pos S
  have m1 := h.m1
  have m2 := h.m2
  have a1 := Rat.mul_le_mul_of_nonneg_right (Rat.intCast_le_intCast.2 (by omega : m ≤ 9007199254740991)) (Rat.le_of_lt hu)
  have a2 := Rat.mul_le_mul_of_nonneg_right (Rat.intCast_le_intCast.2 (by omega : -9007199254740991 ≤ m)) (Rat.le_of_lt hu)
  rw [show ((9007199254740991 : Int) : Rat) = 9007199254740991 from rfl] at a1
  rw [show ((-9007199254740991 : Int) : Rat) = -9007199254740991 from rfl] at a2
  rw [h.hz]
  constructor <;> grind
theorem FC.least {z : Rat} {S : Nat} {m : Int} (h : FC z S m) (h0 : S ≠ 0) : 4503599627370496 * U S ≤ z ∨ 4503599627370496 * U S ≤ -z := by
  have hu := U_pos S
  rcases h.h3 with e | e | e
  · exact absurd e h0
  · left
    have := Rat.mul_le_mul_of_nonneg_right (Rat.intCast_le_intCast.2 e) (Rat.le_of_lt hu)
    rw [show ((4503599627370496 : Int) : Rat) = 4503599627370496 from rfl] at this
    rw [h.hz]; exact this
  · right
    have := Rat.mul_le_mul_of_nonneg_right (Rat.intCast_le_intCast.2 e) (Rat.le_of_lt hu)
    rw [show ((-4503599627370496 : Int) : Rat) = -4503599627370496 from rfl] at this
    rw [h.hz]; grind

/-- What is rounded off of a sum may be (one way round). -/
theorem err_le {a b x : Rat} {T : Nat} {k : Int} {S1 S2 : Nat} {A B : Int} (R : Rnd (a + b) x T k) (ca : FC a S1 A) (cb : FC b S2 B) (h : S1 ≤ S2) : F (a + b - x) := by
  have hb : M (U S1) b := M.down h cb.mul
  rcases Nat.lt_or_ge T S1 with ht | ht
  · have := R.mult (M.down (Nat.le_of_lt ht) (ca.mul.add hb))
    rw [this, show a + b - (a + b) = (0 : Rat) by grind]; exact F_zero
  · have hm : M (U S1) (a + b - x) := (ca.mul.add hb).sub (M.down ht R.m)
    have hs := ca.size
    have hu := U_pos S1
    have hbest := R.best (c := 9007199254740991 * U S1) cb.f (by grind) (by grind)
    refine M.small 9007199254740991 (by omega) hm ?_ ?_
    · rw [show ((9007199254740991 + 1 : Int) : Rat) = 9007199254740992 from rfl]; grind
    · rw [show ((9007199254740991 + 1 : Int) : Rat) = 9007199254740992 from rfl]; grind

theorem err_f {a b x : Rat} {T : Nat} {k : Int} {S1 S2 : Nat} {A B : Int} (R : Rnd (a + b) x T k) (ca : FC a S1 A) (cb : FC b S2 B) : F (a + b - x) := by
  rcases Nat.le_total S1 S2 with h | h
  · exact err_le R ca cb h
  · have e : a + b = b + a := by grind
    rw [e] at R ⊢
    exact err_le R cb ca h

/-- The greater one taken off the sum. -/
theorem fast_pos {a b x : Rat} {T : Nat} {k : Int} {S1 S2 : Nat} {A B : Int} (R : Rnd (a + b) x T k) (ca : FC a S1 A) (cb : FC b S2 B) (h1 : b ≤ a) (h2 : -b ≤ a) : F (x - a) := by
  have hu := U_pos S1
  have hU := U_pos T
  have r1 := R.h1
  have r2 := R.h2
  have hs := ca.size
  rcases Nat.lt_or_ge T S1 with ht | ht
  · have hl := ca.least (by omega)
    have hl' := U_lt ht
    rcases Nat.lt_or_ge S2 T with h3 | h3
    · have hm : M (U T) (x - a) := R.m.sub (M.down (Nat.le_of_lt ht) ca.mul)
      have hbs := cb.size
      have hbl := U_lt h3
      refine M.small 4503599627370496 (by omega) hm ?_ ?_
      · rw [show ((4503599627370496 + 1 : Int) : Rat) = 4503599627370497 from rfl]; grind
      · rw [show ((4503599627370496 + 1 : Int) : Rat) = 4503599627370497 from rfl]; grind
    · have := R.mult ((M.down (Nat.le_of_lt ht) ca.mul).add (M.down h3 cb.mul))
      rw [this, show a + b - a = b by grind]; exact cb.f
  · have hm : M (U S1) (x - a) := (M.down ht R.m).sub ca.mul
    rcases Nat.lt_or_ge T (S1 + 2) with h3 | h3
    · have hT : U T = U S1 ∨ U T = 2 * U S1 := by
        rcases (by omega : T = S1 ∨ T = S1 + 1) with rfl | rfl
        · exact Or.inl rfl
        · exact Or.inr (U_succ S1)
      refine M.small 9007199254740992 (by omega) hm ?_ ?_
      · rw [show ((9007199254740992 + 1 : Int) : Rat) = 9007199254740993 from rfl]; grind
      · rw [show ((9007199254740992 + 1 : Int) : Rat) = 9007199254740993 from rfl]; grind
    · have h4 := U_lt2 h3
      exfalso
      rcases R.h3 with h5 | h5 | h5
      · omega
      · grind
      · grind

theorem fast {a b x : Rat} {T : Nat} {k : Int} {S1 S2 : Nat} {A B : Int} (R : Rnd (a + b) x T k) (ca : FC a S1 A) (cb : FC b S2 B) (h : (0 ≤ a ∧ b ≤ a ∧ -b ≤ a) ∨ (a ≤ 0 ∧ b ≤ -a ∧ -b ≤ -a)) : F (x - a) := by
  rcases h with ⟨_, h1, h2⟩ | ⟨_, h1, h2⟩
  · exact fast_pos R ca cb h1 h2
  · have R' := R.neg
    rw [show -(a + b) = -a + -b by grind] at R'
    have := (fast_pos R' ca.neg cb.neg (by grind) (by grind)).neg
    rwa [show -(-x - -a) = x - a by grind] at this

/-- What b gave to the sum, taken off b. -/
theorem left_f {a b x fb : Rat} {T T' : Nat} {k k' : Int} {S2 : Nat} {B : Int} (R : Rnd (a + b) x T k) (R' : Rnd (x - a) fb T' k') (cb : FC b S2 B) (h : (a ≤ b ∧ -a ≤ b) ∨ (a ≤ -b ∧ -a ≤ -b)) : F (b - fb) := by
  have hv := U_pos S2
  have hU := U_pos T
  have hU' := U_pos T'
  have r1 := R.h1
  have r2 := R.h2
  have hs := cb.size
  have hbest := R'.best (y := b) (c := U T / 2) cb.f (by grind) (by grind)
  have hUv : U T ≤ 2 * U S2 := by
    rcases Nat.lt_or_ge T (S2 + 2) with h3 | h3
    · rw [← U_succ]; exact U_mono (by omega)
    · have h4 := U_lt2 h3
      exfalso
      rcases R.h3 with h5 | h5 | h5
      · omega
      · grind
      · grind
  rcases Nat.lt_or_ge T' S2 with ht | ht
  · have hm : M (U T') (b - fb) := (M.down (Nat.le_of_lt ht) cb.mul).sub R'.m
    have hl := cb.least (by omega)
    have h4 := R'.h4
    have h5 := R'.h5
    have hv2 : U S2 ≤ 2 * U T' := by
      rcases Nat.lt_or_ge S2 (T' + 2) with h6 | h6
      · rw [← U_succ]; exact U_mono (by omega)
      · have h7 := U_lt2 h6
        exfalso
        rcases hl with h8 | h8
        · grind
        · grind
    refine M.small 4 (by omega) hm ?_ ?_
    · rw [show ((4 + 1 : Int) : Rat) = 5 from rfl]; grind
    · rw [show ((4 + 1 : Int) : Rat) = 5 from rfl]; grind
  · have hm : M (U S2) (b - fb) := cb.mul.sub (M.down ht R'.m)
    refine M.small 2 (by omega) hm ?_ ?_
    · rw [show ((2 + 1 : Int) : Rat) = 3 from rfl]; grind
    · rw [show ((2 + 1 : Int) : Rat) = 3 from rfl]; grind

/-- Two floats that nearly cancel. -/
theorem near_cancel {a b : Rat} {S1 S2 : Nat} {A B : Int} (ca : FC a S1 A) (cb : FC b S2 B) (h : (0 ≤ a ∧ b ≤ -a ∧ -b ≤ 2 * a) ∨ (a ≤ 0 ∧ -a ≤ b ∧ b ≤ -(2 * a))) : F (a + b) := by
  have hu := U_pos S1
  have hs := ca.size
  have hS : S1 ≤ S2 := by
    rcases Nat.lt_or_ge S2 S1 with h3 | h3
    · exfalso
      have h4 := ca.least (by omega)
      have h5 := cb.size
      have h6 := U_lt h3
      have := U_pos S2
      rcases h with h | h <;> rcases h4 with h4 | h4 <;> grind
    · exact h3
  refine M.small 9007199254740991 (by omega) (ca.mul.add (M.down hS cb.mul)) ?_ ?_
  · rw [show ((9007199254740991 + 1 : Int) : Rat) = 9007199254740992 from rfl]; rcases h with h | h <;> grind
  · rw [show ((9007199254740991 + 1 : Int) : Rat) = 9007199254740992 from rfl]; rcases h with h | h <;> grind

/-- x is q, rounded. -/
def RN (q x : Rat) : Prop := ∃ T k, Rnd q x T k
theorem RN.exact {q x : Rat} (h : RN q x) (hf : F q) : x = q := by obtain ⟨_, _, R⟩ := h; exact R.exact hf

theorem twoSum_exact {a b x fb fa lb la y : Rat} (ca : ∃ S m, FC a S m) (cb : ∃ S m, FC b S m) (cx : ∃ S m, FC x S m) (R1 : RN (a + b) x) (R2 : RN (x - a) fb) (R3 : RN (x - fb) fa) (R4 : RN (b - fb) lb) (R5 : RN (a - fa) la) (R6 : RN (la + lb) y) : x + y = a + b := by
  obtain ⟨S1, A, ca⟩ := ca
  obtain ⟨S2, B, cb⟩ := cb
  obtain ⟨S3, X, cx⟩ := cx
  obtain ⟨T, k, R⟩ := R1
  have he := err_f R ca cb
  -- all is told where the last two steps are exact
  have fin : la = a - fa → lb = b - fb → fa + fb = x → x + y = a + b := by
    intro e1 e2 e3
    have e : la + lb = a + b - x := by rw [e1, e2]; grind
    have := R6.exact (by rw [e]; exact he)
    grind
  by_cases hab : (0 ≤ a ∧ b ≤ a ∧ -b ≤ a) ∨ (a ≤ 0 ∧ b ≤ -a ∧ -b ≤ -a)
  · have e1 := R2.exact (fast R ca cb hab)
    have e2 := R3.exact (by rw [e1, show x - (x - a) = a by grind]; exact ca.f)
    have e3 := R4.exact (by rw [e1, show b - (x - a) = a + b - x by grind]; exact he)
    have e4 := R5.exact (by rw [e2, e1, show a - (x - (x - a)) = (0 : Rat) by grind]; exact F_zero)
    exact fin e4 e3 (by grind)
  · by_cases hax : (0 ≤ x ∧ a ≤ x ∧ -a ≤ x) ∨ (x ≤ 0 ∧ a ≤ -x ∧ -a ≤ -x)
    · obtain ⟨T', k', R'⟩ := R2
      have R2' : Rnd (x + -a) fb T' k' := by rwa [show x - a = x + -a by grind] at R'
      have hf := (fast R2' cx ca.neg (by rcases hax with h | h; exact Or.inl ⟨h.1, by grind, by grind⟩; exact Or.inr ⟨h.1, by grind, by grind⟩)).neg
      have e2 := R3.exact (by rwa [show -(fb - x) = x - fb by grind] at hf)
      have e4 := R5.exact (by
        have := (err_f R2' cx ca.neg).neg
        rwa [show -(x + -a - fb) = a - fa by grind] at this)
      have e3 := R4.exact (left_f R R' cb (by grind))
      exact fin e4 e3 (by grind)
    · have hc : F (a + b) := by
        have hx2 : (a + b < a ∨ a + b < -a) ∧ (-(a + b) < a ∨ -(a + b) < -a) := by
          have b1 := R.best (y := a) (c := b) ca.f
          have b2 := R.best (y := -a) (c := a + a + b) ca.neg.f
          have b3 := R.best (y := a) (c := -b) ca.f
          have b4 := R.best (y := -a) (c := -(a + a + b)) ca.neg.f
          constructor <;> grind
        exact near_cancel ca cb (by grind)
      have e0 := R.exact hc
      have e1 := R2.exact (by rw [e0, show a + b - a = b by grind]; exact cb.f)
      have e2 := R3.exact (by rw [e1, e0, show a + b - (a + b - a) = a by grind]; exact ca.f)
      have e3 := R4.exact (by rw [e1, e0, show b - (a + b - a) = (0 : Rat) by grind]; exact F_zero)
      have e4 := R5.exact (by rw [e2, e1, e0, show a - (a + b - (a + b - a)) = (0 : Rat) by grind]; exact F_zero)
      exact fin e4 e3 (by grind)

end Go.Proofs.YtmcllgoeldfgmaaDoor

/- Which floats are tame, which are safe: the program's. -/
namespace Go.Proofs.YtmcllgoeldfgmaaDoor
open Go.RowKit

theorem leq_word {r c : Nat} (hr : r < 9223372036854775808) (hc : c < 9218868437227405312) : (FloatKind.f64.format.order r c == some .lt || FloatKind.f64.format.order r c == some .eq) = decide (r ≤ c) := by
  show (Ieee.double.order r c == some .lt || Ieee.double.order r c == some .eq) = _
  rcases Nat.lt_or_ge 9218868437227405312 r with h | h
  · rw [order_nan_left (by unfold frung; omega)]
    simp; omega
  · rw [order_rung h hc]
    rcases Nat.lt_trichotomy r c with e | e | e
    · rw [if_pos e]; simp; omega
    · subst e; simp
    · rw [if_neg (by omega), if_neg (by omega)]; simp; omega

theorem geq_word {r c : Nat} (hr : r ≤ 9218868437227405312) (hc : c < 9218868437227405312) : (FloatKind.f64.format.order r c == some .gt || FloatKind.f64.format.order r c == some .eq) = decide (c ≤ r) := by
  show (Ieee.double.order r c == some .gt || Ieee.double.order r c == some .eq) = _
  rw [order_rung hr hc]
  rcases Nat.lt_trichotomy r c with e | e | e
  · rw [if_pos e]; simp; omega
  · subst e; simp
  · rw [if_neg (by omega), if_neg (by omega)]; simp; omega

theorem order_nan_right {b c : Nat} (hb : 9218868437227405312 < frung b) : Ieee.double.order c b = none := by
  obtain ⟨s, t, e⟩ := read_nan hb
  unfold Ieee.Format.order
  rw [e]
  cases Ieee.double.read c <;> rfl

theorem inf_right {c : Nat} (hc : Fin64 c) : Ieee.double.order c 9218868437227405312 = some .lt := by
  have h1 := read_fin hc
  have h2 := read_inf (b := 9218868437227405312) (by decide)
  have h3 : fneg 9218868437227405312 = false := by decide
  unfold Ieee.Format.order
  rw [h1, h2, h3]
  rfl

/-- A float c, not above r. -/
theorem const_leq {r c : Nat} (hr : r < 9223372036854775808) (hc : c < 9218868437227405312) : (FloatKind.f64.format.order c r == some .lt || FloatKind.f64.format.order c r == some .eq) = decide (c ≤ r ∧ r ≤ 9218868437227405312) := by
  show (Ieee.double.order c r == some .lt || Ieee.double.order c r == some .eq) = _
  rcases Nat.lt_trichotomy 9218868437227405312 r with h | h | h
  · rw [order_nan_right (by unfold frung; omega)]
    simp; omega
  · subst h
    rw [inf_right (by unfold Fin64 frung; omega)]
    simp; omega
  · rw [order_rung (Nat.le_of_lt hc) h]
    rcases Nat.lt_trichotomy c r with e | e | e
    · rw [if_pos e]; simp; omega
    · subst e; simp; omega
    · rw [if_neg (by omega), if_neg (by omega)]; simp; omega

theorem eql_zero {r : Nat} (hr : r < 9223372036854775808) : (FloatKind.f64.format.order r 0 == some .eq) = decide (r = 0) := by
  show (Ieee.double.order r 0 == some .eq) = _
  rcases Nat.lt_or_ge 9218868437227405312 r with h | h
  · rw [order_nan_left (by unfold frung; omega)]
    simp; omega
  · rw [order_rung h (by omega)]
    by_cases e : r = 0
    · subst e; simp
    · rw [if_neg (by omega), if_neg e]; simp [e]

theorem tame_any (b : Nat) (w : World) (hb : b < 18446744073709551616) :
    Calls Tryd.prog 112 #[.float .f64 b] w fun e w' => e = .returned (.bool (decide (frung b ≤ 9110782046170513408))) ∧ w' = w := by
  have h1 := leq_word (r := frung b) (c := 9110782046170513408) (by unfold frung; omega) (by omega)
  have HA : Hid (Calls Tryd.prog 37 #[.float .f64 b] w fun e w' => e = .returned (.float .f64 (frung b)) ∧ w' = w) := abs_any b w hb
  generalize decide (frung b ≤ 9110782046170513408) = res at *
  generalize frung b = r at *
  go_enter Tryd.func112, Tryd.ntmps112
  go_wp2_with fail
  refine HA.out.mono ?_
  rintro e w' ⟨rfl, rfl⟩
  go_wp2
  go_ret
  exact ⟨rfl, rfl⟩

/-- Which words are safe floats. -/
def SafeW (r : Nat) : Prop := r = 0 ∨ (2580562586483294208 ≤ r ∧ r ≤ 6633802251116740608)
instance (r : Nat) : Decidable (SafeW r) := by unfold SafeW; exact inferInstance

set_option maxHeartbeats 1000000 in
theorem safe_any (b : Nat) (w : World) (hb : b < 18446744073709551616) :
    Calls Tryd.prog 114 #[.float .f64 b] w fun e w' => e = .returned (.bool (decide (SafeW (frung b)))) ∧ w' = w := by
  have hr : frung b < 9223372036854775808 := by unfold frung; omega
  have h1 := eql_zero hr
  have h2 := const_leq (r := frung b) (c := 2580562586483294208) hr (by omega)
  have h3 := leq_word (r := frung b) (c := 6633802251116740608) hr (by omega)
  have key : Hid (decide (SafeW (frung b)) = (decide (frung b = 0) || decide (2580562586483294208 ≤ frung b ∧ frung b ≤ 9218868437227405312) && decide (frung b ≤ 6633802251116740608))) := by
    unfold Hid SafeW
    by_cases e1 : frung b = 0 <;> by_cases e2 : 2580562586483294208 ≤ frung b <;> by_cases e3 : frung b ≤ 6633802251116740608 <;> simp [e1, e2, e3] <;> omega
  have HA : Hid (Calls Tryd.prog 37 #[.float .f64 b] w fun e w' => e = .returned (.float .f64 (frung b)) ∧ w' = w) := abs_any b w hb
  clear hr hb
  generalize decide (SafeW (frung b)) = res at *
  generalize frung b = r at *
  generalize decide (r = 0) = t1 at *
  generalize decide (2580562586483294208 ≤ r ∧ r ≤ 9218868437227405312) = t2 at *
  generalize decide (r ≤ 6633802251116740608) = t3 at *
  have ek := key.out
  clear key
  cases t1 <;> cases t2 <;> cases t3 <;> (simp at ek; subst ek; go_enter Tryd.func114, Tryd.ntmps114; go_wp2_with fail; refine HA.out.mono ?_; rintro e w' ⟨rfl, rfl⟩; go_wp2; go_ret; exact ⟨rfl, rfl⟩)

end Go.Proofs.YtmcllgoeldfgmaaDoor

/- Which floats are tame, which are safe: the document's. -/
namespace Go.Proofs.YtmcllgoeldfgmaaDoor
open Go.RowKit

theorem pw_up : ∀ k, k < 1000 → floatBits .mul .f64 ((1023 + k) * 4503599627370496) 4611686018427387904 = some ((1024 + k) * 4503599627370496) := by decide +kernel
theorem pw_down : ∀ k, k < 450 → floatBits .quo .f64 ((1023 - k) * 4503599627370496) 4611686018427387904 = some ((1022 - k) * 4503599627370496) := by decide +kernel



end Go.Proofs.YtmcllgoeldfgmaaDoor

/- Tame and safe, as the document has them. -/
namespace Go.Proofs.YtmcllgoeldfgmaaDoor
open Go.RowKit

/-- A float turned about. -/
def fflip (b : Nat) : Nat := if b < 9223372036854775808 then b + 9223372036854775808 else b - 9223372036854775808

theorem negF_eq (b : Nat) (hb : b < 18446744073709551616) : Op.negFloat .f64 b = fflip b := by
  show b ^^^ 2 ^ 63 = fflip b
  unfold fflip
  split
  · rename_i h
    have := Nat.two_pow_add_eq_or_of_lt (i := 63) (b := b) (by simpa using h) 1
    rw [show b + 9223372036854775808 = 2 ^ 63 * 1 + b by omega, this]
    apply Nat.eq_of_testBit_eq
    intro i
    simp only [Nat.testBit_xor, Nat.testBit_or, Nat.testBit_two_pow, Nat.mul_one]
    by_cases e : 63 = i
    · subst e
      have : b.testBit 63 = false := Nat.testBit_lt_two_pow (by simpa using h)
      simp [this]
    · simp [e]
  · rename_i h
    obtain ⟨r, rfl⟩ : ∃ r, b = 9223372036854775808 + r := ⟨b - 9223372036854775808, by omega⟩
    have hr : r < 2 ^ 63 := by omega
    have := Nat.two_pow_add_eq_or_of_lt (i := 63) (b := r) hr 1
    rw [show 9223372036854775808 + r - 9223372036854775808 = r by omega, show 9223372036854775808 + r = 2 ^ 63 * 1 + r by omega, this]
    apply Nat.eq_of_testBit_eq
    intro i
    simp only [Nat.testBit_xor, Nat.testBit_or, Nat.testBit_two_pow, Nat.mul_one]
    by_cases e : 63 = i
    · subst e
      have : r.testBit 63 = false := Nat.testBit_lt_two_pow hr
      simp [this]
    · simp [e]

theorem run_negF (b : Nat) (hb : b < 18446744073709551616) (w : World) : (Op.unary .neg (.float .f64 b)).run Tryd.prog w = .ok (.float .f64 (fflip b)) w := by
  show Result.ok (Value.float .f64 (Op.negFloat .f64 b)) w = _
  rw [negF_eq b hb]

theorem eql_self (b : Nat) : (FloatKind.f64.format.order b b == some .eq) = decide (frung b ≤ 9218868437227405312) := by
  show (Ieee.double.order b b == some .eq) = _
  rcases Nat.lt_trichotomy (frung b) 9218868437227405312 with h | h | h
  · rw [order_fin h h, if_neg Rat.lt_irrefl, if_pos rfl]; simp; omega
  · rw [order_inf_self h]; simp; omega
  · rw [order_nan_left h]; simp; omega

theorem fin_zero : Fin64 0 := by unfold Fin64 frung; decide
theorem fval_zero : fval 0 = 0 := fval_zero_iff.2 rfl

theorem eql_zero2 (b : Nat) : (FloatKind.f64.format.order b 0 == some .eq) = decide (frung b = 0) := by
  show (Ieee.double.order b 0 == some .eq) = _
  rcases Nat.lt_trichotomy (frung b) 9218868437227405312 with h | h | h
  · rw [order_fin h fin_zero, fval_zero]
    by_cases e : fval b = 0
    · rw [e, if_neg Rat.lt_irrefl, if_pos rfl]; simp [fval_zero_iff.1 e]
    · have : frung b ≠ 0 := fun e' => e (fval_zero_iff.2 e')
      by_cases e2 : fval b < 0
      · rw [if_pos e2]; simp [this]
      · rw [if_neg e2, if_neg e]; simp [this]
  · rw [order_inf_fin h fin_zero]
    cases fneg b <;> simp <;> omega
  · rw [order_nan_left h]; simp; omega

theorem lt_zero (b : Nat) (hb : b < 18446744073709551616) : (FloatKind.f64.format.order b 0 == some .lt) = decide (9223372036854775808 < b ∧ frung b ≤ 9218868437227405312) := by
  show (Ieee.double.order b 0 == some .lt) = _
  rcases Nat.lt_trichotomy (frung b) 9218868437227405312 with h | h | h
  · rw [order_fin h fin_zero, fval_zero]
    rcases Nat.lt_or_ge b 9223372036854775808 with hs | hs
    · have e : frung b = b := by unfold frung; omega
      have := fval_nonneg (r := b) (by omega)
      rw [if_neg (by grind)]
      by_cases e2 : fval b = 0
      · rw [if_pos e2]; simp; omega
      · rw [if_neg e2]; simp; omega
    · obtain ⟨r, rfl⟩ : ∃ r, b = 9223372036854775808 + r := ⟨b - 9223372036854775808, by omega⟩
      have e : frung (9223372036854775808 + r) = r := by unfold frung; omega
      rw [e] at h
      rw [fval_word h]
      rcases Nat.eq_zero_or_pos r with e2 | e2
      · subst e2
        rw [fval_zero, if_neg (by grind), if_pos (by grind)]; simp
      · have := fval_lt e2 h
        rw [fval_zero] at this
        rw [if_pos (by grind)]; simp [e]; omega
  · rw [order_inf_fin h fin_zero]
    have : fneg b = decide (9223372036854775808 < b) := by
      unfold frung at h
      unfold fneg
      rcases Nat.lt_or_ge b 9223372036854775808 with hs | hs
      · rw [show b / 9223372036854775808 % 2 = 0 by omega]; simp; omega
      · rw [show b / 9223372036854775808 % 2 = 1 by omega]; simp; omega
    rw [this]
    by_cases e : 9223372036854775808 < b <;> simp [e] <;> omega
  · rw [order_nan_left h]; simp; omega

/-- A float's size. -/
def szw (b : Nat) : Nat := if 9223372036854775808 < b ∧ frung b ≤ 9218868437227405312 then b - 9223372036854775808 else b

theorem szw_leq {b c : Nat} (hb : b < 18446744073709551616) (h : frung b ≤ 9218868437227405312) (h0 : 0 < c) (hc : c < 9218868437227405312) :
    (FloatKind.f64.format.order (szw b) c == some .lt || FloatKind.f64.format.order (szw b) c == some .eq) = decide (frung b ≤ c) := by
  rcases Nat.lt_trichotomy b 9223372036854775808 with hs | hs | hs
  · have e : szw b = b := by unfold szw; rw [if_neg (by omega)]
    have e2 : frung b = b := by unfold frung; omega
    rw [e, leq_word hs hc, e2]
  · subst hs
    have e : szw 9223372036854775808 = 9223372036854775808 := by decide
    have e2 : frung 9223372036854775808 = 0 := by decide
    rw [e, e2]
    show (Ieee.double.order 9223372036854775808 c == some .lt || Ieee.double.order 9223372036854775808 c == some .eq) = _
    have hf : fval 9223372036854775808 = 0 := fval_zero_iff.2 e2
    have := fval_lt h0 hc
    rw [fval_zero] at this
    rw [order_fin (by unfold Fin64; rw [e2]; omega) (by unfold Fin64 frung; omega), hf, if_pos this]
    simp
  · have e : szw b = frung b := by unfold szw; rw [if_pos ⟨hs, h⟩]; unfold frung; omega
    rw [e, leq_word (by unfold frung; omega) hc]

theorem szw_geq {b c : Nat} (hb : b < 18446744073709551616) (h : frung b ≤ 9218868437227405312) (h0 : frung b ≠ 0) (hc : c < 9218868437227405312) :
    (FloatKind.f64.format.order (szw b) c == some .gt || FloatKind.f64.format.order (szw b) c == some .eq) = decide (c ≤ frung b) := by
  have e : szw b = frung b := by
    unfold szw
    split
    · unfold frung; omega
    · unfold frung at *; omega
  rw [e, geq_word h hc]


end Go.Proofs.YtmcllgoeldfgmaaDoor

/- What the language has of a sum, a difference, a product of two floats: the number, rounded. -/
namespace Go.Proofs.YtmcllgoeldfgmaaDoor

/-- x is q, rounded: the one float. -/
def RV (q x : Rat) : Prop := ∃ r, r < 9218868437227405312 ∧ ((0 ≤ q ∧ Near q r ∧ x = fval r) ∨ (q ≤ 0 ∧ Near (-q) r ∧ x = -fval r))

theorem RV.fn {q x y : Rat} (h1 : RV q x) (h2 : RV q y) : x = y := by
  obtain ⟨r, _, h1⟩ := h1
  obtain ⟨s, _, h2⟩ := h2
  have z : ∀ {p : Rat}, 0 ≤ p → p ≤ 0 → p = 0 := fun a b => Rat.le_antisymm b a
  rcases h1 with ⟨a, n1, e1⟩ | ⟨a, n1, e1⟩ <;> rcases h2 with ⟨b, n2, e2⟩ | ⟨b, n2, e2⟩
  · rw [e1, e2, near_fun n1 n2]
  · have := z a b
    subst this
    rw [show -(0 : Rat) = 0 by grind] at n2
    rw [e1, e2, near_zero n1, near_zero n2, fval_zero]; grind
  · have := z b a
    subst this
    rw [show -(0 : Rat) = 0 by grind] at n1
    rw [e1, e2, near_zero n1, near_zero n2, fval_zero]; grind
  · rw [e1, e2, near_fun n1 n2]

theorem RV.neg {q x : Rat} (h : RV q x) : RV (-q) (-x) := by
  obtain ⟨r, hr, h⟩ := h
  refine ⟨r, hr, ?_⟩
  rcases h with ⟨a, n, e⟩ | ⟨a, n, e⟩
  · exact Or.inr ⟨by grind, by rwa [show - -q = q by grind], by rw [e]⟩
  · exact Or.inl ⟨by grind, n, by rw [e]; grind⟩

theorem fval_rung (T k : Nat) (hk : k ≤ 9007199254740992) (hT : T = 0 ∨ 4503599627370496 ≤ k) (hr : T * 4503599627370496 + k < 9218868437227405312) : fval (T * 4503599627370496 + k) = ((k : Nat) : Rat) * U T := by
  rw [(fval_pos_lt hr).1]
  unfold U
  rcases Nat.lt_or_ge k 4503599627370496 with h | h
  · have e : T = 0 := by omega
    subst e
    rw [show fmag (0 * 4503599627370496 + k) = k by unfold fmag; rw [if_pos (by omega)]; omega, show fpl (0 * 4503599627370496 + k) = ((0 : Nat) : Int) - 1074 by unfold fpl; rw [if_pos (by omega)]; rfl]
  · rcases Nat.lt_or_ge k 9007199254740992 with h2 | h2
    · rw [show fmag (T * 4503599627370496 + k) = k by unfold fmag; rw [if_neg (by omega)]; omega, show fpl (T * 4503599627370496 + k) = (T : Int) - 1074 by unfold fpl; rw [if_neg (by omega)]; omega]
    · have e : k = 9007199254740992 := by omega
      subst e
      rw [show fmag (T * 4503599627370496 + 9007199254740992) = 4503599627370496 by unfold fmag; rw [if_neg (by omega)]; omega, show fpl (T * 4503599627370496 + 9007199254740992) = 1 + ((T : Int) - 1074) by unfold fpl; rw [if_neg (by omega)]; omega, p2_add, p2_one]
      rw [show ((9007199254740992 : Nat) : Rat) = 9007199254740992 from rfl, show ((4503599627370496 : Nat) : Rat) = 4503599627370496 from rfl]
      grind

theorem half_unit (T : Nat) : U T = 2 * p2 ((T : Int) - 1075) := by
  unfold U
  rw [show (T : Int) - 1074 = 1 + ((T : Int) - 1075) by omega, p2_add, p2_one]

theorem near_rnd {q : Rat} {r : Nat} (h : Near q r) (hr : r < 9218868437227405312) : ∃ T k, Rnd q (fval r) T k := by
  rcases h with ⟨rfl, rfl⟩ | ⟨hq, T, k, hl, hh, e⟩
  · have hu := U_pos 0
    exact ⟨0, 0, by rw [fval_zero]; rw [show ((0 : Int) : Rat) = 0 from rfl]; grind, by rw [fval_zero]; grind, by rw [fval_zero]; grind, Or.inl rfl, by grind, by grind, by omega, by omega⟩
  · have hb := kept_bounds hl hh
    have e' : r = T * 4503599627370496 + k := by omega
    have hv := fval_rung T k hb.1 hb.2 (by omega)
    rw [← e'] at hv
    have hU := half_unit T
    have hu := p2_pos ((T : Int) - 1075)
    obtain ⟨l1, l2⟩ := hl
    obtain ⟨s1, s2, _, _⟩ := hh
    rw [show ((18014398509481984 : Int) : Rat) = 18014398509481984 from rfl] at l2
    rw [show ((9007199254740992 : Int) : Rat) = 9007199254740992 from rfl] at l1
    have e1 : ((2 * (k : Int) - 1 : Int) : Rat) = 2 * ((k : Nat) : Rat) - 1 := by rw [Rat.intCast_sub, Rat.intCast_mul]; rfl
    have e2 : ((2 * (k : Int) + 1 : Int) : Rat) = 2 * ((k : Nat) : Rat) + 1 := by rw [Rat.intCast_add, Rat.intCast_mul]; rfl
    rw [e1] at s1
    rw [e2] at s2
    have kv : ((k : Nat) : Rat) * U T = 2 * (((k : Nat) : Rat) * p2 ((T : Int) - 1075)) := by rw [hU]; grind
    have z1 : (2 * ((k : Nat) : Rat) - 1) * p2 ((T : Int) - 1075) = 2 * (((k : Nat) : Rat) * p2 ((T : Int) - 1075)) - p2 ((T : Int) - 1075) := by grind
    have z2 : (2 * ((k : Nat) : Rat) + 1) * p2 ((T : Int) - 1075) = 2 * (((k : Nat) : Rat) * p2 ((T : Int) - 1075)) + p2 ((T : Int) - 1075) := by grind
    rw [z1] at s1
    rw [z2] at s2
    have hx : fval r = ((k : Int) : Rat) * U T := by rw [hv]; rfl
    rw [kv] at hv
    clear z1 z2 kv e1 e2 e e'
    generalize ((k : Nat) : Rat) * p2 ((T : Int) - 1075) = Z at *
    generalize p2 ((T : Int) - 1075) = h at *
    refine ⟨T, (k : Int), hx, by rw [hv, hU]; grind, by rw [hv, hU]; grind, ?_, by rw [hU]; grind, by rw [hU]; grind, by omega, by omega⟩
    rcases l1 with l1 | l1
    · exact Or.inl l1
    · exact Or.inr (Or.inl (by rw [hU]; grind))

theorem RV.rn {q x : Rat} (h : RV q x) : RN q x := by
  obtain ⟨r, hr, h⟩ := h
  rcases h with ⟨_, n, rfl⟩ | ⟨_, n, rfl⟩
  · exact near_rnd n hr
  · obtain ⟨T, k, R⟩ := near_rnd n hr
    have := R.neg
    rw [show - -q = q by grind] at this
    exact ⟨T, _, this⟩

theorem near_lt {q : Rat} {r : Nat} (h : Near q r) (hq : q < p2 1023) : r < 9218868437227405312 := by
  rcases h with ⟨rfl, rfl⟩ | ⟨_, T, k, hl, hh, e⟩
  · omega
  · have hb := kept_bounds hl hh
    have hT : T < 2045 := by
      rcases hl.1 with h | h
      · omega
      · have e1 : ((9007199254740992 : Int) : Rat) * p2 ((T : Int) - 1075) = p2 ((T : Int) - 1022) := by
          rw [show (T : Int) - 1022 = ((T : Int) - 1075) + ((53 : Nat) : Int) by omega, p2_add, p2_nat, Rat.mul_comm]; rfl
        rw [e1] at h
        have := p2_lt_iff.1 (lt_of_le_lt h hq)
        omega
    omega

/-- A word's own form. -/
theorem fc_word {b : Nat} (h : Fin64 b) : ∃ S m, FC (fval b) S m := by
  have key : ∀ r, r < 9218868437227405312 → ∃ S m, FC ((fmag r : Nat) * p2 (fpl r)) S m := by
    intro r _
    have hm := fmag_lt r
    by_cases h : r < 4503599627370496
    · refine ⟨0, (fmag r : Int), ?_, by omega, by omega, Or.inl rfl⟩
      unfold U fpl
      rw [if_pos h]; rfl
    · refine ⟨r / 4503599627370496 - 1, (fmag r : Int), ?_, by omega, by omega, Or.inr (Or.inl ?_)⟩
      · unfold U fpl
        rw [if_neg h, show ((r / 4503599627370496 - 1 : Nat) : Int) - 1074 = -1074 + ((r / 4503599627370496 - 1 : Nat) : Int) by omega]; rfl
      · unfold fmag; rw [if_neg h]; omega
  obtain ⟨S, m, c⟩ := key (frung b) h
  unfold fval sgn1
  cases fneg b
  · refine ⟨S, m, ?_⟩
    rw [if_neg (by decide), Rat.one_mul]; exact c
  · refine ⟨S, -m, ?_⟩
    rw [if_pos rfl]
    have := c.neg
    rwa [show -((fmag (frung b) : Nat) * p2 (fpl (frung b)) : Rat) = -1 * ((fmag (frung b) : Nat) * p2 (fpl (frung b))) by grind] at this

/-- A number written. -/
theorem write_rv (s : Bool) (m : Nat) (place : Int) (hq : ((m : Nat) : Rat) * p2 place < p2 1023) : ∃ r, Ieee.double.write (.number s m place) = r ∧ Fin64 r ∧ r < 18446744073709551616 ∧ RV (sgn1 s * ((m : Nat) * p2 place)) (fval r) := by
  have fin : ∀ r0, r0 < 9218868437227405312 → Near ((m : Nat) * p2 place) r0 → ∃ r, Ieee.double.word s r0 = r ∧ Fin64 r ∧ r < 18446744073709551616 ∧ RV (sgn1 s * ((m : Nat) * p2 place)) (fval r) := by
    intro r0 h0 hn
    have hnn := (near_nonneg hn).1
    unfold sgn1
    cases s
    · refine ⟨r0, rfl, by unfold Fin64 frung; omega, by omega, r0, h0, Or.inl ?_⟩
      rw [if_neg (by decide), Rat.one_mul]
      exact ⟨hnn, hn, rfl⟩
    · refine ⟨9223372036854775808 + r0, by rw [Ieee.Format.word, d_sw]; rfl, by unfold Fin64 frung; omega, by omega, r0, h0, Or.inr ?_⟩
      rw [if_pos rfl, fval_word h0]
      generalize ((m : Nat) : Rat) * p2 place = z at *
      exact ⟨by grind, by rwa [show -(-1 * z) = z by grind], rfl⟩
  show ∃ r, Ieee.double.nearest s m place = r ∧ _
  by_cases hm : m = 0
  · subst hm
    have : Ieee.double.nearest s 0 place = Ieee.double.word s 0 := by unfold Ieee.Format.nearest; rw [if_pos rfl]
    rw [this]
    exact fin 0 (by omega) (Or.inl ⟨by rw [show ((0 : Nat) : Rat) = 0 from rfl]; grind, rfl⟩)
  · obtain ⟨r0, e, hn⟩ := nearest_near s m place hm
    rw [e]
    exact fin r0 (near_lt hn hq) hn

end Go.Proofs.YtmcllgoeldfgmaaDoor

/- Sums, differences and products of words. -/
namespace Go.Proofs.YtmcllgoeldfgmaaDoor

def Lim (q : Rat) : Prop := q < p2 1023 ∧ -q < p2 1023

theorem abs_total (n : Int) (u : Rat) : ((n.natAbs : Nat) : Rat) * u = (if n < 0 then -((n : Rat) * u) else (n : Rat) * u) := by
  by_cases h : n < 0
  · rw [if_pos h]
    have e : ((n.natAbs : Nat) : Rat) = ((-n : Int) : Rat) := by
      rw [show ((n.natAbs : Nat) : Rat) = ((n.natAbs : Int) : Rat) from rfl, show (n.natAbs : Int) = -n by omega]
    rw [e, Rat.intCast_neg]; grind
  · rw [if_neg h]
    rw [show ((n.natAbs : Nat) : Rat) = ((n.natAbs : Int) : Rat) from rfl, show (n.natAbs : Int) = n by omega]

theorem sum_datum (s t : Bool) (m n : Nat) (i j : Int) (hq : Lim (sgn1 s * (((m : Nat) : Rat) * p2 i) + sgn1 t * (((n : Nat) : Rat) * p2 j))) :
    ∃ r, ((Ieee.Datum.number s m i).sum (Ieee.Datum.number t n j)).map Ieee.double.write = some r ∧ Fin64 r ∧ r < 18446744073709551616 ∧ RV (sgn1 s * (((m : Nat) : Rat) * p2 i) + sgn1 t * (((n : Nat) : Rat) * p2 j)) (fval r) := by
  unfold Ieee.Datum.sum
  simp only [Option.map_some]
  obtain ⟨base, hbase⟩ : ∃ b : Int, b = min i j := ⟨_, rfl⟩
  rw [← hbase]
  have e1 := signed_p2 s m (i - base).toNat base
  have e2 := signed_p2 t n (j - base).toNat base
  rw [show base + (((i - base).toNat : Nat) : Int) = i by omega] at e1
  rw [show base + (((j - base).toNat : Nat) : Int) = j by omega] at e2
  obtain ⟨total, ht⟩ : ∃ z : Int, z = Ieee.signed s m (i - base).toNat + Ieee.signed t n (j - base).toNat := ⟨_, rfl⟩
  rw [← ht]
  have eq : sgn1 s * ((m : Nat) * p2 i) + sgn1 t * ((n : Nat) * p2 j) = (total : Rat) * p2 base := by
    rw [← e1, ← e2, ht, Rat.intCast_add]; grind
  rw [eq] at hq ⊢
  have ha := abs_total total (p2 base)
  have hp := p2_pos base
  obtain ⟨sg, hsg⟩ : ∃ b : Bool, b = (if total = 0 then s && t else decide (total < 0)) := ⟨_, rfl⟩
  rw [← hsg]
  obtain ⟨r, hr, hf, hl, hv⟩ := write_rv sg total.natAbs base (by rw [ha]; split; exact hq.2; exact hq.1)
  refine ⟨r, by rw [hr], hf, hl, ?_⟩
  have : sgn1 sg * (((total.natAbs : Nat) : Rat) * p2 base) = (total : Rat) * p2 base := by
    by_cases h0 : total = 0
    · subst h0
      rw [show ((Int.natAbs 0 : Nat) : Rat) = 0 from rfl, show ((0 : Int) : Rat) = 0 from rfl]; grind
    · rw [if_neg h0] at hsg
      rw [ha, hsg]
      unfold sgn1
      by_cases h : total < 0
      · rw [if_pos h, if_pos (by simpa using h)]; grind
      · rw [if_neg h, if_neg (by simpa using h)]; grind
  rwa [this] at hv

theorem fval_eq (b : Nat) : fval b = sgn1 (fneg b) * ((fmag (frung b) : Nat) * p2 (fpl (frung b))) := rfl

theorem add_bits {a b : Nat} (ha : Fin64 a) (hb : Fin64 b) (hq : Lim (fval a + fval b)) : ∃ r, floatBits .add .f64 a b = some r ∧ Fin64 r ∧ r < 18446744073709551616 ∧ RV (fval a + fval b) (fval r) := by
  show ∃ r, ((Ieee.double.read a).sum (Ieee.double.read b)).map Ieee.double.write = some r ∧ _
  rw [read_fin ha, read_fin hb]
  exact sum_datum _ _ _ _ _ _ hq

theorem sub_bits {a b : Nat} (ha : Fin64 a) (hb : Fin64 b) (hq : Lim (fval a - fval b)) : ∃ r, floatBits .sub .f64 a b = some r ∧ Fin64 r ∧ r < 18446744073709551616 ∧ RV (fval a - fval b) (fval r) := by
  show ∃ r, ((Ieee.double.read a).sum (Ieee.double.read b).opposite).map Ieee.double.write = some r ∧ _
  rw [read_fin ha, read_fin hb]
  have e : fval a - fval b = sgn1 (fneg a) * ((fmag (frung a) : Nat) * p2 (fpl (frung a))) + sgn1 (!fneg b) * ((fmag (frung b) : Nat) * p2 (fpl (frung b))) := by
    rw [fval_eq a, fval_eq b]
    generalize ((fmag (frung b) : Nat) : Rat) * p2 (fpl (frung b)) = z
    cases fneg b <;> simp [sgn1] <;> grind
  rw [e] at hq ⊢
  exact sum_datum _ _ _ _ _ _ hq

theorem mul_bits {a b : Nat} (ha : Fin64 a) (hb : Fin64 b) (hq : Lim (fval a * fval b)) : ∃ r, floatBits .mul .f64 a b = some r ∧ Fin64 r ∧ r < 18446744073709551616 ∧ RV (fval a * fval b) (fval r) := by
  show ∃ r, ((Ieee.double.read a).product (Ieee.double.read b)).map Ieee.double.write = some r ∧ _
  rw [read_fin ha, read_fin hb]
  unfold Ieee.Datum.product
  simp only [Option.map_some]
  have e : fval a * fval b = sgn1 (fneg a ^^ fneg b) * (((fmag (frung a) * fmag (frung b) : Nat) : Rat) * p2 (fpl (frung a) + fpl (frung b))) := by
    rw [fval_eq a, fval_eq b, p2_add, Rat.natCast_mul]
    generalize ((fmag (frung a) : Nat) : Rat) = m
    generalize ((fmag (frung b) : Nat) : Rat) = n
    generalize p2 (fpl (frung a)) = u
    generalize p2 (fpl (frung b)) = v
    cases fneg a <;> cases fneg b <;> simp [sgn1] <;> grind
  rw [e] at hq ⊢
  have hnn : (0 : Rat) ≤ ((fmag (frung a) * fmag (frung b) : Nat) : Rat) * p2 (fpl (frung a) + fpl (frung b)) := Rat.mul_nonneg Rat.natCast_nonneg (Rat.le_of_lt (p2_pos _))
  obtain ⟨r, hr, h⟩ := write_rv (fneg a ^^ fneg b) (fmag (frung a) * fmag (frung b)) (fpl (frung a) + fpl (frung b)) (by
    generalize ((fmag (frung a) * fmag (frung b) : Nat) : Rat) * p2 (fpl (frung a) + fpl (frung b)) = z at *
    cases hs : (fneg a ^^ fneg b)
    · rw [hs] at hq; have := hq.1; simp [sgn1] at this; grind
    · rw [hs] at hq; have := hq.2; simp [sgn1] at this; grind)
  exact ⟨r, by rw [hr], h⟩

end Go.Proofs.YtmcllgoeldfgmaaDoor

/- The reference's Of: what a float denotes. -/
namespace Go.Proofs.YtmcllgoeldfgmaaDoor
open Go.RowKit

/-- What a float denotes (0 of what denotes nothing). -/
def den (b : Nat) : Rat := if frung b < 9218868437227405312 then fval b else 0

theorem frexp_mul (u : Nat) (hu : u < 4503599627370496) : floatBits .mul .f64 (1022 * 4503599627370496 + u) 4845873199050653696 = some (1075 * 4503599627370496 + u) := by
  show Ieee.double.mul (1022 * 4503599627370496 + u) 4845873199050653696 = _
  have r2 : Ieee.double.read 4845873199050653696 = .number false 4503599627370496 1 := by
    have := read_norm 1076 0 (by omega) (by omega) (by omega)
    simpa using this
  unfold Ieee.Format.mul
  rw [read_norm 1022 u (by omega) (by omega) hu, r2]
  unfold Ieee.Datum.product
  simp only [Option.map_some, Ieee.Format.write, Bool.xor_false]
  congr 1
  have h := nearest_norm (4503599627370496 + u) 52 (-1075 + ((1022 : Nat) : Int) + 1) (by omega) (by omega) (by omega) (by omega)
  rw [show (4503599627370496 + u) * 4503599627370496 = (4503599627370496 + u) * 2 ^ 52 from rfl, h]
  omega

set_option maxHeartbeats 1000000 in
theorem refOf_nan (b : Nat) (w : World) (h : FloatKind.f64.format.order b b = none) : Calls Tryd.prog 25 #[.float .f64 b] w fun e w' => e = .returned (.agg #[.int .i64 0, .slice none 0 0, .int .i64 0]) ∧ Below w.heap.size w w' := by
  go_enter Tryd.func25, Tryd.ntmps25
  go_wp2
  refine bodyPost_ret (v := .agg #[.int .i64 0, .slice none 0 0, .int .i64 0]) (by simp [results, Tryd.results25, go_sem]) rfl ?_
  exact ⟨rfl, (Below.refl _ _).alloc (Nat.le_refl _) _⟩
/-- What no number comes of: some float that is no number. -/
def nanW (a b : Nat) (w : World) : Nat := Question.cut (.nanBits .f64 a b) (w.tape w.drawn (.nanBits .f64 a b))
theorem nanW_nan (a b : Nat) (w : World) : 9218868437227405312 < frung (nanW a b w) ∧ nanW a b w < 18446744073709551616 := by
  unfold nanW frung
  generalize w.tape w.drawn (.nanBits .f64 a b) = t
  simp only [Question.cut]
  have h1 : t % 2 < 2 := Nat.mod_lt _ (by omega)
  have h2 : (t / 2) % (2 ^ 52 - 1) < 2 ^ 52 - 1 := Nat.mod_lt _ (by omega)
  generalize t % 2 = x at *
  generalize (t / 2) % (2 ^ 52 - 1) = y at *
  omega
theorem run_sub_nan (a b : Nat) (h : floatBits .sub .f64 a b = none) (w : World) : (binOp .sub 31 (.float .f64 a) (.float .f64 b)).run Tryd.prog w = .ok (.float .f64 (nanW a b w)) w.drew := by
  have h' : FloatKind.f64.format.sub a b = none := h
  simp [binOp, Op.floatArith, h', nanW, Question.forced]
theorem nan_order {n : Nat} (h : 9218868437227405312 < frung n) (c : Nat) : FloatKind.f64.format.order n c = none := order_nan_left h

set_option maxHeartbeats 1000000 in
theorem refOf_inf (b : Nat) (w : World) (h : FloatKind.f64.format.order b b = some .eq) (h2 : floatBits .sub .f64 b b = none) : Calls Tryd.prog 25 #[.float .f64 b] w fun e w' => e = .returned (.agg #[.int .i64 0, .slice none 0 0, .int .i64 0]) ∧ Below w.heap.size w w' := by
  have rs := run_sub_nan b b h2
  have h3 : ∀ w, FloatKind.f64.format.order (nanW b b w) 0 = none := fun w => nan_order (nanW_nan b b w).1 0
  clear h2
  go_enter Tryd.func25, Tryd.ntmps25
  go_wp2
  refine bodyPost_ret (v := .agg #[.int .i64 0, .slice none 0 0, .int .i64 0]) (by simp [results, Tryd.results25, go_sem]) rfl ?_
  exact ⟨rfl, ((Below.refl _ _).alloc (Nat.le_refl _) _).drew⟩
set_option maxHeartbeats 1000000 in
theorem refOf_zero (b n : Nat) (w : World) (h : FloatKind.f64.format.order b b = some .eq) (h2 : floatBits .sub .f64 b b = some n) (h3 : FloatKind.f64.format.order n 0 = some .eq) (h4 : FloatKind.f64.format.order b 0 = some .eq) : Calls Tryd.prog 25 #[.float .f64 b] w fun e w' => e = .returned (.agg #[.int .i64 0, .slice none 0 0, .int .i64 0]) ∧ Below w.heap.size w w' := by
  have rs : ∀ w, (binOp .sub 31 (.float .f64 b) (.float .f64 b)).run Tryd.prog w = .ok (.float .f64 n) w := fun w => run_float_arith w .sub _ .f64 _ _ _ h2
  clear h2
  go_enter Tryd.func25, Tryd.ntmps25
  go_wp2
  refine bodyPost_ret (v := .agg #[.int .i64 0, .slice none 0 0, .int .i64 0]) (by simp [results, Tryd.results25, go_sem]) rfl ?_
  exact ⟨rfl, (Below.refl _ _).alloc (Nat.le_refl _) _⟩

theorem set3_cells {W : World} {b : Nat} {S E : Int} {sv : Value} (h : BoxN W b S sv E) (x y z : Value) (o : Obj) : let W' := (((W.setCell ⟨b, 0, none⟩ x).setCell ⟨b, 1, none⟩ y).setCell ⟨b, 2, none⟩ z).alloc o
    W'.cell? ⟨b, 0, none⟩ = some x ∧ W'.cell? ⟨b, 1, none⟩ = some y ∧ W'.cell? ⟨b, 2, none⟩ = some z := by
  have hl := h.cells.2.2.2.2
  have hb : ((((W.setCell ⟨b, 0, none⟩ x).setCell ⟨b, 1, none⟩ y).setCell ⟨b, 2, none⟩ z).alloc o).heap[b]? = some (.cells #[x, y, z] 47 (0, 0)) := by
    rw [Below.heap_alloc _ _ _ (by simpa [World.setCell] using hl)]
    unfold BoxN at h
    simp [World.setCell, Array.getElem?_modify, h]
  refine ⟨?_, ?_, ?_⟩ <;> simp [World.cell?, hb]
theorem Rf.flip {w : World} {S E : Int} {v : Value} {q : Rat} {a : Option Addr} {n c : Nat} (h : Rf w v q) (hv : v = .agg #[.int .i64 S, .slice a n c, .int .i64 E]) : Rf w (.agg #[.int .i64 (-S), .slice a n c, .int .i64 E]) (-q) := by
  obtain ⟨S', ds, E', ⟨⟨a', c', hv', hc, hf⟩, h2, h3, h4, h5⟩, k, rfl⟩ := h
  rw [hv] at hv'
  simp only [Value.agg.injEq, Array.mk.injEq, List.cons.injEq, Value.int.injEq, Value.slice.injEq, true_and, and_true] at hv'
  obtain ⟨rfl, ⟨rfl, rfl, rfl⟩, rfl⟩ := hv'
  exact ⟨-S, ds, E, ⟨⟨a, c, rfl, hc, hf⟩, h2, h3, h4, h5⟩, k.neg, by rw [Rat.intCast_neg]; grind⟩

set_option maxRecDepth 100000 in
set_option maxHeartbeats 2000000 in
theorem refOf_pos (b n u : Nat) (ex : Int) (w : World) (h : FloatKind.f64.format.order b b = some .eq) (h2 : floatBits .sub .f64 b b = some n) (h3 : FloatKind.f64.format.order n 0 = some .eq) (h4 : FloatKind.f64.format.order b 0 = some .gt)
    (hfr : ∀ w, Calls Tryd.prog 56 #[.float .f64 b] w fun e w' => e = .returned (.tuple #[.float .f64 (1022 * 4503599627370496 + u), .int .i64 (ex + 53)]) ∧ w' = w) (hu : u < 4503599627370496) (he1 : -2000 ≤ ex) (he2 : ex ≤ 2000) :
    Calls Tryd.prog 25 #[.float .f64 b] w fun e w' => RfR w w' (((4503599627370496 + u : Nat) : Rat) * p2 ex) e := by
  obtain ⟨f, hf⟩ : ∃ f, Hid (1022 * 4503599627370496 + u = f) := ⟨_, rfl⟩
  obtain ⟨M, hM⟩ : ∃ M, Hid (4503599627370496 + u = M) := ⟨_, rfl⟩
  obtain ⟨f2, hf2⟩ : ∃ f, Hid (1075 * 4503599627370496 + u = f) := ⟨_, rfl⟩
  have hmul : floatBits .mul .f64 f 4845873199050653696 = some f2 := by rw [← hf.out, ← hf2.out]; exact frexp_mul u hu
  have rm : ∀ w, (binOp .mul 31 (.float .f64 f) (.float .f64 4845873199050653696)).run Tryd.prog w = .ok (.float .f64 f2) w := fun w => run_float_arith w .mul _ .f64 _ _ _ hmul
  have rs : ∀ w, (binOp .sub 31 (.float .f64 b) (.float .f64 b)).run Tryd.prog w = .ok (.float .f64 n) w := fun w => run_float_arith w .sub _ .f64 _ _ _ h2
  have hcv : floatToIntVal .f64 f2 .u64 = some (M : Int) := by rw [← hf2.out, ← hM.out]; exact conv_norm u hu
  have hconv : ∀ w, (convert 31 52 (.float .f64 f2)).run Tryd.prog w = .ok (.int .u64 (M : Nat)) w := fun w => run_convert_float_int w _ _ _ _ _ _ (by rw [Tryd.underlying31]; rfl) Tryd.underlying52 hcv
  rw [hf.out] at hfr
  rw [hM.out]
  have H4 : Hid _ := hfr
  have hexw : IntKind.i64.wrap (ex + 53 - 53) = ex := by rw [show ex + 53 - 53 = ex by omega]; exact wrapE _ (by omega) (by omega)
  have hML : Hid (M < 18446744073709551616) := by rw [← hM.out]; show _ < _; omega
  have hMp : Hid (0 < ((M : Nat) : Rat) * p2 ex) := by
    show _ < _
    refine Rat.mul_pos ?_ (p2_pos _)
    have : 0 < M := by rw [← hM.out]; omega
    exact_mod_cast this
  have HB0 : Hid (Below w.heap.size w (w.alloc (.cells #[.int .i64 0, .slice none 0 0, .int .i64 0] 47))) := (Below.refl _ _).alloc (Nat.le_refl _) _
  have HX0 : Hid (BoxN (w.alloc (.cells #[.int .i64 0, .slice none 0 0, .int .i64 0] 47)) w.heap.size 0 (.slice none 0 0) 0) := heap_alloc_new w _
  clear hfr hcv h2 hmul
  go_enter Tryd.func25, Tryd.ntmps25
  go_wp2_with (first
    | (go_at_call 56; refine (H4.out _).mono ?_; rintro e w' ⟨rfl, rfl⟩))
  refine (power_walk M ex _ hML.out (by omega) (by omega)).mono ?_
  rintro e w5 ⟨v5, rfl, hr5, hb5⟩
  have hB : BoxN w5 w.heap.size 0 (.slice none 0 0) 0 := HX0.out.block (hb5.block _ (by simp))
  have HBb : Hid (BoxN w5 w.heap.size 0 (.slice none 0 0) 0) := hB
  have HB : Hid (Below w.heap.size w w5) := HB0.out.trans (hb5.mono HB0.out.size)
  have HV : Hid (Rf w5 v5 (((M : Nat) : Rat) * p2 ex)) := hr5
  obtain ⟨S5, a5, n5, c5, E5, hv5, hs5⟩ := HV.out.sgn
  obtain rfl : S5 = 1 := by
    have := hMp.out
    rcases hs5 with ⟨_, h⟩ | ⟨h, _⟩ | ⟨_, h⟩
    · grind
    · exact h
    · grind
  subst hv5
  obtain ⟨t0, t1, t2, tf, tl⟩ := hB.cells
  clear hr5 hb5 hB hs5
  go_wp2
  obtain ⟨k0, k1, k2⟩ := set3_cells HBb.out (.int .i64 1) (.slice a5 n5 c5) (.int .i64 E5) (.cells #[.int .i64 1, .slice a5 n5 c5, .int .i64 E5] 47)
  refine bodyPost_ret (v := .agg #[.int .i64 1, .slice a5 n5 c5, .int .i64 E5]) (by simp [results, Tryd.results25, go_sem, k0, k1, k2]) rfl ?_
  have hB9 : Below w.heap.size w (((w5.setCell ⟨w.heap.size, 0, none⟩ (.int .i64 1)).setCell ⟨w.heap.size, 1, none⟩ (.slice a5 n5 c5)).setCell ⟨w.heap.size, 2, none⟩ (.int .i64 E5)) := ((HB.out.setCell (Nat.le_refl _) _).setCell (Nat.le_refl _) _).setCell (Nat.le_refl _) _
  refine ⟨_, rfl, Rf.later (Rf.boxed HV.out (other_box HBb.out) _ _ _) ((Below.refl _ _).alloc (Nat.le_refl _) _), ?_⟩
  exact hB9.alloc (by simpa [World.setCell] using HB.out.size) _

set_option maxRecDepth 100000 in
set_option maxHeartbeats 2000000 in
theorem refOf_neg (b n u : Nat) (ex : Int) (w : World) (hb : b < 18446744073709551616) (h : FloatKind.f64.format.order b b = some .eq) (h2 : floatBits .sub .f64 b b = some n) (h3 : FloatKind.f64.format.order n 0 = some .eq) (h4 : FloatKind.f64.format.order b 0 = some .lt)
    (hfr : ∀ w, Calls Tryd.prog 56 #[.float .f64 (fflip b)] w fun e w' => e = .returned (.tuple #[.float .f64 (1022 * 4503599627370496 + u), .int .i64 (ex + 53)]) ∧ w' = w) (hu : u < 4503599627370496) (he1 : -2000 ≤ ex) (he2 : ex ≤ 2000) :
    Calls Tryd.prog 25 #[.float .f64 b] w fun e w' => RfR w w' (-(((4503599627370496 + u : Nat) : Rat) * p2 ex)) e := by
  obtain ⟨f, hf⟩ : ∃ f, Hid (1022 * 4503599627370496 + u = f) := ⟨_, rfl⟩
  obtain ⟨M, hM⟩ : ∃ M, Hid (4503599627370496 + u = M) := ⟨_, rfl⟩
  obtain ⟨f2, hf2⟩ : ∃ f, Hid (1075 * 4503599627370496 + u = f) := ⟨_, rfl⟩
  have hmul : floatBits .mul .f64 f 4845873199050653696 = some f2 := by rw [← hf.out, ← hf2.out]; exact frexp_mul u hu
  have rm : ∀ w, (binOp .mul 31 (.float .f64 f) (.float .f64 4845873199050653696)).run Tryd.prog w = .ok (.float .f64 f2) w := fun w => run_float_arith w .mul _ .f64 _ _ _ hmul
  have rs : ∀ w, (binOp .sub 31 (.float .f64 b) (.float .f64 b)).run Tryd.prog w = .ok (.float .f64 n) w := fun w => run_float_arith w .sub _ .f64 _ _ _ h2
  have rn := run_negF b hb
  have hcv : floatToIntVal .f64 f2 .u64 = some (M : Int) := by rw [← hf2.out, ← hM.out]; exact conv_norm u hu
  have hconv : ∀ w, (convert 31 52 (.float .f64 f2)).run Tryd.prog w = .ok (.int .u64 (M : Nat)) w := fun w => run_convert_float_int w _ _ _ _ _ _ (by rw [Tryd.underlying31]; rfl) Tryd.underlying52 hcv
  rw [hf.out] at hfr
  rw [hM.out]
  have H4 : Hid _ := hfr
  have hexw : IntKind.i64.wrap (ex + 53 - 53) = ex := by rw [show ex + 53 - 53 = ex by omega]; exact wrapE _ (by omega) (by omega)
  have hML : Hid (M < 18446744073709551616) := by rw [← hM.out]; show _ < _; omega
  have hMp : Hid (0 < ((M : Nat) : Rat) * p2 ex) := by
    show _ < _
    refine Rat.mul_pos ?_ (p2_pos _)
    have : 0 < M := by rw [← hM.out]; omega
    exact_mod_cast this
  have HB0 : Hid (Below w.heap.size w (w.alloc (.cells #[.int .i64 0, .slice none 0 0, .int .i64 0] 47))) := (Below.refl _ _).alloc (Nat.le_refl _) _
  have HX0 : Hid (BoxN (w.alloc (.cells #[.int .i64 0, .slice none 0 0, .int .i64 0] 47)) w.heap.size 0 (.slice none 0 0) 0) := heap_alloc_new w _
  clear hfr hcv h2 hmul hb
  go_enter Tryd.func25, Tryd.ntmps25
  go_wp2_with (first
    | (go_at_call 56; refine (H4.out _).mono ?_; rintro e w' ⟨rfl, rfl⟩))
  refine (power_walk M ex _ hML.out (by omega) (by omega)).mono ?_
  rintro e w5 ⟨v5, rfl, hr5, hb5⟩
  have hB : BoxN w5 w.heap.size 0 (.slice none 0 0) 0 := HX0.out.block (hb5.block _ (by simp))
  have HBb : Hid (BoxN w5 w.heap.size 0 (.slice none 0 0) 0) := hB
  have HB : Hid (Below w.heap.size w w5) := HB0.out.trans (hb5.mono HB0.out.size)
  have HV : Hid (Rf w5 v5 (((M : Nat) : Rat) * p2 ex)) := hr5
  obtain ⟨S5, a5, n5, c5, E5, hv5, hs5⟩ := HV.out.sgn
  obtain rfl : S5 = 1 := by
    have := hMp.out
    rcases hs5 with ⟨_, h⟩ | ⟨h, _⟩ | ⟨_, h⟩
    · grind
    · exact h
    · grind
  subst hv5
  obtain ⟨t0, t1, t2, tf, tl⟩ := hB.cells
  clear hr5 hb5 hB hs5
  go_wp2
  obtain ⟨k0, k1, k2⟩ := set3_cells HBb.out (.int .i64 (-1)) (.slice a5 n5 c5) (.int .i64 E5) (.cells #[.int .i64 (-1), .slice a5 n5 c5, .int .i64 E5] 47)
  refine bodyPost_ret (v := .agg #[.int .i64 (-1), .slice a5 n5 c5, .int .i64 E5]) (by simp [results, Tryd.results25, go_sem, k0, k1, k2]) rfl ?_
  have hB9 : Below w.heap.size w (((w5.setCell ⟨w.heap.size, 0, none⟩ (.int .i64 (-1))).setCell ⟨w.heap.size, 1, none⟩ (.slice a5 n5 c5)).setCell ⟨w.heap.size, 2, none⟩ (.int .i64 E5)) := ((HB.out.setCell (Nat.le_refl _) _).setCell (Nat.le_refl _) _).setCell (Nat.le_refl _) _
  refine ⟨_, rfl, Rf.later (Rf.boxed (HV.out.flip rfl) (other_box HBb.out) _ _ _) ((Below.refl _ _).alloc (Nat.le_refl _) _), ?_⟩
  exact hB9.alloc (by simpa [World.setCell] using HB.out.size) _

end Go.Proofs.YtmcllgoeldfgmaaDoor

/- The reference's Of, of any float. -/
namespace Go.Proofs.YtmcllgoeldfgmaaDoor
open Go.RowKit

theorem order_val {a b : Nat} (ha : Fin64 a) (hb : Fin64 b) : FloatKind.f64.format.order a b = some (if fval a < fval b then .lt else if fval a = fval b then .eq else .gt) := order_fin ha hb
theorem fin0 : Fin64 0 := by unfold Fin64 frung; decide
theorem fval0 : fval 0 = 0 := fval_zero_iff.2 rfl
theorem rv_zero {x : Rat} (h : RV 0 x) : x = 0 := by
  obtain ⟨r, _, h⟩ := h
  rcases h with ⟨_, n, rfl⟩ | ⟨_, n, rfl⟩
  · rw [near_zero n]; exact fval0
  · rw [show (-0 : Rat) = 0 by grind] at n
    rw [near_zero n, fval0]; grind
theorem self_sub {b : Nat} (h : Fin64 b) : ∃ n, floatBits .sub .f64 b b = some n ∧ FloatKind.f64.format.order n 0 = some .eq := by
  obtain ⟨r, h1, h2, _, h3⟩ := sub_bits h h (by
    have := p2_pos 1023
    exact ⟨by grind, by grind⟩)
  rw [show fval b - fval b = 0 by grind] at h3
  have h4 := rv_zero h3
  refine ⟨r, h1, ?_⟩
  rw [order_val h2 fin0, h4, fval0, if_neg (by grind), if_pos rfl]

theorem refOf_any (b : Nat) (w : World) (hb : b < 18446744073709551616) : Calls Tryd.prog 25 #[.float .f64 b] w fun e w' => RfR w w' (den b) e := by
  have none : ∀ e w', (e = Ending.returned (.agg #[.int .i64 0, .slice none 0 0, .int .i64 0]) ∧ Below w.heap.size w w') → den b = 0 → RfR w w' (den b) e := by
    rintro e w' ⟨rfl, h⟩ h0
    rw [h0]
    exact ⟨_, rfl, rf_zero _, h⟩
  rcases Nat.lt_trichotomy (frung b) 9218868437227405312 with h | h | h
  · have hf : Fin64 b := h
    obtain ⟨n, s1, s2⟩ := self_sub hf
    have o1 : FloatKind.f64.format.order b b = some .eq := by rw [order_val hf hf, if_neg (by grind), if_pos rfl]
    have hd : den b = fval b := by unfold den; rw [if_pos h]
    by_cases h0 : frung b = 0
    · have hz := fval_zero_iff.2 h0
      refine (refOf_zero b n w o1 s1 s2 (by rw [order_val hf fin0, hz, fval0, if_neg (by grind), if_pos rfl])).mono (fun e w' he => none e w' he (by rw [hd, hz]))
    · have hbb := bits53_bounds (frung b) h0
      have hbv := bits53_val (frung b) h0
      have hpos := (fval_pos_lt h).1
      have hnn := fval_nonneg h
      have hne : fval (frung b) ≠ 0 := by
        intro e
        have := fval_zero_iff.1 e
        unfold frung at this h0
        omega
      have hpl : -2000 ≤ place53 (frung b) ∧ place53 (frung b) ≤ 2000 := by
        unfold place53
        split
        · rename_i hs
          have := (Nat.log2_lt h0).2 (show frung b < 2 ^ 52 from hs)
          omega
        · omega
      have hfr : ∀ w, Calls Tryd.prog 56 #[.float .f64 (frung b)] w fun e w' => e = .returned (.tuple #[.float .f64 (1022 * 4503599627370496 + (bits53 (frung b) - 4503599627370496)), .int .i64 (place53 (frung b) + 53)]) ∧ w' = w := fun w => Frexp_of _ _ _ w (fun w => frexp_any (frung b) w h0 h)
      have hM : 4503599627370496 + (bits53 (frung b) - 4503599627370496) = bits53 (frung b) := by omega
      have hv : ((4503599627370496 + (bits53 (frung b) - 4503599627370496) : Nat) : Rat) * p2 (place53 (frung b)) = fval (frung b) := by rw [hM, hbv, hpos]
      by_cases hs : b < 9223372036854775808
      · have hr : frung b = b := Nat.mod_eq_of_lt hs
        rw [hr] at hfr hv hnn hne hpl hbb
        have o2 : FloatKind.f64.format.order b 0 = some .gt := by rw [order_val hf fin0, fval0, if_neg (by grind), if_neg (by grind)]
        have := refOf_pos b n (bits53 b - 4503599627370496) (place53 b) w o1 s1 s2 o2 hfr (by omega) hpl.1 hpl.2
        rw [hv] at this
        rw [hd]; exact this
      · have hr : fflip b = frung b := by unfold fflip frung; rw [if_neg hs]; omega
        have hbw : b = 9223372036854775808 + frung b := by unfold frung; omega
        have hvb : fval b = -fval (frung b) := by
          have := fval_word h
          rwa [← hbw] at this
        have o2 : FloatKind.f64.format.order b 0 = some .lt := by rw [order_val hf fin0, fval0, hvb, if_pos (by grind)]
        rw [← hr] at hfr
        have := refOf_neg b n (bits53 (fflip b) - 4503599627370496) (place53 (fflip b)) w hb o1 s1 s2 o2 hfr (by rw [hr]; omega) (by rw [hr]; exact hpl.1) (by rw [hr]; exact hpl.2)
        rw [hr, hv] at this
        rw [hd, hvb]; exact this
  · have hd : den b = 0 := by unfold den; rw [if_neg (by omega)]
    have hb2 : b = 9218868437227405312 ∨ b = 18442240474082181120 := by unfold frung at h; omega
    rcases hb2 with rfl | rfl
    · exact (refOf_inf _ w (by decide +kernel) (by decide +kernel)).mono (fun e w' he => none e w' he hd)
    · exact (refOf_inf _ w (by decide +kernel) (by decide +kernel)).mono (fun e w' he => none e w' he hd)
  · have hd : den b = 0 := by unfold den; rw [if_neg (by omega)]
    exact (refOf_nan b w (order_nan_left h)).mono (fun e w' he => none e w' he hd)

theorem den_fit (b : Nat) : Bd 1024 (-1074) (den b) := by
  unfold den
  split
  · rename_i h; exact fval_bd h
  · exact bd_zero _ _

end Go.Proofs.YtmcllgoeldfgmaaDoor
