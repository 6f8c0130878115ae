/- Own texts, put together: Ep Eq Ya. -/
import Derived.Test.YtcgbnjoajieggaaGreatQ6
namespace Go.Proofs.YtcgbnjoajieggaaGreat
/- Rounding to the nearest, in plain numbers: what is exact. -/
section
def U (T : Nat) : Rat := p2 ((T : Int) - 1074)
theorem U_pos (T : Nat) : 0 < U T := p2_pos _
theorem U_succ (T : Nat) : U (T + 1) = 2 * U T := by
 unfold U
 rw [show ((T + 1 : Nat) : Int) - 1074 = 1 + ((T : Int) - 1074) by omega, p2_add, p2_one]
theorem U_add (S j : Nat) : U (S + j) = ((2 ^ j : Nat) : Rat) * U S := by
 unfold U
 rw [show ((S + j : Nat) : Int) - 1074 = (j : Nat) + ((S : Int) - 1074) by omega, p2_add, p2_nat]
theorem U_mono {S T : Nat} (h : S ≤ T) : U S ≤ U T := p2_mono (by omega)
theorem U_lt {S T : Nat} (h : S < T) : 2 * U S ≤ U T := by rw [← U_succ]; exact U_mono h
theorem U_lt2 {S T : Nat} (h : S + 2 ≤ T) : 4 * U S ≤ U T := by
 have h1 := U_mono h
 have h2 := U_succ (S + 1)
 have h3 := U_succ S
 grind
def M (u x : Rat) : Prop := ∃ k : Int, x = (k : Rat) * u
theorem M.add {u x y : Rat} (h1 : M u x) (h2 : M u y) : M u (x + y) := by
 obtain ⟨j, rfl⟩ := h1
 obtain ⟨k, rfl⟩ := h2
 exact ⟨j + k, by rw [Rat.intCast_add]; grind⟩
theorem M.neg {u x : Rat} (h1 : M u x) : M u (-x) := by
 obtain ⟨j, rfl⟩ := h1
 exact ⟨-j, by rw [Rat.intCast_neg]; grind⟩
theorem M.sub {u x y : Rat} (h1 : M u x) (h2 : M u y) : M u (x - y) := by
 have := h1.add h2.neg
 rwa [show x + -y = x - y by grind] at this
theorem M.down {S T : Nat} {x : Rat} (h : S ≤ T) (h1 : M (U T) x) : M (U S) x := by
 obtain ⟨k, rfl⟩ := h1
 obtain ⟨j, rfl⟩ : ∃ j, T = S + j := ⟨T - S, by omega⟩
 exact ⟨k * ((2 ^ j : Nat) : Int), by rw [U_add, Rat.intCast_mul, Rat.mul_assoc]; rfl⟩
theorem one_rat : ((1 : Int) : Rat) = 1 := rfl
theorem cast_lt {a b : Int} {u : Rat} (hu : 0 < u) (h : (a : Rat) * u < (b : Rat) * u) : a < b := by
 rcases Int.lt_or_le a b with h1 | h1
 · exact h1
 · have h2 : (b : Rat) ≤ (a : Rat) := Rat.intCast_le_intCast.2 h1
   have h3 := Rat.mul_le_mul_of_nonneg_right h2 (Rat.le_of_lt hu)
   grind
theorem cast_le {a b : Int} {u : Rat} (hu : 0 < u) (h : (a : Rat) * u ≤ (b : Rat) * u) : a ≤ b := by
 rcases Int.lt_or_le b a with h1 | h1
 · have h2 : (b : Rat) < (a : Rat) := Rat.intCast_lt_intCast.2 h1
   have h3 := Rat.mul_lt_mul_of_pos_right h2 hu
   grind
 · exact h1
theorem M.eq {u x y : Rat} (hu : 0 < u) (h1 : M u x) (h2 : M u y) (a : x - y < u) (b : y - x < u) : x = y := by
 obtain ⟨j, rfl⟩ := h1
 obtain ⟨k, rfl⟩ := h2
 have e1 : ((j - k : Int) : Rat) * u < ((1 : Int) : Rat) * u := by rw [Rat.intCast_sub, one_rat]; grind
 have e2 : ((k - j : Int) : Rat) * u < ((1 : Int) : Rat) * u := by rw [Rat.intCast_sub, one_rat]; grind
 have f1 := cast_lt hu e1
 have f2 := cast_lt hu e2
 have : j = k := by omega
 rw [this]
def F (z : Rat) : Prop := ∃ (S : Nat) (m : Int), z = (m : Rat) * U S ∧ -9007199254740992 ≤ m ∧ m ≤ 9007199254740992
theorem F.neg {z : Rat} (h : F z) : F (-z) := by
 obtain ⟨S, m, rfl, h1, h2⟩ := h
 exact ⟨S, -m, by rw [Rat.intCast_neg]; grind, by omega, by omega⟩
theorem F_zero : F 0 := ⟨0, 0, by rw [show ((0 : Int) : Rat) = 0 from rfl]; grind, by omega, by omega⟩
theorem M.small {S : Nat} {z : Rat} (n : Int) (hn : n ≤ 9007199254740992) (h : M (U S) z) (a : z < ((n + 1 : Int) : Rat) * U S) (b : -z < ((n + 1 : Int) : Rat) * U S) : F z := by
 obtain ⟨k, rfl⟩ := h
 have hu := U_pos S
 have e1 := cast_lt hu a
 have e2 : ((-k : Int) : Rat) * U S < ((n + 1 : Int) : Rat) * U S := by rw [Rat.intCast_neg]; grind
 have e2 := cast_lt hu e2
 exact ⟨S, k, rfl, by omega, by omega⟩
structure Rnd (q x : Rat) (T : Nat) (k : Int) : Prop where
 hx : x = (k : Rat) * U T
 h1 : 2 * (x - q) ≤ U T
 h2 : -U T ≤ 2 * (x - q)
 h3 : T = 0 ∨ 4503599627370496 * U T ≤ q ∨ 4503599627370496 * U T ≤ -q
 h4 : q < 9007199254740992 * U T
 h5 : -q < 9007199254740992 * U T
 k1 : -9007199254740992 ≤ k
 k2 : k ≤ 9007199254740992
theorem Rnd.m {q x : Rat} {T : Nat} {k : Int} (R : Rnd q x T k) : M (U T) x := ⟨k, R.hx⟩
theorem Rnd.f {q x : Rat} {T : Nat} {k : Int} (R : Rnd q x T k) : F x := ⟨T, k, R.hx, R.k1, R.k2⟩
theorem Rnd.mult {q x : Rat} {T : Nat} {k : Int} (R : Rnd q x T k) (h : M (U T) q) : x = q := by
 have hu := U_pos T
 have h1 := R.h1
 have h2 := R.h2
 exact M.eq hu R.m h (by grind) (by grind)
theorem F.abs {z : Rat} {S : Nat} {m : Int} (h : z = (m : Rat) * U S) (h1 : -9007199254740992 ≤ m) (h2 : m ≤ 9007199254740992) : z ≤ 9007199254740992 * U S ∧ -z ≤ 9007199254740992 * U S := by
 have hu := U_pos S
 have a1 := Rat.mul_le_mul_of_nonneg_right (Rat.intCast_le_intCast.2 h2) (Rat.le_of_lt hu)
 have a2 := Rat.mul_le_mul_of_nonneg_right (Rat.intCast_le_intCast.2 h1) (Rat.le_of_lt hu)
 have e1 : ((9007199254740992 : Int) : Rat) = 9007199254740992 := rfl
 have e2 : ((-9007199254740992 : Int) : Rat) = -9007199254740992 := rfl
 rw [e1] at a1
 rw [e2] at a2
 rw [h]
 constructor <;> grind
theorem Rnd.exact {q x : Rat} {T : Nat} {k : Int} (R : Rnd q x T k) (h : F q) : x = q := by
 obtain ⟨S, m, hq, h1, h2⟩ := h
 have hu := U_pos S
 rcases Nat.lt_or_ge S T with hs | hs
 · have hb := F.abs hq h1 h2
   have h3 := R.h3
   rcases Nat.lt_or_ge T (S + 2) with ht | ht
   · have e : T = S + 1 := by omega
     subst e
     have eu := U_succ S
     apply R.mult
     have hm : m = 9007199254740992 ∨ m = -9007199254740992 := by
       rcases h3 with h3 | h3 | h3
       · omega
       · left
         have : ((9007199254740992 : Int) : Rat) * U S ≤ (m : Rat) * U S := by
           rw [← hq, show ((9007199254740992 : Int) : Rat) = 9007199254740992 from rfl]; grind
         have := cast_le hu this
         omega
       · right
         have : ((9007199254740992 : Int) : Rat) * U S ≤ ((-m : Int) : Rat) * U S := by
           rw [Rat.intCast_neg, show ((9007199254740992 : Int) : Rat) = 9007199254740992 from rfl]; grind
         have := cast_le hu this
         omega
     rcases hm with rfl | rfl
     · exact ⟨4503599627370496, by rw [hq, eu, show ((9007199254740992 : Int) : Rat) = 9007199254740992 from rfl, show ((4503599627370496 : Int) : Rat) = 4503599627370496 from rfl]; grind⟩
     · exact ⟨-4503599627370496, by rw [hq, eu, show ((-9007199254740992 : Int) : Rat) = -9007199254740992 from rfl, show ((-4503599627370496 : Int) : Rat) = -4503599627370496 from rfl]; grind⟩
   · have := U_lt2 ht
     exfalso
     rcases h3 with h3 | h3 | h3
     · omega
     · grind
     · grind
 · exact R.mult (M.down hs ⟨m, hq⟩)
theorem Rnd.best {q x y c : Rat} {T : Nat} {k : Int} (R : Rnd q x T k) (h : F y) (c1 : -c ≤ y - q) (c2 : y - q ≤ c) : -c ≤ x - q ∧ x - q ≤ c := by
 have hu := U_pos T
 have r1 := R.h1
 have r2 := R.h2
 have key : ∀ {z d : Rat}, M (U T) z → -d ≤ z - q → z - q ≤ d → -d ≤ x - q ∧ x - q ≤ d := by
   intro z d hz d1 d2
   by_cases e : x - z < U T ∧ z - x < U T
   · have := M.eq hu R.m hz e.1 e.2
     rw [this]; exact ⟨d1, d2⟩
   · constructor <;> grind
 obtain ⟨S, m, hy, h1, h2⟩ := h
 rcases Nat.lt_or_ge S T with hs | hs
 · have hb := F.abs hy h1 h2
   have hl := U_lt hs
   rcases R.h3 with h3 | h3 | h3
   · omega
   · have := key (z := 4503599627370496 * U T) (d := q - 4503599627370496 * U T) ⟨4503599627370496, rfl⟩ (by grind) (by grind)
     constructor <;> grind
   · have := key (z := -4503599627370496 * U T) (d := -q - 4503599627370496 * U T) ⟨-4503599627370496, rfl⟩ (by grind) (by grind)
     constructor <;> grind
 · exact key (M.down hs ⟨m, hy⟩) c1 c2
end

/- Two floats added: what is rounded off is told exactly (Dekker, Knuth). -/
section
structure FC (z : Rat) (S : Nat) (m : Int) : Prop where
 hz : z = (m : Rat) * U S
 m1 : -9007199254740992 < m
 m2 : m < 9007199254740992
 h3 : S = 0 ∨ 4503599627370496 ≤ m ∨ m ≤ -4503599627370496
theorem FC.f {z : Rat} {S : Nat} {m : Int} (h : FC z S m) : F z := ⟨S, m, h.hz, by have := h.m1; omega, by have := h.m2; omega⟩
theorem FC.neg {z : Rat} {S : Nat} {m : Int} (h : FC z S m) : FC (-z) S (-m) :=
 ⟨by rw [h.hz, Rat.intCast_neg]; grind, by have := h.m2; omega, by have := h.m1; omega, by have := h.h3; omega⟩
theorem Rnd.neg {q x : Rat} {T : Nat} {k : Int} (R : Rnd q x T k) : Rnd (-q) (-x) T (-k) := by
 obtain ⟨hx, h1, h2, h3, h4, h5, k1, k2⟩ := R
 exact ⟨by rw [hx, Rat.intCast_neg]; grind, by grind, by grind, by rcases h3 with h | h | h; exact Or.inl h; exact Or.inr (Or.inr (by grind)); exact Or.inr (Or.inl (by grind)), by grind, by grind, by omega, by omega⟩
theorem FC.mul {z : Rat} {S : Nat} {m : Int} (h : FC z S m) : M (U S) z := ⟨m, h.hz⟩
theorem FC.size {z : Rat} {S : Nat} {m : Int} (h : FC z S m) : z ≤ 9007199254740991 * U S ∧ -z ≤ 9007199254740991 * U S := by
 have hu := U_pos S
 have m1 := h.m1
 have m2 := h.m2
 have a1 := Rat.mul_le_mul_of_nonneg_right (Rat.intCast_le_intCast.2 (by omega : m ≤ 9007199254740991)) (Rat.le_of_lt hu)
 have a2 := Rat.mul_le_mul_of_nonneg_right (Rat.intCast_le_intCast.2 (by omega : -9007199254740991 ≤ m)) (Rat.le_of_lt hu)
 rw [show ((9007199254740991 : Int) : Rat) = 9007199254740991 from rfl] at a1
 rw [show ((-9007199254740991 : Int) : Rat) = -9007199254740991 from rfl] at a2
 rw [h.hz]
 constructor <;> grind
theorem FC.least {z : Rat} {S : Nat} {m : Int} (h : FC z S m) (h0 : S ≠ 0) : 4503599627370496 * U S ≤ z ∨ 4503599627370496 * U S ≤ -z := by
 have hu := U_pos S
 rcases h.h3 with e | e | e
 · exact absurd e h0
 · left
   have := Rat.mul_le_mul_of_nonneg_right (Rat.intCast_le_intCast.2 e) (Rat.le_of_lt hu)
   rw [show ((4503599627370496 : Int) : Rat) = 4503599627370496 from rfl] at this
   rw [h.hz]; exact this
 · right
   have := Rat.mul_le_mul_of_nonneg_right (Rat.intCast_le_intCast.2 e) (Rat.le_of_lt hu)
   rw [show ((-4503599627370496 : Int) : Rat) = -4503599627370496 from rfl] at this
   rw [h.hz]; grind
theorem err_le {a b x : Rat} {T : Nat} {k : Int} {S1 S2 : Nat} {A B : Int} (R : Rnd (a + b) x T k) (ca : FC a S1 A) (cb : FC b S2 B) (h : S1 ≤ S2) : F (a + b - x) := by
 have hb : M (U S1) b := M.down h cb.mul
 rcases Nat.lt_or_ge T S1 with ht | ht
 · have := R.mult (M.down (Nat.le_of_lt ht) (ca.mul.add hb))
   rw [this, show a + b - (a + b) = (0 : Rat) by grind]; exact F_zero
 · have hm : M (U S1) (a + b - x) := (ca.mul.add hb).sub (M.down ht R.m)
   have hs := ca.size
   have hu := U_pos S1
   have hbest := R.best (c := 9007199254740991 * U S1) cb.f (by grind) (by grind)
   refine M.small 9007199254740991 (by omega) hm ?_ ?_
   · rw [show ((9007199254740991 + 1 : Int) : Rat) = 9007199254740992 from rfl]; grind
   · rw [show ((9007199254740991 + 1 : Int) : Rat) = 9007199254740992 from rfl]; grind
theorem err_f {a b x : Rat} {T : Nat} {k : Int} {S1 S2 : Nat} {A B : Int} (R : Rnd (a + b) x T k) (ca : FC a S1 A) (cb : FC b S2 B) : F (a + b - x) := by
 rcases Nat.le_total S1 S2 with h | h
 · exact err_le R ca cb h
 · have e : a + b = b + a := by grind
   rw [e] at R ⊢
   exact err_le R cb ca h
theorem fast_pos {a b x : Rat} {T : Nat} {k : Int} {S1 S2 : Nat} {A B : Int} (R : Rnd (a + b) x T k) (ca : FC a S1 A) (cb : FC b S2 B) (h1 : b ≤ a) (h2 : -b ≤ a) : F (x - a) := by
 have hu := U_pos S1
 have hU := U_pos T
 have r1 := R.h1
 have r2 := R.h2
 have hs := ca.size
 rcases Nat.lt_or_ge T S1 with ht | ht
 · have hl := ca.least (by omega)
   have hl' := U_lt ht
   rcases Nat.lt_or_ge S2 T with h3 | h3
   · have hm : M (U T) (x - a) := R.m.sub (M.down (Nat.le_of_lt ht) ca.mul)
     have hbs := cb.size
     have hbl := U_lt h3
     refine M.small 4503599627370496 (by omega) hm ?_ ?_
     · rw [show ((4503599627370496 + 1 : Int) : Rat) = 4503599627370497 from rfl]; grind
     · rw [show ((4503599627370496 + 1 : Int) : Rat) = 4503599627370497 from rfl]; grind
   · have := R.mult ((M.down (Nat.le_of_lt ht) ca.mul).add (M.down h3 cb.mul))
     rw [this, show a + b - a = b by grind]; exact cb.f
 · have hm : M (U S1) (x - a) := (M.down ht R.m).sub ca.mul
   rcases Nat.lt_or_ge T (S1 + 2) with h3 | h3
   · have hT : U T = U S1 ∨ U T = 2 * U S1 := by
       rcases (by omega : T = S1 ∨ T = S1 + 1) with rfl | rfl
       · exact Or.inl rfl
       · exact Or.inr (U_succ S1)
     refine M.small 9007199254740992 (by omega) hm ?_ ?_
     · rw [show ((9007199254740992 + 1 : Int) : Rat) = 9007199254740993 from rfl]; grind
     · rw [show ((9007199254740992 + 1 : Int) : Rat) = 9007199254740993 from rfl]; grind
   · have h4 := U_lt2 h3
     exfalso
     rcases R.h3 with h5 | h5 | h5
     · omega
     · grind
     · grind
theorem fast {a b x : Rat} {T : Nat} {k : Int} {S1 S2 : Nat} {A B : Int} (R : Rnd (a + b) x T k) (ca : FC a S1 A) (cb : FC b S2 B) (h : (0 ≤ a ∧ b ≤ a ∧ -b ≤ a) ∨ (a ≤ 0 ∧ b ≤ -a ∧ -b ≤ -a)) : F (x - a) := by
 rcases h with ⟨_, h1, h2⟩ | ⟨_, h1, h2⟩
 · exact fast_pos R ca cb h1 h2
 · have R' := R.neg
   rw [show -(a + b) = -a + -b by grind] at R'
   have := (fast_pos R' ca.neg cb.neg (by grind) (by grind)).neg
   rwa [show -(-x - -a) = x - a by grind] at this
theorem left_f {a b x fb : Rat} {T T' : Nat} {k k' : Int} {S2 : Nat} {B : Int} (R : Rnd (a + b) x T k) (R' : Rnd (x - a) fb T' k') (cb : FC b S2 B) (h : (a ≤ b ∧ -a ≤ b) ∨ (a ≤ -b ∧ -a ≤ -b)) : F (b - fb) := by
 have hv := U_pos S2
 have hU := U_pos T
 have hU' := U_pos T'
 have r1 := R.h1
 have r2 := R.h2
 have hs := cb.size
 have hbest := R'.best (y := b) (c := U T / 2) cb.f (by grind) (by grind)
 have hUv : U T ≤ 2 * U S2 := by
   rcases Nat.lt_or_ge T (S2 + 2) with h3 | h3
   · rw [← U_succ]; exact U_mono (by omega)
   · have h4 := U_lt2 h3
     exfalso
     rcases R.h3 with h5 | h5 | h5
     · omega
     · grind
     · grind
 rcases Nat.lt_or_ge T' S2 with ht | ht
 · have hm : M (U T') (b - fb) := (M.down (Nat.le_of_lt ht) cb.mul).sub R'.m
   have hl := cb.least (by omega)
   have h4 := R'.h4
   have h5 := R'.h5
   have hv2 : U S2 ≤ 2 * U T' := by
     rcases Nat.lt_or_ge S2 (T' + 2) with h6 | h6
     · rw [← U_succ]; exact U_mono (by omega)
     · have h7 := U_lt2 h6
       exfalso
       rcases hl with h8 | h8
       · grind
       · grind
   refine M.small 4 (by omega) hm ?_ ?_
   · rw [show ((4 + 1 : Int) : Rat) = 5 from rfl]; grind
   · rw [show ((4 + 1 : Int) : Rat) = 5 from rfl]; grind
 · have hm : M (U S2) (b - fb) := cb.mul.sub (M.down ht R'.m)
   refine M.small 2 (by omega) hm ?_ ?_
   · rw [show ((2 + 1 : Int) : Rat) = 3 from rfl]; grind
   · rw [show ((2 + 1 : Int) : Rat) = 3 from rfl]; grind
theorem near_cancel {a b : Rat} {S1 S2 : Nat} {A B : Int} (ca : FC a S1 A) (cb : FC b S2 B) (h : (0 ≤ a ∧ b ≤ -a ∧ -b ≤ 2 * a) ∨ (a ≤ 0 ∧ -a ≤ b ∧ b ≤ -(2 * a))) : F (a + b) := by
 have hu := U_pos S1
 have hs := ca.size
 have hS : S1 ≤ S2 := by
   rcases Nat.lt_or_ge S2 S1 with h3 | h3
   · exfalso
     have h4 := ca.least (by omega)
     have h5 := cb.size
     have h6 := U_lt h3
     have := U_pos S2
     rcases h with h | h <;> rcases h4 with h4 | h4 <;> grind
   · exact h3
 refine M.small 9007199254740991 (by omega) (ca.mul.add (M.down hS cb.mul)) ?_ ?_
 · rw [show ((9007199254740991 + 1 : Int) : Rat) = 9007199254740992 from rfl]; rcases h with h | h <;> grind
 · rw [show ((9007199254740991 + 1 : Int) : Rat) = 9007199254740992 from rfl]; rcases h with h | h <;> grind
def RN (q x : Rat) : Prop := ∃ T k, Rnd q x T k
theorem RN.exact {q x : Rat} (h : RN q x) (hf : F q) : x = q := by obtain ⟨_, _, R⟩ := h; exact R.exact hf
theorem twoSum_exact {a b x fb fa lb la y : Rat} (ca : ∃ S m, FC a S m) (cb : ∃ S m, FC b S m) (cx : ∃ S m, FC x S m) (R1 : RN (a + b) x) (R2 : RN (x - a) fb) (R3 : RN (x - fb) fa) (R4 : RN (b - fb) lb) (R5 : RN (a - fa) la) (R6 : RN (la + lb) y) : x + y = a + b := by
 obtain ⟨S1, A, ca⟩ := ca
 obtain ⟨S2, B, cb⟩ := cb
 obtain ⟨S3, X, cx⟩ := cx
 obtain ⟨T, k, R⟩ := R1
 have he := err_f R ca cb
 -- all is told where the last two steps are exact
 have fin : la = a - fa → lb = b - fb → fa + fb = x → x + y = a + b := by
   intro e1 e2 e3
   have e : la + lb = a + b - x := by rw [e1, e2]; grind
   have := R6.exact (by rw [e]; exact he)
   grind
 by_cases hab : (0 ≤ a ∧ b ≤ a ∧ -b ≤ a) ∨ (a ≤ 0 ∧ b ≤ -a ∧ -b ≤ -a)
 · have e1 := R2.exact (fast R ca cb hab)
   have e2 := R3.exact (by rw [e1, show x - (x - a) = a by grind]; exact ca.f)
   have e3 := R4.exact (by rw [e1, show b - (x - a) = a + b - x by grind]; exact he)
   have e4 := R5.exact (by rw [e2, e1, show a - (x - (x - a)) = (0 : Rat) by grind]; exact F_zero)
   exact fin e4 e3 (by grind)
 · by_cases hax : (0 ≤ x ∧ a ≤ x ∧ -a ≤ x) ∨ (x ≤ 0 ∧ a ≤ -x ∧ -a ≤ -x)
   · obtain ⟨T', k', R'⟩ := R2
     have R2' : Rnd (x + -a) fb T' k' := by rwa [show x - a = x + -a by grind] at R'
     have hf := (fast R2' cx ca.neg (by rcases hax with h | h; exact Or.inl ⟨h.1, by grind, by grind⟩; exact Or.inr ⟨h.1, by grind, by grind⟩)).neg
     have e2 := R3.exact (by rwa [show -(fb - x) = x - fb by grind] at hf)
     have e4 := R5.exact (by
       have := (err_f R2' cx ca.neg).neg
       rwa [show -(x + -a - fb) = a - fa by grind] at this)
     have e3 := R4.exact (left_f R R' cb (by grind))
     exact fin e4 e3 (by grind)
   · have hc : F (a + b) := by
       have hx2 : (a + b < a ∨ a + b < -a) ∧ (-(a + b) < a ∨ -(a + b) < -a) := by
         have b1 := R.best (y := a) (c := b) ca.f
         have b2 := R.best (y := -a) (c := a + a + b) ca.neg.f
         have b3 := R.best (y := a) (c := -b) ca.f
         have b4 := R.best (y := -a) (c := -(a + a + b)) ca.neg.f
         constructor <;> grind
       exact near_cancel ca cb (by grind)
     have e0 := R.exact hc
     have e1 := R2.exact (by rw [e0, show a + b - a = b by grind]; exact cb.f)
     have e2 := R3.exact (by rw [e1, e0, show a + b - (a + b - a) = a by grind]; exact ca.f)
     have e3 := R4.exact (by rw [e1, e0, show b - (a + b - a) = (0 : Rat) by grind]; exact F_zero)
     have e4 := R5.exact (by rw [e2, e1, e0, show a - (a + b - (a + b - a)) = (0 : Rat) by grind]; exact F_zero)
     exact fin e4 e3 (by grind)
end

/- The number that digits below 2^24 tell, plainly. -/
section
def v24 : List Nat → Nat
 | [] => 0
 | n :: r => n + 16777216 * v24 r
theorem p24 (k : Nat) : 2 ^ (24 * (k + 1)) = 16777216 * 2 ^ (24 * k) := by
 rw [show 24 * (k + 1) = 24 + 24 * k by omega, Nat.pow_add]
theorem v24_append (a b : List Nat) : v24 (a ++ b) = v24 a + 2 ^ (24 * a.length) * v24 b := by
 induction a with
 | nil => simp [v24]
 | cons x r ih => rw [List.cons_append, v24, v24, ih, List.length_cons, p24]; grind
theorem v24_snoc (a : List Nat) (x : Nat) : v24 (a ++ [x]) = v24 a + 2 ^ (24 * a.length) * x := by
 rw [v24_append]; simp [v24]
theorem v24_take_succ (l : List Nat) (k : Nat) : v24 (l.take (k + 1)) = v24 (l.take k) + 2 ^ (24 * k) * l.getD k 0 := by
 by_cases hk : k < l.length
 · rw [List.take_succ_eq_append_getElem hk, v24_append, List.length_take, Nat.min_eq_left (by omega)]
   simp [v24, List.getD, hk]
 · rw [List.take_of_length_le (by omega), List.take_of_length_le (by omega)]
   simp [List.getD, List.getElem?_eq_none (Nat.le_of_not_lt hk)]
def mag (ds : List Nat) (E : Int) : Rat := (v24 ds : Nat) * p2 (24 * E)
theorem mag_nil (E : Int) : mag [] E = 0 := by unfold mag; simp [v24]
theorem v24_last {ds : List Nat} (hne : ds ≠ []) (ht : ds.getD (ds.length - 1) 0 ≠ 0) : 2 ^ (24 * (ds.length - 1)) ≤ v24 ds := by
 have hl := List.length_pos_iff.2 hne
 have e := v24_take_succ ds (ds.length - 1)
 rw [show ds.length - 1 + 1 = ds.length by omega, List.take_length] at e
 rw [e]
 have := Nat.mul_le_mul_left (2 ^ (24 * (ds.length - 1))) (Nat.pos_of_ne_zero ht)
 omega
theorem mag_pos {ds : List Nat} {E : Int} (hne : ds ≠ []) (ht : ds.getD (ds.length - 1) 0 ≠ 0) : 0 < mag ds E := by
 have h := v24_last hne ht
 have h2 := Nat.two_pow_pos (24 * (ds.length - 1))
 unfold mag
 refine Rat.mul_pos ?_ (p2_pos _)
 have : 0 < v24 ds := by omega
 exact_mod_cast this
end
end Go.Proofs.YtcgbnjoajieggaaGreat
