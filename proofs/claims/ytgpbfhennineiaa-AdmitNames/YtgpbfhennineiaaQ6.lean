/- Own texts, put together: Ep Eq Ya Fb Fc. -/
import Derived.Test.YtgpbfhennineiaaQ1
import Derived.Test.YtgpbfhennineiaaQ2
namespace Go.Proofs.Ytgpbfhennineiaa
/- Rounding to the nearest, in plain numbers: what is exact. -/
section
def U (T : Nat) : Rat := p2 ((T : Int) - 1074)
theorem U_pos (T : Nat) : 0 < U T := p2_pos _
theorem U_succ (T : Nat) : U (T + 1) = 2 * U T := by
 unfold U
 rw [show ((T + 1 : Nat) : Int) - 1074 = 1 + ((T : Int) - 1074) by omega, p2_add, p2_one]
theorem U_add (S j : Nat) : U (S + j) = ((2 ^ j : Nat) : Rat) * U S := by
 unfold U
 rw [show ((S + j : Nat) : Int) - 1074 = (j : Nat) + ((S : Int) - 1074) by omega, p2_add, p2_nat]
theorem U_mono {S T : Nat} (h : S ≤ T) : U S ≤ U T := p2_mono (by omega)
theorem U_lt {S T : Nat} (h : S < T) : 2 * U S ≤ U T := by rw [← U_succ]; exact U_mono h
theorem U_lt2 {S T : Nat} (h : S + 2 ≤ T) : 4 * U S ≤ U T := by
 have h1 := U_mono h
 have h2 := U_succ (S + 1)
 have h3 := U_succ S
 grind
def M (u x : Rat) : Prop := ∃ k : Int, x = (k : Rat) * u
theorem M.add {u x y : Rat} (h1 : M u x) (h2 : M u y) : M u (x + y) := by
 obtain ⟨j, rfl⟩ := h1
 obtain ⟨k, rfl⟩ := h2
 exact ⟨j + k, by rw [Rat.intCast_add]; grind⟩
theorem M.neg {u x : Rat} (h1 : M u x) : M u (-x) := by
 obtain ⟨j, rfl⟩ := h1
 exact ⟨-j, by rw [Rat.intCast_neg]; grind⟩
theorem M.sub {u x y : Rat} (h1 : M u x) (h2 : M u y) : M u (x - y) := by
 have := h1.add h2.neg
 rwa [show x + -y = x - y by grind] at this
theorem M.down {S T : Nat} {x : Rat} (h : S ≤ T) (h1 : M (U T) x) : M (U S) x := by
 obtain ⟨k, rfl⟩ := h1
 obtain ⟨j, rfl⟩ : ∃ j, T = S + j := ⟨T - S, by omega⟩
 exact ⟨k * ((2 ^ j : Nat) : Int), by rw [U_add, Rat.intCast_mul, Rat.mul_assoc]; rfl⟩
theorem one_rat : ((1 : Int) : Rat) = 1 := rfl
theorem cast_lt {a b : Int} {u : Rat} (hu : 0 < u) (h : (a : Rat) * u < (b : Rat) * u) : a < b := by
 rcases Int.lt_or_le a b with h1 | h1
 · exact h1
 · have h2 : (b : Rat) ≤ (a : Rat) := Rat.intCast_le_intCast.2 h1
   have h3 := Rat.mul_le_mul_of_nonneg_right h2 (Rat.le_of_lt hu)
   grind
theorem cast_le {a b : Int} {u : Rat} (hu : 0 < u) (h : (a : Rat) * u ≤ (b : Rat) * u) : a ≤ b := by
 rcases Int.lt_or_le b a with h1 | h1
 · have h2 : (b : Rat) < (a : Rat) := Rat.intCast_lt_intCast.2 h1
   have h3 := Rat.mul_lt_mul_of_pos_right h2 hu
   grind
 · exact h1
theorem M.eq {u x y : Rat} (hu : 0 < u) (h1 : M u x) (h2 : M u y) (a : x - y < u) (b : y - x < u) : x = y := by
 obtain ⟨j, rfl⟩ := h1
 obtain ⟨k, rfl⟩ := h2
 have e1 : ((j - k : Int) : Rat) * u < ((1 : Int) : Rat) * u := by rw [Rat.intCast_sub, one_rat]; grind
 have e2 : ((k - j : Int) : Rat) * u < ((1 : Int) : Rat) * u := by rw [Rat.intCast_sub, one_rat]; grind
 have f1 := cast_lt hu e1
 have f2 := cast_lt hu e2
 have : j = k := by omega
 rw [this]
def F (z : Rat) : Prop := ∃ (S : Nat) (m : Int), z = (m : Rat) * U S ∧ -9007199254740992 ≤ m ∧ m ≤ 9007199254740992
theorem F.neg {z : Rat} (h : F z) : F (-z) := by
 obtain ⟨S, m, rfl, h1, h2⟩ := h
 exact ⟨S, -m, by rw [Rat.intCast_neg]; grind, by omega, by omega⟩
theorem F_zero : F 0 := ⟨0, 0, by rw [show ((0 : Int) : Rat) = 0 from rfl]; grind, by omega, by omega⟩
theorem M.small {S : Nat} {z : Rat} (n : Int) (hn : n ≤ 9007199254740992) (h : M (U S) z) (a : z < ((n + 1 : Int) : Rat) * U S) (b : -z < ((n + 1 : Int) : Rat) * U S) : F z := by
 obtain ⟨k, rfl⟩ := h
 have hu := U_pos S
 have e1 := cast_lt hu a
 have e2 : ((-k : Int) : Rat) * U S < ((n + 1 : Int) : Rat) * U S := by rw [Rat.intCast_neg]; grind
 have e2 := cast_lt hu e2
 exact ⟨S, k, rfl, by omega, by omega⟩
structure Rnd (q x : Rat) (T : Nat) (k : Int) : Prop where
 hx : x = (k : Rat) * U T
 h1 : 2 * (x - q) ≤ U T
 h2 : -U T ≤ 2 * (x - q)
 h3 : T = 0 ∨ 4503599627370496 * U T ≤ q ∨ 4503599627370496 * U T ≤ -q
 h4 : q < 9007199254740992 * U T
 h5 : -q < 9007199254740992 * U T
 k1 : -9007199254740992 ≤ k
 k2 : k ≤ 9007199254740992
theorem Rnd.m {q x : Rat} {T : Nat} {k : Int} (R : Rnd q x T k) : M (U T) x := ⟨k, R.hx⟩
theorem Rnd.f {q x : Rat} {T : Nat} {k : Int} (R : Rnd q x T k) : F x := ⟨T, k, R.hx, R.k1, R.k2⟩
theorem Rnd.mult {q x : Rat} {T : Nat} {k : Int} (R : Rnd q x T k) (h : M (U T) q) : x = q := by
 have hu := U_pos T
 have h1 := R.h1
 have h2 := R.h2
 exact M.eq hu R.m h (by grind) (by grind)
theorem F.abs {z : Rat} {S : Nat} {m : Int} (h : z = (m : Rat) * U S) (h1 : -9007199254740992 ≤ m) (h2 : m ≤ 9007199254740992) : z ≤ 9007199254740992 * U S ∧ -z ≤ 9007199254740992 * U S := by
 have hu := U_pos S
 have a1 := Rat.mul_le_mul_of_nonneg_right (Rat.intCast_le_intCast.2 h2) (Rat.le_of_lt hu)
 have a2 := Rat.mul_le_mul_of_nonneg_right (Rat.intCast_le_intCast.2 h1) (Rat.le_of_lt hu)
 have e1 : ((9007199254740992 : Int) : Rat) = 9007199254740992 := rfl
 have e2 : ((-9007199254740992 : Int) : Rat) = -9007199254740992 := rfl
 rw [e1] at a1
 rw [e2] at a2
 rw [h]
 constructor <;> grind
theorem Rnd.exact {q x : Rat} {T : Nat} {k : Int} (R : Rnd q x T k) (h : F q) : x = q := by
 obtain ⟨S, m, hq, h1, h2⟩ := h
 have hu := U_pos S
 rcases Nat.lt_or_ge S T with hs | hs
 · have hb := F.abs hq h1 h2
   have h3 := R.h3
   rcases Nat.lt_or_ge T (S + 2) with ht | ht
   · have e : T = S + 1 := by omega
     subst e
     have eu := U_succ S
     apply R.mult
     have hm : m = 9007199254740992 ∨ m = -9007199254740992 := by
       rcases h3 with h3 | h3 | h3
       · omega
       · left
         have : ((9007199254740992 : Int) : Rat) * U S ≤ (m : Rat) * U S := by
           rw [← hq, show ((9007199254740992 : Int) : Rat) = 9007199254740992 from rfl]; grind
         have := cast_le hu this
         omega
       · right
         have : ((9007199254740992 : Int) : Rat) * U S ≤ ((-m : Int) : Rat) * U S := by
           rw [Rat.intCast_neg, show ((9007199254740992 : Int) : Rat) = 9007199254740992 from rfl]; grind
         have := cast_le hu this
         omega
     rcases hm with rfl | rfl
     · exact ⟨4503599627370496, by rw [hq, eu, show ((9007199254740992 : Int) : Rat) = 9007199254740992 from rfl, show ((4503599627370496 : Int) : Rat) = 4503599627370496 from rfl]; grind⟩
     · exact ⟨-4503599627370496, by rw [hq, eu, show ((-9007199254740992 : Int) : Rat) = -9007199254740992 from rfl, show ((-4503599627370496 : Int) : Rat) = -4503599627370496 from rfl]; grind⟩
   · have := U_lt2 ht
     exfalso
     rcases h3 with h3 | h3 | h3
     · omega
     · grind
     · grind
 · exact R.mult (M.down hs ⟨m, hq⟩)
theorem Rnd.best {q x y c : Rat} {T : Nat} {k : Int} (R : Rnd q x T k) (h : F y) (c1 : -c ≤ y - q) (c2 : y - q ≤ c) : -c ≤ x - q ∧ x - q ≤ c := by
 have hu := U_pos T
 have r1 := R.h1
 have r2 := R.h2
 have key : ∀ {z d : Rat}, M (U T) z → -d ≤ z - q → z - q ≤ d → -d ≤ x - q ∧ x - q ≤ d := by
   intro z d hz d1 d2
   by_cases e : x - z < U T ∧ z - x < U T
   · have := M.eq hu R.m hz e.1 e.2
     rw [this]; exact ⟨d1, d2⟩
   · constructor <;> grind
 obtain ⟨S, m, hy, h1, h2⟩ := h
 rcases Nat.lt_or_ge S T with hs | hs
 · have hb := F.abs hy h1 h2
   have hl := U_lt hs
   rcases R.h3 with h3 | h3 | h3
   · omega
   · have := key (z := 4503599627370496 * U T) (d := q - 4503599627370496 * U T) ⟨4503599627370496, rfl⟩ (by grind) (by grind)
     constructor <;> grind
   · have := key (z := -4503599627370496 * U T) (d := -q - 4503599627370496 * U T) ⟨-4503599627370496, rfl⟩ (by grind) (by grind)
     constructor <;> grind
 · exact key (M.down hs ⟨m, hy⟩) c1 c2
end

/- Two floats added: what is rounded off is told exactly (Dekker, Knuth). -/
section
structure FC (z : Rat) (S : Nat) (m : Int) : Prop where
 hz : z = (m : Rat) * U S
 m1 : -9007199254740992 < m
 m2 : m < 9007199254740992
 h3 : S = 0 ∨ 4503599627370496 ≤ m ∨ m ≤ -4503599627370496
theorem FC.f {z : Rat} {S : Nat} {m : Int} (h : FC z S m) : F z := ⟨S, m, h.hz, by have := h.m1; omega, by have := h.m2; omega⟩
theorem FC.neg {z : Rat} {S : Nat} {m : Int} (h : FC z S m) : FC (-z) S (-m) :=
 ⟨by rw [h.hz, Rat.intCast_neg]; grind, by have := h.m2; omega, by have := h.m1; omega, by have := h.h3; omega⟩
theorem Rnd.neg {q x : Rat} {T : Nat} {k : Int} (R : Rnd q x T k) : Rnd (-q) (-x) T (-k) := by
 obtain ⟨hx, h1, h2, h3, h4, h5, k1, k2⟩ := R
 exact ⟨by rw [hx, Rat.intCast_neg]; grind, by grind, by grind, by rcases h3 with h | h | h; exact Or.inl h; exact Or.inr (Or.inr (by grind)); exact Or.inr (Or.inl (by grind)), by grind, by grind, by omega, by omega⟩
theorem FC.mul {z : Rat} {S : Nat} {m : Int} (h : FC z S m) : M (U S) z := ⟨m, h.hz⟩
theorem FC.size {z : Rat} {S : Nat} {m : Int} (h : FC z S m) : z ≤ 9007199254740991 * U S ∧ -z ≤ 9007199254740991 * U S := by
 have hu := U_pos S
 have m1 := h.m1
 have m2 := h.m2
 have a1 := Rat.mul_le_mul_of_nonneg_right (Rat.intCast_le_intCast.2 (by omega : m ≤ 9007199254740991)) (Rat.le_of_lt hu)
 have a2 := Rat.mul_le_mul_of_nonneg_right (Rat.intCast_le_intCast.2 (by omega : -9007199254740991 ≤ m)) (Rat.le_of_lt hu)
 rw [show ((9007199254740991 : Int) : Rat) = 9007199254740991 from rfl] at a1
 rw [show ((-9007199254740991 : Int) : Rat) = -9007199254740991 from rfl] at a2
 rw [h.hz]
 constructor <;> grind
theorem FC.least {z : Rat} {S : Nat} {m : Int} (h : FC z S m) (h0 : S ≠ 0) : 4503599627370496 * U S ≤ z ∨ 4503599627370496 * U S ≤ -z := by
 have hu := U_pos S
 rcases h.h3 with e | e | e
 · exact absurd e h0
 · left
   have := Rat.mul_le_mul_of_nonneg_right (Rat.intCast_le_intCast.2 e) (Rat.le_of_lt hu)
   rw [show ((4503599627370496 : Int) : Rat) = 4503599627370496 from rfl] at this
   rw [h.hz]; exact this
 · right
   have := Rat.mul_le_mul_of_nonneg_right (Rat.intCast_le_intCast.2 e) (Rat.le_of_lt hu)
   rw [show ((-4503599627370496 : Int) : Rat) = -4503599627370496 from rfl] at this
   rw [h.hz]; grind
theorem err_le {a b x : Rat} {T : Nat} {k : Int} {S1 S2 : Nat} {A B : Int} (R : Rnd (a + b) x T k) (ca : FC a S1 A) (cb : FC b S2 B) (h : S1 ≤ S2) : F (a + b - x) := by
 have hb : M (U S1) b := M.down h cb.mul
 rcases Nat.lt_or_ge T S1 with ht | ht
 · have := R.mult (M.down (Nat.le_of_lt ht) (ca.mul.add hb))
   rw [this, show a + b - (a + b) = (0 : Rat) by grind]; exact F_zero
 · have hm : M (U S1) (a + b - x) := (ca.mul.add hb).sub (M.down ht R.m)
   have hs := ca.size
   have hu := U_pos S1
   have hbest := R.best (c := 9007199254740991 * U S1) cb.f (by grind) (by grind)
   refine M.small 9007199254740991 (by omega) hm ?_ ?_
   · rw [show ((9007199254740991 + 1 : Int) : Rat) = 9007199254740992 from rfl]; grind
   · rw [show ((9007199254740991 + 1 : Int) : Rat) = 9007199254740992 from rfl]; grind
theorem err_f {a b x : Rat} {T : Nat} {k : Int} {S1 S2 : Nat} {A B : Int} (R : Rnd (a + b) x T k) (ca : FC a S1 A) (cb : FC b S2 B) : F (a + b - x) := by
 rcases Nat.le_total S1 S2 with h | h
 · exact err_le R ca cb h
 · have e : a + b = b + a := by grind
   rw [e] at R ⊢
   exact err_le R cb ca h
theorem fast_pos {a b x : Rat} {T : Nat} {k : Int} {S1 S2 : Nat} {A B : Int} (R : Rnd (a + b) x T k) (ca : FC a S1 A) (cb : FC b S2 B) (h1 : b ≤ a) (h2 : -b ≤ a) : F (x - a) := by
 have hu := U_pos S1
 have hU := U_pos T
 have r1 := R.h1
 have r2 := R.h2
 have hs := ca.size
 rcases Nat.lt_or_ge T S1 with ht | ht
 · have hl := ca.least (by omega)
   have hl' := U_lt ht
   rcases Nat.lt_or_ge S2 T with h3 | h3
   · have hm : M (U T) (x - a) := R.m.sub (M.down (Nat.le_of_lt ht) ca.mul)
     have hbs := cb.size
     have hbl := U_lt h3
     refine M.small 4503599627370496 (by omega) hm ?_ ?_
     · rw [show ((4503599627370496 + 1 : Int) : Rat) = 4503599627370497 from rfl]; grind
     · rw [show ((4503599627370496 + 1 : Int) : Rat) = 4503599627370497 from rfl]; grind
   · have := R.mult ((M.down (Nat.le_of_lt ht) ca.mul).add (M.down h3 cb.mul))
     rw [this, show a + b - a = b by grind]; exact cb.f
 · have hm : M (U S1) (x - a) := (M.down ht R.m).sub ca.mul
   rcases Nat.lt_or_ge T (S1 + 2) with h3 | h3
   · have hT : U T = U S1 ∨ U T = 2 * U S1 := by
       rcases (by omega : T = S1 ∨ T = S1 + 1) with rfl | rfl
       · exact Or.inl rfl
       · exact Or.inr (U_succ S1)
     refine M.small 9007199254740992 (by omega) hm ?_ ?_
     · rw [show ((9007199254740992 + 1 : Int) : Rat) = 9007199254740993 from rfl]; grind
     · rw [show ((9007199254740992 + 1 : Int) : Rat) = 9007199254740993 from rfl]; grind
   · have h4 := U_lt2 h3
     exfalso
     rcases R.h3 with h5 | h5 | h5
     · omega
     · grind
     · grind
theorem fast {a b x : Rat} {T : Nat} {k : Int} {S1 S2 : Nat} {A B : Int} (R : Rnd (a + b) x T k) (ca : FC a S1 A) (cb : FC b S2 B) (h : (0 ≤ a ∧ b ≤ a ∧ -b ≤ a) ∨ (a ≤ 0 ∧ b ≤ -a ∧ -b ≤ -a)) : F (x - a) := by
 rcases h with ⟨_, h1, h2⟩ | ⟨_, h1, h2⟩
 · exact fast_pos R ca cb h1 h2
 · have R' := R.neg
   rw [show -(a + b) = -a + -b by grind] at R'
   have := (fast_pos R' ca.neg cb.neg (by grind) (by grind)).neg
   rwa [show -(-x - -a) = x - a by grind] at this
theorem left_f {a b x fb : Rat} {T T' : Nat} {k k' : Int} {S2 : Nat} {B : Int} (R : Rnd (a + b) x T k) (R' : Rnd (x - a) fb T' k') (cb : FC b S2 B) (h : (a ≤ b ∧ -a ≤ b) ∨ (a ≤ -b ∧ -a ≤ -b)) : F (b - fb) := by
 have hv := U_pos S2
 have hU := U_pos T
 have hU' := U_pos T'
 have r1 := R.h1
 have r2 := R.h2
 have hs := cb.size
 have hbest := R'.best (y := b) (c := U T / 2) cb.f (by grind) (by grind)
 have hUv : U T ≤ 2 * U S2 := by
   rcases Nat.lt_or_ge T (S2 + 2) with h3 | h3
   · rw [← U_succ]; exact U_mono (by omega)
   · have h4 := U_lt2 h3
     exfalso
     rcases R.h3 with h5 | h5 | h5
     · omega
     · grind
     · grind
 rcases Nat.lt_or_ge T' S2 with ht | ht
 · have hm : M (U T') (b - fb) := (M.down (Nat.le_of_lt ht) cb.mul).sub R'.m
   have hl := cb.least (by omega)
   have h4 := R'.h4
   have h5 := R'.h5
   have hv2 : U S2 ≤ 2 * U T' := by
     rcases Nat.lt_or_ge S2 (T' + 2) with h6 | h6
     · rw [← U_succ]; exact U_mono (by omega)
     · have h7 := U_lt2 h6
       exfalso
       rcases hl with h8 | h8
       · grind
       · grind
   refine M.small 4 (by omega) hm ?_ ?_
   · rw [show ((4 + 1 : Int) : Rat) = 5 from rfl]; grind
   · rw [show ((4 + 1 : Int) : Rat) = 5 from rfl]; grind
 · have hm : M (U S2) (b - fb) := cb.mul.sub (M.down ht R'.m)
   refine M.small 2 (by omega) hm ?_ ?_
   · rw [show ((2 + 1 : Int) : Rat) = 3 from rfl]; grind
   · rw [show ((2 + 1 : Int) : Rat) = 3 from rfl]; grind
theorem near_cancel {a b : Rat} {S1 S2 : Nat} {A B : Int} (ca : FC a S1 A) (cb : FC b S2 B) (h : (0 ≤ a ∧ b ≤ -a ∧ -b ≤ 2 * a) ∨ (a ≤ 0 ∧ -a ≤ b ∧ b ≤ -(2 * a))) : F (a + b) := by
 have hu := U_pos S1
 have hs := ca.size
 have hS : S1 ≤ S2 := by
   rcases Nat.lt_or_ge S2 S1 with h3 | h3
   · exfalso
     have h4 := ca.least (by omega)
     have h5 := cb.size
     have h6 := U_lt h3
     have := U_pos S2
     rcases h with h | h <;> rcases h4 with h4 | h4 <;> grind
   · exact h3
 refine M.small 9007199254740991 (by omega) (ca.mul.add (M.down hS cb.mul)) ?_ ?_
 · rw [show ((9007199254740991 + 1 : Int) : Rat) = 9007199254740992 from rfl]; rcases h with h | h <;> grind
 · rw [show ((9007199254740991 + 1 : Int) : Rat) = 9007199254740992 from rfl]; rcases h with h | h <;> grind
def RN (q x : Rat) : Prop := ∃ T k, Rnd q x T k
theorem RN.exact {q x : Rat} (h : RN q x) (hf : F q) : x = q := by obtain ⟨_, _, R⟩ := h; exact R.exact hf
theorem twoSum_exact {a b x fb fa lb la y : Rat} (ca : ∃ S m, FC a S m) (cb : ∃ S m, FC b S m) (cx : ∃ S m, FC x S m) (R1 : RN (a + b) x) (R2 : RN (x - a) fb) (R3 : RN (x - fb) fa) (R4 : RN (b - fb) lb) (R5 : RN (a - fa) la) (R6 : RN (la + lb) y) : x + y = a + b := by
 obtain ⟨S1, A, ca⟩ := ca
 obtain ⟨S2, B, cb⟩ := cb
 obtain ⟨S3, X, cx⟩ := cx
 obtain ⟨T, k, R⟩ := R1
 have he := err_f R ca cb
 -- all is told where the last two steps are exact
 have fin : la = a - fa → lb = b - fb → fa + fb = x → x + y = a + b := by
   intro e1 e2 e3
   have e : la + lb = a + b - x := by rw [e1, e2]; grind
   have := R6.exact (by rw [e]; exact he)
   grind
 by_cases hab : (0 ≤ a ∧ b ≤ a ∧ -b ≤ a) ∨ (a ≤ 0 ∧ b ≤ -a ∧ -b ≤ -a)
 · have e1 := R2.exact (fast R ca cb hab)
   have e2 := R3.exact (by rw [e1, show x - (x - a) = a by grind]; exact ca.f)
   have e3 := R4.exact (by rw [e1, show b - (x - a) = a + b - x by grind]; exact he)
   have e4 := R5.exact (by rw [e2, e1, show a - (x - (x - a)) = (0 : Rat) by grind]; exact F_zero)
   exact fin e4 e3 (by grind)
 · by_cases hax : (0 ≤ x ∧ a ≤ x ∧ -a ≤ x) ∨ (x ≤ 0 ∧ a ≤ -x ∧ -a ≤ -x)
   · obtain ⟨T', k', R'⟩ := R2
     have R2' : Rnd (x + -a) fb T' k' := by rwa [show x - a = x + -a by grind] at R'
     have hf := (fast R2' cx ca.neg (by rcases hax with h | h; exact Or.inl ⟨h.1, by grind, by grind⟩; exact Or.inr ⟨h.1, by grind, by grind⟩)).neg
     have e2 := R3.exact (by rwa [show -(fb - x) = x - fb by grind] at hf)
     have e4 := R5.exact (by
       have := (err_f R2' cx ca.neg).neg
       rwa [show -(x + -a - fb) = a - fa by grind] at this)
     have e3 := R4.exact (left_f R R' cb (by grind))
     exact fin e4 e3 (by grind)
   · have hc : F (a + b) := by
       have hx2 : (a + b < a ∨ a + b < -a) ∧ (-(a + b) < a ∨ -(a + b) < -a) := by
         have b1 := R.best (y := a) (c := b) ca.f
         have b2 := R.best (y := -a) (c := a + a + b) ca.neg.f
         have b3 := R.best (y := a) (c := -b) ca.f
         have b4 := R.best (y := -a) (c := -(a + a + b)) ca.neg.f
         constructor <;> grind
       exact near_cancel ca cb (by grind)
     have e0 := R.exact hc
     have e1 := R2.exact (by rw [e0, show a + b - a = b by grind]; exact cb.f)
     have e2 := R3.exact (by rw [e1, e0, show a + b - (a + b - a) = a by grind]; exact ca.f)
     have e3 := R4.exact (by rw [e1, e0, show b - (a + b - a) = (0 : Rat) by grind]; exact F_zero)
     have e4 := R5.exact (by rw [e2, e1, e0, show a - (a + b - (a + b - a)) = (0 : Rat) by grind]; exact F_zero)
     exact fin e4 e3 (by grind)
end

/- The number that digits below 2^24 tell, plainly. -/
section
def v24 : List Nat → Nat
 | [] => 0
 | n :: r => n + 16777216 * v24 r
theorem p24 (k : Nat) : 2 ^ (24 * (k + 1)) = 16777216 * 2 ^ (24 * k) := by
 rw [show 24 * (k + 1) = 24 + 24 * k by omega, Nat.pow_add]
theorem v24_append (a b : List Nat) : v24 (a ++ b) = v24 a + 2 ^ (24 * a.length) * v24 b := by
 induction a with
 | nil => simp [v24]
 | cons x r ih => rw [List.cons_append, v24, v24, ih, List.length_cons, p24]; grind
theorem v24_snoc (a : List Nat) (x : Nat) : v24 (a ++ [x]) = v24 a + 2 ^ (24 * a.length) * x := by
 rw [v24_append]; simp [v24]
theorem v24_take_succ (l : List Nat) (k : Nat) : v24 (l.take (k + 1)) = v24 (l.take k) + 2 ^ (24 * k) * l.getD k 0 := by
 by_cases hk : k < l.length
 · rw [List.take_succ_eq_append_getElem hk, v24_append, List.length_take, Nat.min_eq_left (by omega)]
   simp [v24, List.getD, hk]
 · rw [List.take_of_length_le (by omega), List.take_of_length_le (by omega)]
   simp [List.getD, List.getElem?_eq_none (Nat.le_of_not_lt hk)]
theorem v24_lt {ds : List Nat} (h : ∀ d ∈ ds, d < 16777216) : v24 ds < 2 ^ (24 * ds.length) := by
 induction ds with
 | nil => simp [v24]
 | cons x r ih =>
   have h0 : x < 16777216 := h x (by simp)
   have h1 := ih (fun d hd => h d (by simp [hd]))
   rw [v24, List.length_cons, p24]
   omega
theorem v24_mod {ds : List Nat} (h : ∀ d ∈ ds, d < 16777216) : v24 ds % 16777216 = ds.getD 0 0 := by
 cases ds with
 | nil => simp [v24]
 | cons x r =>
   have h0 : x < 16777216 := h x (by simp)
   simp only [v24, List.getD_cons_zero]
   omega
def ms (f : Int → Nat) (L : Int) : Nat → Nat
 | 0 => 0
 | n + 1 => ms f L n + 2 ^ (24 * n) * f (L + (n : Int))
theorem ms_congr {f g : Int → Nat} (h : ∀ j, f j = g j) (L : Int) (n : Nat) : ms f L n = ms g L n := by
 induction n with
 | zero => rfl
 | succ n ih => rw [ms, ms, ih, h]
theorem ms_add (f : Int → Nat) (L : Int) (k n : Nat) : ms f L (k + n) = ms f L k + 2 ^ (24 * k) * ms f (L + (k : Int)) n := by
 induction n with
 | zero => simp [ms]
 | succ n ih =>
   rw [← Nat.add_assoc, ms, ih, ms, show 24 * (k + n) = 24 * k + 24 * n by omega, Nat.pow_add, show L + (k : Int) + (n : Int) = L + ((k + n : Nat) : Int) by omega]
   grind
theorem ms_zero {f : Int → Nat} {L : Int} {n : Nat} (h : ∀ i, L ≤ i → i < L + (n : Int) → f i = 0) : ms f L n = 0 := by
 induction n with
 | zero => rfl
 | succ n ih => rw [ms, ih (fun i h1 h2 => h i h1 (by omega)), h _ (by omega) (by omega)]; simp
theorem ms_lt {f : Int → Nat} (h : ∀ i, f i < 16777216) (L : Int) (n : Nat) : ms f L n < 2 ^ (24 * n) := by
 induction n with
 | zero => simp [ms]
 | succ n ih =>
   rw [ms, p24]
   have h1 : f (L + (n : Int)) + 1 ≤ 16777216 := h _
   have h2 := Nat.mul_le_mul_left (2 ^ (24 * n)) h1
   rw [Nat.mul_add, Nat.mul_one, Nat.mul_comm _ 16777216] at h2
   omega
theorem ms_less {f g : Int → Nat} (hg : ∀ i, g i < 16777216) {L i : Int} {n : Nat} (h1 : L ≤ i) (h2 : i < L + (n : Int)) (heq : ∀ j, i < j → f j = g j) (hlt : g i < f i) : ms g L n < ms f L n := by
 obtain ⟨k, rfl⟩ : ∃ k : Nat, i = L + (k : Int) := ⟨(i - L).toNat, by omega⟩
 obtain ⟨m, rfl⟩ : ∃ m, n = k + 1 + m := ⟨n - k - 1, by omega⟩
 rw [ms_add, ms_add f]
 have e : ms g (L + ((k + 1 : Nat) : Int)) m = ms f (L + ((k + 1 : Nat) : Int)) m := by
   have : ∀ q : Nat, ms g (L + ((k + 1 : Nat) : Int)) q = ms f (L + ((k + 1 : Nat) : Int)) q := by
     intro q
     induction q with
     | zero => rfl
     | succ q ih => rw [ms, ms, ih, heq _ (by omega)]
   exact this m
 rw [e, ms, ms]
 have h3 := ms_lt hg L k
 have h4 : g (L + (k : Int)) + 1 ≤ f (L + (k : Int)) := hlt
 have h5 := Nat.mul_le_mul_left (2 ^ (24 * k)) h4
 rw [Nat.mul_add, Nat.mul_one] at h5
 omega
def dg (ds : List Nat) (E j : Int) : Nat := if E ≤ j then ds.getD (j - E).toNat 0 else 0
theorem dg_small {ds : List Nat} (h : ∀ d ∈ ds, d < 16777216) (E j : Int) : dg ds E j < 16777216 := by
 unfold dg
 split
 · by_cases hi : (j - E).toNat < ds.length
   · have e : ds.getD (j - E).toNat 0 = ds[(j - E).toNat] := by simp [List.getD, hi]
     rw [e]; exact h _ (List.getElem_mem hi)
   · simp [List.getD, List.getElem?_eq_none (Nat.le_of_not_lt hi)]
 · omega
theorem ms_dg (ds : List Nat) (E : Int) (k : Nat) : ms (dg ds E) E k = v24 (ds.take k) := by
 induction k with
 | zero => simp [ms, v24]
 | succ k ih =>
   rw [ms, ih, v24_take_succ]
   unfold dg
   rw [if_pos (by omega), show (E + (k : Int) - E).toNat = k by omega]
def mag (ds : List Nat) (E : Int) : Rat := (v24 ds : Nat) * p2 (24 * E)
theorem mag_ms {ds : List Nat} {E L : Int} {n : Nat} (h1 : L ≤ E) (h2 : E + (ds.length : Int) ≤ L + (n : Int)) : mag ds E = (ms (dg ds E) L n : Nat) * p2 (24 * L) := by
 obtain ⟨k, rfl⟩ : ∃ k : Nat, E = L + (k : Int) := ⟨(E - L).toNat, by omega⟩
 obtain ⟨m, rfl⟩ : ∃ m, n = k + m := ⟨n - k, by omega⟩
 rw [ms_add, ms_zero (n := k) (fun i a b => by unfold dg; rw [if_neg (by omega)]), ms_dg, List.take_of_length_le (by omega), Nat.zero_add]
 unfold mag
 rw [show 24 * (L + (k : Int)) = ((24 * k : Nat) : Int) + 24 * L by omega, p2_add, p2_nat, Rat.natCast_mul]
 grind
theorem mag_congr {ds ds' : List Nat} {E E' : Int} (h : ∀ j, dg ds' E' j = dg ds E j) : mag ds' E' = mag ds E := by
 have a1 : min E E' ≤ E := by omega
 have a2 : min E E' ≤ E' := by omega
 have b1 : E + (ds.length : Int) ≤ min E E' + (((E - min E E').toNat + (E' - min E E').toNat + ds.length + ds'.length : Nat) : Int) := by omega
 have b2 : E' + (ds'.length : Int) ≤ min E E' + (((E - min E E').toNat + (E' - min E E').toNat + ds.length + ds'.length : Nat) : Int) := by omega
 rw [mag_ms a1 b1, mag_ms a2 b2, ms_congr h]
theorem mag_nil (E : Int) : mag [] E = 0 := by unfold mag; simp [v24]
theorem v24_last {ds : List Nat} (hne : ds ≠ []) (ht : ds.getD (ds.length - 1) 0 ≠ 0) : 2 ^ (24 * (ds.length - 1)) ≤ v24 ds := by
 have hl := List.length_pos_iff.2 hne
 have e := v24_take_succ ds (ds.length - 1)
 rw [show ds.length - 1 + 1 = ds.length by omega, List.take_length] at e
 rw [e]
 have := Nat.mul_le_mul_left (2 ^ (24 * (ds.length - 1))) (Nat.pos_of_ne_zero ht)
 omega
theorem mag_pos {ds : List Nat} {E : Int} (hne : ds ≠ []) (ht : ds.getD (ds.length - 1) 0 ≠ 0) : 0 < mag ds E := by
 have h := v24_last hne ht
 have h2 := Nat.two_pow_pos (24 * (ds.length - 1))
 unfold mag
 refine Rat.mul_pos ?_ (p2_pos _)
 have : 0 < v24 ds := by omega
 exact_mod_cast this
theorem mag_top {ds : List Nat} {E h : Int} (hne : ds ≠ []) (ht : ds.getD (ds.length - 1) 0 ≠ 0) (hb : mag ds E < p2 h) : 24 * (E + (ds.length : Int)) < h + 24 := by
 have h1 := v24_last hne ht
 have hl := List.length_pos_iff.2 hne
 have h2 : p2 (24 * (E + (ds.length : Int) - 1)) ≤ mag ds E := by
   rw [show 24 * (E + (ds.length : Int) - 1) = ((24 * (ds.length - 1) : Nat) : Int) + 24 * E by omega, p2_add, p2_nat]
   unfold mag
   exact Rat.mul_le_mul_of_nonneg_right (Rat.natCast_le_natCast.2 h1) (Rat.le_of_lt (p2_pos _))
 have h3 : p2 (24 * (E + (ds.length : Int) - 1)) < p2 h := by grind
 have := p2_lt_iff.1 h3
 omega
theorem mag_low {ds : List Nat} {E l : Int} (hs : ∀ d ∈ ds, d < 16777216) (hf : ds.getD 0 0 ≠ 0) (hm : ∃ n : Int, mag ds E = (n : Rat) * p2 l) : l < 24 * E + 24 := by
 rcases Int.lt_or_le l (24 * E + 24) with h | h
 · exact h
 · exfalso
   obtain ⟨n, hn⟩ := hm
   obtain ⟨k, rfl⟩ : ∃ k : Nat, l = 24 * E + 24 + (k : Int) := ⟨(l - (24 * E + 24)).toNat, by omega⟩
   rw [show 24 * E + 24 + (k : Int) = ((24 + k : Nat) : Int) + 24 * E by omega, p2_add, p2_nat, ← Rat.mul_assoc] at hn
   unfold mag at hn
   have h1 : ((v24 ds : Nat) : Rat) = (n : Rat) * ((2 ^ (24 + k) : Nat) : Rat) := by
     have hp := p2_ne (24 * E)
     have := congrArg (· / p2 (24 * E)) hn
     simp only [Rat.mul_div_cancel hp] at this
     exact this
   have h2 : ((v24 ds : Nat) : Int) = n * ((2 ^ (24 + k) : Nat) : Int) := by exact_mod_cast h1
   have h3 := v24_mod hs
   rw [Nat.pow_add, show (2 : Nat) ^ 24 = 16777216 from rfl] at h2
   have h4 : ((v24 ds : Nat) : Int) % 16777216 = 0 := by
     rw [h2, Int.natCast_mul, show n * (((16777216 : Nat) : Int) * ((2 ^ k : Nat) : Int)) = n * ((2 ^ k : Nat) : Int) * 16777216 by grind]
     exact Int.mul_emod_left _ _
   omega
end

/- Floats: IsNaN, IsInf, normalize, Frexp, Ldexp of package math, on the words that package whole hands them. -/
section
open Go.RowKit
theorem fin_order_self {b : Nat} (h : Fin64 b) : Ieee.double.order b b = some .eq := by
 rw [order_fin h h, if_neg (by exact Rat.lt_irrefl), if_pos rfl]
def isnan (b : Nat) : Bool := decide (9218868437227405312 < frung b)
def isinf (b : Nat) : Bool := frung b == 9218868437227405312
theorem order_self (b : Nat) : (Ieee.double.order b b != some .eq) = isnan b := by
 unfold isnan
 rcases Nat.lt_trichotomy (frung b) 9218868437227405312 with h | h | h
 · rw [fin_order_self h]; simp; omega
 · rw [order_inf_self h, h]; simp
 · rw [order_nan_left h]; simp [h]
theorem order_big (b : Nat) : (Ieee.double.order (b % 9223372036854775808) 9218868437227405311 == some .gt) = isinf b := by
 unfold isinf
 have e : frung (b % 9223372036854775808) = frung b := by unfold frung; rw [Nat.mod_mod]
 have hm : Fin64 9218868437227405311 := by unfold Fin64 frung; decide
 rcases Nat.lt_trichotomy (frung b) 9218868437227405312 with h | h | h
 · have hr : b % 9223372036854775808 < 9218868437227405312 := h
   rw [order_fin (by unfold Fin64; rw [e]; exact h) hm]
   have h1 := fval_le_max hr
   have h2 : (frung b == 9218868437227405312) = false := by rw [beq_eq_false_iff_ne]; omega
   rw [h2]
   by_cases h3 : fval (b % 9223372036854775808) < fval 9218868437227405311
   · rw [if_pos h3]; rfl
   · rw [if_neg h3, if_pos (by grind)]; rfl
 · rw [order_inf_fin (by rw [e]; exact h) hm, h]
   have : fneg (b % 9223372036854775808) = false := by unfold fneg; rw [Nat.div_eq_of_lt (Nat.mod_lt _ (by omega))]; rfl
   rw [this]; rfl
 · rw [order_nan_left (by rw [e]; exact h)]
   have h2 : (frung b == 9218868437227405312) = false := by rw [beq_eq_false_iff_ne]; omega
   rw [h2]; rfl
set_option maxHeartbeats 1000000 in
theorem isNaN_any (b : Nat) (w : World) : Calls Try.prog 27 #[.float .f64 b] w fun e w' => e = .returned (.bool (isnan b)) ∧ w' = w := by
 have h := order_self b
 have h' : (FloatKind.f64.format.order b b != some .eq) = isnan b := h
 go_enter Try.func27, Try.ntmps27
 go_wp2
 go_ret
 refine ⟨?_, rfl⟩
 rw [← h']
 rfl
set_option maxHeartbeats 1000000 in
theorem isInf0_any (b : Nat) (w : World) (hb : b < 18446744073709551616) : Calls Try.prog 104 #[.float .f64 b, .int .i64 0] w fun e w' => e = .returned (.bool (isinf b)) ∧ w' = w := by
 have h' : (FloatKind.f64.format.order (b % 9223372036854775808) 9218868437227405311 == some .gt) = isinf b := order_big b
 have HB : Hid (b < 18446744073709551616) := hb
 clear hb
 go_enter Try.func104, Try.ntmps104
 go_wp2_with fail
 refine (abs_any b _ HB.out).mono ?_
 rintro e w' ⟨rfl, rfl⟩
 generalize b % 9223372036854775808 = c at *
 go_wp2
 go_ret
 refine ⟨?_, rfl⟩
 rw [← h']
 rfl
set_option maxHeartbeats 1000000 in
theorem normalize_big (r : Nat) (w : World) (h1 : 4503599627370496 ≤ r) (h2 : r < 9218868437227405312) : Calls Try.prog 105 #[.float .f64 r] w fun e w' => e = .returned (.tuple #[.float .f64 r, .int .i64 0]) ∧ w' = w := by
 have e1 : r % 9223372036854775808 = r := Nat.mod_eq_of_lt (by omega)
 have e2 : (FloatKind.f64.format.order r 4503599627370496 == some .lt) = false := by
   show (Ieee.double.order r 4503599627370496 == some .lt) = false
   rw [order_fin (by unfold Fin64 frung; omega) (by unfold Fin64 frung; decide), if_neg (by rw [small_iff h2]; omega)]
   split <;> rfl
 have H1 : Hid (r % 9223372036854775808 = r) := e1
 have H2 : Hid (r < 18446744073709551616) := (by omega : r < 18446744073709551616)
 clear e1 h1 h2
 go_enter Try.func105, Try.ntmps105
 go_wp2_with fail
 refine (abs_any r _ H2.out).mono ?_
 rw [H1.out]
 rintro e w' ⟨rfl, rfl⟩
 go_wp2
 go_ret2
 exact ⟨rfl, rfl⟩
set_option maxHeartbeats 1000000 in
theorem normalize_small (r L : Nat) (w : World) (h0 : r ≠ 0) (h1 : r < 4503599627370496) (hL : Nat.log2 r = L) : Calls Try.prog 105 #[.float .f64 r] w fun e w' => e = .returned (.tuple #[.float .f64 (L * 4503599627370496 + r * 2 ^ (52 - L)), .int .i64 (-52)]) ∧ w' = w := by
 have e1 : r % 9223372036854775808 = r := Nat.mod_eq_of_lt (by omega)
 have e2 : (FloatKind.f64.format.order r 4503599627370496 == some .lt) = true := by
   show (Ieee.double.order r 4503599627370496 == some .lt) = true
   rw [order_fin (by unfold Fin64 frung; omega) (by unfold Fin64 frung; decide), if_pos (by rw [small_iff (by omega)]; omega)]
   rfl
 have e3 : ∀ w, (binOp .mul 26 (.float .f64 r) (.float .f64 4841369599423283200)).run Try.prog w = .ok (.float .f64 (L * 4503599627370496 + r * 2 ^ (52 - L))) w := fun w => run_float_arith w .mul _ .f64 r 4841369599423283200 _ (mul_up r L h0 h1 hL)
 have H1 : Hid (r % 9223372036854775808 = r) := e1
 have H2 : Hid (r < 18446744073709551616) := (by omega : r < 18446744073709551616)
 clear e1 h1 h0 hL
 generalize L * 4503599627370496 + r * 2 ^ (52 - L) = y at *
 go_enter Try.func105, Try.ntmps105
 go_wp2_with fail
 refine (abs_any r _ H2.out).mono ?_
 rw [H1.out]
 rintro e w' ⟨rfl, rfl⟩
 go_wp2
 go_ret2
 exact ⟨rfl, rfl⟩
end

/- Floats: Frexp and Ldexp. -/
section
open Go.RowKit
theorem and_exp (n : Nat) (h : n < 2048) : bits .and .u64 (n : Int) 2047 = (n : Int) := by
 rw [show (2047 : Int) = ((2047 : Nat) : Int) from rfl, u64_and_nat n _ (by omega) (by omega), show (2047 : Nat) = 2 ^ 11 - 1 by decide, Nat.and_two_pow_sub_one_eq_mod, Nat.mod_eq_of_lt h]
theorem andNot_exp (r : Nat) (h : r < 9223372036854775808) : bits .andNot .u64 (r : Int) 9218868437227405312 = ((r % 4503599627370496 : Nat) : Int) := by
 rw [show (9218868437227405312 : Int) = ((9218868437227405312 : Nat) : Int) from rfl, u64_andNot_nat r _ (by omega) (by omega)]
 congr 1
 have e : (18446744073709551615 - 9218868437227405312 : Nat) = 2 ^ 63 ||| (2 ^ 52 - 1) := by decide
 rw [e, Nat.and_or_distrib_left, Nat.and_two_pow_sub_one_eq_mod]
 have e2 : r &&& 2 ^ 63 = 0 := by
   apply Nat.eq_of_testBit_eq
   intro i
   rw [Nat.testBit_and, Nat.testBit_two_pow, Nat.zero_testBit]
   by_cases hi : 63 = i
   · subst hi; rw [Nat.testBit_lt_two_pow (by omega)]; rfl
   · simp [hi]
 rw [e2, Nat.zero_or]
theorem or_exp (T u : Nat) (hT : T < 2048) (hu : u < 4503599627370496) : bits .or .u64 (u : Int) ((T * 4503599627370496 : Nat) : Int) = ((T * 4503599627370496 + u : Nat) : Int) := by
 rw [u64_or_nat u _ (by omega) (by omega)]
 congr 1
 rw [show T * 4503599627370496 = 2 ^ 52 * T by rw [Nat.mul_comm], Nat.or_comm, ← Nat.two_pow_add_eq_or_of_lt hu]
theorem zero_order (r : Nat) (h0 : r ≠ 0) (h : r < 9218868437227405312) : (FloatKind.f64.format.order r 0 == some .eq) = false := by
 show (Ieee.double.order r 0 == some .eq) = false
 have hf : Fin64 r := by unfold Fin64 frung; omega
 rw [order_fin hf (by unfold Fin64 frung; decide)]
 have e0 : fval 0 = 0 := fval_zero_iff.2 rfl
 have e1 : fval r ≠ 0 := by rw [Ne, fval_zero_iff]; unfold frung; omega
 rw [e0]
 rw [if_neg e1]
 split <;> rfl
theorem fin_flags (r : Nat) (h : r < 9218868437227405312) : isinf r = false ∧ isnan r = false := by
 have e : frung r = r := Nat.mod_eq_of_lt (by omega)
 unfold isinf isnan
 rw [e]
 exact ⟨by rw [beq_eq_false_iff_ne]; omega, by simp; omega⟩
theorem ret_fi {a : Nat} {b c : Int} (h : b = c) : Ending.returned (.tuple #[.float .f64 a, .int .i64 b]) = .returned (.tuple #[.float .f64 a, .int .i64 c]) := by rw [h]
set_option maxHeartbeats 2000000 in
theorem frexp_core (r y : Nat) (e0 : Int) (w : World) (h0 : r ≠ 0) (h : r < 9218868437227405312) (hy1 : 4503599627370496 ≤ y) (hy2 : y < 9218868437227405312) (he1 : -100 ≤ e0) (he2 : e0 ≤ 100)
   (hn : ∀ w, Calls Try.prog 105 #[.float .f64 r] w fun e w' => e = .returned (.tuple #[.float .f64 y, .int .i64 e0]) ∧ w' = w) :
   Calls Try.prog 87 #[.float .f64 r] w fun e w' => e = .returned (.tuple #[.float .f64 (1022 * 4503599627370496 + y % 4503599627370496), .int .i64 (e0 + ((y / 4503599627370496 : Nat) : Int) - 1022)]) ∧ w' = w := by
 have z := zero_order r h0 h
 obtain ⟨f1, f2⟩ := fin_flags r h
 have b1 := run_bits y
 have b2 := run_frombits (1022 * 4503599627370496 + y % 4503599627370496)
 have c1 := and_exp (y / 4503599627370496) (by omega)
 have c1' : bits .and .u64 ((y : Int) / 4503599627370496) 2047 = ((y / 4503599627370496 : Nat) : Int) := by rw [show ((y : Int) / 4503599627370496) = ((y / 4503599627370496 : Nat) : Int) by omega]; exact c1
 have c2 := andNot_exp y (by omega)
 have c3 := or_exp 1022 (y % 4503599627370496) (by omega) (Nat.mod_lt _ (by omega))
 have c3' : bits .or .u64 ((y % 4503599627370496 : Nat) : Int) 4602678819172646912 = ((1022 * 4503599627370496 + y % 4503599627370496 : Nat) : Int) := c3
 have HI : Hid (∀ w, Calls Try.prog 104 #[.float .f64 r, .int .i64 0] w fun e w' => e = .returned (.bool false) ∧ w' = w) := fun w => by have := isInf0_any r w (by omega); rwa [f1] at this
 have HN : Hid (∀ w, Calls Try.prog 27 #[.float .f64 r] w fun e w' => e = .returned (.bool false) ∧ w' = w) := fun w => by have := isNaN_any r w; rwa [f2] at this
 have HM : Hid _ := hn
 have hE : y / 4503599627370496 < 2048 := by omega
 clear hn f1 f2 c1 c3 h0 h hy1 hy2
 generalize 1022 * 4503599627370496 + y % 4503599627370496 = z1 at *
 generalize y % 4503599627370496 = u at *
 generalize hEE : y / 4503599627370496 = E at *
 clear hEE
 have hEi : (E : Int) < 2048 := by omega
 go_enter Try.func87, Try.ntmps87
 go_wp2_with (first
   | (go_at_call 104; refine (HI.out _).mono ?_; rintro e w' ⟨rfl, rfl⟩)
   | (go_at_call 27; refine (HN.out _).mono ?_; rintro e w' ⟨rfl, rfl⟩)
   | (go_at_call 105; refine (HM.out _).mono ?_; rintro e w' ⟨rfl, rfl⟩))
 go_ret2
 exact ⟨ret_fi (by omega), rfl⟩
def bits53 (r : Nat) : Nat := if r < 4503599627370496 then r * 2 ^ (52 - Nat.log2 r) else 4503599627370496 + r % 4503599627370496
def place53 (r : Nat) : Int := if r < 4503599627370496 then -1126 + (Nat.log2 r : Int) else -1075 + ((r / 4503599627370496 : Nat) : Int)
theorem bits53_bounds (r : Nat) (h0 : r ≠ 0) : 4503599627370496 ≤ bits53 r ∧ bits53 r < 9007199254740992 := by
 unfold bits53
 split
 · rename_i h
   have a1 := Nat.log2_self_le h0
   have a2 : r < 2 ^ (Nat.log2 r + 1) := Nat.lt_log2_self
   have a3 : Nat.log2 r < 52 := (Nat.log2_lt h0).2 h
   have b1 := Nat.mul_le_mul_right (2 ^ (52 - Nat.log2 r)) a1
   have b2 := Nat.mul_lt_mul_of_pos_right a2 (Nat.two_pow_pos (52 - Nat.log2 r))
   rw [← Nat.pow_add, show Nat.log2 r + (52 - Nat.log2 r) = 52 by omega] at b1
   rw [← Nat.pow_add, show Nat.log2 r + 1 + (52 - Nat.log2 r) = 53 by omega] at b2
   exact ⟨b1, b2⟩
 · omega
theorem bits53_val (r : Nat) (h0 : r ≠ 0) : ((bits53 r : Nat) : Rat) * p2 (place53 r) = (fmag r : Nat) * p2 (fpl r) := by
 unfold bits53 place53 fmag fpl
 split
 · rename_i h
   have a3 : Nat.log2 r < 52 := (Nat.log2_lt h0).2 h
   rw [nat_mul_p2, Rat.mul_assoc, ← p2_add]
   congr 2
   omega
 · congr 2
   omega
theorem frexp_any (r : Nat) (w : World) (h0 : r ≠ 0) (h : r < 9218868437227405312) :
   Calls Try.prog 87 #[.float .f64 r] w fun e w' => e = .returned (.tuple #[.float .f64 (1022 * 4503599627370496 + (bits53 r - 4503599627370496)), .int .i64 (place53 r + 53)]) ∧ w' = w := by
 have hb := bits53_bounds r h0
 by_cases hs : r < 4503599627370496
 · have a3 : Nat.log2 r < 52 := (Nat.log2_lt h0).2 hs
   have e1 : bits53 r = r * 2 ^ (52 - Nat.log2 r) := by unfold bits53; rw [if_pos hs]
   have e2 : place53 r = -1126 + (Nat.log2 r : Int) := by unfold place53; rw [if_pos hs]
   have hc := frexp_core r (Nat.log2 r * 4503599627370496 + r * 2 ^ (52 - Nat.log2 r)) (-52) w h0 h (by omega) (by omega) (by omega) (by omega) (fun w => normalize_small r _ w h0 hs rfl)
   rw [← e1] at hc
   rw [show (Nat.log2 r * 4503599627370496 + bits53 r) % 4503599627370496 = bits53 r - 4503599627370496 by omega, show (Nat.log2 r * 4503599627370496 + bits53 r) / 4503599627370496 = Nat.log2 r + 1 by omega] at hc
   rw [e2, show -1126 + (Nat.log2 r : Int) + 53 = -52 + ((Nat.log2 r + 1 : Nat) : Int) - 1022 by omega]
   exact hc
 · have e1 : bits53 r = 4503599627370496 + r % 4503599627370496 := by unfold bits53; rw [if_neg hs]
   have e2 : place53 r = -1075 + ((r / 4503599627370496 : Nat) : Int) := by unfold place53; rw [if_neg hs]
   have hc := frexp_core r r 0 w h0 h (by omega) h (by omega) (by omega) (fun w => normalize_big r w (by omega) h)
   rw [e1, e2, show 4503599627370496 + r % 4503599627370496 - 4503599627370496 = r % 4503599627370496 by omega, show -1075 + ((r / 4503599627370496 : Nat) : Int) + 53 = 0 + ((r / 4503599627370496 : Nat) : Int) - 1022 by omega]
   exact hc
set_option maxHeartbeats 1000000 in
theorem Frexp_of (a b : Nat) (c : Int) (w : World) (hf : ∀ w, Calls Try.prog 87 #[.float .f64 a] w fun e w' => e = .returned (.tuple #[.float .f64 b, .int .i64 c]) ∧ w' = w) :
   Calls Try.prog 60 #[.float .f64 a] w fun e w' => e = .returned (.tuple #[.float .f64 b, .int .i64 c]) ∧ w' = w := by
 have HF : Hid _ := hf
 clear hf
 go_enter Try.func60, Try.ntmps60
 go_wp2_with (first | (go_at_call 87; refine (HF.out _).mono ?_; rintro e w' ⟨rfl, rfl⟩))
 go_ret2
 exact ⟨rfl, rfl⟩
theorem conv_norm (u : Nat) (hu : u < 4503599627370496) : floatToIntVal .f64 (1075 * 4503599627370496 + u) .u64 = some ((4503599627370496 + u : Nat) : Int) := by
 unfold floatToIntVal
 have h : FloatKind.f64.decode (1075 * 4503599627370496 + u) = .number false (4503599627370496 + u) 0 := read_norm 1075 u (by omega) (by omega) hu
 rw [h]
 have hn : 4503599627370496 + u ≤ 9007199254740992 := by omega
 generalize 4503599627370496 + u = n at *
 have h2 : Ieee.Datum.toInt .zero (.number false n 0) = some (n : Int) := by
   simp [Ieee.Datum.toInt, Ieee.Datum.integral, Ieee.Toward.cut, Ieee.signed]
 rw [h2]
 have h3 : IntKind.u64.min = 0 := by decide
 have h4 : IntKind.u64.max = 18446744073709551615 := by decide
 simp only [h3, h4]
 rw [if_pos ⟨by omega, by omega⟩]
end
end Go.Proofs.Ytgpbfhennineiaa
