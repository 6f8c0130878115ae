/- Own texts, put together: M8 Ep Eq Ya Ea En Eo Eb. -/
import Derived.Test.YtcgbnjoajieggaaGreatQ1
import Derived.Test.YtcgbnjoajieggaaGreatQ6
import Derived.WalkKit
import Derived.WalkSpells
import Derived.WalkLawsBesides
import Derived.Laws.FloatArith
namespace Go.Proofs.YtcgbnjoajieggaaGreat
/- Plain facts: how far a number's bits reach. -/
section
def Bd (h l : Int) (q : Rat) : Prop := q < p2 h ∧ -p2 h < q ∧ ∃ n : Int, q = (n : Rat) * p2 l
theorem bd_le {x P Q : Rat} (a : x < P) (b : -P < x) (h : P ≤ Q) : x < Q ∧ -Q < x := ⟨by grind, by grind⟩
theorem Bd.may {h l : Int} {q : Rat} (hb : Bd h l q) (h1 : h ≤ 65537) (h2 : -65536 ≤ l) : May q := by
 obtain ⟨a, b, n, c⟩ := hb
 have hh := bd_le a b (p2_mono h1)
 refine ⟨hh.1, hh.2, n * ((2 ^ (l + 65536).toNat : Nat) : Int), ?_⟩
 have e : p2 l = ((2 ^ (l + 65536).toNat : Nat) : Rat) * p2 (-65536) := by
   rw [← p2_nat, ← p2_add]; congr 1; omega
 rw [c, e, Rat.intCast_mul]
 have : (((2 ^ (l + 65536).toNat : Nat) : Int) : Rat) = ((2 ^ (l + 65536).toNat : Nat) : Rat) := rfl
 rw [this]; grind
theorem Bd.mono {h l h' l' : Int} {q : Rat} (hb : Bd h l q) (h1 : h ≤ h') (h2 : l' ≤ l) : Bd h' l' q := by
 obtain ⟨a, b, n, c⟩ := hb
 have := p2_mono h1
 refine ⟨by grind, by grind, n * ((2 ^ (l - l').toNat : Nat) : Int), ?_⟩
 have e : p2 l = ((2 ^ (l - l').toNat : Nat) : Rat) * p2 l' := by
   rw [← p2_nat, ← p2_add]; congr 1; omega
 rw [c, e, Rat.intCast_mul]
 have : (((2 ^ (l - l').toNat : Nat) : Int) : Rat) = ((2 ^ (l - l').toNat : Nat) : Rat) := rfl
 rw [this]; grind
theorem Bd.neg {h l : Int} {q : Rat} (hb : Bd h l q) : Bd h l (-q) := by
 obtain ⟨a, b, n, c⟩ := hb
 refine ⟨by grind, by grind, -n, ?_⟩
 rw [c, Rat.intCast_neg]; grind
theorem Bd.add {h l : Int} {p q : Rat} (h1 : Bd h l p) (h2 : Bd h l q) : Bd (h + 1) l (p + q) := by
 obtain ⟨a, b, n, c⟩ := h1
 obtain ⟨a', b', n', c'⟩ := h2
 have e : p2 (h + 1) = 2 * p2 h := by rw [p2_add, p2_one]; grind
 refine ⟨by grind, by grind, n + n', ?_⟩
 rw [c, c', Rat.intCast_add]; grind
theorem Bd.sub {h l : Int} {p q : Rat} (h1 : Bd h l p) (h2 : Bd h l q) : Bd (h + 1) l (p - q) := by
 have := h1.add h2.neg
 rwa [show p + -q = p - q by grind] at this
theorem abs_mul_lt {a b c d : Rat} (h1 : -b < a) (h2 : a < b) (h3 : -d < c) (h4 : c < d) : -(b * d) < a * c ∧ a * c < b * d := by
 have hb : 0 < b := by grind
 have hd : 0 < d := by grind
 have e1 : 0 < (b - a) * (d + c) := Rat.mul_pos (by grind) (by grind)
 have e2 : 0 < (b + a) * (d - c) := Rat.mul_pos (by grind) (by grind)
 have e3 : 0 < (b - a) * (d - c) := Rat.mul_pos (by grind) (by grind)
 have e4 : 0 < (b + a) * (d + c) := Rat.mul_pos (by grind) (by grind)
 constructor <;> grind
theorem Bd.mul {h l h' l' : Int} {p q : Rat} (h1 : Bd h l p) (h2 : Bd h' l' q) : Bd (h + h') (l + l') (p * q) := by
 obtain ⟨a, b, n, c⟩ := h1
 obtain ⟨a', b', n', c'⟩ := h2
 have := abs_mul_lt b a b' a'
 rw [Bd, p2_add, p2_add]
 refine ⟨this.2, this.1, n * n', ?_⟩
 rw [c, c', Rat.intCast_mul]; grind
end

/- Rounding to the nearest, in plain numbers: what is exact. -/
section
def U (T : Nat) : Rat := p2 ((T : Int) - 1074)
theorem U_pos (T : Nat) : 0 < U T := p2_pos _
theorem U_succ (T : Nat) : U (T + 1) = 2 * U T := by
 unfold U
 rw [show ((T + 1 : Nat) : Int) - 1074 = 1 + ((T : Int) - 1074) by omega, p2_add, p2_one]
theorem U_add (S j : Nat) : U (S + j) = ((2 ^ j : Nat) : Rat) * U S := by
 unfold U
 rw [show ((S + j : Nat) : Int) - 1074 = (j : Nat) + ((S : Int) - 1074) by omega, p2_add, p2_nat]
theorem U_mono {S T : Nat} (h : S ≤ T) : U S ≤ U T := p2_mono (by omega)
theorem U_lt {S T : Nat} (h : S < T) : 2 * U S ≤ U T := by rw [← U_succ]; exact U_mono h
theorem U_lt2 {S T : Nat} (h : S + 2 ≤ T) : 4 * U S ≤ U T := by
 have h1 := U_mono h
 have h2 := U_succ (S + 1)
 have h3 := U_succ S
 grind
def M (u x : Rat) : Prop := ∃ k : Int, x = (k : Rat) * u
theorem M.add {u x y : Rat} (h1 : M u x) (h2 : M u y) : M u (x + y) := by
 obtain ⟨j, rfl⟩ := h1
 obtain ⟨k, rfl⟩ := h2
 exact ⟨j + k, by rw [Rat.intCast_add]; grind⟩
theorem M.neg {u x : Rat} (h1 : M u x) : M u (-x) := by
 obtain ⟨j, rfl⟩ := h1
 exact ⟨-j, by rw [Rat.intCast_neg]; grind⟩
theorem M.sub {u x y : Rat} (h1 : M u x) (h2 : M u y) : M u (x - y) := by
 have := h1.add h2.neg
 rwa [show x + -y = x - y by grind] at this
theorem M.down {S T : Nat} {x : Rat} (h : S ≤ T) (h1 : M (U T) x) : M (U S) x := by
 obtain ⟨k, rfl⟩ := h1
 obtain ⟨j, rfl⟩ : ∃ j, T = S + j := ⟨T - S, by omega⟩
 exact ⟨k * ((2 ^ j : Nat) : Int), by rw [U_add, Rat.intCast_mul, Rat.mul_assoc]; rfl⟩
theorem one_rat : ((1 : Int) : Rat) = 1 := rfl
theorem cast_lt {a b : Int} {u : Rat} (hu : 0 < u) (h : (a : Rat) * u < (b : Rat) * u) : a < b := by
 rcases Int.lt_or_le a b with h1 | h1
 · exact h1
 · have h2 : (b : Rat) ≤ (a : Rat) := Rat.intCast_le_intCast.2 h1
   have h3 := Rat.mul_le_mul_of_nonneg_right h2 (Rat.le_of_lt hu)
   grind
theorem cast_le {a b : Int} {u : Rat} (hu : 0 < u) (h : (a : Rat) * u ≤ (b : Rat) * u) : a ≤ b := by
 rcases Int.lt_or_le b a with h1 | h1
 · have h2 : (b : Rat) < (a : Rat) := Rat.intCast_lt_intCast.2 h1
   have h3 := Rat.mul_lt_mul_of_pos_right h2 hu
   grind
 · exact h1
theorem M.eq {u x y : Rat} (hu : 0 < u) (h1 : M u x) (h2 : M u y) (a : x - y < u) (b : y - x < u) : x = y := by
 obtain ⟨j, rfl⟩ := h1
 obtain ⟨k, rfl⟩ := h2
 have e1 : ((j - k : Int) : Rat) * u < ((1 : Int) : Rat) * u := by rw [Rat.intCast_sub, one_rat]; grind
 have e2 : ((k - j : Int) : Rat) * u < ((1 : Int) : Rat) * u := by rw [Rat.intCast_sub, one_rat]; grind
 have f1 := cast_lt hu e1
 have f2 := cast_lt hu e2
 have : j = k := by omega
 rw [this]
def F (z : Rat) : Prop := ∃ (S : Nat) (m : Int), z = (m : Rat) * U S ∧ -9007199254740992 ≤ m ∧ m ≤ 9007199254740992
theorem F.neg {z : Rat} (h : F z) : F (-z) := by
 obtain ⟨S, m, rfl, h1, h2⟩ := h
 exact ⟨S, -m, by rw [Rat.intCast_neg]; grind, by omega, by omega⟩
theorem F_zero : F 0 := ⟨0, 0, by rw [show ((0 : Int) : Rat) = 0 from rfl]; grind, by omega, by omega⟩
theorem M.small {S : Nat} {z : Rat} (n : Int) (hn : n ≤ 9007199254740992) (h : M (U S) z) (a : z < ((n + 1 : Int) : Rat) * U S) (b : -z < ((n + 1 : Int) : Rat) * U S) : F z := by
 obtain ⟨k, rfl⟩ := h
 have hu := U_pos S
 have e1 := cast_lt hu a
 have e2 : ((-k : Int) : Rat) * U S < ((n + 1 : Int) : Rat) * U S := by rw [Rat.intCast_neg]; grind
 have e2 := cast_lt hu e2
 exact ⟨S, k, rfl, by omega, by omega⟩
structure Rnd (q x : Rat) (T : Nat) (k : Int) : Prop where
 hx : x = (k : Rat) * U T
 h1 : 2 * (x - q) ≤ U T
 h2 : -U T ≤ 2 * (x - q)
 h3 : T = 0 ∨ 4503599627370496 * U T ≤ q ∨ 4503599627370496 * U T ≤ -q
 h4 : q < 9007199254740992 * U T
 h5 : -q < 9007199254740992 * U T
 k1 : -9007199254740992 ≤ k
 k2 : k ≤ 9007199254740992
theorem Rnd.m {q x : Rat} {T : Nat} {k : Int} (R : Rnd q x T k) : M (U T) x := ⟨k, R.hx⟩
theorem Rnd.f {q x : Rat} {T : Nat} {k : Int} (R : Rnd q x T k) : F x := ⟨T, k, R.hx, R.k1, R.k2⟩
theorem Rnd.mult {q x : Rat} {T : Nat} {k : Int} (R : Rnd q x T k) (h : M (U T) q) : x = q := by
 have hu := U_pos T
 have h1 := R.h1
 have h2 := R.h2
 exact M.eq hu R.m h (by grind) (by grind)
theorem F.abs {z : Rat} {S : Nat} {m : Int} (h : z = (m : Rat) * U S) (h1 : -9007199254740992 ≤ m) (h2 : m ≤ 9007199254740992) : z ≤ 9007199254740992 * U S ∧ -z ≤ 9007199254740992 * U S := by
 have hu := U_pos S
 have a1 := Rat.mul_le_mul_of_nonneg_right (Rat.intCast_le_intCast.2 h2) (Rat.le_of_lt hu)
 have a2 := Rat.mul_le_mul_of_nonneg_right (Rat.intCast_le_intCast.2 h1) (Rat.le_of_lt hu)
 have e1 : ((9007199254740992 : Int) : Rat) = 9007199254740992 := rfl
 have e2 : ((-9007199254740992 : Int) : Rat) = -9007199254740992 := rfl
 rw [e1] at a1
 rw [e2] at a2
 rw [h]
 constructor <;> grind
theorem Rnd.exact {q x : Rat} {T : Nat} {k : Int} (R : Rnd q x T k) (h : F q) : x = q := by
 obtain ⟨S, m, hq, h1, h2⟩ := h
 have hu := U_pos S
 rcases Nat.lt_or_ge S T with hs | hs
 · have hb := F.abs hq h1 h2
   have h3 := R.h3
   rcases Nat.lt_or_ge T (S + 2) with ht | ht
   · have e : T = S + 1 := by omega
     subst e
     have eu := U_succ S
     apply R.mult
     have hm : m = 9007199254740992 ∨ m = -9007199254740992 := by
       rcases h3 with h3 | h3 | h3
       · omega
       · left
         have : ((9007199254740992 : Int) : Rat) * U S ≤ (m : Rat) * U S := by
           rw [← hq, show ((9007199254740992 : Int) : Rat) = 9007199254740992 from rfl]; grind
         have := cast_le hu this
         omega
       · right
         have : ((9007199254740992 : Int) : Rat) * U S ≤ ((-m : Int) : Rat) * U S := by
           rw [Rat.intCast_neg, show ((9007199254740992 : Int) : Rat) = 9007199254740992 from rfl]; grind
         have := cast_le hu this
         omega
     rcases hm with rfl | rfl
     · exact ⟨4503599627370496, by rw [hq, eu, show ((9007199254740992 : Int) : Rat) = 9007199254740992 from rfl, show ((4503599627370496 : Int) : Rat) = 4503599627370496 from rfl]; grind⟩
     · exact ⟨-4503599627370496, by rw [hq, eu, show ((-9007199254740992 : Int) : Rat) = -9007199254740992 from rfl, show ((-4503599627370496 : Int) : Rat) = -4503599627370496 from rfl]; grind⟩
   · have := U_lt2 ht
     exfalso
     rcases h3 with h3 | h3 | h3
     · omega
     · grind
     · grind
 · exact R.mult (M.down hs ⟨m, hq⟩)
theorem Rnd.best {q x y c : Rat} {T : Nat} {k : Int} (R : Rnd q x T k) (h : F y) (c1 : -c ≤ y - q) (c2 : y - q ≤ c) : -c ≤ x - q ∧ x - q ≤ c := by
 have hu := U_pos T
 have r1 := R.h1
 have r2 := R.h2
 have key : ∀ {z d : Rat}, M (U T) z → -d ≤ z - q → z - q ≤ d → -d ≤ x - q ∧ x - q ≤ d := by
   intro z d hz d1 d2
   by_cases e : x - z < U T ∧ z - x < U T
   · have := M.eq hu R.m hz e.1 e.2
     rw [this]; exact ⟨d1, d2⟩
   · constructor <;> grind
 obtain ⟨S, m, hy, h1, h2⟩ := h
 rcases Nat.lt_or_ge S T with hs | hs
 · have hb := F.abs hy h1 h2
   have hl := U_lt hs
   rcases R.h3 with h3 | h3 | h3
   · omega
   · have := key (z := 4503599627370496 * U T) (d := q - 4503599627370496 * U T) ⟨4503599627370496, rfl⟩ (by grind) (by grind)
     constructor <;> grind
   · have := key (z := -4503599627370496 * U T) (d := -q - 4503599627370496 * U T) ⟨-4503599627370496, rfl⟩ (by grind) (by grind)
     constructor <;> grind
 · exact key (M.down hs ⟨m, hy⟩) c1 c2
end

/- Two floats added: what is rounded off is told exactly (Dekker, Knuth). -/
section
structure FC (z : Rat) (S : Nat) (m : Int) : Prop where
 hz : z = (m : Rat) * U S
 m1 : -9007199254740992 < m
 m2 : m < 9007199254740992
 h3 : S = 0 ∨ 4503599627370496 ≤ m ∨ m ≤ -4503599627370496
theorem FC.f {z : Rat} {S : Nat} {m : Int} (h : FC z S m) : F z := ⟨S, m, h.hz, by have := h.m1; omega, by have := h.m2; omega⟩
theorem FC.neg {z : Rat} {S : Nat} {m : Int} (h : FC z S m) : FC (-z) S (-m) :=
 ⟨by rw [h.hz, Rat.intCast_neg]; grind, by have := h.m2; omega, by have := h.m1; omega, by have := h.h3; omega⟩
theorem Rnd.neg {q x : Rat} {T : Nat} {k : Int} (R : Rnd q x T k) : Rnd (-q) (-x) T (-k) := by
 obtain ⟨hx, h1, h2, h3, h4, h5, k1, k2⟩ := R
 exact ⟨by rw [hx, Rat.intCast_neg]; grind, by grind, by grind, by rcases h3 with h | h | h; exact Or.inl h; exact Or.inr (Or.inr (by grind)); exact Or.inr (Or.inl (by grind)), by grind, by grind, by omega, by omega⟩
theorem FC.mul {z : Rat} {S : Nat} {m : Int} (h : FC z S m) : M (U S) z := ⟨m, h.hz⟩
theorem FC.size {z : Rat} {S : Nat} {m : Int} (h : FC z S m) : z ≤ 9007199254740991 * U S ∧ -z ≤ 9007199254740991 * U S := by
 have hu := U_pos S
 have m1 := h.m1
 have m2 := h.m2
 have a1 := Rat.mul_le_mul_of_nonneg_right (Rat.intCast_le_intCast.2 (by omega : m ≤ 9007199254740991)) (Rat.le_of_lt hu)
 have a2 := Rat.mul_le_mul_of_nonneg_right (Rat.intCast_le_intCast.2 (by omega : -9007199254740991 ≤ m)) (Rat.le_of_lt hu)
 rw [show ((9007199254740991 : Int) : Rat) = 9007199254740991 from rfl] at a1
 rw [show ((-9007199254740991 : Int) : Rat) = -9007199254740991 from rfl] at a2
 rw [h.hz]
 constructor <;> grind
theorem FC.least {z : Rat} {S : Nat} {m : Int} (h : FC z S m) (h0 : S ≠ 0) : 4503599627370496 * U S ≤ z ∨ 4503599627370496 * U S ≤ -z := by
 have hu := U_pos S
 rcases h.h3 with e | e | e
 · exact absurd e h0
 · left
   have := Rat.mul_le_mul_of_nonneg_right (Rat.intCast_le_intCast.2 e) (Rat.le_of_lt hu)
   rw [show ((4503599627370496 : Int) : Rat) = 4503599627370496 from rfl] at this
   rw [h.hz]; exact this
 · right
   have := Rat.mul_le_mul_of_nonneg_right (Rat.intCast_le_intCast.2 e) (Rat.le_of_lt hu)
   rw [show ((-4503599627370496 : Int) : Rat) = -4503599627370496 from rfl] at this
   rw [h.hz]; grind
theorem err_le {a b x : Rat} {T : Nat} {k : Int} {S1 S2 : Nat} {A B : Int} (R : Rnd (a + b) x T k) (ca : FC a S1 A) (cb : FC b S2 B) (h : S1 ≤ S2) : F (a + b - x) := by
 have hb : M (U S1) b := M.down h cb.mul
 rcases Nat.lt_or_ge T S1 with ht | ht
 · have := R.mult (M.down (Nat.le_of_lt ht) (ca.mul.add hb))
   rw [this, show a + b - (a + b) = (0 : Rat) by grind]; exact F_zero
 · have hm : M (U S1) (a + b - x) := (ca.mul.add hb).sub (M.down ht R.m)
   have hs := ca.size
   have hu := U_pos S1
   have hbest := R.best (c := 9007199254740991 * U S1) cb.f (by grind) (by grind)
   refine M.small 9007199254740991 (by omega) hm ?_ ?_
   · rw [show ((9007199254740991 + 1 : Int) : Rat) = 9007199254740992 from rfl]; grind
   · rw [show ((9007199254740991 + 1 : Int) : Rat) = 9007199254740992 from rfl]; grind
theorem err_f {a b x : Rat} {T : Nat} {k : Int} {S1 S2 : Nat} {A B : Int} (R : Rnd (a + b) x T k) (ca : FC a S1 A) (cb : FC b S2 B) : F (a + b - x) := by
 rcases Nat.le_total S1 S2 with h | h
 · exact err_le R ca cb h
 · have e : a + b = b + a := by grind
   rw [e] at R ⊢
   exact err_le R cb ca h
theorem fast_pos {a b x : Rat} {T : Nat} {k : Int} {S1 S2 : Nat} {A B : Int} (R : Rnd (a + b) x T k) (ca : FC a S1 A) (cb : FC b S2 B) (h1 : b ≤ a) (h2 : -b ≤ a) : F (x - a) := by
 have hu := U_pos S1
 have hU := U_pos T
 have r1 := R.h1
 have r2 := R.h2
 have hs := ca.size
 rcases Nat.lt_or_ge T S1 with ht | ht
 · have hl := ca.least (by omega)
   have hl' := U_lt ht
   rcases Nat.lt_or_ge S2 T with h3 | h3
   · have hm : M (U T) (x - a) := R.m.sub (M.down (Nat.le_of_lt ht) ca.mul)
     have hbs := cb.size
     have hbl := U_lt h3
     refine M.small 4503599627370496 (by omega) hm ?_ ?_
     · rw [show ((4503599627370496 + 1 : Int) : Rat) = 4503599627370497 from rfl]; grind
     · rw [show ((4503599627370496 + 1 : Int) : Rat) = 4503599627370497 from rfl]; grind
   · have := R.mult ((M.down (Nat.le_of_lt ht) ca.mul).add (M.down h3 cb.mul))
     rw [this, show a + b - a = b by grind]; exact cb.f
 · have hm : M (U S1) (x - a) := (M.down ht R.m).sub ca.mul
   rcases Nat.lt_or_ge T (S1 + 2) with h3 | h3
   · have hT : U T = U S1 ∨ U T = 2 * U S1 := by
       rcases (by omega : T = S1 ∨ T = S1 + 1) with rfl | rfl
       · exact Or.inl rfl
       · exact Or.inr (U_succ S1)
     refine M.small 9007199254740992 (by omega) hm ?_ ?_
     · rw [show ((9007199254740992 + 1 : Int) : Rat) = 9007199254740993 from rfl]; grind
     · rw [show ((9007199254740992 + 1 : Int) : Rat) = 9007199254740993 from rfl]; grind
   · have h4 := U_lt2 h3
     exfalso
     rcases R.h3 with h5 | h5 | h5
     · omega
     · grind
     · grind
theorem fast {a b x : Rat} {T : Nat} {k : Int} {S1 S2 : Nat} {A B : Int} (R : Rnd (a + b) x T k) (ca : FC a S1 A) (cb : FC b S2 B) (h : (0 ≤ a ∧ b ≤ a ∧ -b ≤ a) ∨ (a ≤ 0 ∧ b ≤ -a ∧ -b ≤ -a)) : F (x - a) := by
 rcases h with ⟨_, h1, h2⟩ | ⟨_, h1, h2⟩
 · exact fast_pos R ca cb h1 h2
 · have R' := R.neg
   rw [show -(a + b) = -a + -b by grind] at R'
   have := (fast_pos R' ca.neg cb.neg (by grind) (by grind)).neg
   rwa [show -(-x - -a) = x - a by grind] at this
theorem left_f {a b x fb : Rat} {T T' : Nat} {k k' : Int} {S2 : Nat} {B : Int} (R : Rnd (a + b) x T k) (R' : Rnd (x - a) fb T' k') (cb : FC b S2 B) (h : (a ≤ b ∧ -a ≤ b) ∨ (a ≤ -b ∧ -a ≤ -b)) : F (b - fb) := by
 have hv := U_pos S2
 have hU := U_pos T
 have hU' := U_pos T'
 have r1 := R.h1
 have r2 := R.h2
 have hs := cb.size
 have hbest := R'.best (y := b) (c := U T / 2) cb.f (by grind) (by grind)
 have hUv : U T ≤ 2 * U S2 := by
   rcases Nat.lt_or_ge T (S2 + 2) with h3 | h3
   · rw [← U_succ]; exact U_mono (by omega)
   · have h4 := U_lt2 h3
     exfalso
     rcases R.h3 with h5 | h5 | h5
     · omega
     · grind
     · grind
 rcases Nat.lt_or_ge T' S2 with ht | ht
 · have hm : M (U T') (b - fb) := (M.down (Nat.le_of_lt ht) cb.mul).sub R'.m
   have hl := cb.least (by omega)
   have h4 := R'.h4
   have h5 := R'.h5
   have hv2 : U S2 ≤ 2 * U T' := by
     rcases Nat.lt_or_ge S2 (T' + 2) with h6 | h6
     · rw [← U_succ]; exact U_mono (by omega)
     · have h7 := U_lt2 h6
       exfalso
       rcases hl with h8 | h8
       · grind
       · grind
   refine M.small 4 (by omega) hm ?_ ?_
   · rw [show ((4 + 1 : Int) : Rat) = 5 from rfl]; grind
   · rw [show ((4 + 1 : Int) : Rat) = 5 from rfl]; grind
 · have hm : M (U S2) (b - fb) := cb.mul.sub (M.down ht R'.m)
   refine M.small 2 (by omega) hm ?_ ?_
   · rw [show ((2 + 1 : Int) : Rat) = 3 from rfl]; grind
   · rw [show ((2 + 1 : Int) : Rat) = 3 from rfl]; grind
theorem near_cancel {a b : Rat} {S1 S2 : Nat} {A B : Int} (ca : FC a S1 A) (cb : FC b S2 B) (h : (0 ≤ a ∧ b ≤ -a ∧ -b ≤ 2 * a) ∨ (a ≤ 0 ∧ -a ≤ b ∧ b ≤ -(2 * a))) : F (a + b) := by
 have hu := U_pos S1
 have hs := ca.size
 have hS : S1 ≤ S2 := by
   rcases Nat.lt_or_ge S2 S1 with h3 | h3
   · exfalso
     have h4 := ca.least (by omega)
     have h5 := cb.size
     have h6 := U_lt h3
     have := U_pos S2
     rcases h with h | h <;> rcases h4 with h4 | h4 <;> grind
   · exact h3
 refine M.small 9007199254740991 (by omega) (ca.mul.add (M.down hS cb.mul)) ?_ ?_
 · rw [show ((9007199254740991 + 1 : Int) : Rat) = 9007199254740992 from rfl]; rcases h with h | h <;> grind
 · rw [show ((9007199254740991 + 1 : Int) : Rat) = 9007199254740992 from rfl]; rcases h with h | h <;> grind
def RN (q x : Rat) : Prop := ∃ T k, Rnd q x T k
theorem RN.exact {q x : Rat} (h : RN q x) (hf : F q) : x = q := by obtain ⟨_, _, R⟩ := h; exact R.exact hf
theorem twoSum_exact {a b x fb fa lb la y : Rat} (ca : ∃ S m, FC a S m) (cb : ∃ S m, FC b S m) (cx : ∃ S m, FC x S m) (R1 : RN (a + b) x) (R2 : RN (x - a) fb) (R3 : RN (x - fb) fa) (R4 : RN (b - fb) lb) (R5 : RN (a - fa) la) (R6 : RN (la + lb) y) : x + y = a + b := by
 obtain ⟨S1, A, ca⟩ := ca
 obtain ⟨S2, B, cb⟩ := cb
 obtain ⟨S3, X, cx⟩ := cx
 obtain ⟨T, k, R⟩ := R1
 have he := err_f R ca cb
 -- all is told where the last two steps are exact
 have fin : la = a - fa → lb = b - fb → fa + fb = x → x + y = a + b := by
   intro e1 e2 e3
   have e : la + lb = a + b - x := by rw [e1, e2]; grind
   have := R6.exact (by rw [e]; exact he)
   grind
 by_cases hab : (0 ≤ a ∧ b ≤ a ∧ -b ≤ a) ∨ (a ≤ 0 ∧ b ≤ -a ∧ -b ≤ -a)
 · have e1 := R2.exact (fast R ca cb hab)
   have e2 := R3.exact (by rw [e1, show x - (x - a) = a by grind]; exact ca.f)
   have e3 := R4.exact (by rw [e1, show b - (x - a) = a + b - x by grind]; exact he)
   have e4 := R5.exact (by rw [e2, e1, show a - (x - (x - a)) = (0 : Rat) by grind]; exact F_zero)
   exact fin e4 e3 (by grind)
 · by_cases hax : (0 ≤ x ∧ a ≤ x ∧ -a ≤ x) ∨ (x ≤ 0 ∧ a ≤ -x ∧ -a ≤ -x)
   · obtain ⟨T', k', R'⟩ := R2
     have R2' : Rnd (x + -a) fb T' k' := by rwa [show x - a = x + -a by grind] at R'
     have hf := (fast R2' cx ca.neg (by rcases hax with h | h; exact Or.inl ⟨h.1, by grind, by grind⟩; exact Or.inr ⟨h.1, by grind, by grind⟩)).neg
     have e2 := R3.exact (by rwa [show -(fb - x) = x - fb by grind] at hf)
     have e4 := R5.exact (by
       have := (err_f R2' cx ca.neg).neg
       rwa [show -(x + -a - fb) = a - fa by grind] at this)
     have e3 := R4.exact (left_f R R' cb (by grind))
     exact fin e4 e3 (by grind)
   · have hc : F (a + b) := by
       have hx2 : (a + b < a ∨ a + b < -a) ∧ (-(a + b) < a ∨ -(a + b) < -a) := by
         have b1 := R.best (y := a) (c := b) ca.f
         have b2 := R.best (y := -a) (c := a + a + b) ca.neg.f
         have b3 := R.best (y := a) (c := -b) ca.f
         have b4 := R.best (y := -a) (c := -(a + a + b)) ca.neg.f
         constructor <;> grind
       exact near_cancel ca cb (by grind)
     have e0 := R.exact hc
     have e1 := R2.exact (by rw [e0, show a + b - a = b by grind]; exact cb.f)
     have e2 := R3.exact (by rw [e1, e0, show a + b - (a + b - a) = a by grind]; exact ca.f)
     have e3 := R4.exact (by rw [e1, e0, show b - (a + b - a) = (0 : Rat) by grind]; exact F_zero)
     have e4 := R5.exact (by rw [e2, e1, e0, show a - (a + b - (a + b - a)) = (0 : Rat) by grind]; exact F_zero)
     exact fin e4 e3 (by grind)
end

/- The number that digits below 2^24 tell, plainly. -/
section
def v24 : List Nat → Nat
 | [] => 0
 | n :: r => n + 16777216 * v24 r
theorem p24 (k : Nat) : 2 ^ (24 * (k + 1)) = 16777216 * 2 ^ (24 * k) := by
 rw [show 24 * (k + 1) = 24 + 24 * k by omega, Nat.pow_add]
theorem v24_append (a b : List Nat) : v24 (a ++ b) = v24 a + 2 ^ (24 * a.length) * v24 b := by
 induction a with
 | nil => simp [v24]
 | cons x r ih => rw [List.cons_append, v24, v24, ih, List.length_cons, p24]; grind
theorem v24_snoc (a : List Nat) (x : Nat) : v24 (a ++ [x]) = v24 a + 2 ^ (24 * a.length) * x := by
 rw [v24_append]; simp [v24]
theorem v24_take_succ (l : List Nat) (k : Nat) : v24 (l.take (k + 1)) = v24 (l.take k) + 2 ^ (24 * k) * l.getD k 0 := by
 by_cases hk : k < l.length
 · rw [List.take_succ_eq_append_getElem hk, v24_append, List.length_take, Nat.min_eq_left (by omega)]
   simp [v24, List.getD, hk]
 · rw [List.take_of_length_le (by omega), List.take_of_length_le (by omega)]
   simp [List.getD, List.getElem?_eq_none (Nat.le_of_not_lt hk)]
def mag (ds : List Nat) (E : Int) : Rat := (v24 ds : Nat) * p2 (24 * E)
theorem mag_nil (E : Int) : mag [] E = 0 := by unfold mag; simp [v24]
theorem v24_last {ds : List Nat} (hne : ds ≠ []) (ht : ds.getD (ds.length - 1) 0 ≠ 0) : 2 ^ (24 * (ds.length - 1)) ≤ v24 ds := by
 have hl := List.length_pos_iff.2 hne
 have e := v24_take_succ ds (ds.length - 1)
 rw [show ds.length - 1 + 1 = ds.length by omega, List.take_length] at e
 rw [e]
 have := Nat.mul_le_mul_left (2 ^ (24 * (ds.length - 1))) (Nat.pos_of_ne_zero ht)
 omega
theorem mag_pos {ds : List Nat} {E : Int} (hne : ds ≠ []) (ht : ds.getD (ds.length - 1) 0 ≠ 0) : 0 < mag ds E := by
 have h := v24_last hne ht
 have h2 := Nat.two_pow_pos (24 * (ds.length - 1))
 unfold mag
 refine Rat.mul_pos ?_ (p2_pos _)
 have : 0 < v24 ds := by omega
 exact_mod_cast this
end

/- Floats that are not below 0 are in the order of their words. -/
section
theorem fval_lt {r s : Nat} (h : r < s) (hs : s < 9218868437227405312) : fval r < fval s := by
 have h1 := (fval_pos_lt (Nat.lt_trans h hs)).1
 have h2 := (fval_pos_lt hs).1
 have key : (fpl r = fpl s ∧ fmag r < fmag s) ∨ (fpl r + 1 ≤ fpl s ∧ 4503599627370496 ≤ fmag s) := by
   unfold fpl fmag
   split <;> split <;> omega
 have hm := fmag_lt r
 rw [h1, h2]
 rcases key with ⟨e, hm⟩ | ⟨e, hm'⟩
 · rw [e]
   exact Rat.mul_lt_mul_of_pos_right (Rat.natCast_lt_natCast.2 hm) (p2_pos _)
 · have a1 := Rat.mul_lt_mul_of_pos_right (Rat.natCast_lt_natCast.2 hm) (p2_pos (fpl r))
   have a2 : ((9007199254740992 : Nat) : Rat) * p2 (fpl r) = ((4503599627370496 : Nat) : Rat) * p2 (fpl r + 1) := by
     rw [p2_add, p2_one, show ((9007199254740992 : Nat) : Rat) = ((4503599627370496 : Nat) : Rat) * 2 by decide +kernel]
     generalize ((4503599627370496 : Nat) : Rat) = X
     grind
   have a3 := Rat.mul_le_mul_of_nonneg_left (p2_mono e) (Rat.natCast_nonneg (a := 4503599627370496))
   have a4 := Rat.mul_le_mul_of_nonneg_right (Rat.natCast_le_natCast.2 hm') (Rat.le_of_lt (p2_pos (fpl s)))
   rw [a2] at a1
   generalize ((fmag r : Nat) : Rat) * p2 (fpl r) = X at *
   generalize ((4503599627370496 : Nat) : Rat) * p2 (fpl r + 1) = Y at *
   generalize ((4503599627370496 : Nat) : Rat) * p2 (fpl s) = Z at *
   generalize ((fmag s : Nat) : Rat) * p2 (fpl s) = V at *
   grind
theorem order_rung {r s : Nat} (hr : r ≤ 9218868437227405312) (hs : s < 9218868437227405312) : Ieee.double.order r s = some (if r < s then .lt else if r = s then .eq else .gt) := by
 have hfs : Fin64 s := by unfold Fin64 frung; omega
 rcases Nat.lt_or_ge r 9218868437227405312 with h | h
 · have hfr : Fin64 r := by unfold Fin64 frung; omega
   rw [order_fin hfr hfs]
   rcases Nat.lt_trichotomy r s with e | e | e
   · rw [if_pos (fval_lt e hs), if_pos e]
   · subst e
     rw [if_neg Rat.lt_irrefl, if_pos rfl, if_neg (Nat.lt_irrefl _), if_pos rfl]
   · have := fval_lt e h
     rw [if_neg (by grind), if_neg (by grind), if_neg (by omega), if_neg (by omega)]
 · have e : r = 9218868437227405312 := by omega
   subst e
   rw [order_inf_fin (by unfold frung; omega) hfs]
   have : fneg 9218868437227405312 = false := by decide
   rw [this, if_neg (by decide : ¬ (false = true)), if_neg (by omega : ¬ 9218868437227405312 < s), if_neg (by omega : ¬ 9218868437227405312 = s)]
theorem fval_word {r : Nat} (h : r < 9218868437227405312) : fval (9223372036854775808 + r) = -fval r := by
 have e1 : frung (9223372036854775808 + r) = r := by unfold frung; omega
 have e2 : fneg (9223372036854775808 + r) = true := by unfold fneg; simp; omega
 have e3 : frung r = r := by unfold frung; omega
 have e4 : fneg r = false := by unfold fneg; simp; omega
 unfold fval
 rw [e1, e2, e3, e4]
 unfold sgn1
 rw [if_pos rfl, if_neg (by decide)]
 generalize ((fmag r : Nat) : Rat) * p2 (fpl r) = X
 grind
end

/- The float nearest to a number: plain facts. -/
section
def Half (q u : Rat) (k : Nat) : Prop :=
 ((2 * (k : Int) - 1 : Int) : Rat) * u ≤ q ∧ q ≤ ((2 * (k : Int) + 1 : Int) : Rat) * u ∧ (q = ((2 * (k : Int) - 1 : Int) : Rat) * u → k % 2 = 0) ∧ (q = ((2 * (k : Int) + 1 : Int) : Rat) * u → k % 2 = 0)
def Last (q : Rat) (T : Nat) : Prop := (T = 0 ∨ ((9007199254740992 : Int) : Rat) * p2 ((T : Int) - 1075) ≤ q) ∧ q < ((18014398509481984 : Int) : Rat) * p2 ((T : Int) - 1075)
def Near (q : Rat) (r : Nat) : Prop :=
 (q = 0 ∧ r = 0) ∨ (0 < q ∧ ∃ T k : Nat, Last q T ∧ Half q (p2 ((T : Int) - 1075)) k ∧ r = min (T * 4503599627370496 + k) 9218868437227405312)
theorem lt_of_le_lt {a b c : Rat} (h1 : a ≤ b) (h2 : b < c) : a < c := by grind
theorem lt_of_lt_le {a b c : Rat} (h1 : a < b) (h2 : b ≤ c) : a < c := by grind
theorem le_of_same {a b : Rat} (h : a = b) : a ≤ b := by rw [h]; exact Rat.le_refl
theorem int_le {a b : Int} {u : Rat} (hu : 0 < u) (h : (a : Rat) * u ≤ (b : Rat) * u) : a ≤ b := by
 rcases Int.lt_or_le b a with h1 | h1
 · have h2 : (b : Rat) < (a : Rat) := Rat.intCast_lt_intCast.2 h1
   have h3 := Rat.mul_lt_mul_of_pos_right h2 hu
   grind
 · exact h1
theorem int_lt {a b : Int} {u : Rat} (hu : 0 < u) (h : (a : Rat) * u < (b : Rat) * u) : a < b := by
 rcases Int.lt_or_le a b with h1 | h1
 · exact h1
 · have h2 : (b : Rat) ≤ (a : Rat) := Rat.intCast_le_intCast.2 h1
   have h3 := Rat.mul_le_mul_of_nonneg_right h2 (Rat.le_of_lt hu)
   grind
theorem le_int {a b : Int} {u : Rat} (hu : 0 < u) (h : a ≤ b) : (a : Rat) * u ≤ (b : Rat) * u :=
 Rat.mul_le_mul_of_nonneg_right (Rat.intCast_le_intCast.2 h) (Rat.le_of_lt hu)
theorem kept_bounds {q : Rat} {T k : Nat} (hl : Last q T) (hh : Half q (p2 ((T : Int) - 1075)) k) : k ≤ 9007199254740992 ∧ (T = 0 ∨ 4503599627370496 ≤ k) := by
 obtain ⟨h1, h2⟩ := hl
 obtain ⟨h3, h4, _, _⟩ := hh
 have hu := p2_pos ((T : Int) - 1075)
 have a := int_lt hu (lt_of_le_lt h3 h2)
 refine ⟨by omega, h1.imp id fun h => ?_⟩
 have b := int_le hu (Rat.le_trans h h4)
 omega
theorem half_mono {p q u : Rat} {j k : Nat} (hu : 0 < u) (h : p ≤ q) (h1 : Half p u j) (h2 : Half q u k) : j ≤ k := by
 obtain ⟨a1, a2, a3, a4⟩ := h1
 obtain ⟨b1, b2, b3, b4⟩ := h2
 have c := int_le hu (Rat.le_trans (Rat.le_trans a1 h) b2)
 rcases Nat.lt_or_ge k j with hk | hk
 · have e : (2 * (j : Int) - 1 : Int) = 2 * (k : Int) + 1 := by omega
   have e1 : p = ((2 * (j : Int) - 1 : Int) : Rat) * u := Rat.le_antisymm (by rw [e]; exact Rat.le_trans h b2) a1
   have e2 : q = ((2 * (k : Int) + 1 : Int) : Rat) * u := Rat.le_antisymm b2 (by rw [← e]; exact Rat.le_trans a1 h)
   have := a3 e1
   have := b4 e2
   omega
 · exact hk
theorem last_mono {p q : Rat} {S T : Nat} (h : p ≤ q) (h1 : Last p S) (h2 : Last q T) : S ≤ T := by
 rcases Nat.lt_or_ge T S with hk | hk
 · rcases h1.1 with h0 | h0
   · omega
   · have h3 := lt_of_le_lt (Rat.le_trans h0 h) h2.2
     have e : ((S : Int) - 1075) = ((T : Int) - 1075) + ((S - T : Nat) : Int) := by omega
     rw [e, p2_add] at h3
     have hu := p2_pos ((T : Int) - 1075)
     have h4 : (2 : Rat) ≤ p2 ((S - T : Nat) : Int) := by
       have := p2_mono (a := 1) (b := ((S - T : Nat) : Int)) (by omega)
       rwa [p2_one] at this
     have h5 := Rat.mul_le_mul_of_nonneg_right h4 (Rat.le_of_lt hu)
     have e1 : ((18014398509481984 : Int) : Rat) = ((9007199254740992 : Int) : Rat) * 2 := by rw [show (18014398509481984 : Int) = 9007199254740992 * 2 from rfl, Rat.intCast_mul]; rfl
     have hn : (0 : Rat) ≤ ((9007199254740992 : Int) : Rat) := by rw [show (0 : Rat) = ((0 : Int) : Rat) from rfl]; exact Rat.intCast_le_intCast.2 (by omega)
     rw [e1] at h3
     generalize ((9007199254740992 : Int) : Rat) = N at *
     have h6 := Rat.mul_le_mul_of_nonneg_left h5 hn
     grind
 · exact hk
theorem near_mono {p q : Rat} {r s : Nat} (h : p ≤ q) (h1 : Near p r) (h2 : Near q s) : r ≤ s := by
 rcases h1 with ⟨_, rfl⟩ | ⟨hp, S, j, a1, a2, rfl⟩
 · omega
 · rcases h2 with ⟨hq, _⟩ | ⟨hq, T, k, b1, b2, rfl⟩
   · grind
   · have hST := last_mono h a1 b1
     have c1 := kept_bounds a1 a2
     have c2 := kept_bounds b1 b2
     rcases Nat.lt_or_ge S T with hk | hk
     · omega
     · have e : S = T := by omega
       subst e
       have := half_mono (p2_pos _) h a2 b2
       omega
theorem near_nonneg {q : Rat} {r : Nat} (h : Near q r) : 0 ≤ q ∧ r ≤ 9218868437227405312 := by
 rcases h with ⟨rfl, rfl⟩ | ⟨hq, T, k, _, _, rfl⟩
 · exact ⟨by decide, by omega⟩
 · exact ⟨Rat.le_of_lt hq, by omega⟩
theorem near_fun {q : Rat} {r s : Nat} (h1 : Near q r) (h2 : Near q s) : r = s := Nat.le_antisymm (near_mono Rat.le_refl h1 h2) (near_mono Rat.le_refl h2 h1)
theorem near_zero {r : Nat} (h : Near 0 r) : r = 0 := near_fun h (Or.inl ⟨rfl, rfl⟩)
end

/- The model's rounding is to the nearest, the even one between two. -/
section
theorem cut_even (neg : Bool) (n d : Nat) : ∃ k, Ieee.Toward.even.cut neg n d = k ∧ 2 * (k * 2 ^ d) ≤ 2 * n + 2 ^ d ∧ 2 * n ≤ 2 * (k * 2 ^ d) + 2 ^ d ∧ (2 * (k * 2 ^ d) = 2 * n + 2 ^ d → k % 2 = 0) ∧ (2 * n = 2 * (k * 2 ^ d) + 2 ^ d → k % 2 = 0) := by
 refine ⟨_, rfl, ?_⟩
 unfold Ieee.Toward.cut
 simp only [Nat.shiftLeft_eq, Nat.one_mul]
 rcases Nat.lt_or_ge (n.log2 + 2) d with h | h
 · rw [Nat.min_eq_right (by omega)]
   have h1 : n < 2 ^ (n.log2 + 1) := Nat.lt_log2_self
   have h2 : 2 ^ (n.log2 + 2) = 2 * 2 ^ (n.log2 + 1) := by rw [Nat.pow_succ]; omega
   have h3 : 2 ^ (n.log2 + 2) ≤ 2 ^ d := Nat.pow_le_pow_right (by omega) (by omega)
   generalize hg : 2 ^ (n.log2 + 2) = g at *
   generalize 2 ^ (n.log2 + 1) = g1 at *
   generalize 2 ^ d = D at *
   have e1 : n / g = 0 := Nat.div_eq_of_lt (by omega)
   have e2 : n % g = n := Nat.mod_eq_of_lt (by omega)
   rw [e1, e2]
   have e3 : (decide (g < 2 * n) || g == 2 * n && 0 % 2 == 1) = false := by simp; omega
   rw [e3]
   simp
   omega
 · rw [Nat.min_eq_left h]
   have hg : 0 < 2 ^ d := Nat.two_pow_pos d
   generalize 2 ^ d = g at *
   have hd := Nat.div_add_mod n g
   have hm := Nat.mod_lt n hg
   generalize n / g = low at *
   generalize n % g = rest at *
   rw [Nat.mul_comm] at hd
   by_cases hmore : g < 2 * rest ∨ (g = 2 * rest ∧ low % 2 = 1)
   · have e3 : (decide (g < 2 * rest) || g == 2 * rest && low % 2 == 1) = true := by simpa using hmore
     rw [e3]
     have : (low + true.toNat) * g = low * g + g := by simp [Nat.add_mul]
     rw [this]
     generalize low * g = P at *
     refine ⟨by omega, by omega, ?_, ?_⟩
     · intro h; simp; omega
     · intro h; simp; omega
   · have e3 : (decide (g < 2 * rest) || g == 2 * rest && low % 2 == 1) = false := by
       rw [Bool.eq_false_iff]; intro h; apply hmore; simpa using h
     rw [e3]
     have : (low + false.toNat) * g = low * g := by simp
     rw [this]
     generalize low * g = P at *
     refine ⟨by omega, by omega, ?_, ?_⟩
     · intro h; simp; omega
     · intro h; simp; omega
theorem int_eq {a b : Int} {u : Rat} (hu : 0 < u) (h : (a : Rat) * u = (b : Rat) * u) : a = b :=
 Int.le_antisymm (int_le hu (le_of_same h)) (int_le hu (le_of_same h.symm))
theorem log_bounds (mag : Nat) (hm : mag ≠ 0) (place : Int) : p2 (place + (mag.log2 : Nat)) ≤ (mag : Nat) * p2 place ∧ ((mag : Nat) : Rat) * p2 place < p2 (place + (mag.log2 : Nat) + 1) := by
 have h1 : 2 ^ mag.log2 ≤ mag := Nat.log2_self_le hm
 have h2 : mag < 2 ^ (mag.log2 + 1) := Nat.lt_log2_self
 have hp := p2_pos place
 constructor
 · rw [p2_add, p2_nat, Rat.mul_comm]
   exact Rat.mul_le_mul_of_nonneg_right (Rat.natCast_le_natCast.2 h1) (Rat.le_of_lt hp)
 · rw [show place + (mag.log2 : Nat) + 1 = place + ((mag.log2 + 1 : Nat) : Int) by omega, p2_add, p2_nat, Rat.mul_comm (p2 place)]
   exact Rat.mul_lt_mul_of_pos_right (Rat.natCast_lt_natCast.2 h2) hp
theorem nearest_near (neg : Bool) (mag : Nat) (place : Int) (hm : mag ≠ 0) : ∃ r, Ieee.double.nearest neg mag place = Ieee.double.word neg r ∧ Near ((mag : Nat) * p2 place) r := by
 unfold Ieee.Format.nearest
 rw [if_neg hm]
 simp only [d_lp, d_bin, d_inf, show Ieee.double.fractionBits = 52 from rfl]
 obtain ⟨last, hlast⟩ : ∃ l : Int, l = max (place + (mag.log2 : Nat) - ((52 : Nat) : Int)) (-1074) := ⟨_, rfl⟩
 rw [← hlast]
 obtain ⟨k, hk, c1, c2, c3, c4⟩ := cut_even neg (mag <<< (place - last).toNat) (last - place).toNat
 rw [hk]
 refine ⟨_, rfl, Or.inr ⟨?_, (last + 1074).toNat, k, ?_, ?_, by rw [show last - -1074 = last + 1074 by omega]⟩⟩
 · exact Rat.mul_pos (Rat.natCast_pos.2 (by omega)) (p2_pos _)
 · have hb := log_bounds mag hm place
   have eT : (((last + 1074).toNat : Nat) : Int) - 1075 = last - 1 := by omega
   rw [Last, eT]
   have x1 : ((9007199254740992 : Int) : Rat) * p2 (last - 1) = p2 (last + 52) := by
     rw [show last + 52 = (last - 1) + ((53 : Nat) : Int) by omega, p2_add, p2_nat, Rat.mul_comm]; rfl
   have x2 : ((18014398509481984 : Int) : Rat) * p2 (last - 1) = p2 (last + 53) := by
     rw [show last + 53 = (last - 1) + ((54 : Nat) : Int) by omega, p2_add, p2_nat, Rat.mul_comm]; rfl
   rw [x1, x2]
   constructor
   · by_cases h : last = -1074
     · left; omega
     · right
       have := p2_mono (a := last + 52) (b := place + (mag.log2 : Nat)) (by omega)
       exact Rat.le_trans this hb.1
   · exact lt_of_lt_le hb.2 (p2_mono (by omega))
 · have eT : (((last + 1074).toNat : Nat) : Int) - 1075 = last - 1 := by omega
   rw [eT]
   generalize hd : (last - place).toNat = d at *
   generalize hn : mag <<< (place - last).toNat = n at *
   rw [Nat.shiftLeft_eq] at hn
   have hv := p2_pos (last - (d : Nat) - 1)
   have e1 : ((mag : Nat) : Rat) * p2 place = ((2 * (n : Int) : Int) : Rat) * p2 (last - (d : Nat) - 1) := by
     have a1 : ((2 * (n : Int) : Int) : Rat) = 2 * ((n : Nat) : Rat) := by rw [Rat.intCast_mul]; rfl
     have a2 : p2 (last - (d : Nat)) = 2 * p2 (last - (d : Nat) - 1) := by
       have := p2_add 1 (last - (d : Nat) - 1)
       rwa [p2_one, show 1 + (last - (d : Nat) - 1) = last - (d : Nat) by omega] at this
     have a3 : ((mag : Nat) : Rat) * p2 place = ((n : Nat) : Rat) * p2 (last - (d : Nat)) := by
       rw [← hn, nat_mul_p2, Rat.mul_assoc, ← p2_add]
       congr 2; omega
     rw [a3, a1, a2]
     generalize p2 (last - (d : Nat) - 1) = v
     grind
   have e2 : ∀ z : Int, (z : Rat) * p2 (last - 1) = ((z * ((2 ^ d : Nat) : Int) : Int) : Rat) * p2 (last - (d : Nat) - 1) := fun z => by
     rw [show last - 1 = (d : Nat) + (last - (d : Nat) - 1) by omega, p2_add, p2_nat, Rat.intCast_mul, Rat.mul_assoc]; rfl
   rw [e1]
   unfold Half
   rw [e2, e2]
   have y1 : (2 * (k : Int) - 1) * ((2 ^ d : Nat) : Int) = 2 * ((k * 2 ^ d : Nat) : Int) - ((2 ^ d : Nat) : Int) := by rw [Int.natCast_mul]; grind
   have y2 : (2 * (k : Int) + 1) * ((2 ^ d : Nat) : Int) = 2 * ((k * 2 ^ d : Nat) : Int) + ((2 ^ d : Nat) : Int) := by rw [Int.natCast_mul]; grind
   rw [y1, y2]
   generalize k * 2 ^ d = P at *
   generalize 2 ^ d = D at *
   refine ⟨le_int hv (by omega), le_int hv (by omega), ?_, ?_⟩
   · intro h
     have := int_eq hv h
     exact c3 (by omega)
   · intro h
     have := int_eq hv h
     exact c4 (by omega)
end

/- Which floats are tame, which are safe: the program's. -/
section
open Go.RowKit
theorem leq_word {r c : Nat} (hr : r < 9223372036854775808) (hc : c < 9218868437227405312) : (FloatKind.f64.format.order r c == some .lt || FloatKind.f64.format.order r c == some .eq) = decide (r ≤ c) := by
 show (Ieee.double.order r c == some .lt || Ieee.double.order r c == some .eq) = _
 rcases Nat.lt_or_ge 9218868437227405312 r with h | h
 · rw [order_nan_left (by unfold frung; omega)]
   simp; omega
 · rw [order_rung h hc]
   rcases Nat.lt_trichotomy r c with e | e | e
   · rw [if_pos e]; simp; omega
   · subst e; simp
   · rw [if_neg (by omega), if_neg (by omega)]; simp; omega
theorem order_nan_right {b c : Nat} (hb : 9218868437227405312 < frung b) : Ieee.double.order c b = none := by
 obtain ⟨s, t, e⟩ := read_nan hb
 unfold Ieee.Format.order
 rw [e]
 cases Ieee.double.read c <;> rfl
theorem inf_right {c : Nat} (hc : Fin64 c) : Ieee.double.order c 9218868437227405312 = some .lt := by
 have h1 := read_fin hc
 have h2 := read_inf (b := 9218868437227405312) (by decide)
 have h3 : fneg 9218868437227405312 = false := by decide
 unfold Ieee.Format.order
 rw [h1, h2, h3]
 rfl
theorem const_leq {r c : Nat} (hr : r < 9223372036854775808) (hc : c < 9218868437227405312) : (FloatKind.f64.format.order c r == some .lt || FloatKind.f64.format.order c r == some .eq) = decide (c ≤ r ∧ r ≤ 9218868437227405312) := by
 show (Ieee.double.order c r == some .lt || Ieee.double.order c r == some .eq) = _
 rcases Nat.lt_trichotomy 9218868437227405312 r with h | h | h
 · rw [order_nan_right (by unfold frung; omega)]
   simp; omega
 · subst h
   rw [inf_right (by unfold Fin64 frung; omega)]
   simp; omega
 · rw [order_rung (Nat.le_of_lt hc) h]
   rcases Nat.lt_trichotomy c r with e | e | e
   · rw [if_pos e]; simp; omega
   · subst e; simp; omega
   · rw [if_neg (by omega), if_neg (by omega)]; simp; omega
theorem eql_zero {r : Nat} (hr : r < 9223372036854775808) : (FloatKind.f64.format.order r 0 == some .eq) = decide (r = 0) := by
 show (Ieee.double.order r 0 == some .eq) = _
 rcases Nat.lt_or_ge 9218868437227405312 r with h | h
 · rw [order_nan_left (by unfold frung; omega)]
   simp; omega
 · rw [order_rung h (by omega)]
   by_cases e : r = 0
   · subst e; simp
   · rw [if_neg (by omega), if_neg e]; simp [e]
theorem tame_any (b : Nat) (w : World) (hb : b < 18446744073709551616) :
   Calls Tryz.prog 131 #[.float .f64 b] w fun e w' => e = .returned (.bool (decide (frung b ≤ 9110782046170513408))) ∧ w' = w := by
 have h1 := leq_word (r := frung b) (c := 9110782046170513408) (by unfold frung; omega) (by omega)
 have HA : Hid (Calls Tryz.prog 96 #[.float .f64 b] w fun e w' => e = .returned (.float .f64 (frung b)) ∧ w' = w) := abs_any b w hb
 generalize decide (frung b ≤ 9110782046170513408) = res at *
 generalize frung b = r at *
 go_enter Tryz.func131, Tryz.ntmps131
 go_wp2_with fail
 refine HA.out.mono ?_
 rintro e w' ⟨rfl, rfl⟩
 go_wp2
 go_ret
 exact ⟨rfl, rfl⟩
def SafeW (r : Nat) : Prop := r = 0 ∨ (2580562586483294208 ≤ r ∧ r ≤ 6633802251116740608)
instance (r : Nat) : Decidable (SafeW r) := by unfold SafeW; exact inferInstance
set_option maxHeartbeats 1000000 in
theorem safe_any (b : Nat) (w : World) (hb : b < 18446744073709551616) :
   Calls Tryz.prog 192 #[.float .f64 b] w fun e w' => e = .returned (.bool (decide (SafeW (frung b)))) ∧ w' = w := by
 have hr : frung b < 9223372036854775808 := by unfold frung; omega
 have h1 := eql_zero hr
 have h2 := const_leq (r := frung b) (c := 2580562586483294208) hr (by omega)
 have h3 := leq_word (r := frung b) (c := 6633802251116740608) hr (by omega)
 have key : Hid (decide (SafeW (frung b)) = (decide (frung b = 0) || decide (2580562586483294208 ≤ frung b ∧ frung b ≤ 9218868437227405312) && decide (frung b ≤ 6633802251116740608))) := by
   unfold Hid SafeW
   by_cases e1 : frung b = 0 <;> by_cases e2 : 2580562586483294208 ≤ frung b <;> by_cases e3 : frung b ≤ 6633802251116740608 <;> simp [e1, e2, e3] <;> omega
 have HA : Hid (Calls Tryz.prog 96 #[.float .f64 b] w fun e w' => e = .returned (.float .f64 (frung b)) ∧ w' = w) := abs_any b w hb
 clear hr hb
 generalize decide (SafeW (frung b)) = res at *
 generalize frung b = r at *
 generalize decide (r = 0) = t1 at *
 generalize decide (2580562586483294208 ≤ r ∧ r ≤ 9218868437227405312) = t2 at *
 generalize decide (r ≤ 6633802251116740608) = t3 at *
 have ek := key.out
 clear key
 cases t1 <;> cases t2 <;> cases t3 <;> (simp at ek; subst ek; go_enter Tryz.func192, Tryz.ntmps192; go_wp2_with fail; refine HA.out.mono ?_; rintro e w' ⟨rfl, rfl⟩; go_wp2; go_ret; exact ⟨rfl, rfl⟩)
end
end Go.Proofs.YtcgbnjoajieggaaGreat
