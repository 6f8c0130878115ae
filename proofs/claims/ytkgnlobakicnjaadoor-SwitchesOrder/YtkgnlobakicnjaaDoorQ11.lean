/- Own texts, put together: Eq Eo Eb Ec Ed Er. -/
import Derived.Test.YtkgnlobakicnjaaDoorQ1
import Derived.Test.YtkgnlobakicnjaaDoorQ6
import Derived.WalkKit
import Derived.WalkSpells
import Derived.WalkLawsBesides
import Derived.Laws.FloatArith
namespace Go.Proofs.YtkgnlobakicnjaaDoor
/- Two floats added: what is rounded off is told exactly (Dekker, Knuth). -/
section
structure FC (z : Rat) (S : Nat) (m : Int) : Prop where
 hz : z = (m : Rat) * U S
 m1 : -9007199254740992 < m
 m2 : m < 9007199254740992
 h3 : S = 0 ∨ 4503599627370496 ≤ m ∨ m ≤ -4503599627370496
theorem FC.f {z : Rat} {S : Nat} {m : Int} (h : FC z S m) : F z := ⟨S, m, h.hz, by have := h.m1; omega, by have := h.m2; omega⟩
theorem FC.neg {z : Rat} {S : Nat} {m : Int} (h : FC z S m) : FC (-z) S (-m) :=
 ⟨by rw [h.hz, Rat.intCast_neg]; grind, by have := h.m2; omega, by have := h.m1; omega, by have := h.h3; omega⟩
theorem Rnd.neg {q x : Rat} {T : Nat} {k : Int} (R : Rnd q x T k) : Rnd (-q) (-x) T (-k) := by
 obtain ⟨hx, h1, h2, h3, h4, h5, k1, k2⟩ := R
 exact ⟨by rw [hx, Rat.intCast_neg]; grind, by grind, by grind, by rcases h3 with h | h | h; exact Or.inl h; exact Or.inr (Or.inr (by grind)); exact Or.inr (Or.inl (by grind)), by grind, by grind, by omega, by omega⟩
theorem FC.mul {z : Rat} {S : Nat} {m : Int} (h : FC z S m) : M (U S) z := ⟨m, h.hz⟩
theorem FC.size {z : Rat} {S : Nat} {m : Int} (h : FC z S m) : z ≤ 9007199254740991 * U S ∧ -z ≤ 9007199254740991 * U S := by
 have hu := U_pos S
 have m1 := h.m1
 have m2 := h.m2
 have a1 := Rat.mul_le_mul_of_nonneg_right (Rat.intCast_le_intCast.2 (by omega : m ≤ 9007199254740991)) (Rat.le_of_lt hu)
 have a2 := Rat.mul_le_mul_of_nonneg_right (Rat.intCast_le_intCast.2 (by omega : -9007199254740991 ≤ m)) (Rat.le_of_lt hu)
 rw [show ((9007199254740991 : Int) : Rat) = 9007199254740991 from rfl] at a1
 rw [show ((-9007199254740991 : Int) : Rat) = -9007199254740991 from rfl] at a2
 rw [h.hz]
 constructor <;> grind
def RN (q x : Rat) : Prop := ∃ T k, Rnd q x T k
theorem RN.exact {q x : Rat} (h : RN q x) (hf : F q) : x = q := by obtain ⟨_, _, R⟩ := h; exact R.exact hf
end

/- The model's rounding is to the nearest, the even one between two. -/
section
theorem cut_even (neg : Bool) (n d : Nat) : ∃ k, Ieee.Toward.even.cut neg n d = k ∧ 2 * (k * 2 ^ d) ≤ 2 * n + 2 ^ d ∧ 2 * n ≤ 2 * (k * 2 ^ d) + 2 ^ d ∧ (2 * (k * 2 ^ d) = 2 * n + 2 ^ d → k % 2 = 0) ∧ (2 * n = 2 * (k * 2 ^ d) + 2 ^ d → k % 2 = 0) := by
 refine ⟨_, rfl, ?_⟩
 unfold Ieee.Toward.cut
 simp only [Nat.shiftLeft_eq, Nat.one_mul]
 rcases Nat.lt_or_ge (n.log2 + 2) d with h | h
 · rw [Nat.min_eq_right (by omega)]
   have h1 : n < 2 ^ (n.log2 + 1) := Nat.lt_log2_self
   have h2 : 2 ^ (n.log2 + 2) = 2 * 2 ^ (n.log2 + 1) := by rw [Nat.pow_succ]; omega
   have h3 : 2 ^ (n.log2 + 2) ≤ 2 ^ d := Nat.pow_le_pow_right (by omega) (by omega)
   generalize hg : 2 ^ (n.log2 + 2) = g at *
   generalize 2 ^ (n.log2 + 1) = g1 at *
   generalize 2 ^ d = D at *
   have e1 : n / g = 0 := Nat.div_eq_of_lt (by omega)
   have e2 : n % g = n := Nat.mod_eq_of_lt (by omega)
   rw [e1, e2]
   have e3 : (decide (g < 2 * n) || g == 2 * n && 0 % 2 == 1) = false := by simp; omega
   rw [e3]
   simp
   omega
 · rw [Nat.min_eq_left h]
   have hg : 0 < 2 ^ d := Nat.two_pow_pos d
   generalize 2 ^ d = g at *
   have hd := Nat.div_add_mod n g
   have hm := Nat.mod_lt n hg
   generalize n / g = low at *
   generalize n % g = rest at *
   rw [Nat.mul_comm] at hd
   by_cases hmore : g < 2 * rest ∨ (g = 2 * rest ∧ low % 2 = 1)
   · have e3 : (decide (g < 2 * rest) || g == 2 * rest && low % 2 == 1) = true := by simpa using hmore
     rw [e3]
     have : (low + true.toNat) * g = low * g + g := by simp [Nat.add_mul]
     rw [this]
     generalize low * g = P at *
     refine ⟨by omega, by omega, ?_, ?_⟩
     · intro h; simp; omega
     · intro h; simp; omega
   · have e3 : (decide (g < 2 * rest) || g == 2 * rest && low % 2 == 1) = false := by
       rw [Bool.eq_false_iff]; intro h; apply hmore; simpa using h
     rw [e3]
     have : (low + false.toNat) * g = low * g := by simp
     rw [this]
     generalize low * g = P at *
     refine ⟨by omega, by omega, ?_, ?_⟩
     · intro h; simp; omega
     · intro h; simp; omega
theorem int_eq {a b : Int} {u : Rat} (hu : 0 < u) (h : (a : Rat) * u = (b : Rat) * u) : a = b :=
 Int.le_antisymm (int_le hu (le_of_same h)) (int_le hu (le_of_same h.symm))
theorem log_bounds (mag : Nat) (hm : mag ≠ 0) (place : Int) : p2 (place + (mag.log2 : Nat)) ≤ (mag : Nat) * p2 place ∧ ((mag : Nat) : Rat) * p2 place < p2 (place + (mag.log2 : Nat) + 1) := by
 have h1 : 2 ^ mag.log2 ≤ mag := Nat.log2_self_le hm
 have h2 : mag < 2 ^ (mag.log2 + 1) := Nat.lt_log2_self
 have hp := p2_pos place
 constructor
 · rw [p2_add, p2_nat, Rat.mul_comm]
   exact Rat.mul_le_mul_of_nonneg_right (Rat.natCast_le_natCast.2 h1) (Rat.le_of_lt hp)
 · rw [show place + (mag.log2 : Nat) + 1 = place + ((mag.log2 + 1 : Nat) : Int) by omega, p2_add, p2_nat, Rat.mul_comm (p2 place)]
   exact Rat.mul_lt_mul_of_pos_right (Rat.natCast_lt_natCast.2 h2) hp
theorem nearest_near (neg : Bool) (mag : Nat) (place : Int) (hm : mag ≠ 0) : ∃ r, Ieee.double.nearest neg mag place = Ieee.double.word neg r ∧ Near ((mag : Nat) * p2 place) r := by
 unfold Ieee.Format.nearest
 rw [if_neg hm]
 simp only [d_lp, d_bin, d_inf, show Ieee.double.fractionBits = 52 from rfl]
 obtain ⟨last, hlast⟩ : ∃ l : Int, l = max (place + (mag.log2 : Nat) - ((52 : Nat) : Int)) (-1074) := ⟨_, rfl⟩
 rw [← hlast]
 obtain ⟨k, hk, c1, c2, c3, c4⟩ := cut_even neg (mag <<< (place - last).toNat) (last - place).toNat
 rw [hk]
 refine ⟨_, rfl, Or.inr ⟨?_, (last + 1074).toNat, k, ?_, ?_, by rw [show last - -1074 = last + 1074 by omega]⟩⟩
 · exact Rat.mul_pos (Rat.natCast_pos.2 (by omega)) (p2_pos _)
 · have hb := log_bounds mag hm place
   have eT : (((last + 1074).toNat : Nat) : Int) - 1075 = last - 1 := by omega
   rw [Last, eT]
   have x1 : ((9007199254740992 : Int) : Rat) * p2 (last - 1) = p2 (last + 52) := by
     rw [show last + 52 = (last - 1) + ((53 : Nat) : Int) by omega, p2_add, p2_nat, Rat.mul_comm]; rfl
   have x2 : ((18014398509481984 : Int) : Rat) * p2 (last - 1) = p2 (last + 53) := by
     rw [show last + 53 = (last - 1) + ((54 : Nat) : Int) by omega, p2_add, p2_nat, Rat.mul_comm]; rfl
   rw [x1, x2]
   constructor
   · by_cases h : last = -1074
     · left; omega
     · right
       have := p2_mono (a := last + 52) (b := place + (mag.log2 : Nat)) (by omega)
       exact Rat.le_trans this hb.1
   · exact lt_of_lt_le hb.2 (p2_mono (by omega))
 · have eT : (((last + 1074).toNat : Nat) : Int) - 1075 = last - 1 := by omega
   rw [eT]
   generalize hd : (last - place).toNat = d at *
   generalize hn : mag <<< (place - last).toNat = n at *
   rw [Nat.shiftLeft_eq] at hn
   have hv := p2_pos (last - (d : Nat) - 1)
   have e1 : ((mag : Nat) : Rat) * p2 place = ((2 * (n : Int) : Int) : Rat) * p2 (last - (d : Nat) - 1) := by
     have a1 : ((2 * (n : Int) : Int) : Rat) = 2 * ((n : Nat) : Rat) := by rw [Rat.intCast_mul]; rfl
     have a2 : p2 (last - (d : Nat)) = 2 * p2 (last - (d : Nat) - 1) := by
       have := p2_add 1 (last - (d : Nat) - 1)
       rwa [p2_one, show 1 + (last - (d : Nat) - 1) = last - (d : Nat) by omega] at this
     have a3 : ((mag : Nat) : Rat) * p2 place = ((n : Nat) : Rat) * p2 (last - (d : Nat)) := by
       rw [← hn, nat_mul_p2, Rat.mul_assoc, ← p2_add]
       congr 2; omega
     rw [a3, a1, a2]
     generalize p2 (last - (d : Nat) - 1) = v
     grind
   have e2 : ∀ z : Int, (z : Rat) * p2 (last - 1) = ((z * ((2 ^ d : Nat) : Int) : Int) : Rat) * p2 (last - (d : Nat) - 1) := fun z => by
     rw [show last - 1 = (d : Nat) + (last - (d : Nat) - 1) by omega, p2_add, p2_nat, Rat.intCast_mul, Rat.mul_assoc]; rfl
   rw [e1]
   unfold Half
   rw [e2, e2]
   have y1 : (2 * (k : Int) - 1) * ((2 ^ d : Nat) : Int) = 2 * ((k * 2 ^ d : Nat) : Int) - ((2 ^ d : Nat) : Int) := by rw [Int.natCast_mul]; grind
   have y2 : (2 * (k : Int) + 1) * ((2 ^ d : Nat) : Int) = 2 * ((k * 2 ^ d : Nat) : Int) + ((2 ^ d : Nat) : Int) := by rw [Int.natCast_mul]; grind
   rw [y1, y2]
   generalize k * 2 ^ d = P at *
   generalize 2 ^ d = D at *
   refine ⟨le_int hv (by omega), le_int hv (by omega), ?_, ?_⟩
   · intro h
     have := int_eq hv h
     exact c3 (by omega)
   · intro h
     have := int_eq hv h
     exact c4 (by omega)
end

/- Which floats are tame, which are safe: the program's. -/
section
open Go.RowKit
def SafeW (r : Nat) : Prop := r = 0 ∨ (2580562586483294208 ≤ r ∧ r ≤ 6633802251116740608)
instance (r : Nat) : Decidable (SafeW r) := by unfold SafeW; exact inferInstance
end

/- Which floats are tame, which are safe: the document's. -/
section
open Go.RowKit
end

/- Tame and safe, as the document has them. -/
section
open Go.RowKit
theorem fin_zero : Fin64 0 := by unfold Fin64 frung; decide
theorem fval_zero : fval 0 = 0 := fval_zero_iff.2 rfl
theorem eql_zero2 (b : Nat) : (FloatKind.f64.format.order b 0 == some .eq) = decide (frung b = 0) := by
 show (Ieee.double.order b 0 == some .eq) = _
 rcases Nat.lt_trichotomy (frung b) 9218868437227405312 with h | h | h
 · rw [order_fin h fin_zero, fval_zero]
   by_cases e : fval b = 0
   · rw [e, if_neg Rat.lt_irrefl, if_pos rfl]; simp [fval_zero_iff.1 e]
   · have : frung b ≠ 0 := fun e' => e (fval_zero_iff.2 e')
     by_cases e2 : fval b < 0
     · rw [if_pos e2]; simp [this]
     · rw [if_neg e2, if_neg e]; simp [this]
 · rw [order_inf_fin h fin_zero]
   cases fneg b <;> simp <;> omega
 · rw [order_nan_left h]; simp; omega
end

/- What the language has of a sum, a difference, a product of two floats: the number, rounded. -/
section
def RV (q x : Rat) : Prop := ∃ r, r < 9218868437227405312 ∧ ((0 ≤ q ∧ Near q r ∧ x = fval r) ∨ (q ≤ 0 ∧ Near (-q) r ∧ x = -fval r))
theorem RV.fn {q x y : Rat} (h1 : RV q x) (h2 : RV q y) : x = y := by
 obtain ⟨r, _, h1⟩ := h1
 obtain ⟨s, _, h2⟩ := h2
 have z : ∀ {p : Rat}, 0 ≤ p → p ≤ 0 → p = 0 := fun a b => Rat.le_antisymm b a
 rcases h1 with ⟨a, n1, e1⟩ | ⟨a, n1, e1⟩ <;> rcases h2 with ⟨b, n2, e2⟩ | ⟨b, n2, e2⟩
 · rw [e1, e2, near_fun n1 n2]
 · have := z a b
   subst this
   rw [show -(0 : Rat) = 0 by grind] at n2
   rw [e1, e2, near_zero n1, near_zero n2, fval_zero]; grind
 · have := z b a
   subst this
   rw [show -(0 : Rat) = 0 by grind] at n1
   rw [e1, e2, near_zero n1, near_zero n2, fval_zero]; grind
 · rw [e1, e2, near_fun n1 n2]
theorem RV.neg {q x : Rat} (h : RV q x) : RV (-q) (-x) := by
 obtain ⟨r, hr, h⟩ := h
 refine ⟨r, hr, ?_⟩
 rcases h with ⟨a, n, e⟩ | ⟨a, n, e⟩
 · exact Or.inr ⟨by grind, by rwa [show - -q = q by grind], by rw [e]⟩
 · exact Or.inl ⟨by grind, n, by rw [e]; grind⟩
theorem fval_rung (T k : Nat) (hk : k ≤ 9007199254740992) (hT : T = 0 ∨ 4503599627370496 ≤ k) (hr : T * 4503599627370496 + k < 9218868437227405312) : fval (T * 4503599627370496 + k) = ((k : Nat) : Rat) * U T := by
 rw [(fval_pos_lt hr).1]
 unfold U
 rcases Nat.lt_or_ge k 4503599627370496 with h | h
 · have e : T = 0 := by omega
   subst e
   rw [show fmag (0 * 4503599627370496 + k) = k by unfold fmag; rw [if_pos (by omega)]; omega, show fpl (0 * 4503599627370496 + k) = ((0 : Nat) : Int) - 1074 by unfold fpl; rw [if_pos (by omega)]; rfl]
 · rcases Nat.lt_or_ge k 9007199254740992 with h2 | h2
   · rw [show fmag (T * 4503599627370496 + k) = k by unfold fmag; rw [if_neg (by omega)]; omega, show fpl (T * 4503599627370496 + k) = (T : Int) - 1074 by unfold fpl; rw [if_neg (by omega)]; omega]
   · have e : k = 9007199254740992 := by omega
     subst e
     rw [show fmag (T * 4503599627370496 + 9007199254740992) = 4503599627370496 by unfold fmag; rw [if_neg (by omega)]; omega, show fpl (T * 4503599627370496 + 9007199254740992) = 1 + ((T : Int) - 1074) by unfold fpl; rw [if_neg (by omega)]; omega, p2_add, p2_one]
     rw [show ((9007199254740992 : Nat) : Rat) = 9007199254740992 from rfl, show ((4503599627370496 : Nat) : Rat) = 4503599627370496 from rfl]
     grind
theorem half_unit (T : Nat) : U T = 2 * p2 ((T : Int) - 1075) := by
 unfold U
 rw [show (T : Int) - 1074 = 1 + ((T : Int) - 1075) by omega, p2_add, p2_one]
theorem near_rnd {q : Rat} {r : Nat} (h : Near q r) (hr : r < 9218868437227405312) : ∃ T k, Rnd q (fval r) T k := by
 rcases h with ⟨rfl, rfl⟩ | ⟨hq, T, k, hl, hh, e⟩
 · have hu := U_pos 0
   exact ⟨0, 0, by rw [fval_zero]; rw [show ((0 : Int) : Rat) = 0 from rfl]; grind, by rw [fval_zero]; grind, by rw [fval_zero]; grind, Or.inl rfl, by grind, by grind, by omega, by omega⟩
 · have hb := kept_bounds hl hh
   have e' : r = T * 4503599627370496 + k := by omega
   have hv := fval_rung T k hb.1 hb.2 (by omega)
   rw [← e'] at hv
   have hU := half_unit T
   have hu := p2_pos ((T : Int) - 1075)
   obtain ⟨l1, l2⟩ := hl
   obtain ⟨s1, s2, _, _⟩ := hh
   rw [show ((18014398509481984 : Int) : Rat) = 18014398509481984 from rfl] at l2
   rw [show ((9007199254740992 : Int) : Rat) = 9007199254740992 from rfl] at l1
   have e1 : ((2 * (k : Int) - 1 : Int) : Rat) = 2 * ((k : Nat) : Rat) - 1 := by rw [Rat.intCast_sub, Rat.intCast_mul]; rfl
   have e2 : ((2 * (k : Int) + 1 : Int) : Rat) = 2 * ((k : Nat) : Rat) + 1 := by rw [Rat.intCast_add, Rat.intCast_mul]; rfl
   rw [e1] at s1
   rw [e2] at s2
   have kv : ((k : Nat) : Rat) * U T = 2 * (((k : Nat) : Rat) * p2 ((T : Int) - 1075)) := by rw [hU]; grind
   have z1 : (2 * ((k : Nat) : Rat) - 1) * p2 ((T : Int) - 1075) = 2 * (((k : Nat) : Rat) * p2 ((T : Int) - 1075)) - p2 ((T : Int) - 1075) := by grind
   have z2 : (2 * ((k : Nat) : Rat) + 1) * p2 ((T : Int) - 1075) = 2 * (((k : Nat) : Rat) * p2 ((T : Int) - 1075)) + p2 ((T : Int) - 1075) := by grind
   rw [z1] at s1
   rw [z2] at s2
   have hx : fval r = ((k : Int) : Rat) * U T := by rw [hv]; rfl
   rw [kv] at hv
   clear z1 z2 kv e1 e2 e e'
   generalize ((k : Nat) : Rat) * p2 ((T : Int) - 1075) = Z at *
   generalize p2 ((T : Int) - 1075) = h at *
   refine ⟨T, (k : Int), hx, by rw [hv, hU]; grind, by rw [hv, hU]; grind, ?_, by rw [hU]; grind, by rw [hU]; grind, by omega, by omega⟩
   rcases l1 with l1 | l1
   · exact Or.inl l1
   · exact Or.inr (Or.inl (by rw [hU]; grind))
theorem RV.rn {q x : Rat} (h : RV q x) : RN q x := by
 obtain ⟨r, hr, h⟩ := h
 rcases h with ⟨_, n, rfl⟩ | ⟨_, n, rfl⟩
 · exact near_rnd n hr
 · obtain ⟨T, k, R⟩ := near_rnd n hr
   have := R.neg
   rw [show - -q = q by grind] at this
   exact ⟨T, _, this⟩
theorem near_lt {q : Rat} {r : Nat} (h : Near q r) (hq : q < p2 1023) : r < 9218868437227405312 := by
 rcases h with ⟨rfl, rfl⟩ | ⟨_, T, k, hl, hh, e⟩
 · omega
 · have hb := kept_bounds hl hh
   have hT : T < 2045 := by
     rcases hl.1 with h | h
     · omega
     · have e1 : ((9007199254740992 : Int) : Rat) * p2 ((T : Int) - 1075) = p2 ((T : Int) - 1022) := by
         rw [show (T : Int) - 1022 = ((T : Int) - 1075) + ((53 : Nat) : Int) by omega, p2_add, p2_nat, Rat.mul_comm]; rfl
       rw [e1] at h
       have := p2_lt_iff.1 (lt_of_le_lt h hq)
       omega
   omega
theorem fc_word {b : Nat} (h : Fin64 b) : ∃ S m, FC (fval b) S m := by
 have key : ∀ r, r < 9218868437227405312 → ∃ S m, FC ((fmag r : Nat) * p2 (fpl r)) S m := by
   intro r _
   have hm := fmag_lt r
   by_cases h : r < 4503599627370496
   · refine ⟨0, (fmag r : Int), ?_, by omega, by omega, Or.inl rfl⟩
     unfold U fpl
     rw [if_pos h]; rfl
   · refine ⟨r / 4503599627370496 - 1, (fmag r : Int), ?_, by omega, by omega, Or.inr (Or.inl ?_)⟩
     · unfold U fpl
       rw [if_neg h, show ((r / 4503599627370496 - 1 : Nat) : Int) - 1074 = -1074 + ((r / 4503599627370496 - 1 : Nat) : Int) by omega]; rfl
     · unfold fmag; rw [if_neg h]; omega
 obtain ⟨S, m, c⟩ := key (frung b) h
 unfold fval sgn1
 cases fneg b
 · refine ⟨S, m, ?_⟩
   rw [if_neg (by decide), Rat.one_mul]; exact c
 · refine ⟨S, -m, ?_⟩
   rw [if_pos rfl]
   have := c.neg
   rwa [show -((fmag (frung b) : Nat) * p2 (fpl (frung b)) : Rat) = -1 * ((fmag (frung b) : Nat) * p2 (fpl (frung b))) by grind] at this
theorem write_rv (s : Bool) (m : Nat) (place : Int) (hq : ((m : Nat) : Rat) * p2 place < p2 1023) : ∃ r, Ieee.double.write (.number s m place) = r ∧ Fin64 r ∧ r < 18446744073709551616 ∧ RV (sgn1 s * ((m : Nat) * p2 place)) (fval r) := by
 have fin : ∀ r0, r0 < 9218868437227405312 → Near ((m : Nat) * p2 place) r0 → ∃ r, Ieee.double.word s r0 = r ∧ Fin64 r ∧ r < 18446744073709551616 ∧ RV (sgn1 s * ((m : Nat) * p2 place)) (fval r) := by
   intro r0 h0 hn
   have hnn := (near_nonneg hn).1
   unfold sgn1
   cases s
   · refine ⟨r0, rfl, by unfold Fin64 frung; omega, by omega, r0, h0, Or.inl ?_⟩
     rw [if_neg (by decide), Rat.one_mul]
     exact ⟨hnn, hn, rfl⟩
   · refine ⟨9223372036854775808 + r0, by rw [Ieee.Format.word, d_sw]; rfl, by unfold Fin64 frung; omega, by omega, r0, h0, Or.inr ?_⟩
     rw [if_pos rfl, fval_word h0]
     generalize ((m : Nat) : Rat) * p2 place = z at *
     exact ⟨by grind, by rwa [show -(-1 * z) = z by grind], rfl⟩
 show ∃ r, Ieee.double.nearest s m place = r ∧ _
 by_cases hm : m = 0
 · subst hm
   have : Ieee.double.nearest s 0 place = Ieee.double.word s 0 := by unfold Ieee.Format.nearest; rw [if_pos rfl]
   rw [this]
   exact fin 0 (by omega) (Or.inl ⟨by rw [show ((0 : Nat) : Rat) = 0 from rfl]; grind, rfl⟩)
 · obtain ⟨r0, e, hn⟩ := nearest_near s m place hm
   rw [e]
   exact fin r0 (near_lt hn hq) hn
end
end Go.Proofs.YtkgnlobakicnjaaDoor
