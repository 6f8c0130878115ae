/- Own texts, put together: Ed Er. -/
import Derived.Test.YtcgbnjoajieggaaGreatQ9
import Derived.Test.YtcgbnjoajieggaaGreatQ11
namespace Go.Proofs.YtcgbnjoajieggaaGreat
/- Tame and safe, as the document has them. -/
section
open Go.RowKit
def fflip (b : Nat) : Nat := if b < 9223372036854775808 then b + 9223372036854775808 else b - 9223372036854775808
theorem negF_eq (b : Nat) (hb : b < 18446744073709551616) : Op.negFloat .f64 b = fflip b := by
 show b ^^^ 2 ^ 63 = fflip b
 unfold fflip
 split
 · rename_i h
   have := Nat.two_pow_add_eq_or_of_lt (i := 63) (b := b) (by simpa using h) 1
   rw [show b + 9223372036854775808 = 2 ^ 63 * 1 + b by omega, this]
   apply Nat.eq_of_testBit_eq
   intro i
   simp only [Nat.testBit_xor, Nat.testBit_or, Nat.testBit_two_pow, Nat.mul_one]
   by_cases e : 63 = i
   · subst e
     have : b.testBit 63 = false := Nat.testBit_lt_two_pow (by simpa using h)
     simp [this]
   · simp [e]
 · rename_i h
   obtain ⟨r, rfl⟩ : ∃ r, b = 9223372036854775808 + r := ⟨b - 9223372036854775808, by omega⟩
   have hr : r < 2 ^ 63 := by omega
   have := Nat.two_pow_add_eq_or_of_lt (i := 63) (b := r) hr 1
   rw [show 9223372036854775808 + r - 9223372036854775808 = r by omega, show 9223372036854775808 + r = 2 ^ 63 * 1 + r by omega, this]
   apply Nat.eq_of_testBit_eq
   intro i
   simp only [Nat.testBit_xor, Nat.testBit_or, Nat.testBit_two_pow, Nat.mul_one]
   by_cases e : 63 = i
   · subst e
     have : r.testBit 63 = false := Nat.testBit_lt_two_pow hr
     simp [this]
   · simp [e]
theorem run_negF (b : Nat) (hb : b < 18446744073709551616) (w : World) : (Op.unary .neg (.float .f64 b)).run Tryz.prog w = .ok (.float .f64 (fflip b)) w := by
 show Result.ok (Value.float .f64 (Op.negFloat .f64 b)) w = _
 rw [negF_eq b hb]
theorem fin_zero : Fin64 0 := by unfold Fin64 frung; decide
theorem fval_zero : fval 0 = 0 := fval_zero_iff.2 rfl
theorem eql_zero2 (b : Nat) : (FloatKind.f64.format.order b 0 == some .eq) = decide (frung b = 0) := by
 show (Ieee.double.order b 0 == some .eq) = _
 rcases Nat.lt_trichotomy (frung b) 9218868437227405312 with h | h | h
 · rw [order_fin h fin_zero, fval_zero]
   by_cases e : fval b = 0
   · rw [e, if_neg Rat.lt_irrefl, if_pos rfl]; simp [fval_zero_iff.1 e]
   · have : frung b ≠ 0 := fun e' => e (fval_zero_iff.2 e')
     by_cases e2 : fval b < 0
     · rw [if_pos e2]; simp [this]
     · rw [if_neg e2, if_neg e]; simp [this]
 · rw [order_inf_fin h fin_zero]
   cases fneg b <;> simp <;> omega
 · rw [order_nan_left h]; simp; omega
end

/- What the language has of a sum, a difference, a product of two floats: the number, rounded. -/
section
def RV (q x : Rat) : Prop := ∃ r, r < 9218868437227405312 ∧ ((0 ≤ q ∧ Near q r ∧ x = fval r) ∨ (q ≤ 0 ∧ Near (-q) r ∧ x = -fval r))
theorem RV.fn {q x y : Rat} (h1 : RV q x) (h2 : RV q y) : x = y := by
 obtain ⟨r, _, h1⟩ := h1
 obtain ⟨s, _, h2⟩ := h2
 have z : ∀ {p : Rat}, 0 ≤ p → p ≤ 0 → p = 0 := fun a b => Rat.le_antisymm b a
 rcases h1 with ⟨a, n1, e1⟩ | ⟨a, n1, e1⟩ <;> rcases h2 with ⟨b, n2, e2⟩ | ⟨b, n2, e2⟩
 · rw [e1, e2, near_fun n1 n2]
 · have := z a b
   subst this
   rw [show -(0 : Rat) = 0 by grind] at n2
   rw [e1, e2, near_zero n1, near_zero n2, fval_zero]; grind
 · have := z b a
   subst this
   rw [show -(0 : Rat) = 0 by grind] at n1
   rw [e1, e2, near_zero n1, near_zero n2, fval_zero]; grind
 · rw [e1, e2, near_fun n1 n2]
theorem RV.neg {q x : Rat} (h : RV q x) : RV (-q) (-x) := by
 obtain ⟨r, hr, h⟩ := h
 refine ⟨r, hr, ?_⟩
 rcases h with ⟨a, n, e⟩ | ⟨a, n, e⟩
 · exact Or.inr ⟨by grind, by rwa [show - -q = q by grind], by rw [e]⟩
 · exact Or.inl ⟨by grind, n, by rw [e]; grind⟩
theorem fval_rung (T k : Nat) (hk : k ≤ 9007199254740992) (hT : T = 0 ∨ 4503599627370496 ≤ k) (hr : T * 4503599627370496 + k < 9218868437227405312) : fval (T * 4503599627370496 + k) = ((k : Nat) : Rat) * U T := by
 rw [(fval_pos_lt hr).1]
 unfold U
 rcases Nat.lt_or_ge k 4503599627370496 with h | h
 · have e : T = 0 := by omega
   subst e
   rw [show fmag (0 * 4503599627370496 + k) = k by unfold fmag; rw [if_pos (by omega)]; omega, show fpl (0 * 4503599627370496 + k) = ((0 : Nat) : Int) - 1074 by unfold fpl; rw [if_pos (by omega)]; rfl]
 · rcases Nat.lt_or_ge k 9007199254740992 with h2 | h2
   · rw [show fmag (T * 4503599627370496 + k) = k by unfold fmag; rw [if_neg (by omega)]; omega, show fpl (T * 4503599627370496 + k) = (T : Int) - 1074 by unfold fpl; rw [if_neg (by omega)]; omega]
   · have e : k = 9007199254740992 := by omega
     subst e
     rw [show fmag (T * 4503599627370496 + 9007199254740992) = 4503599627370496 by unfold fmag; rw [if_neg (by omega)]; omega, show fpl (T * 4503599627370496 + 9007199254740992) = 1 + ((T : Int) - 1074) by unfold fpl; rw [if_neg (by omega)]; omega, p2_add, p2_one]
     rw [show ((9007199254740992 : Nat) : Rat) = 9007199254740992 from rfl, show ((4503599627370496 : Nat) : Rat) = 4503599627370496 from rfl]
     grind
theorem half_unit (T : Nat) : U T = 2 * p2 ((T : Int) - 1075) := by
 unfold U
 rw [show (T : Int) - 1074 = 1 + ((T : Int) - 1075) by omega, p2_add, p2_one]
theorem near_rnd {q : Rat} {r : Nat} (h : Near q r) (hr : r < 9218868437227405312) : ∃ T k, Rnd q (fval r) T k := by
 rcases h with ⟨rfl, rfl⟩ | ⟨hq, T, k, hl, hh, e⟩
 · have hu := U_pos 0
   exact ⟨0, 0, by rw [fval_zero]; rw [show ((0 : Int) : Rat) = 0 from rfl]; grind, by rw [fval_zero]; grind, by rw [fval_zero]; grind, Or.inl rfl, by grind, by grind, by omega, by omega⟩
 · have hb := kept_bounds hl hh
   have e' : r = T * 4503599627370496 + k := by omega
   have hv := fval_rung T k hb.1 hb.2 (by omega)
   rw [← e'] at hv
   have hU := half_unit T
   have hu := p2_pos ((T : Int) - 1075)
   obtain ⟨l1, l2⟩ := hl
   obtain ⟨s1, s2, _, _⟩ := hh
   rw [show ((18014398509481984 : Int) : Rat) = 18014398509481984 from rfl] at l2
   rw [show ((9007199254740992 : Int) : Rat) = 9007199254740992 from rfl] at l1
   have e1 : ((2 * (k : Int) - 1 : Int) : Rat) = 2 * ((k : Nat) : Rat) - 1 := by rw [Rat.intCast_sub, Rat.intCast_mul]; rfl
   have e2 : ((2 * (k : Int) + 1 : Int) : Rat) = 2 * ((k : Nat) : Rat) + 1 := by rw [Rat.intCast_add, Rat.intCast_mul]; rfl
   rw [e1] at s1
   rw [e2] at s2
   have kv : ((k : Nat) : Rat) * U T = 2 * (((k : Nat) : Rat) * p2 ((T : Int) - 1075)) := by rw [hU]; grind
   have z1 : (2 * ((k : Nat) : Rat) - 1) * p2 ((T : Int) - 1075) = 2 * (((k : Nat) : Rat) * p2 ((T : Int) - 1075)) - p2 ((T : Int) - 1075) := by grind
   have z2 : (2 * ((k : Nat) : Rat) + 1) * p2 ((T : Int) - 1075) = 2 * (((k : Nat) : Rat) * p2 ((T : Int) - 1075)) + p2 ((T : Int) - 1075) := by grind
   rw [z1] at s1
   rw [z2] at s2
   have hx : fval r = ((k : Int) : Rat) * U T := by rw [hv]; rfl
   rw [kv] at hv
   clear z1 z2 kv e1 e2 e e'
   generalize ((k : Nat) : Rat) * p2 ((T : Int) - 1075) = Z at *
   generalize p2 ((T : Int) - 1075) = h at *
   refine ⟨T, (k : Int), hx, by rw [hv, hU]; grind, by rw [hv, hU]; grind, ?_, by rw [hU]; grind, by rw [hU]; grind, by omega, by omega⟩
   rcases l1 with l1 | l1
   · exact Or.inl l1
   · exact Or.inr (Or.inl (by rw [hU]; grind))
theorem RV.rn {q x : Rat} (h : RV q x) : RN q x := by
 obtain ⟨r, hr, h⟩ := h
 rcases h with ⟨_, n, rfl⟩ | ⟨_, n, rfl⟩
 · exact near_rnd n hr
 · obtain ⟨T, k, R⟩ := near_rnd n hr
   have := R.neg
   rw [show - -q = q by grind] at this
   exact ⟨T, _, this⟩
theorem near_lt {q : Rat} {r : Nat} (h : Near q r) (hq : q < p2 1023) : r < 9218868437227405312 := by
 rcases h with ⟨rfl, rfl⟩ | ⟨_, T, k, hl, hh, e⟩
 · omega
 · have hb := kept_bounds hl hh
   have hT : T < 2045 := by
     rcases hl.1 with h | h
     · omega
     · have e1 : ((9007199254740992 : Int) : Rat) * p2 ((T : Int) - 1075) = p2 ((T : Int) - 1022) := by
         rw [show (T : Int) - 1022 = ((T : Int) - 1075) + ((53 : Nat) : Int) by omega, p2_add, p2_nat, Rat.mul_comm]; rfl
       rw [e1] at h
       have := p2_lt_iff.1 (lt_of_le_lt h hq)
       omega
   omega
theorem fc_word {b : Nat} (h : Fin64 b) : ∃ S m, FC (fval b) S m := by
 have key : ∀ r, r < 9218868437227405312 → ∃ S m, FC ((fmag r : Nat) * p2 (fpl r)) S m := by
   intro r _
   have hm := fmag_lt r
   by_cases h : r < 4503599627370496
   · refine ⟨0, (fmag r : Int), ?_, by omega, by omega, Or.inl rfl⟩
     unfold U fpl
     rw [if_pos h]; rfl
   · refine ⟨r / 4503599627370496 - 1, (fmag r : Int), ?_, by omega, by omega, Or.inr (Or.inl ?_)⟩
     · unfold U fpl
       rw [if_neg h, show ((r / 4503599627370496 - 1 : Nat) : Int) - 1074 = -1074 + ((r / 4503599627370496 - 1 : Nat) : Int) by omega]; rfl
     · unfold fmag; rw [if_neg h]; omega
 obtain ⟨S, m, c⟩ := key (frung b) h
 unfold fval sgn1
 cases fneg b
 · refine ⟨S, m, ?_⟩
   rw [if_neg (by decide), Rat.one_mul]; exact c
 · refine ⟨S, -m, ?_⟩
   rw [if_pos rfl]
   have := c.neg
   rwa [show -((fmag (frung b) : Nat) * p2 (fpl (frung b)) : Rat) = -1 * ((fmag (frung b) : Nat) * p2 (fpl (frung b))) by grind] at this
theorem write_rv (s : Bool) (m : Nat) (place : Int) (hq : ((m : Nat) : Rat) * p2 place < p2 1023) : ∃ r, Ieee.double.write (.number s m place) = r ∧ Fin64 r ∧ r < 18446744073709551616 ∧ RV (sgn1 s * ((m : Nat) * p2 place)) (fval r) := by
 have fin : ∀ r0, r0 < 9218868437227405312 → Near ((m : Nat) * p2 place) r0 → ∃ r, Ieee.double.word s r0 = r ∧ Fin64 r ∧ r < 18446744073709551616 ∧ RV (sgn1 s * ((m : Nat) * p2 place)) (fval r) := by
   intro r0 h0 hn
   have hnn := (near_nonneg hn).1
   unfold sgn1
   cases s
   · refine ⟨r0, rfl, by unfold Fin64 frung; omega, by omega, r0, h0, Or.inl ?_⟩
     rw [if_neg (by decide), Rat.one_mul]
     exact ⟨hnn, hn, rfl⟩
   · refine ⟨9223372036854775808 + r0, by rw [Ieee.Format.word, d_sw]; rfl, by unfold Fin64 frung; omega, by omega, r0, h0, Or.inr ?_⟩
     rw [if_pos rfl, fval_word h0]
     generalize ((m : Nat) : Rat) * p2 place = z at *
     exact ⟨by grind, by rwa [show -(-1 * z) = z by grind], rfl⟩
 show ∃ r, Ieee.double.nearest s m place = r ∧ _
 by_cases hm : m = 0
 · subst hm
   have : Ieee.double.nearest s 0 place = Ieee.double.word s 0 := by unfold Ieee.Format.nearest; rw [if_pos rfl]
   rw [this]
   exact fin 0 (by omega) (Or.inl ⟨by rw [show ((0 : Nat) : Rat) = 0 from rfl]; grind, rfl⟩)
 · obtain ⟨r0, e, hn⟩ := nearest_near s m place hm
   rw [e]
   exact fin r0 (near_lt hn hq) hn
end
end Go.Proofs.YtcgbnjoajieggaaGreat
