/- Own texts, put together: Zn Zo Zp Zq Ed Er Es Zr. -/
import Derived.Test.YtgoadpnoagaflaaGreatDoorQ6
import Derived.Test.YtgoadpnoagaflaaGreatDoorQ11
import Derived.Test.YtgoadpnoagaflaaGreatDoorQ12
import Derived.Test.YtgoadpnoagaflaaGreatDoorQ13
import Derived.Test.YtgoadpnoagaflaaGreatDoorQ17
import Derived.Deep.DrawnRows
import Derived.BigRegion
namespace Go.Proofs.YtgoadpnoagaflaaGreatDoor
/- The reference's Mul: what stands while it goes. -/
section
open Go.RowKit
theorem v24_set {zs : List Nat} {j : Nat} (h : j < zs.length) (x : Nat) : v24 (zs.set j x) + 2 ^ (24 * j) * zs.getD j 0 = v24 zs + 2 ^ (24 * j) * x := by
 induction zs generalizing j with
 | nil => simp at h
 | cons a r ih =>
   cases j with
   | zero => simp [v24]; omega
   | succ j =>
     simp only [List.set_cons_succ, v24, List.getD_cons_succ]
     have := ih (j := j) (by simp at h; omega)
     rw [p24]
     grind
theorem set_small {zs : List Nat} {j x : Nat} (h : ∀ d ∈ zs, d < 16777216) (hx : x < 16777216) : ∀ d ∈ zs.set j x, d < 16777216 := by
 intro d hd
 rcases List.mem_or_eq_of_mem_set hd with hd | rfl
 · exact h d hd
 · exact hx
theorem getD_small {zs : List Nat} (h : ∀ d ∈ zs, d < 16777216) (j : Nat) : zs.getD j 0 < 16777216 := by
 by_cases hj : j < zs.length
 · rw [show zs.getD j 0 = zs[j] by simp [List.getD, hj]]
   exact h _ (List.getElem_mem hj)
 · simp [List.getD, List.getElem?_eq_none (Nat.le_of_not_lt hj)]
theorem set_getD {zs : List Nat} {j k x : Nat} (h : j ≠ k) : (zs.set j x).getD k 0 = zs.getD k 0 := by
 simp only [List.getD, List.getElem?_set]; rw [if_neg h]
structure MulO (ds1 ds2 zs : List Nat) (i : Nat) : Prop where
 len : zs.length = ds1.length + ds2.length
 small : ∀ d ∈ zs, d < 16777216
 val : v24 zs = v24 (ds1.take i) * v24 ds2
 top : ∀ j, i + ds2.length ≤ j → zs.getD j 0 = 0
structure MulI (ds1 ds2 zs0 zs : List Nat) (i k c : Nat) : Prop where
 len : zs.length = ds1.length + ds2.length
 small : ∀ d ∈ zs, d < 16777216
 val : v24 zs + 2 ^ (24 * (i + k)) * c = v24 zs0 + 2 ^ (24 * i) * (ds1.getD i 0 * v24 (ds2.take k))
 rest : ∀ j, i + k ≤ j → zs.getD j 0 = zs0.getD j 0
 carry : c < 16777216
theorem MulI.step {ds1 ds2 zs0 zs : List Nat} {i k c v : Nat} (h : MulI ds1 ds2 zs0 zs i k c) (hi : i < ds1.length) (hk : k < ds2.length) (s1 : ∀ d ∈ ds1, d < 16777216) (s2 : ∀ d ∈ ds2, d < 16777216) (hv : v = zs.getD (i + k) 0 + ds1.getD i 0 * ds2.getD k 0 + c) :
   MulI ds1 ds2 zs0 (zs.set (i + k) (v % 16777216)) i (k + 1) (v / 16777216) := by
 have hl : i + k < zs.length := by rw [h.len]; omega
 have hx := getD_small h.small (i + k)
 have ha := getD_small s1 i
 have hb := getD_small s2 k
 have hc := h.carry
 refine ⟨by simp [h.len], set_small h.small (Nat.mod_lt _ (by omega)), ?_, fun j hj => ?_, ?_⟩
 · have e1 := v24_set hl (v % 16777216)
   have e2 := h.val
   have e3 := Nat.mod_add_div v 16777216
   rw [v24_take_succ, show i + (k + 1) = i + k + 1 by omega, p24]
   have e4 : 2 ^ (24 * (i + k)) = 2 ^ (24 * i) * 2 ^ (24 * k) := by rw [← Nat.pow_add]; congr 1; omega
   generalize v % 16777216 = r at *
   generalize v / 16777216 = q at *
   generalize zs.getD (i + k) 0 = x at *
   generalize ds1.getD i 0 = a at *
   generalize ds2.getD k 0 = b at *
   generalize v24 (zs.set (i + k) r) = V at *
   rw [e4] at e1 e2 ⊢
   generalize 2 ^ (24 * i) = P at *
   generalize 2 ^ (24 * k) = R at *
   subst hv
   grind
 · rw [set_getD (by omega)]; exact h.rest j (by omega)
 · rw [Nat.div_lt_iff_lt_mul (by omega), hv]
   have : ds1.getD i 0 * ds2.getD k 0 ≤ 16777215 * 16777215 := Nat.mul_le_mul (by omega) (by omega)
   omega
theorem MulI.done {ds1 ds2 zs0 zs : List Nat} {i c : Nat} (h : MulI ds1 ds2 zs0 zs i ds2.length c) (h0 : MulO ds1 ds2 zs0 i) (hi : i < ds1.length) : zs.getD (i + ds2.length) 0 = 0 ∧ MulO ds1 ds2 (zs.set (i + ds2.length) c) (i + 1) := by
 have hl : i + ds2.length < zs.length := by rw [h.len]; omega
 have hz : zs.getD (i + ds2.length) 0 = 0 := by rw [h.rest _ (Nat.le_refl _)]; exact h0.top _ (Nat.le_refl _)
 refine ⟨hz, by simp [h.len], set_small h.small h.carry, ?_, fun j hj => ?_⟩
 · have e1 := v24_set hl c
   rw [hz] at e1
   have e2 := h.val
   rw [List.take_of_length_le (Nat.le_refl _)] at e2
   rw [v24_take_succ, h0.val] at *
   grind
 · rw [set_getD (by omega), h.rest j (by omega)]; exact h0.top j (by omega)
end

/- The reference's Mul: the walk. -/
section
open Go.RowKit
attribute [local go_sem ↓] Go.wp_at_zero Go.wp_at_succ
end

/- The reference's Neg, Sub, Cmp, Abs of whatever numbers. -/
section
open Go.RowKit
attribute [local go_sem ↓] Go.wp_at_zero Go.wp_at_succ
theorem Canon.neg {S E : Int} {ds : List Nat} (h : Canon S ds E) : Canon (-S) ds E := by
 rcases h with ⟨a, b, c⟩ | ⟨a, b, c, d⟩
 · exact Or.inl ⟨a, by omega, c⟩
 · exact Or.inr ⟨a, by omega, c, d⟩
theorem Rf.sgn {w : World} {v : Value} {q : Rat} (h : Rf w v q) : ∃ S a n c E, v = .agg #[.int .i64 S, .slice a n c, .int .i64 E] ∧ ((S = 0 ∧ q = 0) ∨ (S = 1 ∧ 0 < q) ∨ (S = -1 ∧ q < 0)) := by
 obtain ⟨S, ds, E, h1, h2, rfl⟩ := h
 obtain ⟨a, c, rfl, _⟩ := h1.form
 exact ⟨S, a, _, c, E, rfl, canon_sgn h2⟩
end

/- The reference's Mul, High and Low of whatever numbers. -/
section
open Go.RowKit
end

/- Tame and safe, as the document has them. -/
section
open Go.RowKit
theorem fin_zero : Fin64 0 := by unfold Fin64 frung; decide
theorem fval_zero : fval 0 = 0 := fval_zero_iff.2 rfl
theorem eql_zero2 (b : Nat) : (FloatKind.f64.format.order b 0 == some .eq) = decide (frung b = 0) := by
 show (Ieee.double.order b 0 == some .eq) = _
 rcases Nat.lt_trichotomy (frung b) 9218868437227405312 with h | h | h
 · rw [order_fin h fin_zero, fval_zero]
   by_cases e : fval b = 0
   · rw [e, if_neg Rat.lt_irrefl, if_pos rfl]; simp [fval_zero_iff.1 e]
   · have : frung b ≠ 0 := fun e' => e (fval_zero_iff.2 e')
     by_cases e2 : fval b < 0
     · rw [if_pos e2]; simp [this]
     · rw [if_neg e2, if_neg e]; simp [this]
 · rw [order_inf_fin h fin_zero]
   cases fneg b <;> simp <;> omega
 · rw [order_nan_left h]; simp; omega
end

/- What the language has of a sum, a difference, a product of two floats: the number, rounded. -/
section
def RV (q x : Rat) : Prop := ∃ r, r < 9218868437227405312 ∧ ((0 ≤ q ∧ Near q r ∧ x = fval r) ∨ (q ≤ 0 ∧ Near (-q) r ∧ x = -fval r))
theorem RV.fn {q x y : Rat} (h1 : RV q x) (h2 : RV q y) : x = y := by
 obtain ⟨r, _, h1⟩ := h1
 obtain ⟨s, _, h2⟩ := h2
 have z : ∀ {p : Rat}, 0 ≤ p → p ≤ 0 → p = 0 := fun a b => Rat.le_antisymm b a
 rcases h1 with ⟨a, n1, e1⟩ | ⟨a, n1, e1⟩ <;> rcases h2 with ⟨b, n2, e2⟩ | ⟨b, n2, e2⟩
 · rw [e1, e2, near_fun n1 n2]
 · have := z a b
   subst this
   rw [show -(0 : Rat) = 0 by grind] at n2
   rw [e1, e2, near_zero n1, near_zero n2, fval_zero]; grind
 · have := z b a
   subst this
   rw [show -(0 : Rat) = 0 by grind] at n1
   rw [e1, e2, near_zero n1, near_zero n2, fval_zero]; grind
 · rw [e1, e2, near_fun n1 n2]
theorem RV.neg {q x : Rat} (h : RV q x) : RV (-q) (-x) := by
 obtain ⟨r, hr, h⟩ := h
 refine ⟨r, hr, ?_⟩
 rcases h with ⟨a, n, e⟩ | ⟨a, n, e⟩
 · exact Or.inr ⟨by grind, by rwa [show - -q = q by grind], by rw [e]⟩
 · exact Or.inl ⟨by grind, n, by rw [e]; grind⟩
theorem fval_rung (T k : Nat) (hk : k ≤ 9007199254740992) (hT : T = 0 ∨ 4503599627370496 ≤ k) (hr : T * 4503599627370496 + k < 9218868437227405312) : fval (T * 4503599627370496 + k) = ((k : Nat) : Rat) * U T := by
 rw [(fval_pos_lt hr).1]
 unfold U
 rcases Nat.lt_or_ge k 4503599627370496 with h | h
 · have e : T = 0 := by omega
   subst e
   rw [show fmag (0 * 4503599627370496 + k) = k by unfold fmag; rw [if_pos (by omega)]; omega, show fpl (0 * 4503599627370496 + k) = ((0 : Nat) : Int) - 1074 by unfold fpl; rw [if_pos (by omega)]; rfl]
 · rcases Nat.lt_or_ge k 9007199254740992 with h2 | h2
   · rw [show fmag (T * 4503599627370496 + k) = k by unfold fmag; rw [if_neg (by omega)]; omega, show fpl (T * 4503599627370496 + k) = (T : Int) - 1074 by unfold fpl; rw [if_neg (by omega)]; omega]
   · have e : k = 9007199254740992 := by omega
     subst e
     rw [show fmag (T * 4503599627370496 + 9007199254740992) = 4503599627370496 by unfold fmag; rw [if_neg (by omega)]; omega, show fpl (T * 4503599627370496 + 9007199254740992) = 1 + ((T : Int) - 1074) by unfold fpl; rw [if_neg (by omega)]; omega, p2_add, p2_one]
     rw [show ((9007199254740992 : Nat) : Rat) = 9007199254740992 from rfl, show ((4503599627370496 : Nat) : Rat) = 4503599627370496 from rfl]
     grind
theorem half_unit (T : Nat) : U T = 2 * p2 ((T : Int) - 1075) := by
 unfold U
 rw [show (T : Int) - 1074 = 1 + ((T : Int) - 1075) by omega, p2_add, p2_one]
theorem near_rnd {q : Rat} {r : Nat} (h : Near q r) (hr : r < 9218868437227405312) : ∃ T k, Rnd q (fval r) T k := by
 rcases h with ⟨rfl, rfl⟩ | ⟨hq, T, k, hl, hh, e⟩
 · have hu := U_pos 0
   exact ⟨0, 0, by rw [fval_zero]; rw [show ((0 : Int) : Rat) = 0 from rfl]; grind, by rw [fval_zero]; grind, by rw [fval_zero]; grind, Or.inl rfl, by grind, by grind, by omega, by omega⟩
 · have hb := kept_bounds hl hh
   have e' : r = T * 4503599627370496 + k := by omega
   have hv := fval_rung T k hb.1 hb.2 (by omega)
   rw [← e'] at hv
   have hU := half_unit T
   have hu := p2_pos ((T : Int) - 1075)
   obtain ⟨l1, l2⟩ := hl
   obtain ⟨s1, s2, _, _⟩ := hh
   rw [show ((18014398509481984 : Int) : Rat) = 18014398509481984 from rfl] at l2
   rw [show ((9007199254740992 : Int) : Rat) = 9007199254740992 from rfl] at l1
   have e1 : ((2 * (k : Int) - 1 : Int) : Rat) = 2 * ((k : Nat) : Rat) - 1 := by rw [Rat.intCast_sub, Rat.intCast_mul]; rfl
   have e2 : ((2 * (k : Int) + 1 : Int) : Rat) = 2 * ((k : Nat) : Rat) + 1 := by rw [Rat.intCast_add, Rat.intCast_mul]; rfl
   rw [e1] at s1
   rw [e2] at s2
   have kv : ((k : Nat) : Rat) * U T = 2 * (((k : Nat) : Rat) * p2 ((T : Int) - 1075)) := by rw [hU]; grind
   have z1 : (2 * ((k : Nat) : Rat) - 1) * p2 ((T : Int) - 1075) = 2 * (((k : Nat) : Rat) * p2 ((T : Int) - 1075)) - p2 ((T : Int) - 1075) := by grind
   have z2 : (2 * ((k : Nat) : Rat) + 1) * p2 ((T : Int) - 1075) = 2 * (((k : Nat) : Rat) * p2 ((T : Int) - 1075)) + p2 ((T : Int) - 1075) := by grind
   rw [z1] at s1
   rw [z2] at s2
   have hx : fval r = ((k : Int) : Rat) * U T := by rw [hv]; rfl
   rw [kv] at hv
   clear z1 z2 kv e1 e2 e e'
   generalize ((k : Nat) : Rat) * p2 ((T : Int) - 1075) = Z at *
   generalize p2 ((T : Int) - 1075) = h at *
   refine ⟨T, (k : Int), hx, by rw [hv, hU]; grind, by rw [hv, hU]; grind, ?_, by rw [hU]; grind, by rw [hU]; grind, by omega, by omega⟩
   rcases l1 with l1 | l1
   · exact Or.inl l1
   · exact Or.inr (Or.inl (by rw [hU]; grind))
theorem RV.rn {q x : Rat} (h : RV q x) : RN q x := by
 obtain ⟨r, hr, h⟩ := h
 rcases h with ⟨_, n, rfl⟩ | ⟨_, n, rfl⟩
 · exact near_rnd n hr
 · obtain ⟨T, k, R⟩ := near_rnd n hr
   have := R.neg
   rw [show - -q = q by grind] at this
   exact ⟨T, _, this⟩
theorem near_lt {q : Rat} {r : Nat} (h : Near q r) (hq : q < p2 1023) : r < 9218868437227405312 := by
 rcases h with ⟨rfl, rfl⟩ | ⟨_, T, k, hl, hh, e⟩
 · omega
 · have hb := kept_bounds hl hh
   have hT : T < 2045 := by
     rcases hl.1 with h | h
     · omega
     · have e1 : ((9007199254740992 : Int) : Rat) * p2 ((T : Int) - 1075) = p2 ((T : Int) - 1022) := by
         rw [show (T : Int) - 1022 = ((T : Int) - 1075) + ((53 : Nat) : Int) by omega, p2_add, p2_nat, Rat.mul_comm]; rfl
       rw [e1] at h
       have := p2_lt_iff.1 (lt_of_le_lt h hq)
       omega
   omega
theorem fc_word {b : Nat} (h : Fin64 b) : ∃ S m, FC (fval b) S m := by
 have key : ∀ r, r < 9218868437227405312 → ∃ S m, FC ((fmag r : Nat) * p2 (fpl r)) S m := by
   intro r _
   have hm := fmag_lt r
   by_cases h : r < 4503599627370496
   · refine ⟨0, (fmag r : Int), ?_, by omega, by omega, Or.inl rfl⟩
     unfold U fpl
     rw [if_pos h]; rfl
   · refine ⟨r / 4503599627370496 - 1, (fmag r : Int), ?_, by omega, by omega, Or.inr (Or.inl ?_)⟩
     · unfold U fpl
       rw [if_neg h, show ((r / 4503599627370496 - 1 : Nat) : Int) - 1074 = -1074 + ((r / 4503599627370496 - 1 : Nat) : Int) by omega]; rfl
     · unfold fmag; rw [if_neg h]; omega
 obtain ⟨S, m, c⟩ := key (frung b) h
 unfold fval sgn1
 cases fneg b
 · refine ⟨S, m, ?_⟩
   rw [if_neg (by decide), Rat.one_mul]; exact c
 · refine ⟨S, -m, ?_⟩
   rw [if_pos rfl]
   have := c.neg
   rwa [show -((fmag (frung b) : Nat) * p2 (fpl (frung b)) : Rat) = -1 * ((fmag (frung b) : Nat) * p2 (fpl (frung b))) by grind] at this
theorem write_rv (s : Bool) (m : Nat) (place : Int) (hq : ((m : Nat) : Rat) * p2 place < p2 1023) : ∃ r, Ieee.double.write (.number s m place) = r ∧ Fin64 r ∧ r < 18446744073709551616 ∧ RV (sgn1 s * ((m : Nat) * p2 place)) (fval r) := by
 have fin : ∀ r0, r0 < 9218868437227405312 → Near ((m : Nat) * p2 place) r0 → ∃ r, Ieee.double.word s r0 = r ∧ Fin64 r ∧ r < 18446744073709551616 ∧ RV (sgn1 s * ((m : Nat) * p2 place)) (fval r) := by
   intro r0 h0 hn
   have hnn := (near_nonneg hn).1
   unfold sgn1
   cases s
   · refine ⟨r0, rfl, by unfold Fin64 frung; omega, by omega, r0, h0, Or.inl ?_⟩
     rw [if_neg (by decide), Rat.one_mul]
     exact ⟨hnn, hn, rfl⟩
   · refine ⟨9223372036854775808 + r0, by rw [Ieee.Format.word, d_sw]; rfl, by unfold Fin64 frung; omega, by omega, r0, h0, Or.inr ?_⟩
     rw [if_pos rfl, fval_word h0]
     generalize ((m : Nat) : Rat) * p2 place = z at *
     exact ⟨by grind, by rwa [show -(-1 * z) = z by grind], rfl⟩
 show ∃ r, Ieee.double.nearest s m place = r ∧ _
 by_cases hm : m = 0
 · subst hm
   have : Ieee.double.nearest s 0 place = Ieee.double.word s 0 := by unfold Ieee.Format.nearest; rw [if_pos rfl]
   rw [this]
   exact fin 0 (by omega) (Or.inl ⟨by rw [show ((0 : Nat) : Rat) = 0 from rfl]; grind, rfl⟩)
 · obtain ⟨r0, e, hn⟩ := nearest_near s m place hm
   rw [e]
   exact fin r0 (near_lt hn hq) hn
end

/- Sums, differences and products of words. -/
section
def Lim (q : Rat) : Prop := q < p2 1023 ∧ -q < p2 1023
theorem abs_total (n : Int) (u : Rat) : ((n.natAbs : Nat) : Rat) * u = (if n < 0 then -((n : Rat) * u) else (n : Rat) * u) := by
 by_cases h : n < 0
 · rw [if_pos h]
   have e : ((n.natAbs : Nat) : Rat) = ((-n : Int) : Rat) := by
     rw [show ((n.natAbs : Nat) : Rat) = ((n.natAbs : Int) : Rat) from rfl, show (n.natAbs : Int) = -n by omega]
   rw [e, Rat.intCast_neg]; grind
 · rw [if_neg h]
   rw [show ((n.natAbs : Nat) : Rat) = ((n.natAbs : Int) : Rat) from rfl, show (n.natAbs : Int) = n by omega]
theorem fval_eq (b : Nat) : fval b = sgn1 (fneg b) * ((fmag (frung b) : Nat) * p2 (fpl (frung b))) := rfl
end

/- The reference's Of: what a float denotes. -/
section
open Go.RowKit
def den (b : Nat) : Rat := if frung b < 9218868437227405312 then fval b else 0
end
end Go.Proofs.YtgoadpnoagaflaaGreatDoor
