/- Own texts, put together: Eq Ea En Eo Eb Ec Ed Er Es. -/
import Derived.Test.YtofklahgpkmfmaaGreatDoorQ1
import Derived.Test.YtofklahgpkmfmaaGreatDoorQ6
import Derived.WalkKit
import Derived.WalkSpells
import Derived.WalkLawsBesides
import Derived.Laws.FloatArith
namespace Go.Proofs.YtofklahgpkmfmaaGreatDoor
/- Two floats added: what is rounded off is told exactly (Dekker, Knuth). -/
section
structure FC (z : Rat) (S : Nat) (m : Int) : Prop where
 hz : z = (m : Rat) * U S
 m1 : -9007199254740992 < m
 m2 : m < 9007199254740992
 h3 : S = 0 ∨ 4503599627370496 ≤ m ∨ m ≤ -4503599627370496
theorem FC.f {z : Rat} {S : Nat} {m : Int} (h : FC z S m) : F z := ⟨S, m, h.hz, by have := h.m1; omega, by have := h.m2; omega⟩
theorem FC.neg {z : Rat} {S : Nat} {m : Int} (h : FC z S m) : FC (-z) S (-m) :=
 ⟨by rw [h.hz, Rat.intCast_neg]; grind, by have := h.m2; omega, by have := h.m1; omega, by have := h.h3; omega⟩
theorem Rnd.neg {q x : Rat} {T : Nat} {k : Int} (R : Rnd q x T k) : Rnd (-q) (-x) T (-k) := by
 obtain ⟨hx, h1, h2, h3, h4, h5, k1, k2⟩ := R
 exact ⟨by rw [hx, Rat.intCast_neg]; grind, by grind, by grind, by rcases h3 with h | h | h; exact Or.inl h; exact Or.inr (Or.inr (by grind)); exact Or.inr (Or.inl (by grind)), by grind, by grind, by omega, by omega⟩
theorem FC.mul {z : Rat} {S : Nat} {m : Int} (h : FC z S m) : M (U S) z := ⟨m, h.hz⟩
theorem FC.size {z : Rat} {S : Nat} {m : Int} (h : FC z S m) : z ≤ 9007199254740991 * U S ∧ -z ≤ 9007199254740991 * U S := by
 have hu := U_pos S
 have m1 := h.m1
 have m2 := h.m2
 have a1 := Rat.mul_le_mul_of_nonneg_right (Rat.intCast_le_intCast.2 (by omega : m ≤ 9007199254740991)) (Rat.le_of_lt hu)
 have a2 := Rat.mul_le_mul_of_nonneg_right (Rat.intCast_le_intCast.2 (by omega : -9007199254740991 ≤ m)) (Rat.le_of_lt hu)
 rw [show ((9007199254740991 : Int) : Rat) = 9007199254740991 from rfl] at a1
 rw [show ((-9007199254740991 : Int) : Rat) = -9007199254740991 from rfl] at a2
 rw [h.hz]
 constructor <;> grind
def RN (q x : Rat) : Prop := ∃ T k, Rnd q x T k
theorem RN.exact {q x : Rat} (h : RN q x) (hf : F q) : x = q := by obtain ⟨_, _, R⟩ := h; exact R.exact hf
end

/- Floats that are not below 0 are in the order of their words. -/
section
theorem fval_lt {r s : Nat} (h : r < s) (hs : s < 9218868437227405312) : fval r < fval s := by
 have h1 := (fval_pos_lt (Nat.lt_trans h hs)).1
 have h2 := (fval_pos_lt hs).1
 have key : (fpl r = fpl s ∧ fmag r < fmag s) ∨ (fpl r + 1 ≤ fpl s ∧ 4503599627370496 ≤ fmag s) := by
   unfold fpl fmag
   split <;> split <;> omega
 have hm := fmag_lt r
 rw [h1, h2]
 rcases key with ⟨e, hm⟩ | ⟨e, hm'⟩
 · rw [e]
   exact Rat.mul_lt_mul_of_pos_right (Rat.natCast_lt_natCast.2 hm) (p2_pos _)
 · have a1 := Rat.mul_lt_mul_of_pos_right (Rat.natCast_lt_natCast.2 hm) (p2_pos (fpl r))
   have a2 : ((9007199254740992 : Nat) : Rat) * p2 (fpl r) = ((4503599627370496 : Nat) : Rat) * p2 (fpl r + 1) := by
     rw [p2_add, p2_one, show ((9007199254740992 : Nat) : Rat) = ((4503599627370496 : Nat) : Rat) * 2 by decide +kernel]
     generalize ((4503599627370496 : Nat) : Rat) = X
     grind
   have a3 := Rat.mul_le_mul_of_nonneg_left (p2_mono e) (Rat.natCast_nonneg (a := 4503599627370496))
   have a4 := Rat.mul_le_mul_of_nonneg_right (Rat.natCast_le_natCast.2 hm') (Rat.le_of_lt (p2_pos (fpl s)))
   rw [a2] at a1
   generalize ((fmag r : Nat) : Rat) * p2 (fpl r) = X at *
   generalize ((4503599627370496 : Nat) : Rat) * p2 (fpl r + 1) = Y at *
   generalize ((4503599627370496 : Nat) : Rat) * p2 (fpl s) = Z at *
   generalize ((fmag s : Nat) : Rat) * p2 (fpl s) = V at *
   grind
theorem order_rung {r s : Nat} (hr : r ≤ 9218868437227405312) (hs : s < 9218868437227405312) : Ieee.double.order r s = some (if r < s then .lt else if r = s then .eq else .gt) := by
 have hfs : Fin64 s := by unfold Fin64 frung; omega
 rcases Nat.lt_or_ge r 9218868437227405312 with h | h
 · have hfr : Fin64 r := by unfold Fin64 frung; omega
   rw [order_fin hfr hfs]
   rcases Nat.lt_trichotomy r s with e | e | e
   · rw [if_pos (fval_lt e hs), if_pos e]
   · subst e
     rw [if_neg Rat.lt_irrefl, if_pos rfl, if_neg (Nat.lt_irrefl _), if_pos rfl]
   · have := fval_lt e h
     rw [if_neg (by grind), if_neg (by grind), if_neg (by omega), if_neg (by omega)]
 · have e : r = 9218868437227405312 := by omega
   subst e
   rw [order_inf_fin (by unfold frung; omega) hfs]
   have : fneg 9218868437227405312 = false := by decide
   rw [this, if_neg (by decide : ¬ (false = true)), if_neg (by omega : ¬ 9218868437227405312 < s), if_neg (by omega : ¬ 9218868437227405312 = s)]
theorem fval_word {r : Nat} (h : r < 9218868437227405312) : fval (9223372036854775808 + r) = -fval r := by
 have e1 : frung (9223372036854775808 + r) = r := by unfold frung; omega
 have e2 : fneg (9223372036854775808 + r) = true := by unfold fneg; simp; omega
 have e3 : frung r = r := by unfold frung; omega
 have e4 : fneg r = false := by unfold fneg; simp; omega
 unfold fval
 rw [e1, e2, e3, e4]
 unfold sgn1
 rw [if_pos rfl, if_neg (by decide)]
 generalize ((fmag r : Nat) : Rat) * p2 (fpl r) = X
 grind
end

/- The float nearest to a number: plain facts. -/
section
def Half (q u : Rat) (k : Nat) : Prop :=
 ((2 * (k : Int) - 1 : Int) : Rat) * u ≤ q ∧ q ≤ ((2 * (k : Int) + 1 : Int) : Rat) * u ∧ (q = ((2 * (k : Int) - 1 : Int) : Rat) * u → k % 2 = 0) ∧ (q = ((2 * (k : Int) + 1 : Int) : Rat) * u → k % 2 = 0)
def Last (q : Rat) (T : Nat) : Prop := (T = 0 ∨ ((9007199254740992 : Int) : Rat) * p2 ((T : Int) - 1075) ≤ q) ∧ q < ((18014398509481984 : Int) : Rat) * p2 ((T : Int) - 1075)
def Near (q : Rat) (r : Nat) : Prop :=
 (q = 0 ∧ r = 0) ∨ (0 < q ∧ ∃ T k : Nat, Last q T ∧ Half q (p2 ((T : Int) - 1075)) k ∧ r = min (T * 4503599627370496 + k) 9218868437227405312)
theorem lt_of_le_lt {a b c : Rat} (h1 : a ≤ b) (h2 : b < c) : a < c := by grind
theorem lt_of_lt_le {a b c : Rat} (h1 : a < b) (h2 : b ≤ c) : a < c := by grind
theorem le_of_same {a b : Rat} (h : a = b) : a ≤ b := by rw [h]; exact Rat.le_refl
theorem int_le {a b : Int} {u : Rat} (hu : 0 < u) (h : (a : Rat) * u ≤ (b : Rat) * u) : a ≤ b := by
 rcases Int.lt_or_le b a with h1 | h1
 · have h2 : (b : Rat) < (a : Rat) := Rat.intCast_lt_intCast.2 h1
   have h3 := Rat.mul_lt_mul_of_pos_right h2 hu
   grind
 · exact h1
theorem int_lt {a b : Int} {u : Rat} (hu : 0 < u) (h : (a : Rat) * u < (b : Rat) * u) : a < b := by
 rcases Int.lt_or_le a b with h1 | h1
 · exact h1
 · have h2 : (b : Rat) ≤ (a : Rat) := Rat.intCast_le_intCast.2 h1
   have h3 := Rat.mul_le_mul_of_nonneg_right h2 (Rat.le_of_lt hu)
   grind
theorem le_int {a b : Int} {u : Rat} (hu : 0 < u) (h : a ≤ b) : (a : Rat) * u ≤ (b : Rat) * u :=
 Rat.mul_le_mul_of_nonneg_right (Rat.intCast_le_intCast.2 h) (Rat.le_of_lt hu)
theorem kept_bounds {q : Rat} {T k : Nat} (hl : Last q T) (hh : Half q (p2 ((T : Int) - 1075)) k) : k ≤ 9007199254740992 ∧ (T = 0 ∨ 4503599627370496 ≤ k) := by
 obtain ⟨h1, h2⟩ := hl
 obtain ⟨h3, h4, _, _⟩ := hh
 have hu := p2_pos ((T : Int) - 1075)
 have a := int_lt hu (lt_of_le_lt h3 h2)
 refine ⟨by omega, h1.imp id fun h => ?_⟩
 have b := int_le hu (Rat.le_trans h h4)
 omega
theorem half_mono {p q u : Rat} {j k : Nat} (hu : 0 < u) (h : p ≤ q) (h1 : Half p u j) (h2 : Half q u k) : j ≤ k := by
 obtain ⟨a1, a2, a3, a4⟩ := h1
 obtain ⟨b1, b2, b3, b4⟩ := h2
 have c := int_le hu (Rat.le_trans (Rat.le_trans a1 h) b2)
 rcases Nat.lt_or_ge k j with hk | hk
 · have e : (2 * (j : Int) - 1 : Int) = 2 * (k : Int) + 1 := by omega
   have e1 : p = ((2 * (j : Int) - 1 : Int) : Rat) * u := Rat.le_antisymm (by rw [e]; exact Rat.le_trans h b2) a1
   have e2 : q = ((2 * (k : Int) + 1 : Int) : Rat) * u := Rat.le_antisymm b2 (by rw [← e]; exact Rat.le_trans a1 h)
   have := a3 e1
   have := b4 e2
   omega
 · exact hk
theorem last_mono {p q : Rat} {S T : Nat} (h : p ≤ q) (h1 : Last p S) (h2 : Last q T) : S ≤ T := by
 rcases Nat.lt_or_ge T S with hk | hk
 · rcases h1.1 with h0 | h0
   · omega
   · have h3 := lt_of_le_lt (Rat.le_trans h0 h) h2.2
     have e : ((S : Int) - 1075) = ((T : Int) - 1075) + ((S - T : Nat) : Int) := by omega
     rw [e, p2_add] at h3
     have hu := p2_pos ((T : Int) - 1075)
     have h4 : (2 : Rat) ≤ p2 ((S - T : Nat) : Int) := by
       have := p2_mono (a := 1) (b := ((S - T : Nat) : Int)) (by omega)
       rwa [p2_one] at this
     have h5 := Rat.mul_le_mul_of_nonneg_right h4 (Rat.le_of_lt hu)
     have e1 : ((18014398509481984 : Int) : Rat) = ((9007199254740992 : Int) : Rat) * 2 := by rw [show (18014398509481984 : Int) = 9007199254740992 * 2 from rfl, Rat.intCast_mul]; rfl
     have hn : (0 : Rat) ≤ ((9007199254740992 : Int) : Rat) := by rw [show (0 : Rat) = ((0 : Int) : Rat) from rfl]; exact Rat.intCast_le_intCast.2 (by omega)
     rw [e1] at h3
     generalize ((9007199254740992 : Int) : Rat) = N at *
     have h6 := Rat.mul_le_mul_of_nonneg_left h5 hn
     grind
 · exact hk
theorem near_mono {p q : Rat} {r s : Nat} (h : p ≤ q) (h1 : Near p r) (h2 : Near q s) : r ≤ s := by
 rcases h1 with ⟨_, rfl⟩ | ⟨hp, S, j, a1, a2, rfl⟩
 · omega
 · rcases h2 with ⟨hq, _⟩ | ⟨hq, T, k, b1, b2, rfl⟩
   · grind
   · have hST := last_mono h a1 b1
     have c1 := kept_bounds a1 a2
     have c2 := kept_bounds b1 b2
     rcases Nat.lt_or_ge S T with hk | hk
     · omega
     · have e : S = T := by omega
       subst e
       have := half_mono (p2_pos _) h a2 b2
       omega
theorem near_nonneg {q : Rat} {r : Nat} (h : Near q r) : 0 ≤ q ∧ r ≤ 9218868437227405312 := by
 rcases h with ⟨rfl, rfl⟩ | ⟨hq, T, k, _, _, rfl⟩
 · exact ⟨by decide, by omega⟩
 · exact ⟨Rat.le_of_lt hq, by omega⟩
theorem near_fun {q : Rat} {r s : Nat} (h1 : Near q r) (h2 : Near q s) : r = s := Nat.le_antisymm (near_mono Rat.le_refl h1 h2) (near_mono Rat.le_refl h2 h1)
theorem near_zero {r : Nat} (h : Near 0 r) : r = 0 := near_fun h (Or.inl ⟨rfl, rfl⟩)
end

/- The model's rounding is to the nearest, the even one between two. -/
section
theorem cut_even (neg : Bool) (n d : Nat) : ∃ k, Ieee.Toward.even.cut neg n d = k ∧ 2 * (k * 2 ^ d) ≤ 2 * n + 2 ^ d ∧ 2 * n ≤ 2 * (k * 2 ^ d) + 2 ^ d ∧ (2 * (k * 2 ^ d) = 2 * n + 2 ^ d → k % 2 = 0) ∧ (2 * n = 2 * (k * 2 ^ d) + 2 ^ d → k % 2 = 0) := by
 refine ⟨_, rfl, ?_⟩
 unfold Ieee.Toward.cut
 simp only [Nat.shiftLeft_eq, Nat.one_mul]
 rcases Nat.lt_or_ge (n.log2 + 2) d with h | h
 · rw [Nat.min_eq_right (by omega)]
   have h1 : n < 2 ^ (n.log2 + 1) := Nat.lt_log2_self
   have h2 : 2 ^ (n.log2 + 2) = 2 * 2 ^ (n.log2 + 1) := by rw [Nat.pow_succ]; omega
   have h3 : 2 ^ (n.log2 + 2) ≤ 2 ^ d := Nat.pow_le_pow_right (by omega) (by omega)
   generalize hg : 2 ^ (n.log2 + 2) = g at *
   generalize 2 ^ (n.log2 + 1) = g1 at *
   generalize 2 ^ d = D at *
   have e1 : n / g = 0 := Nat.div_eq_of_lt (by omega)
   have e2 : n % g = n := Nat.mod_eq_of_lt (by omega)
   rw [e1, e2]
   have e3 : (decide (g < 2 * n) || g == 2 * n && 0 % 2 == 1) = false := by simp; omega
   rw [e3]
   simp
   omega
 · rw [Nat.min_eq_left h]
   have hg : 0 < 2 ^ d := Nat.two_pow_pos d
   generalize 2 ^ d = g at *
   have hd := Nat.div_add_mod n g
   have hm := Nat.mod_lt n hg
   generalize n / g = low at *
   generalize n % g = rest at *
   rw [Nat.mul_comm] at hd
   by_cases hmore : g < 2 * rest ∨ (g = 2 * rest ∧ low % 2 = 1)
   · have e3 : (decide (g < 2 * rest) || g == 2 * rest && low % 2 == 1) = true := by simpa using hmore
     rw [e3]
     have : (low + true.toNat) * g = low * g + g := by simp [Nat.add_mul]
     rw [this]
     generalize low * g = P at *
     refine ⟨by omega, by omega, ?_, ?_⟩
     · intro h; simp; omega
     · intro h; simp; omega
   · have e3 : (decide (g < 2 * rest) || g == 2 * rest && low % 2 == 1) = false := by
       rw [Bool.eq_false_iff]; intro h; apply hmore; simpa using h
     rw [e3]
     have : (low + false.toNat) * g = low * g := by simp
     rw [this]
     generalize low * g = P at *
     refine ⟨by omega, by omega, ?_, ?_⟩
     · intro h; simp; omega
     · intro h; simp; omega
theorem int_eq {a b : Int} {u : Rat} (hu : 0 < u) (h : (a : Rat) * u = (b : Rat) * u) : a = b :=
 Int.le_antisymm (int_le hu (le_of_same h)) (int_le hu (le_of_same h.symm))
theorem log_bounds (mag : Nat) (hm : mag ≠ 0) (place : Int) : p2 (place + (mag.log2 : Nat)) ≤ (mag : Nat) * p2 place ∧ ((mag : Nat) : Rat) * p2 place < p2 (place + (mag.log2 : Nat) + 1) := by
 have h1 : 2 ^ mag.log2 ≤ mag := Nat.log2_self_le hm
 have h2 : mag < 2 ^ (mag.log2 + 1) := Nat.lt_log2_self
 have hp := p2_pos place
 constructor
 · rw [p2_add, p2_nat, Rat.mul_comm]
   exact Rat.mul_le_mul_of_nonneg_right (Rat.natCast_le_natCast.2 h1) (Rat.le_of_lt hp)
 · rw [show place + (mag.log2 : Nat) + 1 = place + ((mag.log2 + 1 : Nat) : Int) by omega, p2_add, p2_nat, Rat.mul_comm (p2 place)]
   exact Rat.mul_lt_mul_of_pos_right (Rat.natCast_lt_natCast.2 h2) hp
theorem nearest_near (neg : Bool) (mag : Nat) (place : Int) (hm : mag ≠ 0) : ∃ r, Ieee.double.nearest neg mag place = Ieee.double.word neg r ∧ Near ((mag : Nat) * p2 place) r := by
 unfold Ieee.Format.nearest
 rw [if_neg hm]
 simp only [d_lp, d_bin, d_inf, show Ieee.double.fractionBits = 52 from rfl]
 obtain ⟨last, hlast⟩ : ∃ l : Int, l = max (place + (mag.log2 : Nat) - ((52 : Nat) : Int)) (-1074) := ⟨_, rfl⟩
 rw [← hlast]
 obtain ⟨k, hk, c1, c2, c3, c4⟩ := cut_even neg (mag <<< (place - last).toNat) (last - place).toNat
 rw [hk]
 refine ⟨_, rfl, Or.inr ⟨?_, (last + 1074).toNat, k, ?_, ?_, by rw [show last - -1074 = last + 1074 by omega]⟩⟩
 · exact Rat.mul_pos (Rat.natCast_pos.2 (by omega)) (p2_pos _)
 · have hb := log_bounds mag hm place
   have eT : (((last + 1074).toNat : Nat) : Int) - 1075 = last - 1 := by omega
   rw [Last, eT]
   have x1 : ((9007199254740992 : Int) : Rat) * p2 (last - 1) = p2 (last + 52) := by
     rw [show last + 52 = (last - 1) + ((53 : Nat) : Int) by omega, p2_add, p2_nat, Rat.mul_comm]; rfl
   have x2 : ((18014398509481984 : Int) : Rat) * p2 (last - 1) = p2 (last + 53) := by
     rw [show last + 53 = (last - 1) + ((54 : Nat) : Int) by omega, p2_add, p2_nat, Rat.mul_comm]; rfl
   rw [x1, x2]
   constructor
   · by_cases h : last = -1074
     · left; omega
     · right
       have := p2_mono (a := last + 52) (b := place + (mag.log2 : Nat)) (by omega)
       exact Rat.le_trans this hb.1
   · exact lt_of_lt_le hb.2 (p2_mono (by omega))
 · have eT : (((last + 1074).toNat : Nat) : Int) - 1075 = last - 1 := by omega
   rw [eT]
   generalize hd : (last - place).toNat = d at *
   generalize hn : mag <<< (place - last).toNat = n at *
   rw [Nat.shiftLeft_eq] at hn
   have hv := p2_pos (last - (d : Nat) - 1)
   have e1 : ((mag : Nat) : Rat) * p2 place = ((2 * (n : Int) : Int) : Rat) * p2 (last - (d : Nat) - 1) := by
     have a1 : ((2 * (n : Int) : Int) : Rat) = 2 * ((n : Nat) : Rat) := by rw [Rat.intCast_mul]; rfl
     have a2 : p2 (last - (d : Nat)) = 2 * p2 (last - (d : Nat) - 1) := by
       have := p2_add 1 (last - (d : Nat) - 1)
       rwa [p2_one, show 1 + (last - (d : Nat) - 1) = last - (d : Nat) by omega] at this
     have a3 : ((mag : Nat) : Rat) * p2 place = ((n : Nat) : Rat) * p2 (last - (d : Nat)) := by
       rw [← hn, nat_mul_p2, Rat.mul_assoc, ← p2_add]
       congr 2; omega
     rw [a3, a1, a2]
     generalize p2 (last - (d : Nat) - 1) = v
     grind
   have e2 : ∀ z : Int, (z : Rat) * p2 (last - 1) = ((z * ((2 ^ d : Nat) : Int) : Int) : Rat) * p2 (last - (d : Nat) - 1) := fun z => by
     rw [show last - 1 = (d : Nat) + (last - (d : Nat) - 1) by omega, p2_add, p2_nat, Rat.intCast_mul, Rat.mul_assoc]; rfl
   rw [e1]
   unfold Half
   rw [e2, e2]
   have y1 : (2 * (k : Int) - 1) * ((2 ^ d : Nat) : Int) = 2 * ((k * 2 ^ d : Nat) : Int) - ((2 ^ d : Nat) : Int) := by rw [Int.natCast_mul]; grind
   have y2 : (2 * (k : Int) + 1) * ((2 ^ d : Nat) : Int) = 2 * ((k * 2 ^ d : Nat) : Int) + ((2 ^ d : Nat) : Int) := by rw [Int.natCast_mul]; grind
   rw [y1, y2]
   generalize k * 2 ^ d = P at *
   generalize 2 ^ d = D at *
   refine ⟨le_int hv (by omega), le_int hv (by omega), ?_, ?_⟩
   · intro h
     have := int_eq hv h
     exact c3 (by omega)
   · intro h
     have := int_eq hv h
     exact c4 (by omega)
end

/- Which floats are tame, which are safe: the program's. -/
section
open Go.RowKit
theorem leq_word {r c : Nat} (hr : r < 9223372036854775808) (hc : c < 9218868437227405312) : (FloatKind.f64.format.order r c == some .lt || FloatKind.f64.format.order r c == some .eq) = decide (r ≤ c) := by
 show (Ieee.double.order r c == some .lt || Ieee.double.order r c == some .eq) = _
 rcases Nat.lt_or_ge 9218868437227405312 r with h | h
 · rw [order_nan_left (by unfold frung; omega)]
   simp; omega
 · rw [order_rung h hc]
   rcases Nat.lt_trichotomy r c with e | e | e
   · rw [if_pos e]; simp; omega
   · subst e; simp
   · rw [if_neg (by omega), if_neg (by omega)]; simp; omega
def SafeW (r : Nat) : Prop := r = 0 ∨ (2580562586483294208 ≤ r ∧ r ≤ 6633802251116740608)
instance (r : Nat) : Decidable (SafeW r) := by unfold SafeW; exact inferInstance
end

/- Which floats are tame, which are safe: the document's. -/
section
open Go.RowKit
end

/- Tame and safe, as the document has them. -/
section
open Go.RowKit
def fflip (b : Nat) : Nat := if b < 9223372036854775808 then b + 9223372036854775808 else b - 9223372036854775808
theorem negF_eq (b : Nat) (hb : b < 18446744073709551616) : Op.negFloat .f64 b = fflip b := by
 show b ^^^ 2 ^ 63 = fflip b
 unfold fflip
 split
 · rename_i h
   have := Nat.two_pow_add_eq_or_of_lt (i := 63) (b := b) (by simpa using h) 1
   rw [show b + 9223372036854775808 = 2 ^ 63 * 1 + b by omega, this]
   apply Nat.eq_of_testBit_eq
   intro i
   simp only [Nat.testBit_xor, Nat.testBit_or, Nat.testBit_two_pow, Nat.mul_one]
   by_cases e : 63 = i
   · subst e
     have : b.testBit 63 = false := Nat.testBit_lt_two_pow (by simpa using h)
     simp [this]
   · simp [e]
 · rename_i h
   obtain ⟨r, rfl⟩ : ∃ r, b = 9223372036854775808 + r := ⟨b - 9223372036854775808, by omega⟩
   have hr : r < 2 ^ 63 := by omega
   have := Nat.two_pow_add_eq_or_of_lt (i := 63) (b := r) hr 1
   rw [show 9223372036854775808 + r - 9223372036854775808 = r by omega, show 9223372036854775808 + r = 2 ^ 63 * 1 + r by omega, this]
   apply Nat.eq_of_testBit_eq
   intro i
   simp only [Nat.testBit_xor, Nat.testBit_or, Nat.testBit_two_pow, Nat.mul_one]
   by_cases e : 63 = i
   · subst e
     have : r.testBit 63 = false := Nat.testBit_lt_two_pow hr
     simp [this]
   · simp [e]
theorem run_negF (b : Nat) (hb : b < 18446744073709551616) (w : World) : (Op.unary .neg (.float .f64 b)).run Tryz.prog w = .ok (.float .f64 (fflip b)) w := by
 show Result.ok (Value.float .f64 (Op.negFloat .f64 b)) w = _
 rw [negF_eq b hb]
theorem eql_self (b : Nat) : (FloatKind.f64.format.order b b == some .eq) = decide (frung b ≤ 9218868437227405312) := by
 show (Ieee.double.order b b == some .eq) = _
 rcases Nat.lt_trichotomy (frung b) 9218868437227405312 with h | h | h
 · rw [order_fin h h, if_neg Rat.lt_irrefl, if_pos rfl]; simp; omega
 · rw [order_inf_self h]; simp; omega
 · rw [order_nan_left h]; simp; omega
theorem fin_zero : Fin64 0 := by unfold Fin64 frung; decide
theorem fval_zero : fval 0 = 0 := fval_zero_iff.2 rfl
theorem eql_zero2 (b : Nat) : (FloatKind.f64.format.order b 0 == some .eq) = decide (frung b = 0) := by
 show (Ieee.double.order b 0 == some .eq) = _
 rcases Nat.lt_trichotomy (frung b) 9218868437227405312 with h | h | h
 · rw [order_fin h fin_zero, fval_zero]
   by_cases e : fval b = 0
   · rw [e, if_neg Rat.lt_irrefl, if_pos rfl]; simp [fval_zero_iff.1 e]
   · have : frung b ≠ 0 := fun e' => e (fval_zero_iff.2 e')
     by_cases e2 : fval b < 0
     · rw [if_pos e2]; simp [this]
     · rw [if_neg e2, if_neg e]; simp [this]
 · rw [order_inf_fin h fin_zero]
   cases fneg b <;> simp <;> omega
 · rw [order_nan_left h]; simp; omega
end

/- What the language has of a sum, a difference, a product of two floats: the number, rounded. -/
section
def RV (q x : Rat) : Prop := ∃ r, r < 9218868437227405312 ∧ ((0 ≤ q ∧ Near q r ∧ x = fval r) ∨ (q ≤ 0 ∧ Near (-q) r ∧ x = -fval r))
theorem RV.fn {q x y : Rat} (h1 : RV q x) (h2 : RV q y) : x = y := by
 obtain ⟨r, _, h1⟩ := h1
 obtain ⟨s, _, h2⟩ := h2
 have z : ∀ {p : Rat}, 0 ≤ p → p ≤ 0 → p = 0 := fun a b => Rat.le_antisymm b a
 rcases h1 with ⟨a, n1, e1⟩ | ⟨a, n1, e1⟩ <;> rcases h2 with ⟨b, n2, e2⟩ | ⟨b, n2, e2⟩
 · rw [e1, e2, near_fun n1 n2]
 · have := z a b
   subst this
   rw [show -(0 : Rat) = 0 by grind] at n2
   rw [e1, e2, near_zero n1, near_zero n2, fval_zero]; grind
 · have := z b a
   subst this
   rw [show -(0 : Rat) = 0 by grind] at n1
   rw [e1, e2, near_zero n1, near_zero n2, fval_zero]; grind
 · rw [e1, e2, near_fun n1 n2]
theorem RV.neg {q x : Rat} (h : RV q x) : RV (-q) (-x) := by
 obtain ⟨r, hr, h⟩ := h
 refine ⟨r, hr, ?_⟩
 rcases h with ⟨a, n, e⟩ | ⟨a, n, e⟩
 · exact Or.inr ⟨by grind, by rwa [show - -q = q by grind], by rw [e]⟩
 · exact Or.inl ⟨by grind, n, by rw [e]; grind⟩
theorem fval_rung (T k : Nat) (hk : k ≤ 9007199254740992) (hT : T = 0 ∨ 4503599627370496 ≤ k) (hr : T * 4503599627370496 + k < 9218868437227405312) : fval (T * 4503599627370496 + k) = ((k : Nat) : Rat) * U T := by
 rw [(fval_pos_lt hr).1]
 unfold U
 rcases Nat.lt_or_ge k 4503599627370496 with h | h
 · have e : T = 0 := by omega
   subst e
   rw [show fmag (0 * 4503599627370496 + k) = k by unfold fmag; rw [if_pos (by omega)]; omega, show fpl (0 * 4503599627370496 + k) = ((0 : Nat) : Int) - 1074 by unfold fpl; rw [if_pos (by omega)]; rfl]
 · rcases Nat.lt_or_ge k 9007199254740992 with h2 | h2
   · rw [show fmag (T * 4503599627370496 + k) = k by unfold fmag; rw [if_neg (by omega)]; omega, show fpl (T * 4503599627370496 + k) = (T : Int) - 1074 by unfold fpl; rw [if_neg (by omega)]; omega]
   · have e : k = 9007199254740992 := by omega
     subst e
     rw [show fmag (T * 4503599627370496 + 9007199254740992) = 4503599627370496 by unfold fmag; rw [if_neg (by omega)]; omega, show fpl (T * 4503599627370496 + 9007199254740992) = 1 + ((T : Int) - 1074) by unfold fpl; rw [if_neg (by omega)]; omega, p2_add, p2_one]
     rw [show ((9007199254740992 : Nat) : Rat) = 9007199254740992 from rfl, show ((4503599627370496 : Nat) : Rat) = 4503599627370496 from rfl]
     grind
theorem half_unit (T : Nat) : U T = 2 * p2 ((T : Int) - 1075) := by
 unfold U
 rw [show (T : Int) - 1074 = 1 + ((T : Int) - 1075) by omega, p2_add, p2_one]
theorem near_rnd {q : Rat} {r : Nat} (h : Near q r) (hr : r < 9218868437227405312) : ∃ T k, Rnd q (fval r) T k := by
 rcases h with ⟨rfl, rfl⟩ | ⟨hq, T, k, hl, hh, e⟩
 · have hu := U_pos 0
   exact ⟨0, 0, by rw [fval_zero]; rw [show ((0 : Int) : Rat) = 0 from rfl]; grind, by rw [fval_zero]; grind, by rw [fval_zero]; grind, Or.inl rfl, by grind, by grind, by omega, by omega⟩
 · have hb := kept_bounds hl hh
   have e' : r = T * 4503599627370496 + k := by omega
   have hv := fval_rung T k hb.1 hb.2 (by omega)
   rw [← e'] at hv
   have hU := half_unit T
   have hu := p2_pos ((T : Int) - 1075)
   obtain ⟨l1, l2⟩ := hl
   obtain ⟨s1, s2, _, _⟩ := hh
   rw [show ((18014398509481984 : Int) : Rat) = 18014398509481984 from rfl] at l2
   rw [show ((9007199254740992 : Int) : Rat) = 9007199254740992 from rfl] at l1
   have e1 : ((2 * (k : Int) - 1 : Int) : Rat) = 2 * ((k : Nat) : Rat) - 1 := by rw [Rat.intCast_sub, Rat.intCast_mul]; rfl
   have e2 : ((2 * (k : Int) + 1 : Int) : Rat) = 2 * ((k : Nat) : Rat) + 1 := by rw [Rat.intCast_add, Rat.intCast_mul]; rfl
   rw [e1] at s1
   rw [e2] at s2
   have kv : ((k : Nat) : Rat) * U T = 2 * (((k : Nat) : Rat) * p2 ((T : Int) - 1075)) := by rw [hU]; grind
   have z1 : (2 * ((k : Nat) : Rat) - 1) * p2 ((T : Int) - 1075) = 2 * (((k : Nat) : Rat) * p2 ((T : Int) - 1075)) - p2 ((T : Int) - 1075) := by grind
   have z2 : (2 * ((k : Nat) : Rat) + 1) * p2 ((T : Int) - 1075) = 2 * (((k : Nat) : Rat) * p2 ((T : Int) - 1075)) + p2 ((T : Int) - 1075) := by grind
   rw [z1] at s1
   rw [z2] at s2
   have hx : fval r = ((k : Int) : Rat) * U T := by rw [hv]; rfl
   rw [kv] at hv
   clear z1 z2 kv e1 e2 e e'
   generalize ((k : Nat) : Rat) * p2 ((T : Int) - 1075) = Z at *
   generalize p2 ((T : Int) - 1075) = h at *
   refine ⟨T, (k : Int), hx, by rw [hv, hU]; grind, by rw [hv, hU]; grind, ?_, by rw [hU]; grind, by rw [hU]; grind, by omega, by omega⟩
   rcases l1 with l1 | l1
   · exact Or.inl l1
   · exact Or.inr (Or.inl (by rw [hU]; grind))
theorem RV.rn {q x : Rat} (h : RV q x) : RN q x := by
 obtain ⟨r, hr, h⟩ := h
 rcases h with ⟨_, n, rfl⟩ | ⟨_, n, rfl⟩
 · exact near_rnd n hr
 · obtain ⟨T, k, R⟩ := near_rnd n hr
   have := R.neg
   rw [show - -q = q by grind] at this
   exact ⟨T, _, this⟩
theorem near_lt {q : Rat} {r : Nat} (h : Near q r) (hq : q < p2 1023) : r < 9218868437227405312 := by
 rcases h with ⟨rfl, rfl⟩ | ⟨_, T, k, hl, hh, e⟩
 · omega
 · have hb := kept_bounds hl hh
   have hT : T < 2045 := by
     rcases hl.1 with h | h
     · omega
     · have e1 : ((9007199254740992 : Int) : Rat) * p2 ((T : Int) - 1075) = p2 ((T : Int) - 1022) := by
         rw [show (T : Int) - 1022 = ((T : Int) - 1075) + ((53 : Nat) : Int) by omega, p2_add, p2_nat, Rat.mul_comm]; rfl
       rw [e1] at h
       have := p2_lt_iff.1 (lt_of_le_lt h hq)
       omega
   omega
theorem fc_word {b : Nat} (h : Fin64 b) : ∃ S m, FC (fval b) S m := by
 have key : ∀ r, r < 9218868437227405312 → ∃ S m, FC ((fmag r : Nat) * p2 (fpl r)) S m := by
   intro r _
   have hm := fmag_lt r
   by_cases h : r < 4503599627370496
   · refine ⟨0, (fmag r : Int), ?_, by omega, by omega, Or.inl rfl⟩
     unfold U fpl
     rw [if_pos h]; rfl
   · refine ⟨r / 4503599627370496 - 1, (fmag r : Int), ?_, by omega, by omega, Or.inr (Or.inl ?_)⟩
     · unfold U fpl
       rw [if_neg h, show ((r / 4503599627370496 - 1 : Nat) : Int) - 1074 = -1074 + ((r / 4503599627370496 - 1 : Nat) : Int) by omega]; rfl
     · unfold fmag; rw [if_neg h]; omega
 obtain ⟨S, m, c⟩ := key (frung b) h
 unfold fval sgn1
 cases fneg b
 · refine ⟨S, m, ?_⟩
   rw [if_neg (by decide), Rat.one_mul]; exact c
 · refine ⟨S, -m, ?_⟩
   rw [if_pos rfl]
   have := c.neg
   rwa [show -((fmag (frung b) : Nat) * p2 (fpl (frung b)) : Rat) = -1 * ((fmag (frung b) : Nat) * p2 (fpl (frung b))) by grind] at this
theorem write_rv (s : Bool) (m : Nat) (place : Int) (hq : ((m : Nat) : Rat) * p2 place < p2 1023) : ∃ r, Ieee.double.write (.number s m place) = r ∧ Fin64 r ∧ r < 18446744073709551616 ∧ RV (sgn1 s * ((m : Nat) * p2 place)) (fval r) := by
 have fin : ∀ r0, r0 < 9218868437227405312 → Near ((m : Nat) * p2 place) r0 → ∃ r, Ieee.double.word s r0 = r ∧ Fin64 r ∧ r < 18446744073709551616 ∧ RV (sgn1 s * ((m : Nat) * p2 place)) (fval r) := by
   intro r0 h0 hn
   have hnn := (near_nonneg hn).1
   unfold sgn1
   cases s
   · refine ⟨r0, rfl, by unfold Fin64 frung; omega, by omega, r0, h0, Or.inl ?_⟩
     rw [if_neg (by decide), Rat.one_mul]
     exact ⟨hnn, hn, rfl⟩
   · refine ⟨9223372036854775808 + r0, by rw [Ieee.Format.word, d_sw]; rfl, by unfold Fin64 frung; omega, by omega, r0, h0, Or.inr ?_⟩
     rw [if_pos rfl, fval_word h0]
     generalize ((m : Nat) : Rat) * p2 place = z at *
     exact ⟨by grind, by rwa [show -(-1 * z) = z by grind], rfl⟩
 show ∃ r, Ieee.double.nearest s m place = r ∧ _
 by_cases hm : m = 0
 · subst hm
   have : Ieee.double.nearest s 0 place = Ieee.double.word s 0 := by unfold Ieee.Format.nearest; rw [if_pos rfl]
   rw [this]
   exact fin 0 (by omega) (Or.inl ⟨by rw [show ((0 : Nat) : Rat) = 0 from rfl]; grind, rfl⟩)
 · obtain ⟨r0, e, hn⟩ := nearest_near s m place hm
   rw [e]
   exact fin r0 (near_lt hn hq) hn
end

/- Sums, differences and products of words. -/
section
def Lim (q : Rat) : Prop := q < p2 1023 ∧ -q < p2 1023
theorem abs_total (n : Int) (u : Rat) : ((n.natAbs : Nat) : Rat) * u = (if n < 0 then -((n : Rat) * u) else (n : Rat) * u) := by
 by_cases h : n < 0
 · rw [if_pos h]
   have e : ((n.natAbs : Nat) : Rat) = ((-n : Int) : Rat) := by
     rw [show ((n.natAbs : Nat) : Rat) = ((n.natAbs : Int) : Rat) from rfl, show (n.natAbs : Int) = -n by omega]
   rw [e, Rat.intCast_neg]; grind
 · rw [if_neg h]
   rw [show ((n.natAbs : Nat) : Rat) = ((n.natAbs : Int) : Rat) from rfl, show (n.natAbs : Int) = n by omega]
theorem sum_datum (s t : Bool) (m n : Nat) (i j : Int) (hq : Lim (sgn1 s * (((m : Nat) : Rat) * p2 i) + sgn1 t * (((n : Nat) : Rat) * p2 j))) :
   ∃ r, ((Ieee.Datum.number s m i).sum (Ieee.Datum.number t n j)).map Ieee.double.write = some r ∧ Fin64 r ∧ r < 18446744073709551616 ∧ RV (sgn1 s * (((m : Nat) : Rat) * p2 i) + sgn1 t * (((n : Nat) : Rat) * p2 j)) (fval r) := by
 unfold Ieee.Datum.sum
 simp only [Option.map_some]
 obtain ⟨base, hbase⟩ : ∃ b : Int, b = min i j := ⟨_, rfl⟩
 rw [← hbase]
 have e1 := signed_p2 s m (i - base).toNat base
 have e2 := signed_p2 t n (j - base).toNat base
 rw [show base + (((i - base).toNat : Nat) : Int) = i by omega] at e1
 rw [show base + (((j - base).toNat : Nat) : Int) = j by omega] at e2
 obtain ⟨total, ht⟩ : ∃ z : Int, z = Ieee.signed s m (i - base).toNat + Ieee.signed t n (j - base).toNat := ⟨_, rfl⟩
 rw [← ht]
 have eq : sgn1 s * ((m : Nat) * p2 i) + sgn1 t * ((n : Nat) * p2 j) = (total : Rat) * p2 base := by
   rw [← e1, ← e2, ht, Rat.intCast_add]; grind
 rw [eq] at hq ⊢
 have ha := abs_total total (p2 base)
 have hp := p2_pos base
 obtain ⟨sg, hsg⟩ : ∃ b : Bool, b = (if total = 0 then s && t else decide (total < 0)) := ⟨_, rfl⟩
 rw [← hsg]
 obtain ⟨r, hr, hf, hl, hv⟩ := write_rv sg total.natAbs base (by rw [ha]; split; exact hq.2; exact hq.1)
 refine ⟨r, by rw [hr], hf, hl, ?_⟩
 have : sgn1 sg * (((total.natAbs : Nat) : Rat) * p2 base) = (total : Rat) * p2 base := by
   by_cases h0 : total = 0
   · subst h0
     rw [show ((Int.natAbs 0 : Nat) : Rat) = 0 from rfl, show ((0 : Int) : Rat) = 0 from rfl]; grind
   · rw [if_neg h0] at hsg
     rw [ha, hsg]
     unfold sgn1
     by_cases h : total < 0
     · rw [if_pos h, if_pos (by simpa using h)]; grind
     · rw [if_neg h, if_neg (by simpa using h)]; grind
 rwa [this] at hv
theorem fval_eq (b : Nat) : fval b = sgn1 (fneg b) * ((fmag (frung b) : Nat) * p2 (fpl (frung b))) := rfl
theorem sub_bits {a b : Nat} (ha : Fin64 a) (hb : Fin64 b) (hq : Lim (fval a - fval b)) : ∃ r, floatBits .sub .f64 a b = some r ∧ Fin64 r ∧ r < 18446744073709551616 ∧ RV (fval a - fval b) (fval r) := by
 show ∃ r, ((Ieee.double.read a).sum (Ieee.double.read b).opposite).map Ieee.double.write = some r ∧ _
 rw [read_fin ha, read_fin hb]
 have e : fval a - fval b = sgn1 (fneg a) * ((fmag (frung a) : Nat) * p2 (fpl (frung a))) + sgn1 (!fneg b) * ((fmag (frung b) : Nat) * p2 (fpl (frung b))) := by
   rw [fval_eq a, fval_eq b]
   generalize ((fmag (frung b) : Nat) : Rat) * p2 (fpl (frung b)) = z
   cases fneg b <;> simp [sgn1] <;> grind
 rw [e] at hq ⊢
 exact sum_datum _ _ _ _ _ _ hq
theorem mul_bits {a b : Nat} (ha : Fin64 a) (hb : Fin64 b) (hq : Lim (fval a * fval b)) : ∃ r, floatBits .mul .f64 a b = some r ∧ Fin64 r ∧ r < 18446744073709551616 ∧ RV (fval a * fval b) (fval r) := by
 show ∃ r, ((Ieee.double.read a).product (Ieee.double.read b)).map Ieee.double.write = some r ∧ _
 rw [read_fin ha, read_fin hb]
 unfold Ieee.Datum.product
 simp only [Option.map_some]
 have e : fval a * fval b = sgn1 (fneg a ^^ fneg b) * (((fmag (frung a) * fmag (frung b) : Nat) : Rat) * p2 (fpl (frung a) + fpl (frung b))) := by
   rw [fval_eq a, fval_eq b, p2_add, Rat.natCast_mul]
   generalize ((fmag (frung a) : Nat) : Rat) = m
   generalize ((fmag (frung b) : Nat) : Rat) = n
   generalize p2 (fpl (frung a)) = u
   generalize p2 (fpl (frung b)) = v
   cases fneg a <;> cases fneg b <;> simp [sgn1] <;> grind
 rw [e] at hq ⊢
 have hnn : (0 : Rat) ≤ ((fmag (frung a) * fmag (frung b) : Nat) : Rat) * p2 (fpl (frung a) + fpl (frung b)) := Rat.mul_nonneg Rat.natCast_nonneg (Rat.le_of_lt (p2_pos _))
 obtain ⟨r, hr, h⟩ := write_rv (fneg a ^^ fneg b) (fmag (frung a) * fmag (frung b)) (fpl (frung a) + fpl (frung b)) (by
   generalize ((fmag (frung a) * fmag (frung b) : Nat) : Rat) * p2 (fpl (frung a) + fpl (frung b)) = z at *
   cases hs : (fneg a ^^ fneg b)
   · rw [hs] at hq; have := hq.1; simp [sgn1] at this; grind
   · rw [hs] at hq; have := hq.2; simp [sgn1] at this; grind)
 exact ⟨r, by rw [hr], h⟩
end
end Go.Proofs.YtofklahgpkmfmaaGreatDoor
