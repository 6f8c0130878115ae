/- Own texts, put together: Ea En Eo Eb Ec. -/
import Derived.Test.YtcgbnjoajieggaaGreatQ2
import Derived.Test.YtcgbnjoajieggaaGreatQ6
import Derived.WalkKit
import Derived.WalkSpells
import Derived.WalkLawsBesides
import Derived.Laws.FloatArith
namespace Go.Proofs.YtcgbnjoajieggaaGreat
/- Floats that are not below 0 are in the order of their words. -/
section
theorem fval_lt {r s : Nat} (h : r < s) (hs : s < 9218868437227405312) : fval r < fval s := by
 have h1 := (fval_pos_lt (Nat.lt_trans h hs)).1
 have h2 := (fval_pos_lt hs).1
 have key : (fpl r = fpl s ∧ fmag r < fmag s) ∨ (fpl r + 1 ≤ fpl s ∧ 4503599627370496 ≤ fmag s) := by
   unfold fpl fmag
   split <;> split <;> omega
 have hm := fmag_lt r
 rw [h1, h2]
 rcases key with ⟨e, hm⟩ | ⟨e, hm'⟩
 · rw [e]
   exact Rat.mul_lt_mul_of_pos_right (Rat.natCast_lt_natCast.2 hm) (p2_pos _)
 · have a1 := Rat.mul_lt_mul_of_pos_right (Rat.natCast_lt_natCast.2 hm) (p2_pos (fpl r))
   have a2 : ((9007199254740992 : Nat) : Rat) * p2 (fpl r) = ((4503599627370496 : Nat) : Rat) * p2 (fpl r + 1) := by
     rw [p2_add, p2_one, show ((9007199254740992 : Nat) : Rat) = ((4503599627370496 : Nat) : Rat) * 2 by decide +kernel]
     generalize ((4503599627370496 : Nat) : Rat) = X
     grind
   have a3 := Rat.mul_le_mul_of_nonneg_left (p2_mono e) (Rat.natCast_nonneg (a := 4503599627370496))
   have a4 := Rat.mul_le_mul_of_nonneg_right (Rat.natCast_le_natCast.2 hm') (Rat.le_of_lt (p2_pos (fpl s)))
   rw [a2] at a1
   generalize ((fmag r : Nat) : Rat) * p2 (fpl r) = X at *
   generalize ((4503599627370496 : Nat) : Rat) * p2 (fpl r + 1) = Y at *
   generalize ((4503599627370496 : Nat) : Rat) * p2 (fpl s) = Z at *
   generalize ((fmag s : Nat) : Rat) * p2 (fpl s) = V at *
   grind
theorem order_rung {r s : Nat} (hr : r ≤ 9218868437227405312) (hs : s < 9218868437227405312) : Ieee.double.order r s = some (if r < s then .lt else if r = s then .eq else .gt) := by
 have hfs : Fin64 s := by unfold Fin64 frung; omega
 rcases Nat.lt_or_ge r 9218868437227405312 with h | h
 · have hfr : Fin64 r := by unfold Fin64 frung; omega
   rw [order_fin hfr hfs]
   rcases Nat.lt_trichotomy r s with e | e | e
   · rw [if_pos (fval_lt e hs), if_pos e]
   · subst e
     rw [if_neg Rat.lt_irrefl, if_pos rfl, if_neg (Nat.lt_irrefl _), if_pos rfl]
   · have := fval_lt e h
     rw [if_neg (by grind), if_neg (by grind), if_neg (by omega), if_neg (by omega)]
 · have e : r = 9218868437227405312 := by omega
   subst e
   rw [order_inf_fin (by unfold frung; omega) hfs]
   have : fneg 9218868437227405312 = false := by decide
   rw [this, if_neg (by decide : ¬ (false = true)), if_neg (by omega : ¬ 9218868437227405312 < s), if_neg (by omega : ¬ 9218868437227405312 = s)]
theorem fval_word {r : Nat} (h : r < 9218868437227405312) : fval (9223372036854775808 + r) = -fval r := by
 have e1 : frung (9223372036854775808 + r) = r := by unfold frung; omega
 have e2 : fneg (9223372036854775808 + r) = true := by unfold fneg; simp; omega
 have e3 : frung r = r := by unfold frung; omega
 have e4 : fneg r = false := by unfold fneg; simp; omega
 unfold fval
 rw [e1, e2, e3, e4]
 unfold sgn1
 rw [if_pos rfl, if_neg (by decide)]
 generalize ((fmag r : Nat) : Rat) * p2 (fpl r) = X
 grind
end

/- The float nearest to a number: plain facts. -/
section
def Half (q u : Rat) (k : Nat) : Prop :=
 ((2 * (k : Int) - 1 : Int) : Rat) * u ≤ q ∧ q ≤ ((2 * (k : Int) + 1 : Int) : Rat) * u ∧ (q = ((2 * (k : Int) - 1 : Int) : Rat) * u → k % 2 = 0) ∧ (q = ((2 * (k : Int) + 1 : Int) : Rat) * u → k % 2 = 0)
def Last (q : Rat) (T : Nat) : Prop := (T = 0 ∨ ((9007199254740992 : Int) : Rat) * p2 ((T : Int) - 1075) ≤ q) ∧ q < ((18014398509481984 : Int) : Rat) * p2 ((T : Int) - 1075)
def Near (q : Rat) (r : Nat) : Prop :=
 (q = 0 ∧ r = 0) ∨ (0 < q ∧ ∃ T k : Nat, Last q T ∧ Half q (p2 ((T : Int) - 1075)) k ∧ r = min (T * 4503599627370496 + k) 9218868437227405312)
theorem lt_of_le_lt {a b c : Rat} (h1 : a ≤ b) (h2 : b < c) : a < c := by grind
theorem lt_of_lt_le {a b c : Rat} (h1 : a < b) (h2 : b ≤ c) : a < c := by grind
theorem le_of_same {a b : Rat} (h : a = b) : a ≤ b := by rw [h]; exact Rat.le_refl
theorem int_le {a b : Int} {u : Rat} (hu : 0 < u) (h : (a : Rat) * u ≤ (b : Rat) * u) : a ≤ b := by
 rcases Int.lt_or_le b a with h1 | h1
 · have h2 : (b : Rat) < (a : Rat) := Rat.intCast_lt_intCast.2 h1
   have h3 := Rat.mul_lt_mul_of_pos_right h2 hu
   grind
 · exact h1
theorem int_lt {a b : Int} {u : Rat} (hu : 0 < u) (h : (a : Rat) * u < (b : Rat) * u) : a < b := by
 rcases Int.lt_or_le a b with h1 | h1
 · exact h1
 · have h2 : (b : Rat) ≤ (a : Rat) := Rat.intCast_le_intCast.2 h1
   have h3 := Rat.mul_le_mul_of_nonneg_right h2 (Rat.le_of_lt hu)
   grind
theorem le_int {a b : Int} {u : Rat} (hu : 0 < u) (h : a ≤ b) : (a : Rat) * u ≤ (b : Rat) * u :=
 Rat.mul_le_mul_of_nonneg_right (Rat.intCast_le_intCast.2 h) (Rat.le_of_lt hu)
theorem kept_bounds {q : Rat} {T k : Nat} (hl : Last q T) (hh : Half q (p2 ((T : Int) - 1075)) k) : k ≤ 9007199254740992 ∧ (T = 0 ∨ 4503599627370496 ≤ k) := by
 obtain ⟨h1, h2⟩ := hl
 obtain ⟨h3, h4, _, _⟩ := hh
 have hu := p2_pos ((T : Int) - 1075)
 have a := int_lt hu (lt_of_le_lt h3 h2)
 refine ⟨by omega, h1.imp id fun h => ?_⟩
 have b := int_le hu (Rat.le_trans h h4)
 omega
theorem half_mono {p q u : Rat} {j k : Nat} (hu : 0 < u) (h : p ≤ q) (h1 : Half p u j) (h2 : Half q u k) : j ≤ k := by
 obtain ⟨a1, a2, a3, a4⟩ := h1
 obtain ⟨b1, b2, b3, b4⟩ := h2
 have c := int_le hu (Rat.le_trans (Rat.le_trans a1 h) b2)
 rcases Nat.lt_or_ge k j with hk | hk
 · have e : (2 * (j : Int) - 1 : Int) = 2 * (k : Int) + 1 := by omega
   have e1 : p = ((2 * (j : Int) - 1 : Int) : Rat) * u := Rat.le_antisymm (by rw [e]; exact Rat.le_trans h b2) a1
   have e2 : q = ((2 * (k : Int) + 1 : Int) : Rat) * u := Rat.le_antisymm b2 (by rw [← e]; exact Rat.le_trans a1 h)
   have := a3 e1
   have := b4 e2
   omega
 · exact hk
theorem last_mono {p q : Rat} {S T : Nat} (h : p ≤ q) (h1 : Last p S) (h2 : Last q T) : S ≤ T := by
 rcases Nat.lt_or_ge T S with hk | hk
 · rcases h1.1 with h0 | h0
   · omega
   · have h3 := lt_of_le_lt (Rat.le_trans h0 h) h2.2
     have e : ((S : Int) - 1075) = ((T : Int) - 1075) + ((S - T : Nat) : Int) := by omega
     rw [e, p2_add] at h3
     have hu := p2_pos ((T : Int) - 1075)
     have h4 : (2 : Rat) ≤ p2 ((S - T : Nat) : Int) := by
       have := p2_mono (a := 1) (b := ((S - T : Nat) : Int)) (by omega)
       rwa [p2_one] at this
     have h5 := Rat.mul_le_mul_of_nonneg_right h4 (Rat.le_of_lt hu)
     have e1 : ((18014398509481984 : Int) : Rat) = ((9007199254740992 : Int) : Rat) * 2 := by rw [show (18014398509481984 : Int) = 9007199254740992 * 2 from rfl, Rat.intCast_mul]; rfl
     have hn : (0 : Rat) ≤ ((9007199254740992 : Int) : Rat) := by rw [show (0 : Rat) = ((0 : Int) : Rat) from rfl]; exact Rat.intCast_le_intCast.2 (by omega)
     rw [e1] at h3
     generalize ((9007199254740992 : Int) : Rat) = N at *
     have h6 := Rat.mul_le_mul_of_nonneg_left h5 hn
     grind
 · exact hk
theorem near_mono {p q : Rat} {r s : Nat} (h : p ≤ q) (h1 : Near p r) (h2 : Near q s) : r ≤ s := by
 rcases h1 with ⟨_, rfl⟩ | ⟨hp, S, j, a1, a2, rfl⟩
 · omega
 · rcases h2 with ⟨hq, _⟩ | ⟨hq, T, k, b1, b2, rfl⟩
   · grind
   · have hST := last_mono h a1 b1
     have c1 := kept_bounds a1 a2
     have c2 := kept_bounds b1 b2
     rcases Nat.lt_or_ge S T with hk | hk
     · omega
     · have e : S = T := by omega
       subst e
       have := half_mono (p2_pos _) h a2 b2
       omega
theorem near_nonneg {q : Rat} {r : Nat} (h : Near q r) : 0 ≤ q ∧ r ≤ 9218868437227405312 := by
 rcases h with ⟨rfl, rfl⟩ | ⟨hq, T, k, _, _, rfl⟩
 · exact ⟨by decide, by omega⟩
 · exact ⟨Rat.le_of_lt hq, by omega⟩
theorem near_fun {q : Rat} {r s : Nat} (h1 : Near q r) (h2 : Near q s) : r = s := Nat.le_antisymm (near_mono Rat.le_refl h1 h2) (near_mono Rat.le_refl h2 h1)
theorem near_zero {r : Nat} (h : Near 0 r) : r = 0 := near_fun h (Or.inl ⟨rfl, rfl⟩)
end

/- The model's rounding is to the nearest, the even one between two. -/
section
theorem cut_even (neg : Bool) (n d : Nat) : ∃ k, Ieee.Toward.even.cut neg n d = k ∧ 2 * (k * 2 ^ d) ≤ 2 * n + 2 ^ d ∧ 2 * n ≤ 2 * (k * 2 ^ d) + 2 ^ d ∧ (2 * (k * 2 ^ d) = 2 * n + 2 ^ d → k % 2 = 0) ∧ (2 * n = 2 * (k * 2 ^ d) + 2 ^ d → k % 2 = 0) := by
 refine ⟨_, rfl, ?_⟩
 unfold Ieee.Toward.cut
 simp only [Nat.shiftLeft_eq, Nat.one_mul]
 rcases Nat.lt_or_ge (n.log2 + 2) d with h | h
 · rw [Nat.min_eq_right (by omega)]
   have h1 : n < 2 ^ (n.log2 + 1) := Nat.lt_log2_self
   have h2 : 2 ^ (n.log2 + 2) = 2 * 2 ^ (n.log2 + 1) := by rw [Nat.pow_succ]; omega
   have h3 : 2 ^ (n.log2 + 2) ≤ 2 ^ d := Nat.pow_le_pow_right (by omega) (by omega)
   generalize hg : 2 ^ (n.log2 + 2) = g at *
   generalize 2 ^ (n.log2 + 1) = g1 at *
   generalize 2 ^ d = D at *
   have e1 : n / g = 0 := Nat.div_eq_of_lt (by omega)
   have e2 : n % g = n := Nat.mod_eq_of_lt (by omega)
   rw [e1, e2]
   have e3 : (decide (g < 2 * n) || g == 2 * n && 0 % 2 == 1) = false := by simp; omega
   rw [e3]
   simp
   omega
 · rw [Nat.min_eq_left h]
   have hg : 0 < 2 ^ d := Nat.two_pow_pos d
   generalize 2 ^ d = g at *
   have hd := Nat.div_add_mod n g
   have hm := Nat.mod_lt n hg
   generalize n / g = low at *
   generalize n % g = rest at *
   rw [Nat.mul_comm] at hd
   by_cases hmore : g < 2 * rest ∨ (g = 2 * rest ∧ low % 2 = 1)
   · have e3 : (decide (g < 2 * rest) || g == 2 * rest && low % 2 == 1) = true := by simpa using hmore
     rw [e3]
     have : (low + true.toNat) * g = low * g + g := by simp [Nat.add_mul]
     rw [this]
     generalize low * g = P at *
     refine ⟨by omega, by omega, ?_, ?_⟩
     · intro h; simp; omega
     · intro h; simp; omega
   · have e3 : (decide (g < 2 * rest) || g == 2 * rest && low % 2 == 1) = false := by
       rw [Bool.eq_false_iff]; intro h; apply hmore; simpa using h
     rw [e3]
     have : (low + false.toNat) * g = low * g := by simp
     rw [this]
     generalize low * g = P at *
     refine ⟨by omega, by omega, ?_, ?_⟩
     · intro h; simp; omega
     · intro h; simp; omega
theorem int_eq {a b : Int} {u : Rat} (hu : 0 < u) (h : (a : Rat) * u = (b : Rat) * u) : a = b :=
 Int.le_antisymm (int_le hu (le_of_same h)) (int_le hu (le_of_same h.symm))
theorem log_bounds (mag : Nat) (hm : mag ≠ 0) (place : Int) : p2 (place + (mag.log2 : Nat)) ≤ (mag : Nat) * p2 place ∧ ((mag : Nat) : Rat) * p2 place < p2 (place + (mag.log2 : Nat) + 1) := by
 have h1 : 2 ^ mag.log2 ≤ mag := Nat.log2_self_le hm
 have h2 : mag < 2 ^ (mag.log2 + 1) := Nat.lt_log2_self
 have hp := p2_pos place
 constructor
 · rw [p2_add, p2_nat, Rat.mul_comm]
   exact Rat.mul_le_mul_of_nonneg_right (Rat.natCast_le_natCast.2 h1) (Rat.le_of_lt hp)
 · rw [show place + (mag.log2 : Nat) + 1 = place + ((mag.log2 + 1 : Nat) : Int) by omega, p2_add, p2_nat, Rat.mul_comm (p2 place)]
   exact Rat.mul_lt_mul_of_pos_right (Rat.natCast_lt_natCast.2 h2) hp
theorem nearest_near (neg : Bool) (mag : Nat) (place : Int) (hm : mag ≠ 0) : ∃ r, Ieee.double.nearest neg mag place = Ieee.double.word neg r ∧ Near ((mag : Nat) * p2 place) r := by
 unfold Ieee.Format.nearest
 rw [if_neg hm]
 simp only [d_lp, d_bin, d_inf, show Ieee.double.fractionBits = 52 from rfl]
 obtain ⟨last, hlast⟩ : ∃ l : Int, l = max (place + (mag.log2 : Nat) - ((52 : Nat) : Int)) (-1074) := ⟨_, rfl⟩
 rw [← hlast]
 obtain ⟨k, hk, c1, c2, c3, c4⟩ := cut_even neg (mag <<< (place - last).toNat) (last - place).toNat
 rw [hk]
 refine ⟨_, rfl, Or.inr ⟨?_, (last + 1074).toNat, k, ?_, ?_, by rw [show last - -1074 = last + 1074 by omega]⟩⟩
 · exact Rat.mul_pos (Rat.natCast_pos.2 (by omega)) (p2_pos _)
 · have hb := log_bounds mag hm place
   have eT : (((last + 1074).toNat : Nat) : Int) - 1075 = last - 1 := by omega
   rw [Last, eT]
   have x1 : ((9007199254740992 : Int) : Rat) * p2 (last - 1) = p2 (last + 52) := by
     rw [show last + 52 = (last - 1) + ((53 : Nat) : Int) by omega, p2_add, p2_nat, Rat.mul_comm]; rfl
   have x2 : ((18014398509481984 : Int) : Rat) * p2 (last - 1) = p2 (last + 53) := by
     rw [show last + 53 = (last - 1) + ((54 : Nat) : Int) by omega, p2_add, p2_nat, Rat.mul_comm]; rfl
   rw [x1, x2]
   constructor
   · by_cases h : last = -1074
     · left; omega
     · right
       have := p2_mono (a := last + 52) (b := place + (mag.log2 : Nat)) (by omega)
       exact Rat.le_trans this hb.1
   · exact lt_of_lt_le hb.2 (p2_mono (by omega))
 · have eT : (((last + 1074).toNat : Nat) : Int) - 1075 = last - 1 := by omega
   rw [eT]
   generalize hd : (last - place).toNat = d at *
   generalize hn : mag <<< (place - last).toNat = n at *
   rw [Nat.shiftLeft_eq] at hn
   have hv := p2_pos (last - (d : Nat) - 1)
   have e1 : ((mag : Nat) : Rat) * p2 place = ((2 * (n : Int) : Int) : Rat) * p2 (last - (d : Nat) - 1) := by
     have a1 : ((2 * (n : Int) : Int) : Rat) = 2 * ((n : Nat) : Rat) := by rw [Rat.intCast_mul]; rfl
     have a2 : p2 (last - (d : Nat)) = 2 * p2 (last - (d : Nat) - 1) := by
       have := p2_add 1 (last - (d : Nat) - 1)
       rwa [p2_one, show 1 + (last - (d : Nat) - 1) = last - (d : Nat) by omega] at this
     have a3 : ((mag : Nat) : Rat) * p2 place = ((n : Nat) : Rat) * p2 (last - (d : Nat)) := by
       rw [← hn, nat_mul_p2, Rat.mul_assoc, ← p2_add]
       congr 2; omega
     rw [a3, a1, a2]
     generalize p2 (last - (d : Nat) - 1) = v
     grind
   have e2 : ∀ z : Int, (z : Rat) * p2 (last - 1) = ((z * ((2 ^ d : Nat) : Int) : Int) : Rat) * p2 (last - (d : Nat) - 1) := fun z => by
     rw [show last - 1 = (d : Nat) + (last - (d : Nat) - 1) by omega, p2_add, p2_nat, Rat.intCast_mul, Rat.mul_assoc]; rfl
   rw [e1]
   unfold Half
   rw [e2, e2]
   have y1 : (2 * (k : Int) - 1) * ((2 ^ d : Nat) : Int) = 2 * ((k * 2 ^ d : Nat) : Int) - ((2 ^ d : Nat) : Int) := by rw [Int.natCast_mul]; grind
   have y2 : (2 * (k : Int) + 1) * ((2 ^ d : Nat) : Int) = 2 * ((k * 2 ^ d : Nat) : Int) + ((2 ^ d : Nat) : Int) := by rw [Int.natCast_mul]; grind
   rw [y1, y2]
   generalize k * 2 ^ d = P at *
   generalize 2 ^ d = D at *
   refine ⟨le_int hv (by omega), le_int hv (by omega), ?_, ?_⟩
   · intro h
     have := int_eq hv h
     exact c3 (by omega)
   · intro h
     have := int_eq hv h
     exact c4 (by omega)
end

/- Which floats are tame, which are safe: the program's. -/
section
open Go.RowKit
theorem leq_word {r c : Nat} (hr : r < 9223372036854775808) (hc : c < 9218868437227405312) : (FloatKind.f64.format.order r c == some .lt || FloatKind.f64.format.order r c == some .eq) = decide (r ≤ c) := by
 show (Ieee.double.order r c == some .lt || Ieee.double.order r c == some .eq) = _
 rcases Nat.lt_or_ge 9218868437227405312 r with h | h
 · rw [order_nan_left (by unfold frung; omega)]
   simp; omega
 · rw [order_rung h hc]
   rcases Nat.lt_trichotomy r c with e | e | e
   · rw [if_pos e]; simp; omega
   · subst e; simp
   · rw [if_neg (by omega), if_neg (by omega)]; simp; omega
theorem order_nan_right {b c : Nat} (hb : 9218868437227405312 < frung b) : Ieee.double.order c b = none := by
 obtain ⟨s, t, e⟩ := read_nan hb
 unfold Ieee.Format.order
 rw [e]
 cases Ieee.double.read c <;> rfl
theorem inf_right {c : Nat} (hc : Fin64 c) : Ieee.double.order c 9218868437227405312 = some .lt := by
 have h1 := read_fin hc
 have h2 := read_inf (b := 9218868437227405312) (by decide)
 have h3 : fneg 9218868437227405312 = false := by decide
 unfold Ieee.Format.order
 rw [h1, h2, h3]
 rfl
theorem const_leq {r c : Nat} (hr : r < 9223372036854775808) (hc : c < 9218868437227405312) : (FloatKind.f64.format.order c r == some .lt || FloatKind.f64.format.order c r == some .eq) = decide (c ≤ r ∧ r ≤ 9218868437227405312) := by
 show (Ieee.double.order c r == some .lt || Ieee.double.order c r == some .eq) = _
 rcases Nat.lt_trichotomy 9218868437227405312 r with h | h | h
 · rw [order_nan_right (by unfold frung; omega)]
   simp; omega
 · subst h
   rw [inf_right (by unfold Fin64 frung; omega)]
   simp; omega
 · rw [order_rung (Nat.le_of_lt hc) h]
   rcases Nat.lt_trichotomy c r with e | e | e
   · rw [if_pos e]; simp; omega
   · subst e; simp; omega
   · rw [if_neg (by omega), if_neg (by omega)]; simp; omega
theorem eql_zero {r : Nat} (hr : r < 9223372036854775808) : (FloatKind.f64.format.order r 0 == some .eq) = decide (r = 0) := by
 show (Ieee.double.order r 0 == some .eq) = _
 rcases Nat.lt_or_ge 9218868437227405312 r with h | h
 · rw [order_nan_left (by unfold frung; omega)]
   simp; omega
 · rw [order_rung h (by omega)]
   by_cases e : r = 0
   · subst e; simp
   · rw [if_neg (by omega), if_neg e]; simp [e]
theorem tame_any (b : Nat) (w : World) (hb : b < 18446744073709551616) :
   Calls Tryz.prog 131 #[.float .f64 b] w fun e w' => e = .returned (.bool (decide (frung b ≤ 9110782046170513408))) ∧ w' = w := by
 have h1 := leq_word (r := frung b) (c := 9110782046170513408) (by unfold frung; omega) (by omega)
 have HA : Hid (Calls Tryz.prog 96 #[.float .f64 b] w fun e w' => e = .returned (.float .f64 (frung b)) ∧ w' = w) := abs_any b w hb
 generalize decide (frung b ≤ 9110782046170513408) = res at *
 generalize frung b = r at *
 go_enter Tryz.func131, Tryz.ntmps131
 go_wp2_with fail
 refine HA.out.mono ?_
 rintro e w' ⟨rfl, rfl⟩
 go_wp2
 go_ret
 exact ⟨rfl, rfl⟩
def SafeW (r : Nat) : Prop := r = 0 ∨ (2580562586483294208 ≤ r ∧ r ≤ 6633802251116740608)
instance (r : Nat) : Decidable (SafeW r) := by unfold SafeW; exact inferInstance
set_option maxHeartbeats 1000000 in
theorem safe_any (b : Nat) (w : World) (hb : b < 18446744073709551616) :
   Calls Tryz.prog 192 #[.float .f64 b] w fun e w' => e = .returned (.bool (decide (SafeW (frung b)))) ∧ w' = w := by
 have hr : frung b < 9223372036854775808 := by unfold frung; omega
 have h1 := eql_zero hr
 have h2 := const_leq (r := frung b) (c := 2580562586483294208) hr (by omega)
 have h3 := leq_word (r := frung b) (c := 6633802251116740608) hr (by omega)
 have key : Hid (decide (SafeW (frung b)) = (decide (frung b = 0) || decide (2580562586483294208 ≤ frung b ∧ frung b ≤ 9218868437227405312) && decide (frung b ≤ 6633802251116740608))) := by
   unfold Hid SafeW
   by_cases e1 : frung b = 0 <;> by_cases e2 : 2580562586483294208 ≤ frung b <;> by_cases e3 : frung b ≤ 6633802251116740608 <;> simp [e1, e2, e3] <;> omega
 have HA : Hid (Calls Tryz.prog 96 #[.float .f64 b] w fun e w' => e = .returned (.float .f64 (frung b)) ∧ w' = w) := abs_any b w hb
 clear hr hb
 generalize decide (SafeW (frung b)) = res at *
 generalize frung b = r at *
 generalize decide (r = 0) = t1 at *
 generalize decide (2580562586483294208 ≤ r ∧ r ≤ 9218868437227405312) = t2 at *
 generalize decide (r ≤ 6633802251116740608) = t3 at *
 have ek := key.out
 clear key
 cases t1 <;> cases t2 <;> cases t3 <;> (simp at ek; subst ek; go_enter Tryz.func192, Tryz.ntmps192; go_wp2_with fail; refine HA.out.mono ?_; rintro e w' ⟨rfl, rfl⟩; go_wp2; go_ret; exact ⟨rfl, rfl⟩)
end

/- Which floats are tame, which are safe: the document's. -/
section
open Go.RowKit
end
end Go.Proofs.YtcgbnjoajieggaaGreat
