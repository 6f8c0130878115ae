/- Own texts, put together: M5 M6 M7 Fb Fc M8 Ep Eq Ya Ea En Eo Eb Ec. -/
import Derived.Test.YtgfloegaoofbbaaDoorQ1
import Derived.Test.YtgfloegaoofbbaaDoorQ2
import Ieee.Arith
import Derived.WalkKit
import Derived.WalkSpells
import Derived.WalkLawsBesides
import Derived.Laws.FloatArith
namespace Go.Proofs.YtgfloegaoofbbaaDoor
/- Plain facts: numbers as rationals; which may be. -/
section
def p2 (e : Int) : Rat := 2 ^ e
theorem p2_pos (e : Int) : 0 < p2 e := Rat.zpow_pos (by decide)
theorem p2_ne (e : Int) : p2 e ≠ 0 := Rat.ne_of_gt (p2_pos e)
theorem p2_add (a b : Int) : p2 (a + b) = p2 a * p2 b := Rat.zpow_add (by decide) a b
theorem p2_zero : p2 0 = 1 := Rat.zpow_zero 2
theorem p2_one : p2 1 = 2 := Rat.zpow_one 2
theorem p2_nat (n : Nat) : p2 (n : Int) = ((2 ^ n : Nat) : Rat) := by
 unfold p2; rw [Rat.zpow_natCast, Rat.natCast_pow]; rfl
theorem p2_neg (e : Int) : p2 (-e) * p2 e = 1 := by rw [← p2_add, Int.add_left_neg, p2_zero]
theorem p2_le_nat (n : Nat) : 1 ≤ p2 (n : Int) := by
 rw [p2_nat]
 have h : 1 ≤ 2 ^ n := Nat.two_pow_pos n
 have := (Rat.natCast_le_natCast (a := 1) (b := 2 ^ n)).2 h
 simpa using this
theorem p2_mono {a b : Int} (h : a ≤ b) : p2 a ≤ p2 b := by
 obtain ⟨n, rfl⟩ : ∃ n : Nat, b = a + (n : Int) := ⟨(b - a).toNat, by omega⟩
 rw [p2_add]
 have h1 := Rat.mul_le_mul_of_nonneg_left (p2_le_nat n) (Rat.le_of_lt (p2_pos a))
 grind
theorem p2_lt {a b : Int} (h : a < b) : p2 a < p2 b := by
 have h1 : p2 (a + 1) ≤ p2 b := p2_mono (by omega)
 have h2 := p2_pos a
 rw [p2_add, p2_one] at h1
 grind
theorem p2_le_iff {a b : Int} : p2 a ≤ p2 b ↔ a ≤ b := by
 refine ⟨fun h => ?_, p2_mono⟩
 rcases Int.lt_or_le b a with h1 | h1
 · have := p2_lt h1; grind
 · exact h1
theorem p2_lt_iff {a b : Int} : p2 a < p2 b ↔ a < b := by
 refine ⟨fun h => ?_, p2_lt⟩
 rcases Int.lt_or_le a b with h1 | h1
 · exact h1
 · have := p2_mono h1; grind
theorem nat_mul_p2 (V k : Nat) : ((V * 2 ^ k : Nat) : Rat) = (V : Nat) * p2 (k : Nat) := by rw [p2_nat, Rat.natCast_mul]
def May (q : Rat) : Prop := q < p2 65537 ∧ -p2 65537 < q ∧ ∃ n : Int, q = (n : Rat) * p2 (-65536)
end

/- Plain facts on floats: what a word denotes, as a rational; how two words stand to each other. -/
section
def fneg (b : Nat) : Bool := b / 9223372036854775808 % 2 == 1
def frung (b : Nat) : Nat := b % 9223372036854775808
def fmag (r : Nat) : Nat := if r < 4503599627370496 then r else 4503599627370496 + r % 4503599627370496
def fpl (r : Nat) : Int := if r < 4503599627370496 then -1074 else -1074 + ((r / 4503599627370496 - 1 : Nat) : Int)
def Fin64 (b : Nat) : Prop := frung b < 9218868437227405312
def sgn1 (b : Bool) : Rat := if b then -1 else 1
def fval (b : Nat) : Rat := sgn1 (fneg b) * ((fmag (frung b) : Nat) * p2 (fpl (frung b)))
theorem d_sw : Ieee.double.signWeight = 9223372036854775808 := by decide
theorem d_bin : Ieee.double.binade = 4503599627370496 := by decide
theorem d_inf : Ieee.double.infRung = 9218868437227405312 := by decide
theorem d_lp : Ieee.double.leastPlace = -1074 := by decide
theorem read_fin {b : Nat} (h : Fin64 b) : Ieee.double.read b = .number (fneg b) (fmag (frung b)) (fpl (frung b)) := by
 unfold Fin64 frung at h
 unfold Ieee.Format.read fneg fmag fpl frung
 simp only [d_sw, d_bin, d_inf, d_lp]
 by_cases h1 : b % 9223372036854775808 < 4503599627370496
 · simp only [h1, if_true]
 · simp only [h1, if_false, h, if_true]
theorem read_inf {b : Nat} (h : frung b = 9218868437227405312) : Ieee.double.read b = .infinity (fneg b) := by
 unfold frung at h
 unfold Ieee.Format.read fneg
 simp only [d_sw, d_bin, d_inf, h]
 rfl
theorem read_nan {b : Nat} (h : 9218868437227405312 < frung b) : ∃ s t, Ieee.double.read b = .nan s t := by
 unfold frung at h
 unfold Ieee.Format.read
 simp only [d_sw, d_bin, d_inf]
 rw [if_neg (by omega), if_neg (by omega), if_neg (by omega)]
 exact ⟨_, _, rfl⟩
theorem signed_p2 (s : Bool) (m up : Nat) (base : Int) : ((Ieee.signed s m up : Int) : Rat) * p2 base = sgn1 s * ((m : Nat) * p2 (base + (up : Nat))) := by
 unfold Ieee.signed sgn1
 rw [Nat.shiftLeft_eq, p2_add]
 have e : ((m * 2 ^ up : Nat) : Rat) = (m : Nat) * p2 (up : Nat) := nat_mul_p2 m up
 cases s
 · simp only [Bool.false_eq_true, if_false]
   have : (((m * 2 ^ up : Nat) : Int) : Rat) = ((m * 2 ^ up : Nat) : Rat) := rfl
   rw [this, e]; grind
 · simp only [if_true]
   have : ((-((m * 2 ^ up : Nat) : Int) : Int) : Rat) = -((m * 2 ^ up : Nat) : Rat) := by rw [Rat.intCast_neg]; rfl
   rw [this, e]; grind
theorem compare_int (x y : Int) : compare x y = if x < y then .lt else if x = y then .eq else .gt := rfl
theorem order_fin {b c : Nat} (hb : Fin64 b) (hc : Fin64 c) : Ieee.double.order b c = some (if fval b < fval c then .lt else if fval b = fval c then .eq else .gt) := by
 unfold Ieee.Format.order
 rw [read_fin hb, read_fin hc]
 unfold Ieee.Datum.order
 simp only
 unfold fval
 generalize fneg b = s
 generalize fneg c = t
 generalize fmag (frung b) = m
 generalize fmag (frung c) = n
 generalize fpl (frung b) = i
 generalize fpl (frung c) = j
 have e1 := signed_p2 s m (i - min i j).toNat (min i j)
 have e2 := signed_p2 t n (j - min i j).toNat (min i j)
 rw [show min i j + ((i - min i j).toNat : Int) = i by omega] at e1
 rw [show min i j + ((j - min i j).toNat : Int) = j by omega] at e2
 rw [← e1, ← e2, compare_int]
 generalize Ieee.signed s m (i - min i j).toNat = x
 generalize Ieee.signed t n (j - min i j).toNat = y
 have hp := p2_pos (min i j)
 have l1 : (x : Rat) * p2 (min i j) < (y : Rat) * p2 (min i j) ↔ x < y := by rw [Rat.mul_lt_mul_right hp, Rat.intCast_lt_intCast]
 have l2 : (x : Rat) * p2 (min i j) = (y : Rat) * p2 (min i j) ↔ x = y := by
   constructor
   · intro h
     have hn := p2_ne (min i j)
     have : (x : Rat) = (y : Rat) := by grind
     exact Rat.intCast_inj.1 this
   · intro h; rw [h]
 simp only [l1, l2]
theorem order_nan_left {b c : Nat} (hb : 9218868437227405312 < frung b) : Ieee.double.order b c = none := by
 obtain ⟨s, t, h⟩ := read_nan hb
 unfold Ieee.Format.order
 rw [h]
 unfold Ieee.Datum.order
 rfl
theorem order_inf_fin {b c : Nat} (hb : frung b = 9218868437227405312) (hc : Fin64 c) : Ieee.double.order b c = some (if fneg b then .lt else .gt) := by
 unfold Ieee.Format.order
 rw [read_inf hb, read_fin hc]
 rfl
theorem order_inf_self {b : Nat} (hb : frung b = 9218868437227405312) : Ieee.double.order b b = some .eq := by
 unfold Ieee.Format.order
 rw [read_inf hb]
 unfold Ieee.Datum.order
 cases fneg b <;> rfl
theorem fval_pos_lt {r : Nat} (h : r < 9218868437227405312) : fval r = (fmag r : Nat) * p2 (fpl r) ∧ frung r = r := by
 have h1 : frung r = r := Nat.mod_eq_of_lt (by omega)
 have h2 : fneg r = false := by unfold fneg; rw [Nat.div_eq_of_lt (by omega)]; rfl
 refine ⟨?_, h1⟩
 unfold fval
 rw [h1, h2]; simp [sgn1]
theorem fmag_lt (r : Nat) : fmag r < 9007199254740992 := by unfold fmag; split <;> omega
theorem fval_nonneg {r : Nat} (h : r < 9218868437227405312) : 0 ≤ fval r := by
 rw [(fval_pos_lt h).1]; exact Rat.mul_nonneg Rat.natCast_nonneg (Rat.le_of_lt (p2_pos _))
theorem small_iff {r : Nat} (h : r < 9218868437227405312) : fval r < fval 4503599627370496 ↔ r < 4503599627370496 := by
 rw [(fval_pos_lt h).1, (fval_pos_lt (by omega : (4503599627370496 : Nat) < 9218868437227405312)).1]
 have e0 : fmag 4503599627370496 = 4503599627370496 := by decide
 have e1 : fpl 4503599627370496 = -1074 := by decide
 rw [e0, e1]
 have hp := p2_pos (-1074)
 constructor
 · intro hlt
   rcases Nat.lt_or_ge r 4503599627370496 with h1 | h1
   · exact h1
   · exfalso
     have h2 : 4503599627370496 ≤ fmag r := by unfold fmag; rw [if_neg (by omega)]; omega
     have h3 : (-1074 : Int) ≤ fpl r := by unfold fpl; rw [if_neg (by omega)]; omega
     have h4 := p2_mono h3
     have h5 := (Rat.natCast_le_natCast).2 h2
     have h6 : (0 : Rat) ≤ ((4503599627370496 : Nat) : Rat) := Rat.natCast_nonneg
     have h7 := Rat.mul_le_mul_of_nonneg_right h5 (Rat.le_of_lt (p2_pos (fpl r)))
     have h8 := Rat.mul_le_mul_of_nonneg_left h4 h6
     grind
 · intro hlt
   have h2 : fmag r = r := by unfold fmag; rw [if_pos hlt]
   have h3 : fpl r = -1074 := by unfold fpl; rw [if_pos hlt]
   rw [h2, h3, Rat.mul_lt_mul_right hp]
   exact Rat.natCast_lt_natCast.2 hlt
theorem fval_le_max {r : Nat} (h : r < 9218868437227405312) : fval r ≤ fval 9218868437227405311 := by
 rw [(fval_pos_lt h).1, (fval_pos_lt (by omega : (9218868437227405311 : Nat) < 9218868437227405312)).1]
 have e0 : fmag 9218868437227405311 = 9007199254740991 := by decide
 have e1 : fpl 9218868437227405311 = 971 := by decide
 rw [e0, e1]
 have h2 : fmag r ≤ 9007199254740991 := by have := fmag_lt r; omega
 have h3 : fpl r ≤ 971 := by unfold fpl; split <;> omega
 have h4 := p2_mono h3
 have h5 := (Rat.natCast_le_natCast).2 h2
 have h6 : (0 : Rat) ≤ ((9007199254740991 : Nat) : Rat) := Rat.natCast_nonneg
 have h7 := Rat.mul_le_mul_of_nonneg_right h5 (Rat.le_of_lt (p2_pos (fpl r)))
 have h8 := Rat.mul_le_mul_of_nonneg_left h4 h6
 grind
theorem fval_zero_iff {b : Nat} : fval b = 0 ↔ frung b = 0 := by
 have hp := p2_ne (fpl (frung b))
 unfold fval
 constructor
 · intro h
   have h1 : ((fmag (frung b) : Nat) : Rat) = 0 := by
     unfold sgn1 at h
     split at h <;> grind
   have h2 : fmag (frung b) = 0 := Rat.natCast_eq_zero_iff.1 h1
   unfold fmag at h2
   split at h2 <;> omega
 · intro h
   rw [h]; simp [fmag]
theorem word_false (r : Nat) : Ieee.double.word false r = r := rfl
end

/- Plain facts on floats: rounding to the nearest word where nothing is rounded off. -/
section
theorem log2_mul_pow (m d : Nat) (hm : m ≠ 0) : Nat.log2 (m * 2 ^ d) = Nat.log2 m + d := by
 have h1 := Nat.log2_self_le hm
 have h2 : m < 2 ^ (Nat.log2 m + 1) := Nat.lt_log2_self
 have hp : 0 < 2 ^ d := Nat.two_pow_pos d
 rw [Nat.log2_eq_iff (Nat.mul_ne_zero hm (by omega))]
 refine ⟨by rw [Nat.pow_add]; exact Nat.mul_le_mul_right _ h1, ?_⟩
 rw [show Nat.log2 m + d + 1 = (Nat.log2 m + 1) + d by omega, Nat.pow_add]
 exact Nat.mul_lt_mul_of_pos_right h2 hp
theorem cut_exact (neg : Bool) (r d : Nat) : Ieee.Toward.even.cut neg (r * 2 ^ d) d = r := by
 unfold Ieee.Toward.cut
 simp only [Nat.one_shiftLeft]
 by_cases hr : r = 0
 · subst hr; simp
 · rw [log2_mul_pow r d hr, Nat.min_eq_left (by omega)]
   have hp : 0 < 2 ^ d := Nat.two_pow_pos d
   rw [Nat.mul_div_cancel _ hp, Nat.mul_mod_left]
   have e1 : (decide (2 ^ d < 2 * 0) || (2 ^ d == 2 * 0 && r % 2 == 1)) = false := by
     have : ¬ (2 ^ d < 2 * 0) := by omega
     have h2 : (2 ^ d == 2 * 0) = false := by rw [beq_eq_false_iff_ne]; omega
     simp [h2]
   rw [e1]; rfl
theorem nearest_norm (M d : Nat) (place : Int) (h1 : 4503599627370496 ≤ M) (h2 : M < 9007199254740992) (hp : -1074 ≤ place + (d : Nat)) (hb : ((place + (d : Nat) + 1074).toNat) * 4503599627370496 + M < 9218868437227405312) :
   Ieee.double.nearest false (M * 2 ^ d) place = (place + (d : Nat) + 1074).toNat * 4503599627370496 + M := by
 have hM : M ≠ 0 := by omega
 have hL : Nat.log2 M = 52 := by rw [Nat.log2_eq_iff hM]; exact ⟨h1, h2⟩
 unfold Ieee.Format.nearest
 rw [if_neg (Nat.mul_ne_zero hM (Nat.ne_of_gt (Nat.two_pow_pos d)))]
 simp only [d_lp, d_bin, d_inf]
 have e0 : (Ieee.double.fractionBits : Int) = 52 := rfl
 rw [log2_mul_pow M d hM, hL, e0, show max (place + ((52 + d : Nat) : Int) - 52) (-1074) = place + (d : Nat) by omega]
 rw [show (place - (place + (d : Nat)) : Int).toNat = 0 by omega, show (place + (d : Nat) - place : Int).toNat = d by omega, Nat.shiftLeft_zero, cut_exact]
 rw [show (place + (d : Nat) - -1074 : Int) = place + (d : Nat) + 1074 by omega, Nat.min_eq_left (by omega)]
 rfl
theorem read_norm (E u : Nat) (hE : 1 ≤ E) (hE2 : E ≤ 2046) (hu : u < 4503599627370496) : Ieee.double.read (E * 4503599627370496 + u) = .number false (4503599627370496 + u) (-1075 + (E : Int)) := by
 have hf : Fin64 (E * 4503599627370496 + u) := by unfold Fin64 frung; omega
 rw [read_fin hf]
 have h1 : frung (E * 4503599627370496 + u) = E * 4503599627370496 + u := Nat.mod_eq_of_lt (by omega)
 have h2 : fneg (E * 4503599627370496 + u) = false := by unfold fneg; rw [Nat.div_eq_of_lt (by omega)]; rfl
 rw [h1, h2]
 unfold fmag fpl
 rw [if_neg (by omega), if_neg (by omega), show (E * 4503599627370496 + u) % 4503599627370496 = u by omega, show (E * 4503599627370496 + u) / 4503599627370496 = E by omega]
 congr 1
 omega
theorem read_one : Ieee.double.read 4607182418800017408 = .number false 4503599627370496 (-52) := by
 have := read_norm 1023 0 (by omega) (by omega) (by omega)
 simpa using this
theorem mul_one (E u : Nat) (hE : 1 ≤ E) (hE2 : E ≤ 2046) (hu : u < 4503599627370496) : Ieee.double.mul 4607182418800017408 (E * 4503599627370496 + u) = some (E * 4503599627370496 + u) := by
 unfold Ieee.Format.mul
 rw [read_one, read_norm E u hE hE2 hu]
 unfold Ieee.Datum.product
 simp only [Option.map_some, Ieee.Format.write, Bool.xor_false]
 congr 1
 have h := nearest_norm (4503599627370496 + u) 52 (-52 + (-1075 + (E : Int))) (by omega) (by omega) (by omega) (by omega)
 rw [show (4503599627370496 : Nat) * (4503599627370496 + u) = (4503599627370496 + u) * 2 ^ 52 by rw [Nat.mul_comm], h]
 omega
theorem mul_up (r L : Nat) (h0 : r ≠ 0) (h : r < 4503599627370496) (hL : Nat.log2 r = L) : Ieee.double.mul r 4841369599423283200 = some (L * 4503599627370496 + r * 2 ^ (52 - L)) := by
 have h1 : Ieee.double.read 4841369599423283200 = .number false 4503599627370496 0 := by
   have := read_norm 1075 0 (by omega) (by omega) (by omega)
   simpa using this
 have hf : Fin64 r := by unfold Fin64 frung; omega
 have h2 : Ieee.double.read r = .number false r (-1074) := by
   rw [read_fin hf]
   have e1 : frung r = r := Nat.mod_eq_of_lt (by omega)
   have e2 : fneg r = false := by unfold fneg; rw [Nat.div_eq_of_lt (by omega)]; rfl
   rw [e1, e2]
   unfold fmag fpl
   rw [if_pos h, if_pos h]
 have a1 := Nat.log2_self_le h0
 have a2 : r < 2 ^ (Nat.log2 r + 1) := Nat.lt_log2_self
 have a3 : Nat.log2 r < 52 := (Nat.log2_lt h0).2 h
 rw [hL] at a1 a2 a3
 have b1 : 4503599627370496 ≤ r * 2 ^ (52 - L) := by
   have := Nat.mul_le_mul_right (2 ^ (52 - L)) a1
   rw [← Nat.pow_add, show L + (52 - L) = 52 by omega] at this
   exact this
 have b2 : r * 2 ^ (52 - L) < 9007199254740992 := by
   have := Nat.mul_lt_mul_of_pos_right a2 (Nat.two_pow_pos (52 - L))
   rw [← Nat.pow_add, show L + 1 + (52 - L) = 53 by omega] at this
   exact this
 unfold Ieee.Format.mul
 rw [h1, h2]
 unfold Ieee.Datum.product
 simp only [Option.map_some, Ieee.Format.write, Bool.xor_false]
 congr 1
 have h3 := nearest_norm (r * 2 ^ (52 - L)) L (-1074 + 0) b1 b2 (by omega) (by omega)
 rw [Nat.mul_assoc, ← Nat.pow_add, show 52 - L + L = 52 by omega] at h3
 rw [show r * 4503599627370496 = r * 2 ^ 52 from rfl, h3]
 omega
end

/- Floats: IsNaN, IsInf, normalize, Frexp, Ldexp of package math, on the words that package whole hands them. -/
section
open Go.RowKit
theorem fin_order_self {b : Nat} (h : Fin64 b) : Ieee.double.order b b = some .eq := by
 rw [order_fin h h, if_neg (by exact Rat.lt_irrefl), if_pos rfl]
def isnan (b : Nat) : Bool := decide (9218868437227405312 < frung b)
def isinf (b : Nat) : Bool := frung b == 9218868437227405312
theorem order_self (b : Nat) : (Ieee.double.order b b != some .eq) = isnan b := by
 unfold isnan
 rcases Nat.lt_trichotomy (frung b) 9218868437227405312 with h | h | h
 · rw [fin_order_self h]; simp; omega
 · rw [order_inf_self h, h]; simp
 · rw [order_nan_left h]; simp [h]
theorem order_big (b : Nat) : (Ieee.double.order (b % 9223372036854775808) 9218868437227405311 == some .gt) = isinf b := by
 unfold isinf
 have e : frung (b % 9223372036854775808) = frung b := by unfold frung; rw [Nat.mod_mod]
 have hm : Fin64 9218868437227405311 := by unfold Fin64 frung; decide
 rcases Nat.lt_trichotomy (frung b) 9218868437227405312 with h | h | h
 · have hr : b % 9223372036854775808 < 9218868437227405312 := h
   rw [order_fin (by unfold Fin64; rw [e]; exact h) hm]
   have h1 := fval_le_max hr
   have h2 : (frung b == 9218868437227405312) = false := by rw [beq_eq_false_iff_ne]; omega
   rw [h2]
   by_cases h3 : fval (b % 9223372036854775808) < fval 9218868437227405311
   · rw [if_pos h3]; rfl
   · rw [if_neg h3, if_pos (by grind)]; rfl
 · rw [order_inf_fin (by rw [e]; exact h) hm, h]
   have : fneg (b % 9223372036854775808) = false := by unfold fneg; rw [Nat.div_eq_of_lt (Nat.mod_lt _ (by omega))]; rfl
   rw [this]; rfl
 · rw [order_nan_left (by rw [e]; exact h)]
   have h2 : (frung b == 9218868437227405312) = false := by rw [beq_eq_false_iff_ne]; omega
   rw [h2]; rfl
set_option maxHeartbeats 1000000 in
theorem isNaN_any (b : Nat) (w : World) : Calls Tryd.prog 58 #[.float .f64 b] w fun e w' => e = .returned (.bool (isnan b)) ∧ w' = w := by
 have h := order_self b
 have h' : (FloatKind.f64.format.order b b != some .eq) = isnan b := h
 go_enter Tryd.func58, Tryd.ntmps58
 go_wp2
 go_ret
 refine ⟨?_, rfl⟩
 rw [← h']
 rfl
set_option maxHeartbeats 1000000 in
theorem isInf0_any (b : Nat) (w : World) (hb : b < 18446744073709551616) : Calls Tryd.prog 57 #[.float .f64 b, .int .i64 0] w fun e w' => e = .returned (.bool (isinf b)) ∧ w' = w := by
 have h' : (FloatKind.f64.format.order (b % 9223372036854775808) 9218868437227405311 == some .gt) = isinf b := order_big b
 have HB : Hid (b < 18446744073709551616) := hb
 clear hb
 go_enter Tryd.func57, Tryd.ntmps57
 go_wp2_with fail
 refine (abs_any b _ HB.out).mono ?_
 rintro e w' ⟨rfl, rfl⟩
 generalize b % 9223372036854775808 = c at *
 go_wp2
 go_ret
 refine ⟨?_, rfl⟩
 rw [← h']
 rfl
set_option maxHeartbeats 1000000 in
theorem normalize_big (r : Nat) (w : World) (h1 : 4503599627370496 ≤ r) (h2 : r < 9218868437227405312) : Calls Tryd.prog 59 #[.float .f64 r] w fun e w' => e = .returned (.tuple #[.float .f64 r, .int .i64 0]) ∧ w' = w := by
 have e1 : r % 9223372036854775808 = r := Nat.mod_eq_of_lt (by omega)
 have e2 : (FloatKind.f64.format.order r 4503599627370496 == some .lt) = false := by
   show (Ieee.double.order r 4503599627370496 == some .lt) = false
   rw [order_fin (by unfold Fin64 frung; omega) (by unfold Fin64 frung; decide), if_neg (by rw [small_iff h2]; omega)]
   split <;> rfl
 have H1 : Hid (r % 9223372036854775808 = r) := e1
 have H2 : Hid (r < 18446744073709551616) := (by omega : r < 18446744073709551616)
 clear e1 h1 h2
 go_enter Tryd.func59, Tryd.ntmps59
 go_wp2_with fail
 refine (abs_any r _ H2.out).mono ?_
 rw [H1.out]
 rintro e w' ⟨rfl, rfl⟩
 go_wp2
 go_ret2
 exact ⟨rfl, rfl⟩
set_option maxHeartbeats 1000000 in
theorem normalize_small (r L : Nat) (w : World) (h0 : r ≠ 0) (h1 : r < 4503599627370496) (hL : Nat.log2 r = L) : Calls Tryd.prog 59 #[.float .f64 r] w fun e w' => e = .returned (.tuple #[.float .f64 (L * 4503599627370496 + r * 2 ^ (52 - L)), .int .i64 (-52)]) ∧ w' = w := by
 have e1 : r % 9223372036854775808 = r := Nat.mod_eq_of_lt (by omega)
 have e2 : (FloatKind.f64.format.order r 4503599627370496 == some .lt) = true := by
   show (Ieee.double.order r 4503599627370496 == some .lt) = true
   rw [order_fin (by unfold Fin64 frung; omega) (by unfold Fin64 frung; decide), if_pos (by rw [small_iff (by omega)]; omega)]
   rfl
 have e3 : ∀ w, (binOp .mul 39 (.float .f64 r) (.float .f64 4841369599423283200)).run Tryd.prog w = .ok (.float .f64 (L * 4503599627370496 + r * 2 ^ (52 - L))) w := fun w => run_float_arith w .mul _ .f64 r 4841369599423283200 _ (mul_up r L h0 h1 hL)
 have H1 : Hid (r % 9223372036854775808 = r) := e1
 have H2 : Hid (r < 18446744073709551616) := (by omega : r < 18446744073709551616)
 clear e1 h1 h0 hL
 generalize L * 4503599627370496 + r * 2 ^ (52 - L) = y at *
 go_enter Tryd.func59, Tryd.ntmps59
 go_wp2_with fail
 refine (abs_any r _ H2.out).mono ?_
 rw [H1.out]
 rintro e w' ⟨rfl, rfl⟩
 go_wp2
 go_ret2
 exact ⟨rfl, rfl⟩
end

/- Floats: Frexp and Ldexp. -/
section
open Go.RowKit
theorem and_exp (n : Nat) (h : n < 2048) : bits .and .u64 (n : Int) 2047 = (n : Int) := by
 rw [show (2047 : Int) = ((2047 : Nat) : Int) from rfl, u64_and_nat n _ (by omega) (by omega), show (2047 : Nat) = 2 ^ 11 - 1 by decide, Nat.and_two_pow_sub_one_eq_mod, Nat.mod_eq_of_lt h]
theorem andNot_exp (r : Nat) (h : r < 9223372036854775808) : bits .andNot .u64 (r : Int) 9218868437227405312 = ((r % 4503599627370496 : Nat) : Int) := by
 rw [show (9218868437227405312 : Int) = ((9218868437227405312 : Nat) : Int) from rfl, u64_andNot_nat r _ (by omega) (by omega)]
 congr 1
 have e : (18446744073709551615 - 9218868437227405312 : Nat) = 2 ^ 63 ||| (2 ^ 52 - 1) := by decide
 rw [e, Nat.and_or_distrib_left, Nat.and_two_pow_sub_one_eq_mod]
 have e2 : r &&& 2 ^ 63 = 0 := by
   apply Nat.eq_of_testBit_eq
   intro i
   rw [Nat.testBit_and, Nat.testBit_two_pow, Nat.zero_testBit]
   by_cases hi : 63 = i
   · subst hi; rw [Nat.testBit_lt_two_pow (by omega)]; rfl
   · simp [hi]
 rw [e2, Nat.zero_or]
theorem or_exp (T u : Nat) (hT : T < 2048) (hu : u < 4503599627370496) : bits .or .u64 (u : Int) ((T * 4503599627370496 : Nat) : Int) = ((T * 4503599627370496 + u : Nat) : Int) := by
 rw [u64_or_nat u _ (by omega) (by omega)]
 congr 1
 rw [show T * 4503599627370496 = 2 ^ 52 * T by rw [Nat.mul_comm], Nat.or_comm, ← Nat.two_pow_add_eq_or_of_lt hu]
theorem zero_order (r : Nat) (h0 : r ≠ 0) (h : r < 9218868437227405312) : (FloatKind.f64.format.order r 0 == some .eq) = false := by
 show (Ieee.double.order r 0 == some .eq) = false
 have hf : Fin64 r := by unfold Fin64 frung; omega
 rw [order_fin hf (by unfold Fin64 frung; decide)]
 have e0 : fval 0 = 0 := fval_zero_iff.2 rfl
 have e1 : fval r ≠ 0 := by rw [Ne, fval_zero_iff]; unfold frung; omega
 rw [e0]
 rw [if_neg e1]
 split <;> rfl
theorem fin_flags (r : Nat) (h : r < 9218868437227405312) : isinf r = false ∧ isnan r = false := by
 have e : frung r = r := Nat.mod_eq_of_lt (by omega)
 unfold isinf isnan
 rw [e]
 exact ⟨by rw [beq_eq_false_iff_ne]; omega, by simp; omega⟩
theorem ret_fi {a : Nat} {b c : Int} (h : b = c) : Ending.returned (.tuple #[.float .f64 a, .int .i64 b]) = .returned (.tuple #[.float .f64 a, .int .i64 c]) := by rw [h]
set_option maxHeartbeats 2000000 in
theorem frexp_core (r y : Nat) (e0 : Int) (w : World) (h0 : r ≠ 0) (h : r < 9218868437227405312) (hy1 : 4503599627370496 ≤ y) (hy2 : y < 9218868437227405312) (he1 : -100 ≤ e0) (he2 : e0 ≤ 100)
   (hn : ∀ w, Calls Tryd.prog 59 #[.float .f64 r] w fun e w' => e = .returned (.tuple #[.float .f64 y, .int .i64 e0]) ∧ w' = w) :
   Calls Tryd.prog 49 #[.float .f64 r] w fun e w' => e = .returned (.tuple #[.float .f64 (1022 * 4503599627370496 + y % 4503599627370496), .int .i64 (e0 + ((y / 4503599627370496 : Nat) : Int) - 1022)]) ∧ w' = w := by
 have z := zero_order r h0 h
 obtain ⟨f1, f2⟩ := fin_flags r h
 have b1 := run_bits y
 have b2 := run_frombits (1022 * 4503599627370496 + y % 4503599627370496)
 have c1 := and_exp (y / 4503599627370496) (by omega)
 have c1' : bits .and .u64 ((y : Int) / 4503599627370496) 2047 = ((y / 4503599627370496 : Nat) : Int) := by rw [show ((y : Int) / 4503599627370496) = ((y / 4503599627370496 : Nat) : Int) by omega]; exact c1
 have c2 := andNot_exp y (by omega)
 have c3 := or_exp 1022 (y % 4503599627370496) (by omega) (Nat.mod_lt _ (by omega))
 have c3' : bits .or .u64 ((y % 4503599627370496 : Nat) : Int) 4602678819172646912 = ((1022 * 4503599627370496 + y % 4503599627370496 : Nat) : Int) := c3
 have HI : Hid (∀ w, Calls Tryd.prog 57 #[.float .f64 r, .int .i64 0] w fun e w' => e = .returned (.bool false) ∧ w' = w) := fun w => by have := isInf0_any r w (by omega); rwa [f1] at this
 have HN : Hid (∀ w, Calls Tryd.prog 58 #[.float .f64 r] w fun e w' => e = .returned (.bool false) ∧ w' = w) := fun w => by have := isNaN_any r w; rwa [f2] at this
 have HM : Hid _ := hn
 have hE : y / 4503599627370496 < 2048 := by omega
 clear hn f1 f2 c1 c3 h0 h hy1 hy2
 generalize 1022 * 4503599627370496 + y % 4503599627370496 = z1 at *
 generalize y % 4503599627370496 = u at *
 generalize hEE : y / 4503599627370496 = E at *
 clear hEE
 have hEi : (E : Int) < 2048 := by omega
 go_enter Tryd.func49, Tryd.ntmps49
 go_wp2_with (first
   | (go_at_call 57; refine (HI.out _).mono ?_; rintro e w' ⟨rfl, rfl⟩)
   | (go_at_call 58; refine (HN.out _).mono ?_; rintro e w' ⟨rfl, rfl⟩)
   | (go_at_call 59; refine (HM.out _).mono ?_; rintro e w' ⟨rfl, rfl⟩))
 go_ret2
 exact ⟨ret_fi (by omega), rfl⟩
def bits53 (r : Nat) : Nat := if r < 4503599627370496 then r * 2 ^ (52 - Nat.log2 r) else 4503599627370496 + r % 4503599627370496
def place53 (r : Nat) : Int := if r < 4503599627370496 then -1126 + (Nat.log2 r : Int) else -1075 + ((r / 4503599627370496 : Nat) : Int)
theorem bits53_bounds (r : Nat) (h0 : r ≠ 0) : 4503599627370496 ≤ bits53 r ∧ bits53 r < 9007199254740992 := by
 unfold bits53
 split
 · rename_i h
   have a1 := Nat.log2_self_le h0
   have a2 : r < 2 ^ (Nat.log2 r + 1) := Nat.lt_log2_self
   have a3 : Nat.log2 r < 52 := (Nat.log2_lt h0).2 h
   have b1 := Nat.mul_le_mul_right (2 ^ (52 - Nat.log2 r)) a1
   have b2 := Nat.mul_lt_mul_of_pos_right a2 (Nat.two_pow_pos (52 - Nat.log2 r))
   rw [← Nat.pow_add, show Nat.log2 r + (52 - Nat.log2 r) = 52 by omega] at b1
   rw [← Nat.pow_add, show Nat.log2 r + 1 + (52 - Nat.log2 r) = 53 by omega] at b2
   exact ⟨b1, b2⟩
 · omega
theorem bits53_val (r : Nat) (h0 : r ≠ 0) : ((bits53 r : Nat) : Rat) * p2 (place53 r) = (fmag r : Nat) * p2 (fpl r) := by
 unfold bits53 place53 fmag fpl
 split
 · rename_i h
   have a3 : Nat.log2 r < 52 := (Nat.log2_lt h0).2 h
   rw [nat_mul_p2, Rat.mul_assoc, ← p2_add]
   congr 2
   omega
 · congr 2
   omega
theorem frexp_any (r : Nat) (w : World) (h0 : r ≠ 0) (h : r < 9218868437227405312) :
   Calls Tryd.prog 49 #[.float .f64 r] w fun e w' => e = .returned (.tuple #[.float .f64 (1022 * 4503599627370496 + (bits53 r - 4503599627370496)), .int .i64 (place53 r + 53)]) ∧ w' = w := by
 have hb := bits53_bounds r h0
 by_cases hs : r < 4503599627370496
 · have a3 : Nat.log2 r < 52 := (Nat.log2_lt h0).2 hs
   have e1 : bits53 r = r * 2 ^ (52 - Nat.log2 r) := by unfold bits53; rw [if_pos hs]
   have e2 : place53 r = -1126 + (Nat.log2 r : Int) := by unfold place53; rw [if_pos hs]
   have hc := frexp_core r (Nat.log2 r * 4503599627370496 + r * 2 ^ (52 - Nat.log2 r)) (-52) w h0 h (by omega) (by omega) (by omega) (by omega) (fun w => normalize_small r _ w h0 hs rfl)
   rw [← e1] at hc
   rw [show (Nat.log2 r * 4503599627370496 + bits53 r) % 4503599627370496 = bits53 r - 4503599627370496 by omega, show (Nat.log2 r * 4503599627370496 + bits53 r) / 4503599627370496 = Nat.log2 r + 1 by omega] at hc
   rw [e2, show -1126 + (Nat.log2 r : Int) + 53 = -52 + ((Nat.log2 r + 1 : Nat) : Int) - 1022 by omega]
   exact hc
 · have e1 : bits53 r = 4503599627370496 + r % 4503599627370496 := by unfold bits53; rw [if_neg hs]
   have e2 : place53 r = -1075 + ((r / 4503599627370496 : Nat) : Int) := by unfold place53; rw [if_neg hs]
   have hc := frexp_core r r 0 w h0 h (by omega) h (by omega) (by omega) (fun w => normalize_big r w (by omega) h)
   rw [e1, e2, show 4503599627370496 + r % 4503599627370496 - 4503599627370496 = r % 4503599627370496 by omega, show -1075 + ((r / 4503599627370496 : Nat) : Int) + 53 = 0 + ((r / 4503599627370496 : Nat) : Int) - 1022 by omega]
   exact hc
set_option maxHeartbeats 1000000 in
theorem Frexp_of (a b : Nat) (c : Int) (w : World) (hf : ∀ w, Calls Tryd.prog 49 #[.float .f64 a] w fun e w' => e = .returned (.tuple #[.float .f64 b, .int .i64 c]) ∧ w' = w) :
   Calls Tryd.prog 38 #[.float .f64 a] w fun e w' => e = .returned (.tuple #[.float .f64 b, .int .i64 c]) ∧ w' = w := by
 have HF : Hid _ := hf
 clear hf
 go_enter Tryd.func38, Tryd.ntmps38
 go_wp2_with (first | (go_at_call 49; refine (HF.out _).mono ?_; rintro e w' ⟨rfl, rfl⟩))
 go_ret2
 exact ⟨rfl, rfl⟩
theorem conv_norm (u : Nat) (hu : u < 4503599627370496) : floatToIntVal .f64 (1075 * 4503599627370496 + u) .u64 = some ((4503599627370496 + u : Nat) : Int) := by
 unfold floatToIntVal
 have h : FloatKind.f64.decode (1075 * 4503599627370496 + u) = .number false (4503599627370496 + u) 0 := read_norm 1075 u (by omega) (by omega) hu
 rw [h]
 have hn : 4503599627370496 + u ≤ 9007199254740992 := by omega
 generalize 4503599627370496 + u = n at *
 have h2 : Ieee.Datum.toInt .zero (.number false n 0) = some (n : Int) := by
   simp [Ieee.Datum.toInt, Ieee.Datum.integral, Ieee.Toward.cut, Ieee.signed]
 rw [h2]
 have h3 : IntKind.u64.min = 0 := by decide
 have h4 : IntKind.u64.max = 18446744073709551615 := by decide
 simp only [h3, h4]
 rw [if_pos ⟨by omega, by omega⟩]
end

/- Plain facts: how far a number's bits reach. -/
section
def Bd (h l : Int) (q : Rat) : Prop := q < p2 h ∧ -p2 h < q ∧ ∃ n : Int, q = (n : Rat) * p2 l
theorem bd_le {x P Q : Rat} (a : x < P) (b : -P < x) (h : P ≤ Q) : x < Q ∧ -Q < x := ⟨by grind, by grind⟩
theorem bd_nn {x y P : Rat} (h0 : 0 ≤ x) (h1 : x < y) (h2 : y ≤ P) : x < P ∧ -P < x := ⟨by grind, by grind⟩
theorem Bd.may {h l : Int} {q : Rat} (hb : Bd h l q) (h1 : h ≤ 65537) (h2 : -65536 ≤ l) : May q := by
 obtain ⟨a, b, n, c⟩ := hb
 have hh := bd_le a b (p2_mono h1)
 refine ⟨hh.1, hh.2, n * ((2 ^ (l + 65536).toNat : Nat) : Int), ?_⟩
 have e : p2 l = ((2 ^ (l + 65536).toNat : Nat) : Rat) * p2 (-65536) := by
   rw [← p2_nat, ← p2_add]; congr 1; omega
 rw [c, e, Rat.intCast_mul]
 have : (((2 ^ (l + 65536).toNat : Nat) : Int) : Rat) = ((2 ^ (l + 65536).toNat : Nat) : Rat) := rfl
 rw [this]; grind
theorem Bd.mono {h l h' l' : Int} {q : Rat} (hb : Bd h l q) (h1 : h ≤ h') (h2 : l' ≤ l) : Bd h' l' q := by
 obtain ⟨a, b, n, c⟩ := hb
 have := p2_mono h1
 refine ⟨by grind, by grind, n * ((2 ^ (l - l').toNat : Nat) : Int), ?_⟩
 have e : p2 l = ((2 ^ (l - l').toNat : Nat) : Rat) * p2 l' := by
   rw [← p2_nat, ← p2_add]; congr 1; omega
 rw [c, e, Rat.intCast_mul]
 have : (((2 ^ (l - l').toNat : Nat) : Int) : Rat) = ((2 ^ (l - l').toNat : Nat) : Rat) := rfl
 rw [this]; grind
theorem Bd.neg {h l : Int} {q : Rat} (hb : Bd h l q) : Bd h l (-q) := by
 obtain ⟨a, b, n, c⟩ := hb
 refine ⟨by grind, by grind, -n, ?_⟩
 rw [c, Rat.intCast_neg]; grind
theorem Bd.add {h l : Int} {p q : Rat} (h1 : Bd h l p) (h2 : Bd h l q) : Bd (h + 1) l (p + q) := by
 obtain ⟨a, b, n, c⟩ := h1
 obtain ⟨a', b', n', c'⟩ := h2
 have e : p2 (h + 1) = 2 * p2 h := by rw [p2_add, p2_one]; grind
 refine ⟨by grind, by grind, n + n', ?_⟩
 rw [c, c', Rat.intCast_add]; grind
theorem Bd.sub {h l : Int} {p q : Rat} (h1 : Bd h l p) (h2 : Bd h l q) : Bd (h + 1) l (p - q) := by
 have := h1.add h2.neg
 rwa [show p + -q = p - q by grind] at this
theorem abs_mul_lt {a b c d : Rat} (h1 : -b < a) (h2 : a < b) (h3 : -d < c) (h4 : c < d) : -(b * d) < a * c ∧ a * c < b * d := by
 have hb : 0 < b := by grind
 have hd : 0 < d := by grind
 have e1 : 0 < (b - a) * (d + c) := Rat.mul_pos (by grind) (by grind)
 have e2 : 0 < (b + a) * (d - c) := Rat.mul_pos (by grind) (by grind)
 have e3 : 0 < (b - a) * (d - c) := Rat.mul_pos (by grind) (by grind)
 have e4 : 0 < (b + a) * (d + c) := Rat.mul_pos (by grind) (by grind)
 constructor <;> grind
theorem Bd.mul {h l h' l' : Int} {p q : Rat} (h1 : Bd h l p) (h2 : Bd h' l' q) : Bd (h + h') (l + l') (p * q) := by
 obtain ⟨a, b, n, c⟩ := h1
 obtain ⟨a', b', n', c'⟩ := h2
 have := abs_mul_lt b a b' a'
 rw [Bd, p2_add, p2_add]
 refine ⟨this.2, this.1, n * n', ?_⟩
 rw [c, c', Rat.intCast_mul]; grind
theorem Bd.shift {h l : Int} {p : Rat} (h1 : Bd h l p) (k : Int) : Bd (h + k) (l + k) (p * p2 k) := by
 obtain ⟨a, b, n, c⟩ := h1
 have hp := p2_pos k
 have e1 := Rat.mul_lt_mul_of_pos_right a hp
 have e2 := Rat.mul_lt_mul_of_pos_right b hp
 rw [Bd, p2_add, p2_add]
 refine ⟨e1, by grind, n, ?_⟩
 rw [c]; grind
theorem fval_bd {b : Nat} (h : Fin64 b) : Bd 1024 (-1074) (fval b) := by
 have hr : frung b < 9218868437227405312 := h
 have h1 : fmag (frung b) < 2 ^ 53 := fmag_lt _
 have h2 : fpl (frung b) ≤ 971 := by unfold fpl; split <;> omega
 have h3 : -1074 ≤ fpl (frung b) := by unfold fpl; split <;> omega
 have hp := p2_pos (fpl (frung b))
 have h4 : ((fmag (frung b) : Nat) : Rat) < ((2 ^ 53 : Nat) : Rat) := Rat.natCast_lt_natCast.2 h1
 rw [← p2_nat] at h4
 have h5 := Rat.mul_lt_mul_of_pos_right h4 hp
 rw [← p2_add] at h5
 have h6 : p2 (((53 : Nat) : Int) + fpl (frung b)) ≤ p2 1024 := p2_mono (by omega)
 have h7 : (0 : Rat) ≤ (fmag (frung b) : Nat) * p2 (fpl (frung b)) := Rat.mul_nonneg Rat.natCast_nonneg (Rat.le_of_lt hp)
 have base : Bd 1024 (-1074) ((fmag (frung b) : Nat) * p2 (fpl (frung b))) := by
   have hh := bd_nn h7 h5 h6
   refine ⟨hh.1, hh.2, ((fmag (frung b) * 2 ^ (fpl (frung b) + 1074).toNat : Nat) : Int), ?_⟩
   have e : (((fmag (frung b) * 2 ^ (fpl (frung b) + 1074).toNat : Nat) : Int) : Rat) = ((fmag (frung b) * 2 ^ (fpl (frung b) + 1074).toNat : Nat) : Rat) := rfl
   rw [e, nat_mul_p2, Rat.mul_assoc, ← p2_add, show (((fpl (frung b) + 1074).toNat : Nat) : Int) + -1074 = fpl (frung b) by omega]
 unfold fval sgn1
 split
 · have := base.neg
   rwa [show -1 * ((fmag (frung b) : Nat) * p2 (fpl (frung b)) : Rat) = -((fmag (frung b) : Nat) * p2 (fpl (frung b))) by grind]
 · rwa [Rat.one_mul]
theorem int_bd (n : Int) (h1 : -9223372036854775808 ≤ n) (h2 : n ≤ 9223372036854775807) : Bd 64 0 (n : Rat) := by
 have e : p2 64 = ((18446744073709551616 : Int) : Rat) := by
   rw [show (64 : Int) = ((64 : Nat) : Int) from rfl, p2_nat]; rfl
 refine ⟨?_, ?_, n, by rw [p2_zero, Rat.mul_one]⟩
 · rw [e]; exact Rat.intCast_lt_intCast.2 (by omega)
 · rw [e, ← Rat.intCast_neg]; exact Rat.intCast_lt_intCast.2 (by omega)
end

/- Rounding to the nearest, in plain numbers: what is exact. -/
section
def U (T : Nat) : Rat := p2 ((T : Int) - 1074)
theorem U_pos (T : Nat) : 0 < U T := p2_pos _
theorem U_succ (T : Nat) : U (T + 1) = 2 * U T := by
 unfold U
 rw [show ((T + 1 : Nat) : Int) - 1074 = 1 + ((T : Int) - 1074) by omega, p2_add, p2_one]
theorem U_add (S j : Nat) : U (S + j) = ((2 ^ j : Nat) : Rat) * U S := by
 unfold U
 rw [show ((S + j : Nat) : Int) - 1074 = (j : Nat) + ((S : Int) - 1074) by omega, p2_add, p2_nat]
theorem U_mono {S T : Nat} (h : S ≤ T) : U S ≤ U T := p2_mono (by omega)
theorem U_lt {S T : Nat} (h : S < T) : 2 * U S ≤ U T := by rw [← U_succ]; exact U_mono h
theorem U_lt2 {S T : Nat} (h : S + 2 ≤ T) : 4 * U S ≤ U T := by
 have h1 := U_mono h
 have h2 := U_succ (S + 1)
 have h3 := U_succ S
 grind
def M (u x : Rat) : Prop := ∃ k : Int, x = (k : Rat) * u
theorem M.add {u x y : Rat} (h1 : M u x) (h2 : M u y) : M u (x + y) := by
 obtain ⟨j, rfl⟩ := h1
 obtain ⟨k, rfl⟩ := h2
 exact ⟨j + k, by rw [Rat.intCast_add]; grind⟩
theorem M.neg {u x : Rat} (h1 : M u x) : M u (-x) := by
 obtain ⟨j, rfl⟩ := h1
 exact ⟨-j, by rw [Rat.intCast_neg]; grind⟩
theorem M.sub {u x y : Rat} (h1 : M u x) (h2 : M u y) : M u (x - y) := by
 have := h1.add h2.neg
 rwa [show x + -y = x - y by grind] at this
theorem M.down {S T : Nat} {x : Rat} (h : S ≤ T) (h1 : M (U T) x) : M (U S) x := by
 obtain ⟨k, rfl⟩ := h1
 obtain ⟨j, rfl⟩ : ∃ j, T = S + j := ⟨T - S, by omega⟩
 exact ⟨k * ((2 ^ j : Nat) : Int), by rw [U_add, Rat.intCast_mul, Rat.mul_assoc]; rfl⟩
theorem one_rat : ((1 : Int) : Rat) = 1 := rfl
theorem cast_lt {a b : Int} {u : Rat} (hu : 0 < u) (h : (a : Rat) * u < (b : Rat) * u) : a < b := by
 rcases Int.lt_or_le a b with h1 | h1
 · exact h1
 · have h2 : (b : Rat) ≤ (a : Rat) := Rat.intCast_le_intCast.2 h1
   have h3 := Rat.mul_le_mul_of_nonneg_right h2 (Rat.le_of_lt hu)
   grind
theorem cast_le {a b : Int} {u : Rat} (hu : 0 < u) (h : (a : Rat) * u ≤ (b : Rat) * u) : a ≤ b := by
 rcases Int.lt_or_le b a with h1 | h1
 · have h2 : (b : Rat) < (a : Rat) := Rat.intCast_lt_intCast.2 h1
   have h3 := Rat.mul_lt_mul_of_pos_right h2 hu
   grind
 · exact h1
theorem M.eq {u x y : Rat} (hu : 0 < u) (h1 : M u x) (h2 : M u y) (a : x - y < u) (b : y - x < u) : x = y := by
 obtain ⟨j, rfl⟩ := h1
 obtain ⟨k, rfl⟩ := h2
 have e1 : ((j - k : Int) : Rat) * u < ((1 : Int) : Rat) * u := by rw [Rat.intCast_sub, one_rat]; grind
 have e2 : ((k - j : Int) : Rat) * u < ((1 : Int) : Rat) * u := by rw [Rat.intCast_sub, one_rat]; grind
 have f1 := cast_lt hu e1
 have f2 := cast_lt hu e2
 have : j = k := by omega
 rw [this]
def F (z : Rat) : Prop := ∃ (S : Nat) (m : Int), z = (m : Rat) * U S ∧ -9007199254740992 ≤ m ∧ m ≤ 9007199254740992
theorem F.neg {z : Rat} (h : F z) : F (-z) := by
 obtain ⟨S, m, rfl, h1, h2⟩ := h
 exact ⟨S, -m, by rw [Rat.intCast_neg]; grind, by omega, by omega⟩
theorem F_zero : F 0 := ⟨0, 0, by rw [show ((0 : Int) : Rat) = 0 from rfl]; grind, by omega, by omega⟩
theorem M.small {S : Nat} {z : Rat} (n : Int) (hn : n ≤ 9007199254740992) (h : M (U S) z) (a : z < ((n + 1 : Int) : Rat) * U S) (b : -z < ((n + 1 : Int) : Rat) * U S) : F z := by
 obtain ⟨k, rfl⟩ := h
 have hu := U_pos S
 have e1 := cast_lt hu a
 have e2 : ((-k : Int) : Rat) * U S < ((n + 1 : Int) : Rat) * U S := by rw [Rat.intCast_neg]; grind
 have e2 := cast_lt hu e2
 exact ⟨S, k, rfl, by omega, by omega⟩
structure Rnd (q x : Rat) (T : Nat) (k : Int) : Prop where
 hx : x = (k : Rat) * U T
 h1 : 2 * (x - q) ≤ U T
 h2 : -U T ≤ 2 * (x - q)
 h3 : T = 0 ∨ 4503599627370496 * U T ≤ q ∨ 4503599627370496 * U T ≤ -q
 h4 : q < 9007199254740992 * U T
 h5 : -q < 9007199254740992 * U T
 k1 : -9007199254740992 ≤ k
 k2 : k ≤ 9007199254740992
theorem Rnd.m {q x : Rat} {T : Nat} {k : Int} (R : Rnd q x T k) : M (U T) x := ⟨k, R.hx⟩
theorem Rnd.f {q x : Rat} {T : Nat} {k : Int} (R : Rnd q x T k) : F x := ⟨T, k, R.hx, R.k1, R.k2⟩
theorem Rnd.mult {q x : Rat} {T : Nat} {k : Int} (R : Rnd q x T k) (h : M (U T) q) : x = q := by
 have hu := U_pos T
 have h1 := R.h1
 have h2 := R.h2
 exact M.eq hu R.m h (by grind) (by grind)
theorem F.abs {z : Rat} {S : Nat} {m : Int} (h : z = (m : Rat) * U S) (h1 : -9007199254740992 ≤ m) (h2 : m ≤ 9007199254740992) : z ≤ 9007199254740992 * U S ∧ -z ≤ 9007199254740992 * U S := by
 have hu := U_pos S
 have a1 := Rat.mul_le_mul_of_nonneg_right (Rat.intCast_le_intCast.2 h2) (Rat.le_of_lt hu)
 have a2 := Rat.mul_le_mul_of_nonneg_right (Rat.intCast_le_intCast.2 h1) (Rat.le_of_lt hu)
 have e1 : ((9007199254740992 : Int) : Rat) = 9007199254740992 := rfl
 have e2 : ((-9007199254740992 : Int) : Rat) = -9007199254740992 := rfl
 rw [e1] at a1
 rw [e2] at a2
 rw [h]
 constructor <;> grind
theorem Rnd.exact {q x : Rat} {T : Nat} {k : Int} (R : Rnd q x T k) (h : F q) : x = q := by
 obtain ⟨S, m, hq, h1, h2⟩ := h
 have hu := U_pos S
 rcases Nat.lt_or_ge S T with hs | hs
 · have hb := F.abs hq h1 h2
   have h3 := R.h3
   rcases Nat.lt_or_ge T (S + 2) with ht | ht
   · have e : T = S + 1 := by omega
     subst e
     have eu := U_succ S
     apply R.mult
     have hm : m = 9007199254740992 ∨ m = -9007199254740992 := by
       rcases h3 with h3 | h3 | h3
       · omega
       · left
         have : ((9007199254740992 : Int) : Rat) * U S ≤ (m : Rat) * U S := by
           rw [← hq, show ((9007199254740992 : Int) : Rat) = 9007199254740992 from rfl]; grind
         have := cast_le hu this
         omega
       · right
         have : ((9007199254740992 : Int) : Rat) * U S ≤ ((-m : Int) : Rat) * U S := by
           rw [Rat.intCast_neg, show ((9007199254740992 : Int) : Rat) = 9007199254740992 from rfl]; grind
         have := cast_le hu this
         omega
     rcases hm with rfl | rfl
     · exact ⟨4503599627370496, by rw [hq, eu, show ((9007199254740992 : Int) : Rat) = 9007199254740992 from rfl, show ((4503599627370496 : Int) : Rat) = 4503599627370496 from rfl]; grind⟩
     · exact ⟨-4503599627370496, by rw [hq, eu, show ((-9007199254740992 : Int) : Rat) = -9007199254740992 from rfl, show ((-4503599627370496 : Int) : Rat) = -4503599627370496 from rfl]; grind⟩
   · have := U_lt2 ht
     exfalso
     rcases h3 with h3 | h3 | h3
     · omega
     · grind
     · grind
 · exact R.mult (M.down hs ⟨m, hq⟩)
theorem Rnd.best {q x y c : Rat} {T : Nat} {k : Int} (R : Rnd q x T k) (h : F y) (c1 : -c ≤ y - q) (c2 : y - q ≤ c) : -c ≤ x - q ∧ x - q ≤ c := by
 have hu := U_pos T
 have r1 := R.h1
 have r2 := R.h2
 have key : ∀ {z d : Rat}, M (U T) z → -d ≤ z - q → z - q ≤ d → -d ≤ x - q ∧ x - q ≤ d := by
   intro z d hz d1 d2
   by_cases e : x - z < U T ∧ z - x < U T
   · have := M.eq hu R.m hz e.1 e.2
     rw [this]; exact ⟨d1, d2⟩
   · constructor <;> grind
 obtain ⟨S, m, hy, h1, h2⟩ := h
 rcases Nat.lt_or_ge S T with hs | hs
 · have hb := F.abs hy h1 h2
   have hl := U_lt hs
   rcases R.h3 with h3 | h3 | h3
   · omega
   · have := key (z := 4503599627370496 * U T) (d := q - 4503599627370496 * U T) ⟨4503599627370496, rfl⟩ (by grind) (by grind)
     constructor <;> grind
   · have := key (z := -4503599627370496 * U T) (d := -q - 4503599627370496 * U T) ⟨-4503599627370496, rfl⟩ (by grind) (by grind)
     constructor <;> grind
 · exact key (M.down hs ⟨m, hy⟩) c1 c2
end

/- Two floats added: what is rounded off is told exactly (Dekker, Knuth). -/
section
structure FC (z : Rat) (S : Nat) (m : Int) : Prop where
 hz : z = (m : Rat) * U S
 m1 : -9007199254740992 < m
 m2 : m < 9007199254740992
 h3 : S = 0 ∨ 4503599627370496 ≤ m ∨ m ≤ -4503599627370496
theorem FC.f {z : Rat} {S : Nat} {m : Int} (h : FC z S m) : F z := ⟨S, m, h.hz, by have := h.m1; omega, by have := h.m2; omega⟩
theorem FC.neg {z : Rat} {S : Nat} {m : Int} (h : FC z S m) : FC (-z) S (-m) :=
 ⟨by rw [h.hz, Rat.intCast_neg]; grind, by have := h.m2; omega, by have := h.m1; omega, by have := h.h3; omega⟩
theorem Rnd.neg {q x : Rat} {T : Nat} {k : Int} (R : Rnd q x T k) : Rnd (-q) (-x) T (-k) := by
 obtain ⟨hx, h1, h2, h3, h4, h5, k1, k2⟩ := R
 exact ⟨by rw [hx, Rat.intCast_neg]; grind, by grind, by grind, by rcases h3 with h | h | h; exact Or.inl h; exact Or.inr (Or.inr (by grind)); exact Or.inr (Or.inl (by grind)), by grind, by grind, by omega, by omega⟩
theorem FC.mul {z : Rat} {S : Nat} {m : Int} (h : FC z S m) : M (U S) z := ⟨m, h.hz⟩
theorem FC.size {z : Rat} {S : Nat} {m : Int} (h : FC z S m) : z ≤ 9007199254740991 * U S ∧ -z ≤ 9007199254740991 * U S := by
 have hu := U_pos S
 have m1 := h.m1
 have m2 := h.m2
 have a1 := Rat.mul_le_mul_of_nonneg_right (Rat.intCast_le_intCast.2 (by omega : m ≤ 9007199254740991)) (Rat.le_of_lt hu)
 have a2 := Rat.mul_le_mul_of_nonneg_right (Rat.intCast_le_intCast.2 (by omega : -9007199254740991 ≤ m)) (Rat.le_of_lt hu)
 rw [show ((9007199254740991 : Int) : Rat) = 9007199254740991 from rfl] at a1
 rw [show ((-9007199254740991 : Int) : Rat) = -9007199254740991 from rfl] at a2
 rw [h.hz]
 constructor <;> grind
def RN (q x : Rat) : Prop := ∃ T k, Rnd q x T k
theorem RN.exact {q x : Rat} (h : RN q x) (hf : F q) : x = q := by obtain ⟨_, _, R⟩ := h; exact R.exact hf
end

/- The number that digits below 2^24 tell, plainly. -/
section
def v24 : List Nat → Nat
 | [] => 0
 | n :: r => n + 16777216 * v24 r
theorem p24 (k : Nat) : 2 ^ (24 * (k + 1)) = 16777216 * 2 ^ (24 * k) := by
 rw [show 24 * (k + 1) = 24 + 24 * k by omega, Nat.pow_add]
theorem v24_append (a b : List Nat) : v24 (a ++ b) = v24 a + 2 ^ (24 * a.length) * v24 b := by
 induction a with
 | nil => simp [v24]
 | cons x r ih => rw [List.cons_append, v24, v24, ih, List.length_cons, p24]; grind
theorem v24_snoc (a : List Nat) (x : Nat) : v24 (a ++ [x]) = v24 a + 2 ^ (24 * a.length) * x := by
 rw [v24_append]; simp [v24]
theorem v24_take_succ (l : List Nat) (k : Nat) : v24 (l.take (k + 1)) = v24 (l.take k) + 2 ^ (24 * k) * l.getD k 0 := by
 by_cases hk : k < l.length
 · rw [List.take_succ_eq_append_getElem hk, v24_append, List.length_take, Nat.min_eq_left (by omega)]
   simp [v24, List.getD, hk]
 · rw [List.take_of_length_le (by omega), List.take_of_length_le (by omega)]
   simp [List.getD, List.getElem?_eq_none (Nat.le_of_not_lt hk)]
theorem v24_lt {ds : List Nat} (h : ∀ d ∈ ds, d < 16777216) : v24 ds < 2 ^ (24 * ds.length) := by
 induction ds with
 | nil => simp [v24]
 | cons x r ih =>
   have h0 : x < 16777216 := h x (by simp)
   have h1 := ih (fun d hd => h d (by simp [hd]))
   rw [v24, List.length_cons, p24]
   omega
theorem v24_mod {ds : List Nat} (h : ∀ d ∈ ds, d < 16777216) : v24 ds % 16777216 = ds.getD 0 0 := by
 cases ds with
 | nil => simp [v24]
 | cons x r =>
   have h0 : x < 16777216 := h x (by simp)
   simp only [v24, List.getD_cons_zero]
   omega
def ms (f : Int → Nat) (L : Int) : Nat → Nat
 | 0 => 0
 | n + 1 => ms f L n + 2 ^ (24 * n) * f (L + (n : Int))
theorem ms_congr {f g : Int → Nat} (h : ∀ j, f j = g j) (L : Int) (n : Nat) : ms f L n = ms g L n := by
 induction n with
 | zero => rfl
 | succ n ih => rw [ms, ms, ih, h]
theorem ms_add (f : Int → Nat) (L : Int) (k n : Nat) : ms f L (k + n) = ms f L k + 2 ^ (24 * k) * ms f (L + (k : Int)) n := by
 induction n with
 | zero => simp [ms]
 | succ n ih =>
   rw [← Nat.add_assoc, ms, ih, ms, show 24 * (k + n) = 24 * k + 24 * n by omega, Nat.pow_add, show L + (k : Int) + (n : Int) = L + ((k + n : Nat) : Int) by omega]
   grind
theorem ms_zero {f : Int → Nat} {L : Int} {n : Nat} (h : ∀ i, L ≤ i → i < L + (n : Int) → f i = 0) : ms f L n = 0 := by
 induction n with
 | zero => rfl
 | succ n ih => rw [ms, ih (fun i h1 h2 => h i h1 (by omega)), h _ (by omega) (by omega)]; simp
theorem ms_lt {f : Int → Nat} (h : ∀ i, f i < 16777216) (L : Int) (n : Nat) : ms f L n < 2 ^ (24 * n) := by
 induction n with
 | zero => simp [ms]
 | succ n ih =>
   rw [ms, p24]
   have h1 : f (L + (n : Int)) + 1 ≤ 16777216 := h _
   have h2 := Nat.mul_le_mul_left (2 ^ (24 * n)) h1
   rw [Nat.mul_add, Nat.mul_one, Nat.mul_comm _ 16777216] at h2
   omega
theorem ms_less {f g : Int → Nat} (hg : ∀ i, g i < 16777216) {L i : Int} {n : Nat} (h1 : L ≤ i) (h2 : i < L + (n : Int)) (heq : ∀ j, i < j → f j = g j) (hlt : g i < f i) : ms g L n < ms f L n := by
 obtain ⟨k, rfl⟩ : ∃ k : Nat, i = L + (k : Int) := ⟨(i - L).toNat, by omega⟩
 obtain ⟨m, rfl⟩ : ∃ m, n = k + 1 + m := ⟨n - k - 1, by omega⟩
 rw [ms_add, ms_add f]
 have e : ms g (L + ((k + 1 : Nat) : Int)) m = ms f (L + ((k + 1 : Nat) : Int)) m := by
   have : ∀ q : Nat, ms g (L + ((k + 1 : Nat) : Int)) q = ms f (L + ((k + 1 : Nat) : Int)) q := by
     intro q
     induction q with
     | zero => rfl
     | succ q ih => rw [ms, ms, ih, heq _ (by omega)]
   exact this m
 rw [e, ms, ms]
 have h3 := ms_lt hg L k
 have h4 : g (L + (k : Int)) + 1 ≤ f (L + (k : Int)) := hlt
 have h5 := Nat.mul_le_mul_left (2 ^ (24 * k)) h4
 rw [Nat.mul_add, Nat.mul_one] at h5
 omega
def dg (ds : List Nat) (E j : Int) : Nat := if E ≤ j then ds.getD (j - E).toNat 0 else 0
theorem dg_small {ds : List Nat} (h : ∀ d ∈ ds, d < 16777216) (E j : Int) : dg ds E j < 16777216 := by
 unfold dg
 split
 · by_cases hi : (j - E).toNat < ds.length
   · have e : ds.getD (j - E).toNat 0 = ds[(j - E).toNat] := by simp [List.getD, hi]
     rw [e]; exact h _ (List.getElem_mem hi)
   · simp [List.getD, List.getElem?_eq_none (Nat.le_of_not_lt hi)]
 · omega
theorem ms_dg (ds : List Nat) (E : Int) (k : Nat) : ms (dg ds E) E k = v24 (ds.take k) := by
 induction k with
 | zero => simp [ms, v24]
 | succ k ih =>
   rw [ms, ih, v24_take_succ]
   unfold dg
   rw [if_pos (by omega), show (E + (k : Int) - E).toNat = k by omega]
def mag (ds : List Nat) (E : Int) : Rat := (v24 ds : Nat) * p2 (24 * E)
theorem mag_ms {ds : List Nat} {E L : Int} {n : Nat} (h1 : L ≤ E) (h2 : E + (ds.length : Int) ≤ L + (n : Int)) : mag ds E = (ms (dg ds E) L n : Nat) * p2 (24 * L) := by
 obtain ⟨k, rfl⟩ : ∃ k : Nat, E = L + (k : Int) := ⟨(E - L).toNat, by omega⟩
 obtain ⟨m, rfl⟩ : ∃ m, n = k + m := ⟨n - k, by omega⟩
 rw [ms_add, ms_zero (n := k) (fun i a b => by unfold dg; rw [if_neg (by omega)]), ms_dg, List.take_of_length_le (by omega), Nat.zero_add]
 unfold mag
 rw [show 24 * (L + (k : Int)) = ((24 * k : Nat) : Int) + 24 * L by omega, p2_add, p2_nat, Rat.natCast_mul]
 grind
theorem mag_congr {ds ds' : List Nat} {E E' : Int} (h : ∀ j, dg ds' E' j = dg ds E j) : mag ds' E' = mag ds E := by
 have a1 : min E E' ≤ E := by omega
 have a2 : min E E' ≤ E' := by omega
 have b1 : E + (ds.length : Int) ≤ min E E' + (((E - min E E').toNat + (E' - min E E').toNat + ds.length + ds'.length : Nat) : Int) := by omega
 have b2 : E' + (ds'.length : Int) ≤ min E E' + (((E - min E E').toNat + (E' - min E E').toNat + ds.length + ds'.length : Nat) : Int) := by omega
 rw [mag_ms a1 b1, mag_ms a2 b2, ms_congr h]
theorem mag_nil (E : Int) : mag [] E = 0 := by unfold mag; simp [v24]
theorem v24_last {ds : List Nat} (hne : ds ≠ []) (ht : ds.getD (ds.length - 1) 0 ≠ 0) : 2 ^ (24 * (ds.length - 1)) ≤ v24 ds := by
 have hl := List.length_pos_iff.2 hne
 have e := v24_take_succ ds (ds.length - 1)
 rw [show ds.length - 1 + 1 = ds.length by omega, List.take_length] at e
 rw [e]
 have := Nat.mul_le_mul_left (2 ^ (24 * (ds.length - 1))) (Nat.pos_of_ne_zero ht)
 omega
theorem mag_pos {ds : List Nat} {E : Int} (hne : ds ≠ []) (ht : ds.getD (ds.length - 1) 0 ≠ 0) : 0 < mag ds E := by
 have h := v24_last hne ht
 have h2 := Nat.two_pow_pos (24 * (ds.length - 1))
 unfold mag
 refine Rat.mul_pos ?_ (p2_pos _)
 have : 0 < v24 ds := by omega
 exact_mod_cast this
theorem mag_top {ds : List Nat} {E h : Int} (hne : ds ≠ []) (ht : ds.getD (ds.length - 1) 0 ≠ 0) (hb : mag ds E < p2 h) : 24 * (E + (ds.length : Int)) < h + 24 := by
 have h1 := v24_last hne ht
 have hl := List.length_pos_iff.2 hne
 have h2 : p2 (24 * (E + (ds.length : Int) - 1)) ≤ mag ds E := by
   rw [show 24 * (E + (ds.length : Int) - 1) = ((24 * (ds.length - 1) : Nat) : Int) + 24 * E by omega, p2_add, p2_nat]
   unfold mag
   exact Rat.mul_le_mul_of_nonneg_right (Rat.natCast_le_natCast.2 h1) (Rat.le_of_lt (p2_pos _))
 have h3 : p2 (24 * (E + (ds.length : Int) - 1)) < p2 h := by grind
 have := p2_lt_iff.1 h3
 omega
theorem mag_low {ds : List Nat} {E l : Int} (hs : ∀ d ∈ ds, d < 16777216) (hf : ds.getD 0 0 ≠ 0) (hm : ∃ n : Int, mag ds E = (n : Rat) * p2 l) : l < 24 * E + 24 := by
 rcases Int.lt_or_le l (24 * E + 24) with h | h
 · exact h
 · exfalso
   obtain ⟨n, hn⟩ := hm
   obtain ⟨k, rfl⟩ : ∃ k : Nat, l = 24 * E + 24 + (k : Int) := ⟨(l - (24 * E + 24)).toNat, by omega⟩
   rw [show 24 * E + 24 + (k : Int) = ((24 + k : Nat) : Int) + 24 * E by omega, p2_add, p2_nat, ← Rat.mul_assoc] at hn
   unfold mag at hn
   have h1 : ((v24 ds : Nat) : Rat) = (n : Rat) * ((2 ^ (24 + k) : Nat) : Rat) := by
     have hp := p2_ne (24 * E)
     have := congrArg (· / p2 (24 * E)) hn
     simp only [Rat.mul_div_cancel hp] at this
     exact this
   have h2 : ((v24 ds : Nat) : Int) = n * ((2 ^ (24 + k) : Nat) : Int) := by exact_mod_cast h1
   have h3 := v24_mod hs
   rw [Nat.pow_add, show (2 : Nat) ^ 24 = 16777216 from rfl] at h2
   have h4 : ((v24 ds : Nat) : Int) % 16777216 = 0 := by
     rw [h2, Int.natCast_mul, show n * (((16777216 : Nat) : Int) * ((2 ^ k : Nat) : Int)) = n * ((2 ^ k : Nat) : Int) * 16777216 by grind]
     exact Int.mul_emod_left _ _
   omega
end

/- Floats that are not below 0 are in the order of their words. -/
section
theorem fval_lt {r s : Nat} (h : r < s) (hs : s < 9218868437227405312) : fval r < fval s := by
 have h1 := (fval_pos_lt (Nat.lt_trans h hs)).1
 have h2 := (fval_pos_lt hs).1
 have key : (fpl r = fpl s ∧ fmag r < fmag s) ∨ (fpl r + 1 ≤ fpl s ∧ 4503599627370496 ≤ fmag s) := by
   unfold fpl fmag
   split <;> split <;> omega
 have hm := fmag_lt r
 rw [h1, h2]
 rcases key with ⟨e, hm⟩ | ⟨e, hm'⟩
 · rw [e]
   exact Rat.mul_lt_mul_of_pos_right (Rat.natCast_lt_natCast.2 hm) (p2_pos _)
 · have a1 := Rat.mul_lt_mul_of_pos_right (Rat.natCast_lt_natCast.2 hm) (p2_pos (fpl r))
   have a2 : ((9007199254740992 : Nat) : Rat) * p2 (fpl r) = ((4503599627370496 : Nat) : Rat) * p2 (fpl r + 1) := by
     rw [p2_add, p2_one, show ((9007199254740992 : Nat) : Rat) = ((4503599627370496 : Nat) : Rat) * 2 by decide +kernel]
     generalize ((4503599627370496 : Nat) : Rat) = X
     grind
   have a3 := Rat.mul_le_mul_of_nonneg_left (p2_mono e) (Rat.natCast_nonneg (a := 4503599627370496))
   have a4 := Rat.mul_le_mul_of_nonneg_right (Rat.natCast_le_natCast.2 hm') (Rat.le_of_lt (p2_pos (fpl s)))
   rw [a2] at a1
   generalize ((fmag r : Nat) : Rat) * p2 (fpl r) = X at *
   generalize ((4503599627370496 : Nat) : Rat) * p2 (fpl r + 1) = Y at *
   generalize ((4503599627370496 : Nat) : Rat) * p2 (fpl s) = Z at *
   generalize ((fmag s : Nat) : Rat) * p2 (fpl s) = V at *
   grind
theorem fval_word {r : Nat} (h : r < 9218868437227405312) : fval (9223372036854775808 + r) = -fval r := by
 have e1 : frung (9223372036854775808 + r) = r := by unfold frung; omega
 have e2 : fneg (9223372036854775808 + r) = true := by unfold fneg; simp; omega
 have e3 : frung r = r := by unfold frung; omega
 have e4 : fneg r = false := by unfold fneg; simp; omega
 unfold fval
 rw [e1, e2, e3, e4]
 unfold sgn1
 rw [if_pos rfl, if_neg (by decide)]
 generalize ((fmag r : Nat) : Rat) * p2 (fpl r) = X
 grind
end

/- The float nearest to a number: plain facts. -/
section
def Half (q u : Rat) (k : Nat) : Prop :=
 ((2 * (k : Int) - 1 : Int) : Rat) * u ≤ q ∧ q ≤ ((2 * (k : Int) + 1 : Int) : Rat) * u ∧ (q = ((2 * (k : Int) - 1 : Int) : Rat) * u → k % 2 = 0) ∧ (q = ((2 * (k : Int) + 1 : Int) : Rat) * u → k % 2 = 0)
def Last (q : Rat) (T : Nat) : Prop := (T = 0 ∨ ((9007199254740992 : Int) : Rat) * p2 ((T : Int) - 1075) ≤ q) ∧ q < ((18014398509481984 : Int) : Rat) * p2 ((T : Int) - 1075)
def Near (q : Rat) (r : Nat) : Prop :=
 (q = 0 ∧ r = 0) ∨ (0 < q ∧ ∃ T k : Nat, Last q T ∧ Half q (p2 ((T : Int) - 1075)) k ∧ r = min (T * 4503599627370496 + k) 9218868437227405312)
theorem lt_of_le_lt {a b c : Rat} (h1 : a ≤ b) (h2 : b < c) : a < c := by grind
theorem lt_of_lt_le {a b c : Rat} (h1 : a < b) (h2 : b ≤ c) : a < c := by grind
theorem le_of_same {a b : Rat} (h : a = b) : a ≤ b := by rw [h]; exact Rat.le_refl
theorem int_le {a b : Int} {u : Rat} (hu : 0 < u) (h : (a : Rat) * u ≤ (b : Rat) * u) : a ≤ b := by
 rcases Int.lt_or_le b a with h1 | h1
 · have h2 : (b : Rat) < (a : Rat) := Rat.intCast_lt_intCast.2 h1
   have h3 := Rat.mul_lt_mul_of_pos_right h2 hu
   grind
 · exact h1
theorem int_lt {a b : Int} {u : Rat} (hu : 0 < u) (h : (a : Rat) * u < (b : Rat) * u) : a < b := by
 rcases Int.lt_or_le a b with h1 | h1
 · exact h1
 · have h2 : (b : Rat) ≤ (a : Rat) := Rat.intCast_le_intCast.2 h1
   have h3 := Rat.mul_le_mul_of_nonneg_right h2 (Rat.le_of_lt hu)
   grind
theorem le_int {a b : Int} {u : Rat} (hu : 0 < u) (h : a ≤ b) : (a : Rat) * u ≤ (b : Rat) * u :=
 Rat.mul_le_mul_of_nonneg_right (Rat.intCast_le_intCast.2 h) (Rat.le_of_lt hu)
theorem kept_bounds {q : Rat} {T k : Nat} (hl : Last q T) (hh : Half q (p2 ((T : Int) - 1075)) k) : k ≤ 9007199254740992 ∧ (T = 0 ∨ 4503599627370496 ≤ k) := by
 obtain ⟨h1, h2⟩ := hl
 obtain ⟨h3, h4, _, _⟩ := hh
 have hu := p2_pos ((T : Int) - 1075)
 have a := int_lt hu (lt_of_le_lt h3 h2)
 refine ⟨by omega, h1.imp id fun h => ?_⟩
 have b := int_le hu (Rat.le_trans h h4)
 omega
theorem half_mono {p q u : Rat} {j k : Nat} (hu : 0 < u) (h : p ≤ q) (h1 : Half p u j) (h2 : Half q u k) : j ≤ k := by
 obtain ⟨a1, a2, a3, a4⟩ := h1
 obtain ⟨b1, b2, b3, b4⟩ := h2
 have c := int_le hu (Rat.le_trans (Rat.le_trans a1 h) b2)
 rcases Nat.lt_or_ge k j with hk | hk
 · have e : (2 * (j : Int) - 1 : Int) = 2 * (k : Int) + 1 := by omega
   have e1 : p = ((2 * (j : Int) - 1 : Int) : Rat) * u := Rat.le_antisymm (by rw [e]; exact Rat.le_trans h b2) a1
   have e2 : q = ((2 * (k : Int) + 1 : Int) : Rat) * u := Rat.le_antisymm b2 (by rw [← e]; exact Rat.le_trans a1 h)
   have := a3 e1
   have := b4 e2
   omega
 · exact hk
theorem last_mono {p q : Rat} {S T : Nat} (h : p ≤ q) (h1 : Last p S) (h2 : Last q T) : S ≤ T := by
 rcases Nat.lt_or_ge T S with hk | hk
 · rcases h1.1 with h0 | h0
   · omega
   · have h3 := lt_of_le_lt (Rat.le_trans h0 h) h2.2
     have e : ((S : Int) - 1075) = ((T : Int) - 1075) + ((S - T : Nat) : Int) := by omega
     rw [e, p2_add] at h3
     have hu := p2_pos ((T : Int) - 1075)
     have h4 : (2 : Rat) ≤ p2 ((S - T : Nat) : Int) := by
       have := p2_mono (a := 1) (b := ((S - T : Nat) : Int)) (by omega)
       rwa [p2_one] at this
     have h5 := Rat.mul_le_mul_of_nonneg_right h4 (Rat.le_of_lt hu)
     have e1 : ((18014398509481984 : Int) : Rat) = ((9007199254740992 : Int) : Rat) * 2 := by rw [show (18014398509481984 : Int) = 9007199254740992 * 2 from rfl, Rat.intCast_mul]; rfl
     have hn : (0 : Rat) ≤ ((9007199254740992 : Int) : Rat) := by rw [show (0 : Rat) = ((0 : Int) : Rat) from rfl]; exact Rat.intCast_le_intCast.2 (by omega)
     rw [e1] at h3
     generalize ((9007199254740992 : Int) : Rat) = N at *
     have h6 := Rat.mul_le_mul_of_nonneg_left h5 hn
     grind
 · exact hk
theorem near_mono {p q : Rat} {r s : Nat} (h : p ≤ q) (h1 : Near p r) (h2 : Near q s) : r ≤ s := by
 rcases h1 with ⟨_, rfl⟩ | ⟨hp, S, j, a1, a2, rfl⟩
 · omega
 · rcases h2 with ⟨hq, _⟩ | ⟨hq, T, k, b1, b2, rfl⟩
   · grind
   · have hST := last_mono h a1 b1
     have c1 := kept_bounds a1 a2
     have c2 := kept_bounds b1 b2
     rcases Nat.lt_or_ge S T with hk | hk
     · omega
     · have e : S = T := by omega
       subst e
       have := half_mono (p2_pos _) h a2 b2
       omega
theorem near_nonneg {q : Rat} {r : Nat} (h : Near q r) : 0 ≤ q ∧ r ≤ 9218868437227405312 := by
 rcases h with ⟨rfl, rfl⟩ | ⟨hq, T, k, _, _, rfl⟩
 · exact ⟨by decide, by omega⟩
 · exact ⟨Rat.le_of_lt hq, by omega⟩
theorem near_fun {q : Rat} {r s : Nat} (h1 : Near q r) (h2 : Near q s) : r = s := Nat.le_antisymm (near_mono Rat.le_refl h1 h2) (near_mono Rat.le_refl h2 h1)
theorem near_zero {r : Nat} (h : Near 0 r) : r = 0 := near_fun h (Or.inl ⟨rfl, rfl⟩)
end

/- The model's rounding is to the nearest, the even one between two. -/
section
theorem cut_even (neg : Bool) (n d : Nat) : ∃ k, Ieee.Toward.even.cut neg n d = k ∧ 2 * (k * 2 ^ d) ≤ 2 * n + 2 ^ d ∧ 2 * n ≤ 2 * (k * 2 ^ d) + 2 ^ d ∧ (2 * (k * 2 ^ d) = 2 * n + 2 ^ d → k % 2 = 0) ∧ (2 * n = 2 * (k * 2 ^ d) + 2 ^ d → k % 2 = 0) := by
 refine ⟨_, rfl, ?_⟩
 unfold Ieee.Toward.cut
 simp only [Nat.shiftLeft_eq, Nat.one_mul]
 rcases Nat.lt_or_ge (n.log2 + 2) d with h | h
 · rw [Nat.min_eq_right (by omega)]
   have h1 : n < 2 ^ (n.log2 + 1) := Nat.lt_log2_self
   have h2 : 2 ^ (n.log2 + 2) = 2 * 2 ^ (n.log2 + 1) := by rw [Nat.pow_succ]; omega
   have h3 : 2 ^ (n.log2 + 2) ≤ 2 ^ d := Nat.pow_le_pow_right (by omega) (by omega)
   generalize hg : 2 ^ (n.log2 + 2) = g at *
   generalize 2 ^ (n.log2 + 1) = g1 at *
   generalize 2 ^ d = D at *
   have e1 : n / g = 0 := Nat.div_eq_of_lt (by omega)
   have e2 : n % g = n := Nat.mod_eq_of_lt (by omega)
   rw [e1, e2]
   have e3 : (decide (g < 2 * n) || g == 2 * n && 0 % 2 == 1) = false := by simp; omega
   rw [e3]
   simp
   omega
 · rw [Nat.min_eq_left h]
   have hg : 0 < 2 ^ d := Nat.two_pow_pos d
   generalize 2 ^ d = g at *
   have hd := Nat.div_add_mod n g
   have hm := Nat.mod_lt n hg
   generalize n / g = low at *
   generalize n % g = rest at *
   rw [Nat.mul_comm] at hd
   by_cases hmore : g < 2 * rest ∨ (g = 2 * rest ∧ low % 2 = 1)
   · have e3 : (decide (g < 2 * rest) || g == 2 * rest && low % 2 == 1) = true := by simpa using hmore
     rw [e3]
     have : (low + true.toNat) * g = low * g + g := by simp [Nat.add_mul]
     rw [this]
     generalize low * g = P at *
     refine ⟨by omega, by omega, ?_, ?_⟩
     · intro h; simp; omega
     · intro h; simp; omega
   · have e3 : (decide (g < 2 * rest) || g == 2 * rest && low % 2 == 1) = false := by
       rw [Bool.eq_false_iff]; intro h; apply hmore; simpa using h
     rw [e3]
     have : (low + false.toNat) * g = low * g := by simp
     rw [this]
     generalize low * g = P at *
     refine ⟨by omega, by omega, ?_, ?_⟩
     · intro h; simp; omega
     · intro h; simp; omega
theorem int_eq {a b : Int} {u : Rat} (hu : 0 < u) (h : (a : Rat) * u = (b : Rat) * u) : a = b :=
 Int.le_antisymm (int_le hu (le_of_same h)) (int_le hu (le_of_same h.symm))
theorem log_bounds (mag : Nat) (hm : mag ≠ 0) (place : Int) : p2 (place + (mag.log2 : Nat)) ≤ (mag : Nat) * p2 place ∧ ((mag : Nat) : Rat) * p2 place < p2 (place + (mag.log2 : Nat) + 1) := by
 have h1 : 2 ^ mag.log2 ≤ mag := Nat.log2_self_le hm
 have h2 : mag < 2 ^ (mag.log2 + 1) := Nat.lt_log2_self
 have hp := p2_pos place
 constructor
 · rw [p2_add, p2_nat, Rat.mul_comm]
   exact Rat.mul_le_mul_of_nonneg_right (Rat.natCast_le_natCast.2 h1) (Rat.le_of_lt hp)
 · rw [show place + (mag.log2 : Nat) + 1 = place + ((mag.log2 + 1 : Nat) : Int) by omega, p2_add, p2_nat, Rat.mul_comm (p2 place)]
   exact Rat.mul_lt_mul_of_pos_right (Rat.natCast_lt_natCast.2 h2) hp
theorem nearest_near (neg : Bool) (mag : Nat) (place : Int) (hm : mag ≠ 0) : ∃ r, Ieee.double.nearest neg mag place = Ieee.double.word neg r ∧ Near ((mag : Nat) * p2 place) r := by
 unfold Ieee.Format.nearest
 rw [if_neg hm]
 simp only [d_lp, d_bin, d_inf, show Ieee.double.fractionBits = 52 from rfl]
 obtain ⟨last, hlast⟩ : ∃ l : Int, l = max (place + (mag.log2 : Nat) - ((52 : Nat) : Int)) (-1074) := ⟨_, rfl⟩
 rw [← hlast]
 obtain ⟨k, hk, c1, c2, c3, c4⟩ := cut_even neg (mag <<< (place - last).toNat) (last - place).toNat
 rw [hk]
 refine ⟨_, rfl, Or.inr ⟨?_, (last + 1074).toNat, k, ?_, ?_, by rw [show last - -1074 = last + 1074 by omega]⟩⟩
 · exact Rat.mul_pos (Rat.natCast_pos.2 (by omega)) (p2_pos _)
 · have hb := log_bounds mag hm place
   have eT : (((last + 1074).toNat : Nat) : Int) - 1075 = last - 1 := by omega
   rw [Last, eT]
   have x1 : ((9007199254740992 : Int) : Rat) * p2 (last - 1) = p2 (last + 52) := by
     rw [show last + 52 = (last - 1) + ((53 : Nat) : Int) by omega, p2_add, p2_nat, Rat.mul_comm]; rfl
   have x2 : ((18014398509481984 : Int) : Rat) * p2 (last - 1) = p2 (last + 53) := by
     rw [show last + 53 = (last - 1) + ((54 : Nat) : Int) by omega, p2_add, p2_nat, Rat.mul_comm]; rfl
   rw [x1, x2]
   constructor
   · by_cases h : last = -1074
     · left; omega
     · right
       have := p2_mono (a := last + 52) (b := place + (mag.log2 : Nat)) (by omega)
       exact Rat.le_trans this hb.1
   · exact lt_of_lt_le hb.2 (p2_mono (by omega))
 · have eT : (((last + 1074).toNat : Nat) : Int) - 1075 = last - 1 := by omega
   rw [eT]
   generalize hd : (last - place).toNat = d at *
   generalize hn : mag <<< (place - last).toNat = n at *
   rw [Nat.shiftLeft_eq] at hn
   have hv := p2_pos (last - (d : Nat) - 1)
   have e1 : ((mag : Nat) : Rat) * p2 place = ((2 * (n : Int) : Int) : Rat) * p2 (last - (d : Nat) - 1) := by
     have a1 : ((2 * (n : Int) : Int) : Rat) = 2 * ((n : Nat) : Rat) := by rw [Rat.intCast_mul]; rfl
     have a2 : p2 (last - (d : Nat)) = 2 * p2 (last - (d : Nat) - 1) := by
       have := p2_add 1 (last - (d : Nat) - 1)
       rwa [p2_one, show 1 + (last - (d : Nat) - 1) = last - (d : Nat) by omega] at this
     have a3 : ((mag : Nat) : Rat) * p2 place = ((n : Nat) : Rat) * p2 (last - (d : Nat)) := by
       rw [← hn, nat_mul_p2, Rat.mul_assoc, ← p2_add]
       congr 2; omega
     rw [a3, a1, a2]
     generalize p2 (last - (d : Nat) - 1) = v
     grind
   have e2 : ∀ z : Int, (z : Rat) * p2 (last - 1) = ((z * ((2 ^ d : Nat) : Int) : Int) : Rat) * p2 (last - (d : Nat) - 1) := fun z => by
     rw [show last - 1 = (d : Nat) + (last - (d : Nat) - 1) by omega, p2_add, p2_nat, Rat.intCast_mul, Rat.mul_assoc]; rfl
   rw [e1]
   unfold Half
   rw [e2, e2]
   have y1 : (2 * (k : Int) - 1) * ((2 ^ d : Nat) : Int) = 2 * ((k * 2 ^ d : Nat) : Int) - ((2 ^ d : Nat) : Int) := by rw [Int.natCast_mul]; grind
   have y2 : (2 * (k : Int) + 1) * ((2 ^ d : Nat) : Int) = 2 * ((k * 2 ^ d : Nat) : Int) + ((2 ^ d : Nat) : Int) := by rw [Int.natCast_mul]; grind
   rw [y1, y2]
   generalize k * 2 ^ d = P at *
   generalize 2 ^ d = D at *
   refine ⟨le_int hv (by omega), le_int hv (by omega), ?_, ?_⟩
   · intro h
     have := int_eq hv h
     exact c3 (by omega)
   · intro h
     have := int_eq hv h
     exact c4 (by omega)
end

/- Which floats are tame, which are safe: the program's. -/
section
open Go.RowKit
def SafeW (r : Nat) : Prop := r = 0 ∨ (2580562586483294208 ≤ r ∧ r ≤ 6633802251116740608)
instance (r : Nat) : Decidable (SafeW r) := by unfold SafeW; exact inferInstance
end

/- Which floats are tame, which are safe: the document's. -/
section
open Go.RowKit
end
end Go.Proofs.YtgfloegaoofbbaaDoor
