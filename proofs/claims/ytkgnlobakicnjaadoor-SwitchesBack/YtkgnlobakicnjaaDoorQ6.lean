/- Own texts, put together: M5 M6. -/
import Derived.Test.YtkgnlobakicnjaaDoorQ2
import Ieee.Arith
namespace Go.Proofs.YtkgnlobakicnjaaDoor
/- Plain facts: numbers as rationals; which may be. -/
section
def p2 (e : Int) : Rat := 2 ^ e
theorem p2_pos (e : Int) : 0 < p2 e := Rat.zpow_pos (by decide)
theorem p2_ne (e : Int) : p2 e ≠ 0 := Rat.ne_of_gt (p2_pos e)
theorem p2_add (a b : Int) : p2 (a + b) = p2 a * p2 b := Rat.zpow_add (by decide) a b
theorem p2_zero : p2 0 = 1 := Rat.zpow_zero 2
theorem p2_one : p2 1 = 2 := Rat.zpow_one 2
theorem p2_nat (n : Nat) : p2 (n : Int) = ((2 ^ n : Nat) : Rat) := by
 unfold p2; rw [Rat.zpow_natCast, Rat.natCast_pow]; rfl
theorem p2_neg (e : Int) : p2 (-e) * p2 e = 1 := by rw [← p2_add, Int.add_left_neg, p2_zero]
theorem p2_le_nat (n : Nat) : 1 ≤ p2 (n : Int) := by
 rw [p2_nat]
 have h : 1 ≤ 2 ^ n := Nat.two_pow_pos n
 have := (Rat.natCast_le_natCast (a := 1) (b := 2 ^ n)).2 h
 simpa using this
theorem p2_mono {a b : Int} (h : a ≤ b) : p2 a ≤ p2 b := by
 obtain ⟨n, rfl⟩ : ∃ n : Nat, b = a + (n : Int) := ⟨(b - a).toNat, by omega⟩
 rw [p2_add]
 have h1 := Rat.mul_le_mul_of_nonneg_left (p2_le_nat n) (Rat.le_of_lt (p2_pos a))
 grind
theorem p2_lt {a b : Int} (h : a < b) : p2 a < p2 b := by
 have h1 : p2 (a + 1) ≤ p2 b := p2_mono (by omega)
 have h2 := p2_pos a
 rw [p2_add, p2_one] at h1
 grind
theorem p2_le_iff {a b : Int} : p2 a ≤ p2 b ↔ a ≤ b := by
 refine ⟨fun h => ?_, p2_mono⟩
 rcases Int.lt_or_le b a with h1 | h1
 · have := p2_lt h1; grind
 · exact h1
theorem p2_lt_iff {a b : Int} : p2 a < p2 b ↔ a < b := by
 refine ⟨fun h => ?_, p2_lt⟩
 rcases Int.lt_or_le a b with h1 | h1
 · exact h1
 · have := p2_mono h1; grind
theorem nat_mul_p2 (V k : Nat) : ((V * 2 ^ k : Nat) : Rat) = (V : Nat) * p2 (k : Nat) := by rw [p2_nat, Rat.natCast_mul]
end

/- Plain facts on floats: what a word denotes, as a rational; how two words stand to each other. -/
section
def fneg (b : Nat) : Bool := b / 9223372036854775808 % 2 == 1
def frung (b : Nat) : Nat := b % 9223372036854775808
def fmag (r : Nat) : Nat := if r < 4503599627370496 then r else 4503599627370496 + r % 4503599627370496
def fpl (r : Nat) : Int := if r < 4503599627370496 then -1074 else -1074 + ((r / 4503599627370496 - 1 : Nat) : Int)
def Fin64 (b : Nat) : Prop := frung b < 9218868437227405312
def sgn1 (b : Bool) : Rat := if b then -1 else 1
def fval (b : Nat) : Rat := sgn1 (fneg b) * ((fmag (frung b) : Nat) * p2 (fpl (frung b)))
theorem d_sw : Ieee.double.signWeight = 9223372036854775808 := by decide
theorem d_bin : Ieee.double.binade = 4503599627370496 := by decide
theorem d_inf : Ieee.double.infRung = 9218868437227405312 := by decide
theorem d_lp : Ieee.double.leastPlace = -1074 := by decide
theorem read_fin {b : Nat} (h : Fin64 b) : Ieee.double.read b = .number (fneg b) (fmag (frung b)) (fpl (frung b)) := by
 unfold Fin64 frung at h
 unfold Ieee.Format.read fneg fmag fpl frung
 simp only [d_sw, d_bin, d_inf, d_lp]
 by_cases h1 : b % 9223372036854775808 < 4503599627370496
 · simp only [h1, if_true]
 · simp only [h1, if_false, h, if_true]
theorem read_inf {b : Nat} (h : frung b = 9218868437227405312) : Ieee.double.read b = .infinity (fneg b) := by
 unfold frung at h
 unfold Ieee.Format.read fneg
 simp only [d_sw, d_bin, d_inf, h]
 rfl
theorem read_nan {b : Nat} (h : 9218868437227405312 < frung b) : ∃ s t, Ieee.double.read b = .nan s t := by
 unfold frung at h
 unfold Ieee.Format.read
 simp only [d_sw, d_bin, d_inf]
 rw [if_neg (by omega), if_neg (by omega), if_neg (by omega)]
 exact ⟨_, _, rfl⟩
theorem signed_p2 (s : Bool) (m up : Nat) (base : Int) : ((Ieee.signed s m up : Int) : Rat) * p2 base = sgn1 s * ((m : Nat) * p2 (base + (up : Nat))) := by
 unfold Ieee.signed sgn1
 rw [Nat.shiftLeft_eq, p2_add]
 have e : ((m * 2 ^ up : Nat) : Rat) = (m : Nat) * p2 (up : Nat) := nat_mul_p2 m up
 cases s
 · simp only [Bool.false_eq_true, if_false]
   have : (((m * 2 ^ up : Nat) : Int) : Rat) = ((m * 2 ^ up : Nat) : Rat) := rfl
   rw [this, e]; grind
 · simp only [if_true]
   have : ((-((m * 2 ^ up : Nat) : Int) : Int) : Rat) = -((m * 2 ^ up : Nat) : Rat) := by rw [Rat.intCast_neg]; rfl
   rw [this, e]; grind
theorem compare_int (x y : Int) : compare x y = if x < y then .lt else if x = y then .eq else .gt := rfl
theorem order_fin {b c : Nat} (hb : Fin64 b) (hc : Fin64 c) : Ieee.double.order b c = some (if fval b < fval c then .lt else if fval b = fval c then .eq else .gt) := by
 unfold Ieee.Format.order
 rw [read_fin hb, read_fin hc]
 unfold Ieee.Datum.order
 simp only
 unfold fval
 generalize fneg b = s
 generalize fneg c = t
 generalize fmag (frung b) = m
 generalize fmag (frung c) = n
 generalize fpl (frung b) = i
 generalize fpl (frung c) = j
 have e1 := signed_p2 s m (i - min i j).toNat (min i j)
 have e2 := signed_p2 t n (j - min i j).toNat (min i j)
 rw [show min i j + ((i - min i j).toNat : Int) = i by omega] at e1
 rw [show min i j + ((j - min i j).toNat : Int) = j by omega] at e2
 rw [← e1, ← e2, compare_int]
 generalize Ieee.signed s m (i - min i j).toNat = x
 generalize Ieee.signed t n (j - min i j).toNat = y
 have hp := p2_pos (min i j)
 have l1 : (x : Rat) * p2 (min i j) < (y : Rat) * p2 (min i j) ↔ x < y := by rw [Rat.mul_lt_mul_right hp, Rat.intCast_lt_intCast]
 have l2 : (x : Rat) * p2 (min i j) = (y : Rat) * p2 (min i j) ↔ x = y := by
   constructor
   · intro h
     have hn := p2_ne (min i j)
     have : (x : Rat) = (y : Rat) := by grind
     exact Rat.intCast_inj.1 this
   · intro h; rw [h]
 simp only [l1, l2]
theorem order_nan_left {b c : Nat} (hb : 9218868437227405312 < frung b) : Ieee.double.order b c = none := by
 obtain ⟨s, t, h⟩ := read_nan hb
 unfold Ieee.Format.order
 rw [h]
 unfold Ieee.Datum.order
 rfl
theorem order_inf_fin {b c : Nat} (hb : frung b = 9218868437227405312) (hc : Fin64 c) : Ieee.double.order b c = some (if fneg b then .lt else .gt) := by
 unfold Ieee.Format.order
 rw [read_inf hb, read_fin hc]
 rfl
theorem order_inf_self {b : Nat} (hb : frung b = 9218868437227405312) : Ieee.double.order b b = some .eq := by
 unfold Ieee.Format.order
 rw [read_inf hb]
 unfold Ieee.Datum.order
 cases fneg b <;> rfl
theorem fval_pos_lt {r : Nat} (h : r < 9218868437227405312) : fval r = (fmag r : Nat) * p2 (fpl r) ∧ frung r = r := by
 have h1 : frung r = r := Nat.mod_eq_of_lt (by omega)
 have h2 : fneg r = false := by unfold fneg; rw [Nat.div_eq_of_lt (by omega)]; rfl
 refine ⟨?_, h1⟩
 unfold fval
 rw [h1, h2]; simp [sgn1]
theorem fmag_lt (r : Nat) : fmag r < 9007199254740992 := by unfold fmag; split <;> omega
theorem fval_nonneg {r : Nat} (h : r < 9218868437227405312) : 0 ≤ fval r := by
 rw [(fval_pos_lt h).1]; exact Rat.mul_nonneg Rat.natCast_nonneg (Rat.le_of_lt (p2_pos _))
theorem small_iff {r : Nat} (h : r < 9218868437227405312) : fval r < fval 4503599627370496 ↔ r < 4503599627370496 := by
 rw [(fval_pos_lt h).1, (fval_pos_lt (by omega : (4503599627370496 : Nat) < 9218868437227405312)).1]
 have e0 : fmag 4503599627370496 = 4503599627370496 := by decide
 have e1 : fpl 4503599627370496 = -1074 := by decide
 rw [e0, e1]
 have hp := p2_pos (-1074)
 constructor
 · intro hlt
   rcases Nat.lt_or_ge r 4503599627370496 with h1 | h1
   · exact h1
   · exfalso
     have h2 : 4503599627370496 ≤ fmag r := by unfold fmag; rw [if_neg (by omega)]; omega
     have h3 : (-1074 : Int) ≤ fpl r := by unfold fpl; rw [if_neg (by omega)]; omega
     have h4 := p2_mono h3
     have h5 := (Rat.natCast_le_natCast).2 h2
     have h6 : (0 : Rat) ≤ ((4503599627370496 : Nat) : Rat) := Rat.natCast_nonneg
     have h7 := Rat.mul_le_mul_of_nonneg_right h5 (Rat.le_of_lt (p2_pos (fpl r)))
     have h8 := Rat.mul_le_mul_of_nonneg_left h4 h6
     grind
 · intro hlt
   have h2 : fmag r = r := by unfold fmag; rw [if_pos hlt]
   have h3 : fpl r = -1074 := by unfold fpl; rw [if_pos hlt]
   rw [h2, h3, Rat.mul_lt_mul_right hp]
   exact Rat.natCast_lt_natCast.2 hlt
theorem fval_le_max {r : Nat} (h : r < 9218868437227405312) : fval r ≤ fval 9218868437227405311 := by
 rw [(fval_pos_lt h).1, (fval_pos_lt (by omega : (9218868437227405311 : Nat) < 9218868437227405312)).1]
 have e0 : fmag 9218868437227405311 = 9007199254740991 := by decide
 have e1 : fpl 9218868437227405311 = 971 := by decide
 rw [e0, e1]
 have h2 : fmag r ≤ 9007199254740991 := by have := fmag_lt r; omega
 have h3 : fpl r ≤ 971 := by unfold fpl; split <;> omega
 have h4 := p2_mono h3
 have h5 := (Rat.natCast_le_natCast).2 h2
 have h6 : (0 : Rat) ≤ ((9007199254740991 : Nat) : Rat) := Rat.natCast_nonneg
 have h7 := Rat.mul_le_mul_of_nonneg_right h5 (Rat.le_of_lt (p2_pos (fpl r)))
 have h8 := Rat.mul_le_mul_of_nonneg_left h4 h6
 grind
theorem fval_zero_iff {b : Nat} : fval b = 0 ↔ frung b = 0 := by
 have hp := p2_ne (fpl (frung b))
 unfold fval
 constructor
 · intro h
   have h1 : ((fmag (frung b) : Nat) : Rat) = 0 := by
     unfold sgn1 at h
     split at h <;> grind
   have h2 : fmag (frung b) = 0 := Rat.natCast_eq_zero_iff.1 h1
   unfold fmag at h2
   split at h2 <;> omega
 · intro h
   rw [h]; simp [fmag]
theorem word_false (r : Nat) : Ieee.double.word false r = r := rfl
end
end Go.Proofs.YtkgnlobakicnjaaDoor
