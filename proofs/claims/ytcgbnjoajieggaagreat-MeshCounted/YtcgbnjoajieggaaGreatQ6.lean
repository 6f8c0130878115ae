/- Own texts, put together: M2 M3 M5 M6 M7. -/
import Derived.Test.YtcgbnjoajieggaaGreatQ2
import Ieee.Arith
namespace Go.Proofs.YtcgbnjoajieggaaGreat
/- Plain facts: the words of a number, cut out at a bit; a magnitude in its own form. -/
section
end

/- Plain facts: two magnitudes brought to one lowest bit. -/
section
end

/- Plain facts: numbers as rationals; which may be. -/
section
def p2 (e : Int) : Rat := 2 ^ e
theorem p2_pos (e : Int) : 0 < p2 e := Rat.zpow_pos (by decide)
theorem p2_ne (e : Int) : p2 e ≠ 0 := Rat.ne_of_gt (p2_pos e)
theorem p2_add (a b : Int) : p2 (a + b) = p2 a * p2 b := Rat.zpow_add (by decide) a b
theorem p2_zero : p2 0 = 1 := Rat.zpow_zero 2
theorem p2_one : p2 1 = 2 := Rat.zpow_one 2
theorem p2_nat (n : Nat) : p2 (n : Int) = ((2 ^ n : Nat) : Rat) := by
 unfold p2; rw [Rat.zpow_natCast, Rat.natCast_pow]; rfl
theorem p2_neg (e : Int) : p2 (-e) * p2 e = 1 := by rw [← p2_add, Int.add_left_neg, p2_zero]
theorem p2_le_nat (n : Nat) : 1 ≤ p2 (n : Int) := by
 rw [p2_nat]
 have h : 1 ≤ 2 ^ n := Nat.two_pow_pos n
 have := (Rat.natCast_le_natCast (a := 1) (b := 2 ^ n)).2 h
 simpa using this
theorem p2_mono {a b : Int} (h : a ≤ b) : p2 a ≤ p2 b := by
 obtain ⟨n, rfl⟩ : ∃ n : Nat, b = a + (n : Int) := ⟨(b - a).toNat, by omega⟩
 rw [p2_add]
 have h1 := Rat.mul_le_mul_of_nonneg_left (p2_le_nat n) (Rat.le_of_lt (p2_pos a))
 grind
theorem p2_lt {a b : Int} (h : a < b) : p2 a < p2 b := by
 have h1 : p2 (a + 1) ≤ p2 b := p2_mono (by omega)
 have h2 := p2_pos a
 rw [p2_add, p2_one] at h1
 grind
theorem p2_le_iff {a b : Int} : p2 a ≤ p2 b ↔ a ≤ b := by
 refine ⟨fun h => ?_, p2_mono⟩
 rcases Int.lt_or_le b a with h1 | h1
 · have := p2_lt h1; grind
 · exact h1
theorem p2_lt_iff {a b : Int} : p2 a < p2 b ↔ a < b := by
 refine ⟨fun h => ?_, p2_lt⟩
 rcases Int.lt_or_le a b with h1 | h1
 · exact h1
 · have := p2_mono h1; grind
theorem nat_mul_p2 (V k : Nat) : ((V * 2 ^ k : Nat) : Rat) = (V : Nat) * p2 (k : Nat) := by rw [p2_nat, Rat.natCast_mul]
def May (q : Rat) : Prop := q < p2 65537 ∧ -p2 65537 < q ∧ ∃ n : Int, q = (n : Rat) * p2 (-65536)
end

/- Plain facts on floats: what a word denotes, as a rational; how two words stand to each other. -/
section
def fneg (b : Nat) : Bool := b / 9223372036854775808 % 2 == 1
def frung (b : Nat) : Nat := b % 9223372036854775808
def fmag (r : Nat) : Nat := if r < 4503599627370496 then r else 4503599627370496 + r % 4503599627370496
def fpl (r : Nat) : Int := if r < 4503599627370496 then -1074 else -1074 + ((r / 4503599627370496 - 1 : Nat) : Int)
def Fin64 (b : Nat) : Prop := frung b < 9218868437227405312
def sgn1 (b : Bool) : Rat := if b then -1 else 1
def fval (b : Nat) : Rat := sgn1 (fneg b) * ((fmag (frung b) : Nat) * p2 (fpl (frung b)))
theorem d_sw : Ieee.double.signWeight = 9223372036854775808 := by decide
theorem d_bin : Ieee.double.binade = 4503599627370496 := by decide
theorem d_inf : Ieee.double.infRung = 9218868437227405312 := by decide
theorem d_lp : Ieee.double.leastPlace = -1074 := by decide
theorem read_fin {b : Nat} (h : Fin64 b) : Ieee.double.read b = .number (fneg b) (fmag (frung b)) (fpl (frung b)) := by
 unfold Fin64 frung at h
 unfold Ieee.Format.read fneg fmag fpl frung
 simp only [d_sw, d_bin, d_inf, d_lp]
 by_cases h1 : b % 9223372036854775808 < 4503599627370496
 · simp only [h1, if_true]
 · simp only [h1, if_false, h, if_true]
theorem read_inf {b : Nat} (h : frung b = 9218868437227405312) : Ieee.double.read b = .infinity (fneg b) := by
 unfold frung at h
 unfold Ieee.Format.read fneg
 simp only [d_sw, d_bin, d_inf, h]
 rfl
theorem read_nan {b : Nat} (h : 9218868437227405312 < frung b) : ∃ s t, Ieee.double.read b = .nan s t := by
 unfold frung at h
 unfold Ieee.Format.read
 simp only [d_sw, d_bin, d_inf]
 rw [if_neg (by omega), if_neg (by omega), if_neg (by omega)]
 exact ⟨_, _, rfl⟩
theorem signed_p2 (s : Bool) (m up : Nat) (base : Int) : ((Ieee.signed s m up : Int) : Rat) * p2 base = sgn1 s * ((m : Nat) * p2 (base + (up : Nat))) := by
 unfold Ieee.signed sgn1
 rw [Nat.shiftLeft_eq, p2_add]
 have e : ((m * 2 ^ up : Nat) : Rat) = (m : Nat) * p2 (up : Nat) := nat_mul_p2 m up
 cases s
 · simp only [Bool.false_eq_true, if_false]
   have : (((m * 2 ^ up : Nat) : Int) : Rat) = ((m * 2 ^ up : Nat) : Rat) := rfl
   rw [this, e]; grind
 · simp only [if_true]
   have : ((-((m * 2 ^ up : Nat) : Int) : Int) : Rat) = -((m * 2 ^ up : Nat) : Rat) := by rw [Rat.intCast_neg]; rfl
   rw [this, e]; grind
theorem compare_int (x y : Int) : compare x y = if x < y then .lt else if x = y then .eq else .gt := rfl
theorem order_fin {b c : Nat} (hb : Fin64 b) (hc : Fin64 c) : Ieee.double.order b c = some (if fval b < fval c then .lt else if fval b = fval c then .eq else .gt) := by
 unfold Ieee.Format.order
 rw [read_fin hb, read_fin hc]
 unfold Ieee.Datum.order
 simp only
 unfold fval
 generalize fneg b = s
 generalize fneg c = t
 generalize fmag (frung b) = m
 generalize fmag (frung c) = n
 generalize fpl (frung b) = i
 generalize fpl (frung c) = j
 have e1 := signed_p2 s m (i - min i j).toNat (min i j)
 have e2 := signed_p2 t n (j - min i j).toNat (min i j)
 rw [show min i j + ((i - min i j).toNat : Int) = i by omega] at e1
 rw [show min i j + ((j - min i j).toNat : Int) = j by omega] at e2
 rw [← e1, ← e2, compare_int]
 generalize Ieee.signed s m (i - min i j).toNat = x
 generalize Ieee.signed t n (j - min i j).toNat = y
 have hp := p2_pos (min i j)
 have l1 : (x : Rat) * p2 (min i j) < (y : Rat) * p2 (min i j) ↔ x < y := by rw [Rat.mul_lt_mul_right hp, Rat.intCast_lt_intCast]
 have l2 : (x : Rat) * p2 (min i j) = (y : Rat) * p2 (min i j) ↔ x = y := by
   constructor
   · intro h
     have hn := p2_ne (min i j)
     have : (x : Rat) = (y : Rat) := by grind
     exact Rat.intCast_inj.1 this
   · intro h; rw [h]
 simp only [l1, l2]
theorem order_nan_left {b c : Nat} (hb : 9218868437227405312 < frung b) : Ieee.double.order b c = none := by
 obtain ⟨s, t, h⟩ := read_nan hb
 unfold Ieee.Format.order
 rw [h]
 unfold Ieee.Datum.order
 rfl
theorem order_inf_fin {b c : Nat} (hb : frung b = 9218868437227405312) (hc : Fin64 c) : Ieee.double.order b c = some (if fneg b then .lt else .gt) := by
 unfold Ieee.Format.order
 rw [read_inf hb, read_fin hc]
 rfl
theorem fval_pos_lt {r : Nat} (h : r < 9218868437227405312) : fval r = (fmag r : Nat) * p2 (fpl r) ∧ frung r = r := by
 have h1 : frung r = r := Nat.mod_eq_of_lt (by omega)
 have h2 : fneg r = false := by unfold fneg; rw [Nat.div_eq_of_lt (by omega)]; rfl
 refine ⟨?_, h1⟩
 unfold fval
 rw [h1, h2]; simp [sgn1]
theorem fmag_lt (r : Nat) : fmag r < 9007199254740992 := by unfold fmag; split <;> omega
theorem fval_nonneg {r : Nat} (h : r < 9218868437227405312) : 0 ≤ fval r := by
 rw [(fval_pos_lt h).1]; exact Rat.mul_nonneg Rat.natCast_nonneg (Rat.le_of_lt (p2_pos _))
theorem fval_zero_iff {b : Nat} : fval b = 0 ↔ frung b = 0 := by
 have hp := p2_ne (fpl (frung b))
 unfold fval
 constructor
 · intro h
   have h1 : ((fmag (frung b) : Nat) : Rat) = 0 := by
     unfold sgn1 at h
     split at h <;> grind
   have h2 : fmag (frung b) = 0 := Rat.natCast_eq_zero_iff.1 h1
   unfold fmag at h2
   split at h2 <;> omega
 · intro h
   rw [h]; simp [fmag]
end

/- Plain facts on floats: rounding to the nearest word where nothing is rounded off. -/
section
theorem log2_mul_pow (m d : Nat) (hm : m ≠ 0) : Nat.log2 (m * 2 ^ d) = Nat.log2 m + d := by
 have h1 := Nat.log2_self_le hm
 have h2 : m < 2 ^ (Nat.log2 m + 1) := Nat.lt_log2_self
 have hp : 0 < 2 ^ d := Nat.two_pow_pos d
 rw [Nat.log2_eq_iff (Nat.mul_ne_zero hm (by omega))]
 refine ⟨by rw [Nat.pow_add]; exact Nat.mul_le_mul_right _ h1, ?_⟩
 rw [show Nat.log2 m + d + 1 = (Nat.log2 m + 1) + d by omega, Nat.pow_add]
 exact Nat.mul_lt_mul_of_pos_right h2 hp
theorem cut_exact (neg : Bool) (r d : Nat) : Ieee.Toward.even.cut neg (r * 2 ^ d) d = r := by
 unfold Ieee.Toward.cut
 simp only [Nat.one_shiftLeft]
 by_cases hr : r = 0
 · subst hr; simp
 · rw [log2_mul_pow r d hr, Nat.min_eq_left (by omega)]
   have hp : 0 < 2 ^ d := Nat.two_pow_pos d
   rw [Nat.mul_div_cancel _ hp, Nat.mul_mod_left]
   have e1 : (decide (2 ^ d < 2 * 0) || (2 ^ d == 2 * 0 && r % 2 == 1)) = false := by
     have : ¬ (2 ^ d < 2 * 0) := by omega
     have h2 : (2 ^ d == 2 * 0) = false := by rw [beq_eq_false_iff_ne]; omega
     simp [h2]
   rw [e1]; rfl
theorem nearest_norm (M d : Nat) (place : Int) (h1 : 4503599627370496 ≤ M) (h2 : M < 9007199254740992) (hp : -1074 ≤ place + (d : Nat)) (hb : ((place + (d : Nat) + 1074).toNat) * 4503599627370496 + M < 9218868437227405312) :
   Ieee.double.nearest false (M * 2 ^ d) place = (place + (d : Nat) + 1074).toNat * 4503599627370496 + M := by
 have hM : M ≠ 0 := by omega
 have hL : Nat.log2 M = 52 := by rw [Nat.log2_eq_iff hM]; exact ⟨h1, h2⟩
 unfold Ieee.Format.nearest
 rw [if_neg (Nat.mul_ne_zero hM (Nat.ne_of_gt (Nat.two_pow_pos d)))]
 simp only [d_lp, d_bin, d_inf]
 have e0 : (Ieee.double.fractionBits : Int) = 52 := rfl
 rw [log2_mul_pow M d hM, hL, e0, show max (place + ((52 + d : Nat) : Int) - 52) (-1074) = place + (d : Nat) by omega]
 rw [show (place - (place + (d : Nat)) : Int).toNat = 0 by omega, show (place + (d : Nat) - place : Int).toNat = d by omega, Nat.shiftLeft_zero, cut_exact]
 rw [show (place + (d : Nat) - -1074 : Int) = place + (d : Nat) + 1074 by omega, Nat.min_eq_left (by omega)]
 rfl
theorem read_norm (E u : Nat) (hE : 1 ≤ E) (hE2 : E ≤ 2046) (hu : u < 4503599627370496) : Ieee.double.read (E * 4503599627370496 + u) = .number false (4503599627370496 + u) (-1075 + (E : Int)) := by
 have hf : Fin64 (E * 4503599627370496 + u) := by unfold Fin64 frung; omega
 rw [read_fin hf]
 have h1 : frung (E * 4503599627370496 + u) = E * 4503599627370496 + u := Nat.mod_eq_of_lt (by omega)
 have h2 : fneg (E * 4503599627370496 + u) = false := by unfold fneg; rw [Nat.div_eq_of_lt (by omega)]; rfl
 rw [h1, h2]
 unfold fmag fpl
 rw [if_neg (by omega), if_neg (by omega), show (E * 4503599627370496 + u) % 4503599627370496 = u by omega, show (E * 4503599627370496 + u) / 4503599627370496 = E by omega]
 congr 1
 omega
theorem read_one : Ieee.double.read 4607182418800017408 = .number false 4503599627370496 (-52) := by
 have := read_norm 1023 0 (by omega) (by omega) (by omega)
 simpa using this
theorem mul_one (E u : Nat) (hE : 1 ≤ E) (hE2 : E ≤ 2046) (hu : u < 4503599627370496) : Ieee.double.mul 4607182418800017408 (E * 4503599627370496 + u) = some (E * 4503599627370496 + u) := by
 unfold Ieee.Format.mul
 rw [read_one, read_norm E u hE hE2 hu]
 unfold Ieee.Datum.product
 simp only [Option.map_some, Ieee.Format.write, Bool.xor_false]
 congr 1
 have h := nearest_norm (4503599627370496 + u) 52 (-52 + (-1075 + (E : Int))) (by omega) (by omega) (by omega) (by omega)
 rw [show (4503599627370496 : Nat) * (4503599627370496 + u) = (4503599627370496 + u) * 2 ^ 52 by rw [Nat.mul_comm], h]
 omega
end
end Go.Proofs.YtcgbnjoajieggaaGreat
