/- Own texts, put together: M6 M7 M8 Ya Zg Zh Zi. -/
import Derived.Test.YtmcllgoeldfgmaaDoorQ1
import Ieee.Arith
import Derived.Deep.AppendLies
import Derived.OwnWalk
import Derived.Deep.RegionHeld3
/- Plain facts on floats: what a word denotes, as a rational; how two words stand to each other. -/
namespace Go.Proofs.YtmcllgoeldfgmaaDoor

def fneg (b : Nat) : Bool := b / 9223372036854775808 % 2 == 1
def frung (b : Nat) : Nat := b % 9223372036854775808
def fmag (r : Nat) : Nat := if r < 4503599627370496 then r else 4503599627370496 + r % 4503599627370496
def fpl (r : Nat) : Int := if r < 4503599627370496 then -1074 else -1074 + ((r / 4503599627370496 - 1 : Nat) : Int)

/-- The word is of a finite float. -/
def Fin64 (b : Nat) : Prop := frung b < 9218868437227405312

def sgn1 (b : Bool) : Rat := if b then -1 else 1

/-- The number that a finite float denotes. -/
def fval (b : Nat) : Rat := sgn1 (fneg b) * ((fmag (frung b) : Nat) * p2 (fpl (frung b)))

theorem d_sw : Ieee.double.signWeight = 9223372036854775808 := by decide
theorem d_bin : Ieee.double.binade = 4503599627370496 := by decide
theorem d_inf : Ieee.double.infRung = 9218868437227405312 := by decide
theorem d_lp : Ieee.double.leastPlace = -1074 := by decide

theorem read_fin {b : Nat} (h : Fin64 b) : Ieee.double.read b = .number (fneg b) (fmag (frung b)) (fpl (frung b)) := by
  unfold Fin64 frung at h
  unfold Ieee.Format.read fneg fmag fpl frung
  simp only [d_sw, d_bin, d_inf, d_lp]
  by_cases h1 : b % 9223372036854775808 < 4503599627370496
  · simp only [h1, if_true]
  · simp only [h1, if_false, h, if_true]

theorem read_inf {b : Nat} (h : frung b = 9218868437227405312) : Ieee.double.read b = .infinity (fneg b) := by
  unfold frung at h
  unfold Ieee.Format.read fneg
  simp only [d_sw, d_bin, d_inf, h]
  rfl

theorem read_nan {b : Nat} (h : 9218868437227405312 < frung b) : ∃ s t, Ieee.double.read b = .nan s t := by
  unfold frung at h
  unfold Ieee.Format.read
  simp only [d_sw, d_bin, d_inf]
  rw [if_neg (by omega), if_neg (by omega), if_neg (by omega)]
  exact ⟨_, _, rfl⟩

theorem signed_p2 (s : Bool) (m up : Nat) (base : Int) : ((Ieee.signed s m up : Int) : Rat) * p2 base = sgn1 s * ((m : Nat) * p2 (base + (up : Nat))) := by
  unfold Ieee.signed sgn1
  rw [Nat.shiftLeft_eq, p2_add]
  have e : ((m * 2 ^ up : Nat) : Rat) = (m : Nat) * p2 (up : Nat) := nat_mul_p2 m up
  cases s
  · simp only [Bool.false_eq_true, if_false]
    have : (((m * 2 ^ up : Nat) : Int) : Rat) = ((m * 2 ^ up : Nat) : Rat) := rfl
    rw [this, e]; grind
  · simp only [if_true]
    have : ((-((m * 2 ^ up : Nat) : Int) : Int) : Rat) = -((m * 2 ^ up : Nat) : Rat) := by rw [Rat.intCast_neg]; rfl
    rw [this, e]; grind

theorem compare_int (x y : Int) : compare x y = if x < y then .lt else if x = y then .eq else .gt := rfl

/-- How two finite floats stand to each other. -/
theorem order_fin {b c : Nat} (hb : Fin64 b) (hc : Fin64 c) : Ieee.double.order b c = some (if fval b < fval c then .lt else if fval b = fval c then .eq else .gt) := by
  unfold Ieee.Format.order
  rw [read_fin hb, read_fin hc]
  unfold Ieee.Datum.order
  simp only
  unfold fval
  generalize fneg b = s
  generalize fneg c = t
  generalize fmag (frung b) = m
  generalize fmag (frung c) = n
  generalize fpl (frung b) = i
  generalize fpl (frung c) = j
  have e1 := signed_p2 s m (i - min i j).toNat (min i j)
  have e2 := signed_p2 t n (j - min i j).toNat (min i j)
  rw [show min i j + ((i - min i j).toNat : Int) = i by omega] at e1
  rw [show min i j + ((j - min i j).toNat : Int) = j by omega] at e2
  rw [← e1, ← e2, compare_int]
  generalize Ieee.signed s m (i - min i j).toNat = x
  generalize Ieee.signed t n (j - min i j).toNat = y
  have hp := p2_pos (min i j)
  have l1 : (x : Rat) * p2 (min i j) < (y : Rat) * p2 (min i j) ↔ x < y := by rw [Rat.mul_lt_mul_right hp, Rat.intCast_lt_intCast]
  have l2 : (x : Rat) * p2 (min i j) = (y : Rat) * p2 (min i j) ↔ x = y := by
    constructor
    · intro h
      have hn := p2_ne (min i j)
      have : (x : Rat) = (y : Rat) := by grind
      exact Rat.intCast_inj.1 this
    · intro h; rw [h]
  simp only [l1, l2]

theorem order_nan_left {b c : Nat} (hb : 9218868437227405312 < frung b) : Ieee.double.order b c = none := by
  obtain ⟨s, t, h⟩ := read_nan hb
  unfold Ieee.Format.order
  rw [h]
  unfold Ieee.Datum.order
  rfl

theorem order_inf_fin {b c : Nat} (hb : frung b = 9218868437227405312) (hc : Fin64 c) : Ieee.double.order b c = some (if fneg b then .lt else .gt) := by
  unfold Ieee.Format.order
  rw [read_inf hb, read_fin hc]
  rfl

theorem order_inf_self {b : Nat} (hb : frung b = 9218868437227405312) : Ieee.double.order b b = some .eq := by
  unfold Ieee.Format.order
  rw [read_inf hb]
  unfold Ieee.Datum.order
  cases fneg b <;> rfl

theorem fval_pos_lt {r : Nat} (h : r < 9218868437227405312) : fval r = (fmag r : Nat) * p2 (fpl r) ∧ frung r = r := by
  have h1 : frung r = r := Nat.mod_eq_of_lt (by omega)
  have h2 : fneg r = false := by unfold fneg; rw [Nat.div_eq_of_lt (by omega)]; rfl
  refine ⟨?_, h1⟩
  unfold fval
  rw [h1, h2]; simp [sgn1]

theorem fmag_lt (r : Nat) : fmag r < 9007199254740992 := by unfold fmag; split <;> omega

theorem fval_nonneg {r : Nat} (h : r < 9218868437227405312) : 0 ≤ fval r := by
  rw [(fval_pos_lt h).1]; exact Rat.mul_nonneg Rat.natCast_nonneg (Rat.le_of_lt (p2_pos _))

/-- Below the least normal float. -/
theorem small_iff {r : Nat} (h : r < 9218868437227405312) : fval r < fval 4503599627370496 ↔ r < 4503599627370496 := by
  rw [(fval_pos_lt h).1, (fval_pos_lt (by omega : (4503599627370496 : Nat) < 9218868437227405312)).1]
  have e0 : fmag 4503599627370496 = 4503599627370496 := by decide
  have e1 : fpl 4503599627370496 = -1074 := by decide
  rw [e0, e1]
  have hp := p2_pos (-1074)
  constructor
  · intro hlt
    rcases Nat.lt_or_ge r 4503599627370496 with h1 | h1
    · exact h1
    · exfalso
      have h2 : 4503599627370496 ≤ fmag r := by unfold fmag; rw [if_neg (by omega)]; omega
      have h3 : (-1074 : Int) ≤ fpl r := by unfold fpl; rw [if_neg (by omega)]; omega
      have h4 := p2_mono h3
      have h5 := (Rat.natCast_le_natCast).2 h2
      have h6 : (0 : Rat) ≤ ((4503599627370496 : Nat) : Rat) := Rat.natCast_nonneg
      have h7 := Rat.mul_le_mul_of_nonneg_right h5 (Rat.le_of_lt (p2_pos (fpl r)))
      have h8 := Rat.mul_le_mul_of_nonneg_left h4 h6
      grind
  · intro hlt
    have h2 : fmag r = r := by unfold fmag; rw [if_pos hlt]
    have h3 : fpl r = -1074 := by unfold fpl; rw [if_pos hlt]
    rw [h2, h3, Rat.mul_lt_mul_right hp]
    exact Rat.natCast_lt_natCast.2 hlt

/-- No finite float is above the greatest. -/
theorem fval_le_max {r : Nat} (h : r < 9218868437227405312) : fval r ≤ fval 9218868437227405311 := by
  rw [(fval_pos_lt h).1, (fval_pos_lt (by omega : (9218868437227405311 : Nat) < 9218868437227405312)).1]
  have e0 : fmag 9218868437227405311 = 9007199254740991 := by decide
  have e1 : fpl 9218868437227405311 = 971 := by decide
  rw [e0, e1]
  have h2 : fmag r ≤ 9007199254740991 := by have := fmag_lt r; omega
  have h3 : fpl r ≤ 971 := by unfold fpl; split <;> omega
  have h4 := p2_mono h3
  have h5 := (Rat.natCast_le_natCast).2 h2
  have h6 : (0 : Rat) ≤ ((9007199254740991 : Nat) : Rat) := Rat.natCast_nonneg
  have h7 := Rat.mul_le_mul_of_nonneg_right h5 (Rat.le_of_lt (p2_pos (fpl r)))
  have h8 := Rat.mul_le_mul_of_nonneg_left h4 h6
  grind

theorem fval_zero_iff {b : Nat} : fval b = 0 ↔ frung b = 0 := by
  have hp := p2_ne (fpl (frung b))
  unfold fval
  constructor
  · intro h
    have h1 : ((fmag (frung b) : Nat) : Rat) = 0 := by
      unfold sgn1 at h
      split at h <;> grind
    have h2 : fmag (frung b) = 0 := Rat.natCast_eq_zero_iff.1 h1
    unfold fmag at h2
    split at h2 <;> omega
  · intro h
    rw [h]; simp [fmag]

/-- Nearest, where the number is a float's own. -/
theorem word_false (r : Nat) : Ieee.double.word false r = r := rfl

end Go.Proofs.YtmcllgoeldfgmaaDoor

/- Plain facts on floats: rounding to the nearest word where nothing is rounded off. -/
namespace Go.Proofs.YtmcllgoeldfgmaaDoor

theorem log2_mul_pow (m d : Nat) (hm : m ≠ 0) : Nat.log2 (m * 2 ^ d) = Nat.log2 m + d := by
  have h1 := Nat.log2_self_le hm
  have h2 : m < 2 ^ (Nat.log2 m + 1) := Nat.lt_log2_self
  have hp : 0 < 2 ^ d := Nat.two_pow_pos d
  rw [Nat.log2_eq_iff (Nat.mul_ne_zero hm (by omega))]
  refine ⟨by rw [Nat.pow_add]; exact Nat.mul_le_mul_right _ h1, ?_⟩
  rw [show Nat.log2 m + d + 1 = (Nat.log2 m + 1) + d by omega, Nat.pow_add]
  exact Nat.mul_lt_mul_of_pos_right h2 hp

theorem cut_exact (neg : Bool) (r d : Nat) : Ieee.Toward.even.cut neg (r * 2 ^ d) d = r := by
  unfold Ieee.Toward.cut
  simp only [Nat.one_shiftLeft]
  by_cases hr : r = 0
  · subst hr; simp
  · rw [log2_mul_pow r d hr, Nat.min_eq_left (by omega)]
    have hp : 0 < 2 ^ d := Nat.two_pow_pos d
    rw [Nat.mul_div_cancel _ hp, Nat.mul_mod_left]
    have e1 : (decide (2 ^ d < 2 * 0) || (2 ^ d == 2 * 0 && r % 2 == 1)) = false := by
      have : ¬ (2 ^ d < 2 * 0) := by omega
      have h2 : (2 ^ d == 2 * 0) = false := by rw [beq_eq_false_iff_ne]; omega
      simp [h2]
    rw [e1]; rfl

/-- A number with 53 bits at a place that floats have: its word. -/
theorem nearest_norm (M d : Nat) (place : Int) (h1 : 4503599627370496 ≤ M) (h2 : M < 9007199254740992) (hp : -1074 ≤ place + (d : Nat)) (hb : ((place + (d : Nat) + 1074).toNat) * 4503599627370496 + M < 9218868437227405312) :
    Ieee.double.nearest false (M * 2 ^ d) place = (place + (d : Nat) + 1074).toNat * 4503599627370496 + M := by
  have hM : M ≠ 0 := by omega
  have hL : Nat.log2 M = 52 := by rw [Nat.log2_eq_iff hM]; exact ⟨h1, h2⟩
  unfold Ieee.Format.nearest
  rw [if_neg (Nat.mul_ne_zero hM (Nat.ne_of_gt (Nat.two_pow_pos d)))]
  simp only [d_lp, d_bin, d_inf]
  have e0 : (Ieee.double.fractionBits : Int) = 52 := rfl
  rw [log2_mul_pow M d hM, hL, e0, show max (place + ((52 + d : Nat) : Int) - 52) (-1074) = place + (d : Nat) by omega]
  rw [show (place - (place + (d : Nat)) : Int).toNat = 0 by omega, show (place + (d : Nat) - place : Int).toNat = d by omega, Nat.shiftLeft_zero, cut_exact]
  rw [show (place + (d : Nat) - -1074 : Int) = place + (d : Nat) + 1074 by omega, Nat.min_eq_left (by omega)]
  rfl

/-- A number below the least normal float: its word. -/
theorem nearest_den (r d : Nat) (h2 : r < 4503599627370496) : Ieee.double.nearest false (r * 2 ^ d) (-1074 - (d : Nat)) = r := by
  by_cases hr : r = 0
  · subst hr; simp [Ieee.Format.nearest]; rfl
  · have hL : Nat.log2 r < 52 := (Nat.log2_lt hr).2 h2
    unfold Ieee.Format.nearest
    rw [if_neg (Nat.mul_ne_zero hr (Nat.ne_of_gt (Nat.two_pow_pos d)))]
    simp only [d_lp, d_bin, d_inf]
    have e0 : (Ieee.double.fractionBits : Int) = 52 := rfl
    rw [log2_mul_pow r d hr, e0, show max (-1074 - (d : Int) + ((Nat.log2 r + d : Nat) : Int) - 52) (-1074) = -1074 by omega]
    rw [show (-1074 - (d : Int) - -1074 : Int).toNat = 0 by omega, show ((-1074 : Int) - (-1074 - (d : Int))).toNat = d by omega, Nat.shiftLeft_zero, cut_exact]
    rw [show ((-1074 : Int) - -1074).toNat = 0 by decide, Nat.zero_mul, Nat.zero_add, Nat.min_eq_left (by omega)]
    rfl

theorem read_norm (E u : Nat) (hE : 1 ≤ E) (hE2 : E ≤ 2046) (hu : u < 4503599627370496) : Ieee.double.read (E * 4503599627370496 + u) = .number false (4503599627370496 + u) (-1075 + (E : Int)) := by
  have hf : Fin64 (E * 4503599627370496 + u) := by unfold Fin64 frung; omega
  rw [read_fin hf]
  have h1 : frung (E * 4503599627370496 + u) = E * 4503599627370496 + u := Nat.mod_eq_of_lt (by omega)
  have h2 : fneg (E * 4503599627370496 + u) = false := by unfold fneg; rw [Nat.div_eq_of_lt (by omega)]; rfl
  rw [h1, h2]
  unfold fmag fpl
  rw [if_neg (by omega), if_neg (by omega), show (E * 4503599627370496 + u) % 4503599627370496 = u by omega, show (E * 4503599627370496 + u) / 4503599627370496 = E by omega]
  congr 1
  omega

theorem read_one : Ieee.double.read 4607182418800017408 = .number false 4503599627370496 (-52) := by
  have := read_norm 1023 0 (by omega) (by omega) (by omega)
  simpa using this

theorem mul_one (E u : Nat) (hE : 1 ≤ E) (hE2 : E ≤ 2046) (hu : u < 4503599627370496) : Ieee.double.mul 4607182418800017408 (E * 4503599627370496 + u) = some (E * 4503599627370496 + u) := by
  unfold Ieee.Format.mul
  rw [read_one, read_norm E u hE hE2 hu]
  unfold Ieee.Datum.product
  simp only [Option.map_some, Ieee.Format.write, Bool.xor_false]
  congr 1
  have h := nearest_norm (4503599627370496 + u) 52 (-52 + (-1075 + (E : Int))) (by omega) (by omega) (by omega) (by omega)
  rw [show (4503599627370496 : Nat) * (4503599627370496 + u) = (4503599627370496 + u) * 2 ^ 52 by rw [Nat.mul_comm], h]
  omega

theorem mul_norm (E u : Nat) (r L : Nat) (hL : L < 52) (hE : E = L + 2) (hu : 4503599627370496 + u = r * 2 ^ (52 - L)) (hr : r < 4503599627370496) (hu2 : u < 4503599627370496) : Ieee.double.mul 4368491638549381120 (E * 4503599627370496 + u) = some r := by
  have h0 : Ieee.double.read 4368491638549381120 = .number false 4503599627370496 (-105) := by
    have := read_norm 970 0 (by omega) (by omega) (by omega)
    simpa using this
  unfold Ieee.Format.mul
  rw [h0, read_norm E u (by omega) (by omega) hu2]
  unfold Ieee.Datum.product
  simp only [Option.map_some, Ieee.Format.write, Bool.xor_false]
  congr 1
  have e1 : 4503599627370496 * (4503599627370496 + u) = r * 2 ^ (104 - L) := by
    rw [hu, show (4503599627370496 : Nat) = 2 ^ 52 by decide, ← Nat.mul_assoc, Nat.mul_comm (2 ^ 52) r, Nat.mul_assoc, ← Nat.pow_add]
    congr 2; omega
  rw [e1, show (-105 + (-1075 + (E : Int)) : Int) = -1074 - ((104 - L : Nat) : Int) by omega]
  exact nearest_den r (104 - L) hr

/-- A float below the normal ones, 2^52 times. -/
theorem mul_up (r L : Nat) (h0 : r ≠ 0) (h : r < 4503599627370496) (hL : Nat.log2 r = L) : Ieee.double.mul r 4841369599423283200 = some (L * 4503599627370496 + r * 2 ^ (52 - L)) := by
  have h1 : Ieee.double.read 4841369599423283200 = .number false 4503599627370496 0 := by
    have := read_norm 1075 0 (by omega) (by omega) (by omega)
    simpa using this
  have hf : Fin64 r := by unfold Fin64 frung; omega
  have h2 : Ieee.double.read r = .number false r (-1074) := by
    rw [read_fin hf]
    have e1 : frung r = r := Nat.mod_eq_of_lt (by omega)
    have e2 : fneg r = false := by unfold fneg; rw [Nat.div_eq_of_lt (by omega)]; rfl
    rw [e1, e2]
    unfold fmag fpl
    rw [if_pos h, if_pos h]
  have a1 := Nat.log2_self_le h0
  have a2 : r < 2 ^ (Nat.log2 r + 1) := Nat.lt_log2_self
  have a3 : Nat.log2 r < 52 := (Nat.log2_lt h0).2 h
  rw [hL] at a1 a2 a3
  have b1 : 4503599627370496 ≤ r * 2 ^ (52 - L) := by
    have := Nat.mul_le_mul_right (2 ^ (52 - L)) a1
    rw [← Nat.pow_add, show L + (52 - L) = 52 by omega] at this
    exact this
  have b2 : r * 2 ^ (52 - L) < 9007199254740992 := by
    have := Nat.mul_lt_mul_of_pos_right a2 (Nat.two_pow_pos (52 - L))
    rw [← Nat.pow_add, show L + 1 + (52 - L) = 53 by omega] at this
    exact this
  unfold Ieee.Format.mul
  rw [h1, h2]
  unfold Ieee.Datum.product
  simp only [Option.map_some, Ieee.Format.write, Bool.xor_false]
  congr 1
  have h3 := nearest_norm (r * 2 ^ (52 - L)) L (-1074 + 0) b1 b2 (by omega) (by omega)
  rw [Nat.mul_assoc, ← Nat.pow_add, show 52 - L + L = 52 by omega] at h3
  rw [show r * 4503599627370496 = r * 2 ^ 52 from rfl, h3]
  omega

end Go.Proofs.YtmcllgoeldfgmaaDoor

/- Plain facts: how far a number's bits reach. -/
namespace Go.Proofs.YtmcllgoeldfgmaaDoor

/-- In magnitude below 2^h, and a multiple of 2^l. -/
def Bd (h l : Int) (q : Rat) : Prop := q < p2 h ∧ -p2 h < q ∧ ∃ n : Int, q = (n : Rat) * p2 l

theorem bd_le {x P Q : Rat} (a : x < P) (b : -P < x) (h : P ≤ Q) : x < Q ∧ -Q < x := ⟨by grind, by grind⟩

theorem bd_nn {x y P : Rat} (h0 : 0 ≤ x) (h1 : x < y) (h2 : y ≤ P) : x < P ∧ -P < x := ⟨by grind, by grind⟩

theorem Bd.may {h l : Int} {q : Rat} (hb : Bd h l q) (h1 : h ≤ 65537) (h2 : -65536 ≤ l) : May q := by
  obtain ⟨a, b, n, c⟩ := hb
  have hh := bd_le a b (p2_mono h1)
  refine ⟨hh.1, hh.2, n * ((2 ^ (l + 65536).toNat : Nat) : Int), ?_⟩
  have e : p2 l = ((2 ^ (l + 65536).toNat : Nat) : Rat) * p2 (-65536) := by
    rw [← p2_nat, ← p2_add]; congr 1; omega
  rw [c, e, Rat.intCast_mul]
  have : (((2 ^ (l + 65536).toNat : Nat) : Int) : Rat) = ((2 ^ (l + 65536).toNat : Nat) : Rat) := rfl
  rw [this]; grind

theorem Bd.mono {h l h' l' : Int} {q : Rat} (hb : Bd h l q) (h1 : h ≤ h') (h2 : l' ≤ l) : Bd h' l' q := by
  obtain ⟨a, b, n, c⟩ := hb
  have := p2_mono h1
  refine ⟨by grind, by grind, n * ((2 ^ (l - l').toNat : Nat) : Int), ?_⟩
  have e : p2 l = ((2 ^ (l - l').toNat : Nat) : Rat) * p2 l' := by
    rw [← p2_nat, ← p2_add]; congr 1; omega
  rw [c, e, Rat.intCast_mul]
  have : (((2 ^ (l - l').toNat : Nat) : Int) : Rat) = ((2 ^ (l - l').toNat : Nat) : Rat) := rfl
  rw [this]; grind

theorem Bd.neg {h l : Int} {q : Rat} (hb : Bd h l q) : Bd h l (-q) := by
  obtain ⟨a, b, n, c⟩ := hb
  refine ⟨by grind, by grind, -n, ?_⟩
  rw [c, Rat.intCast_neg]; grind

theorem Bd.add {h l : Int} {p q : Rat} (h1 : Bd h l p) (h2 : Bd h l q) : Bd (h + 1) l (p + q) := by
  obtain ⟨a, b, n, c⟩ := h1
  obtain ⟨a', b', n', c'⟩ := h2
  have e : p2 (h + 1) = 2 * p2 h := by rw [p2_add, p2_one]; grind
  refine ⟨by grind, by grind, n + n', ?_⟩
  rw [c, c', Rat.intCast_add]; grind

theorem Bd.sub {h l : Int} {p q : Rat} (h1 : Bd h l p) (h2 : Bd h l q) : Bd (h + 1) l (p - q) := by
  have := h1.add h2.neg
  rwa [show p + -q = p - q by grind] at this

theorem abs_mul_lt {a b c d : Rat} (h1 : -b < a) (h2 : a < b) (h3 : -d < c) (h4 : c < d) : -(b * d) < a * c ∧ a * c < b * d := by
  have hb : 0 < b := by grind
  have hd : 0 < d := by grind
  have e1 : 0 < (b - a) * (d + c) := Rat.mul_pos (by grind) (by grind)
  have e2 : 0 < (b + a) * (d - c) := Rat.mul_pos (by grind) (by grind)
  have e3 : 0 < (b - a) * (d - c) := Rat.mul_pos (by grind) (by grind)
  have e4 : 0 < (b + a) * (d + c) := Rat.mul_pos (by grind) (by grind)
  constructor <;> grind

theorem Bd.mul {h l h' l' : Int} {p q : Rat} (h1 : Bd h l p) (h2 : Bd h' l' q) : Bd (h + h') (l + l') (p * q) := by
  obtain ⟨a, b, n, c⟩ := h1
  obtain ⟨a', b', n', c'⟩ := h2
  have := abs_mul_lt b a b' a'
  rw [Bd, p2_add, p2_add]
  refine ⟨this.2, this.1, n * n', ?_⟩
  rw [c, c', Rat.intCast_mul]; grind

theorem Bd.shift {h l : Int} {p : Rat} (h1 : Bd h l p) (k : Int) : Bd (h + k) (l + k) (p * p2 k) := by
  obtain ⟨a, b, n, c⟩ := h1
  have hp := p2_pos k
  have e1 := Rat.mul_lt_mul_of_pos_right a hp
  have e2 := Rat.mul_lt_mul_of_pos_right b hp
  rw [Bd, p2_add, p2_add]
  refine ⟨e1, by grind, n, ?_⟩
  rw [c]; grind

theorem neg_lt_zero {P : Rat} (h : 0 < P) : -P < 0 := by grind

theorem bd_zero (h l : Int) : Bd h l 0 := ⟨p2_pos h, neg_lt_zero (p2_pos h), 0, by simp⟩

theorem fval_bd {b : Nat} (h : Fin64 b) : Bd 1024 (-1074) (fval b) := by
  have hr : frung b < 9218868437227405312 := h
  have h1 : fmag (frung b) < 2 ^ 53 := fmag_lt _
  have h2 : fpl (frung b) ≤ 971 := by unfold fpl; split <;> omega
  have h3 : -1074 ≤ fpl (frung b) := by unfold fpl; split <;> omega
  have hp := p2_pos (fpl (frung b))
  have h4 : ((fmag (frung b) : Nat) : Rat) < ((2 ^ 53 : Nat) : Rat) := Rat.natCast_lt_natCast.2 h1
  rw [← p2_nat] at h4
  have h5 := Rat.mul_lt_mul_of_pos_right h4 hp
  rw [← p2_add] at h5
  have h6 : p2 (((53 : Nat) : Int) + fpl (frung b)) ≤ p2 1024 := p2_mono (by omega)
  have h7 : (0 : Rat) ≤ (fmag (frung b) : Nat) * p2 (fpl (frung b)) := Rat.mul_nonneg Rat.natCast_nonneg (Rat.le_of_lt hp)
  have base : Bd 1024 (-1074) ((fmag (frung b) : Nat) * p2 (fpl (frung b))) := by
    have hh := bd_nn h7 h5 h6
    refine ⟨hh.1, hh.2, ((fmag (frung b) * 2 ^ (fpl (frung b) + 1074).toNat : Nat) : Int), ?_⟩
    have e : (((fmag (frung b) * 2 ^ (fpl (frung b) + 1074).toNat : Nat) : Int) : Rat) = ((fmag (frung b) * 2 ^ (fpl (frung b) + 1074).toNat : Nat) : Rat) := rfl
    rw [e, nat_mul_p2, Rat.mul_assoc, ← p2_add, show (((fpl (frung b) + 1074).toNat : Nat) : Int) + -1074 = fpl (frung b) by omega]
  unfold fval sgn1
  split
  · have := base.neg
    rwa [show -1 * ((fmag (frung b) : Nat) * p2 (fpl (frung b)) : Rat) = -((fmag (frung b) : Nat) * p2 (fpl (frung b))) by grind]
  · rwa [Rat.one_mul]

theorem int_bd (n : Int) (h1 : -9223372036854775808 ≤ n) (h2 : n ≤ 9223372036854775807) : Bd 64 0 (n : Rat) := by
  have e : p2 64 = ((18446744073709551616 : Int) : Rat) := by
    rw [show (64 : Int) = ((64 : Nat) : Int) from rfl, p2_nat]; rfl
  refine ⟨?_, ?_, n, by rw [p2_zero, Rat.mul_one]⟩
  · rw [e]; exact Rat.intCast_lt_intCast.2 (by omega)
  · rw [e, ← Rat.intCast_neg]; exact Rat.intCast_lt_intCast.2 (by omega)

end Go.Proofs.YtmcllgoeldfgmaaDoor

/- The number that digits below 2^24 tell, plainly. -/
namespace Go.Proofs.YtmcllgoeldfgmaaDoor

def v24 : List Nat → Nat
  | [] => 0
  | n :: r => n + 16777216 * v24 r

theorem p24 (k : Nat) : 2 ^ (24 * (k + 1)) = 16777216 * 2 ^ (24 * k) := by
  rw [show 24 * (k + 1) = 24 + 24 * k by omega, Nat.pow_add]
theorem v24_append (a b : List Nat) : v24 (a ++ b) = v24 a + 2 ^ (24 * a.length) * v24 b := by
  induction a with
  | nil => simp [v24]
  | cons x r ih => rw [List.cons_append, v24, v24, ih, List.length_cons, p24]; grind
theorem v24_snoc (a : List Nat) (x : Nat) : v24 (a ++ [x]) = v24 a + 2 ^ (24 * a.length) * x := by
  rw [v24_append]; simp [v24]
theorem v24_take_succ (l : List Nat) (k : Nat) : v24 (l.take (k + 1)) = v24 (l.take k) + 2 ^ (24 * k) * l.getD k 0 := by
  by_cases hk : k < l.length
  · rw [List.take_succ_eq_append_getElem hk, v24_append, List.length_take, Nat.min_eq_left (by omega)]
    simp [v24, List.getD, hk]
  · rw [List.take_of_length_le (by omega), List.take_of_length_le (by omega)]
    simp [List.getD, List.getElem?_eq_none (Nat.le_of_not_lt hk)]
theorem v24_lt {ds : List Nat} (h : ∀ d ∈ ds, d < 16777216) : v24 ds < 2 ^ (24 * ds.length) := by
  induction ds with
  | nil => simp [v24]
  | cons x r ih =>
    have h0 : x < 16777216 := h x (by simp)
    have h1 := ih (fun d hd => h d (by simp [hd]))
    rw [v24, List.length_cons, p24]
    omega
theorem v24_mod {ds : List Nat} (h : ∀ d ∈ ds, d < 16777216) : v24 ds % 16777216 = ds.getD 0 0 := by
  cases ds with
  | nil => simp [v24]
  | cons x r =>
    have h0 : x < 16777216 := h x (by simp)
    simp only [v24, List.getD_cons_zero]
    omega

/-- The digits f from the place L on, n of them. -/
def ms (f : Int → Nat) (L : Int) : Nat → Nat
  | 0 => 0
  | n + 1 => ms f L n + 2 ^ (24 * n) * f (L + (n : Int))

theorem ms_congr {f g : Int → Nat} (h : ∀ j, f j = g j) (L : Int) (n : Nat) : ms f L n = ms g L n := by
  induction n with
  | zero => rfl
  | succ n ih => rw [ms, ms, ih, h]
theorem ms_add (f : Int → Nat) (L : Int) (k n : Nat) : ms f L (k + n) = ms f L k + 2 ^ (24 * k) * ms f (L + (k : Int)) n := by
  induction n with
  | zero => simp [ms]
  | succ n ih =>
    rw [← Nat.add_assoc, ms, ih, ms, show 24 * (k + n) = 24 * k + 24 * n by omega, Nat.pow_add, show L + (k : Int) + (n : Int) = L + ((k + n : Nat) : Int) by omega]
    grind
theorem ms_zero {f : Int → Nat} {L : Int} {n : Nat} (h : ∀ i, L ≤ i → i < L + (n : Int) → f i = 0) : ms f L n = 0 := by
  induction n with
  | zero => rfl
  | succ n ih => rw [ms, ih (fun i h1 h2 => h i h1 (by omega)), h _ (by omega) (by omega)]; simp
theorem ms_lt {f : Int → Nat} (h : ∀ i, f i < 16777216) (L : Int) (n : Nat) : ms f L n < 2 ^ (24 * n) := by
  induction n with
  | zero => simp [ms]
  | succ n ih =>
    rw [ms, p24]
    have h1 : f (L + (n : Int)) + 1 ≤ 16777216 := h _
    have h2 := Nat.mul_le_mul_left (2 ^ (24 * n)) h1
    rw [Nat.mul_add, Nat.mul_one, Nat.mul_comm _ 16777216] at h2
    omega
/-- Which is greater is told by the first digit from above that is not the same. -/
theorem ms_less {f g : Int → Nat} (hg : ∀ i, g i < 16777216) {L i : Int} {n : Nat} (h1 : L ≤ i) (h2 : i < L + (n : Int)) (heq : ∀ j, i < j → f j = g j) (hlt : g i < f i) : ms g L n < ms f L n := by
  obtain ⟨k, rfl⟩ : ∃ k : Nat, i = L + (k : Int) := ⟨(i - L).toNat, by omega⟩
  obtain ⟨m, rfl⟩ : ∃ m, n = k + 1 + m := ⟨n - k - 1, by omega⟩
  rw [ms_add, ms_add f]
  have e : ms g (L + ((k + 1 : Nat) : Int)) m = ms f (L + ((k + 1 : Nat) : Int)) m := by
    have : ∀ q : Nat, ms g (L + ((k + 1 : Nat) : Int)) q = ms f (L + ((k + 1 : Nat) : Int)) q := by
      intro q
      induction q with
      | zero => rfl
      | succ q ih => rw [ms, ms, ih, heq _ (by omega)]
    exact this m
  rw [e, ms, ms]
  have h3 := ms_lt hg L k
  have h4 : g (L + (k : Int)) + 1 ≤ f (L + (k : Int)) := hlt
  have h5 := Nat.mul_le_mul_left (2 ^ (24 * k)) h4
  rw [Nat.mul_add, Nat.mul_one] at h5
  omega

/-- The digit at a place (as dgt has it). -/
def dg (ds : List Nat) (E j : Int) : Nat := if E ≤ j then ds.getD (j - E).toNat 0 else 0
theorem dg_small {ds : List Nat} (h : ∀ d ∈ ds, d < 16777216) (E j : Int) : dg ds E j < 16777216 := by
  unfold dg
  split
  · by_cases hi : (j - E).toNat < ds.length
    · have e : ds.getD (j - E).toNat 0 = ds[(j - E).toNat] := by simp [List.getD, hi]
      rw [e]; exact h _ (List.getElem_mem hi)
    · simp [List.getD, List.getElem?_eq_none (Nat.le_of_not_lt hi)]
  · omega
theorem ms_dg (ds : List Nat) (E : Int) (k : Nat) : ms (dg ds E) E k = v24 (ds.take k) := by
  induction k with
  | zero => simp [ms, v24]
  | succ k ih =>
    rw [ms, ih, v24_take_succ]
    unfold dg
    rw [if_pos (by omega), show (E + (k : Int) - E).toNat = k by omega]

/-- The number. -/
def mag (ds : List Nat) (E : Int) : Rat := (v24 ds : Nat) * p2 (24 * E)

theorem mag_ms {ds : List Nat} {E L : Int} {n : Nat} (h1 : L ≤ E) (h2 : E + (ds.length : Int) ≤ L + (n : Int)) : mag ds E = (ms (dg ds E) L n : Nat) * p2 (24 * L) := by
  obtain ⟨k, rfl⟩ : ∃ k : Nat, E = L + (k : Int) := ⟨(E - L).toNat, by omega⟩
  obtain ⟨m, rfl⟩ : ∃ m, n = k + m := ⟨n - k, by omega⟩
  rw [ms_add, ms_zero (n := k) (fun i a b => by unfold dg; rw [if_neg (by omega)]), ms_dg, List.take_of_length_le (by omega), Nat.zero_add]
  unfold mag
  rw [show 24 * (L + (k : Int)) = ((24 * k : Nat) : Int) + 24 * L by omega, p2_add, p2_nat, Rat.natCast_mul]
  grind
theorem mag_congr {ds ds' : List Nat} {E E' : Int} (h : ∀ j, dg ds' E' j = dg ds E j) : mag ds' E' = mag ds E := by
  have a1 : min E E' ≤ E := by omega
  have a2 : min E E' ≤ E' := by omega
  have b1 : E + (ds.length : Int) ≤ min E E' + (((E - min E E').toNat + (E' - min E E').toNat + ds.length + ds'.length : Nat) : Int) := by omega
  have b2 : E' + (ds'.length : Int) ≤ min E E' + (((E - min E E').toNat + (E' - min E E').toNat + ds.length + ds'.length : Nat) : Int) := by omega
  rw [mag_ms a1 b1, mag_ms a2 b2, ms_congr h]
theorem mag_nonneg (ds : List Nat) (E : Int) : 0 ≤ mag ds E := Rat.mul_nonneg Rat.natCast_nonneg (Rat.le_of_lt (p2_pos _))
theorem mag_nil (E : Int) : mag [] E = 0 := by unfold mag; simp [v24]

theorem v24_last {ds : List Nat} (hne : ds ≠ []) (ht : ds.getD (ds.length - 1) 0 ≠ 0) : 2 ^ (24 * (ds.length - 1)) ≤ v24 ds := by
  have hl := List.length_pos_iff.2 hne
  have e := v24_take_succ ds (ds.length - 1)
  rw [show ds.length - 1 + 1 = ds.length by omega, List.take_length] at e
  rw [e]
  have := Nat.mul_le_mul_left (2 ^ (24 * (ds.length - 1))) (Nat.pos_of_ne_zero ht)
  omega
theorem mag_pos {ds : List Nat} {E : Int} (hne : ds ≠ []) (ht : ds.getD (ds.length - 1) 0 ≠ 0) : 0 < mag ds E := by
  have h := v24_last hne ht
  have h2 := Nat.two_pow_pos (24 * (ds.length - 1))
  unfold mag
  refine Rat.mul_pos ?_ (p2_pos _)
  have : 0 < v24 ds := by omega
  exact_mod_cast this
/-- The highest digit's place, by a bound of the number. -/
theorem mag_top {ds : List Nat} {E h : Int} (hne : ds ≠ []) (ht : ds.getD (ds.length - 1) 0 ≠ 0) (hb : mag ds E < p2 h) : 24 * (E + (ds.length : Int)) < h + 24 := by
  have h1 := v24_last hne ht
  have hl := List.length_pos_iff.2 hne
  have h2 : p2 (24 * (E + (ds.length : Int) - 1)) ≤ mag ds E := by
    rw [show 24 * (E + (ds.length : Int) - 1) = ((24 * (ds.length - 1) : Nat) : Int) + 24 * E by omega, p2_add, p2_nat]
    unfold mag
    exact Rat.mul_le_mul_of_nonneg_right (Rat.natCast_le_natCast.2 h1) (Rat.le_of_lt (p2_pos _))
  have h3 : p2 (24 * (E + (ds.length : Int) - 1)) < p2 h := by grind
  have := p2_lt_iff.1 h3
  omega
/-- The lowest digit's place, by a power that the number is a multiple of. -/
theorem mag_low {ds : List Nat} {E l : Int} (hs : ∀ d ∈ ds, d < 16777216) (hf : ds.getD 0 0 ≠ 0) (hm : ∃ n : Int, mag ds E = (n : Rat) * p2 l) : l < 24 * E + 24 := by
  rcases Int.lt_or_le l (24 * E + 24) with h | h
  · exact h
  · exfalso
    obtain ⟨n, hn⟩ := hm
    obtain ⟨k, rfl⟩ : ∃ k : Nat, l = 24 * E + 24 + (k : Int) := ⟨(l - (24 * E + 24)).toNat, by omega⟩
    rw [show 24 * E + 24 + (k : Int) = ((24 + k : Nat) : Int) + 24 * E by omega, p2_add, p2_nat, ← Rat.mul_assoc] at hn
    unfold mag at hn
    have h1 : ((v24 ds : Nat) : Rat) = (n : Rat) * ((2 ^ (24 + k) : Nat) : Rat) := by
      have hp := p2_ne (24 * E)
      have := congrArg (· / p2 (24 * E)) hn
      simp only [Rat.mul_div_cancel hp] at this
      exact this
    have h2 : ((v24 ds : Nat) : Int) = n * ((2 ^ (24 + k) : Nat) : Int) := by exact_mod_cast h1
    have h3 := v24_mod hs
    rw [Nat.pow_add, show (2 : Nat) ^ 24 = 16777216 from rfl] at h2
    have h4 : ((v24 ds : Nat) : Int) % 16777216 = 0 := by
      rw [h2, Int.natCast_mul, show n * (((16777216 : Nat) : Int) * ((2 ^ k : Nat) : Int)) = n * ((2 ^ k : Nat) : Int) * 16777216 by grind]
      exact Int.mul_emod_left _ _
    omega
end Go.Proofs.YtmcllgoeldfgmaaDoor

/- A number of the reference stands for a rational number. -/
namespace Go.Proofs.YtmcllgoeldfgmaaDoor
open Go.RowKit

theorem dgt_dg (ds : List Nat) (E j : Int) : dgt ds E j = dg ds E j := by rw [dgt_eq]; rfl

/-- No nought at either end; nothing has the sign 0. -/
def Canon (S : Int) (ds : List Nat) (E : Int) : Prop := (ds = [] ∧ S = 0 ∧ E = 0) ∨ (ds ≠ [] ∧ (S = 1 ∨ S = -1) ∧ ds.getD 0 0 ≠ 0 ∧ ds.getD (ds.length - 1) 0 ≠ 0)

/-- The value v stands for q. -/
def Rf (w : World) (v : Value) (q : Rat) : Prop := ∃ S ds E, Dig w v S ds E ∧ Canon S ds E ∧ q = (S : Rat) * mag ds E

theorem Rf.later {w w' : World} {v : Value} {q : Rat} (h : Rf w v q) (hb : Below w.heap.size w w') : Rf w' v q := by
  obtain ⟨S, ds, E, h1, h2, h3⟩ := h
  exact ⟨S, ds, E, h1.later hb, h2, h3⟩

/-- What a call hands back that answers a number of the reference. -/
def RfR (w w' : World) (q : Rat) (e : Ending) : Prop := ∃ v, e = .returned v ∧ Rf w' v q ∧ Below w.heap.size w w'

theorem trim_rf {w w' : World} {S E : Int} {ds : List Nat} {e : Ending} (hS : S = 1 ∨ S = -1) (h : TrimR w w' S ds E e) : RfR w w' ((S : Rat) * mag ds E) e := by
  obtain ⟨v, S', ds', E', he, hd, heq, hc, hb⟩ := h
  have hm : mag ds' E' = mag ds E := mag_congr (fun j => by rw [← dgt_dg, ← dgt_dg]; exact heq j)
  refine ⟨v, he, ⟨S', ds', E', hd, ?_, ?_⟩, hb⟩
  · rcases hc with h | ⟨a, rfl, b, c⟩
    · exact Or.inl h
    · exact Or.inr ⟨a, hS, b, c⟩
  · rw [hm]
    rcases hc with ⟨rfl, rfl, rfl⟩ | ⟨_, rfl, _⟩
    · rw [mag_nil] at hm
      rw [← hm]; grind
    · rfl

theorem canon_sign {S E : Int} {ds : List Nat} (h : Canon S ds E) : S = 0 ∨ S = 1 ∨ S = -1 := by
  rcases h with ⟨_, h, _⟩ | ⟨_, h, _⟩
  · exact Or.inl h
  · exact Or.inr h
/-- The sign is the number's. -/
theorem canon_sgn {S E : Int} {ds : List Nat} (h : Canon S ds E) : (S = 0 ∧ (S : Rat) * mag ds E = 0) ∨ (S = 1 ∧ 0 < (S : Rat) * mag ds E) ∨ (S = -1 ∧ (S : Rat) * mag ds E < 0) := by
  rcases h with ⟨rfl, rfl, rfl⟩ | ⟨a, h, _, b⟩
  · left; exact ⟨rfl, by rw [mag_nil]; grind⟩
  · have := mag_pos (E := E) a b
    rcases h with rfl | rfl
    · right; left; exact ⟨rfl, by rw [show ((1 : Int) : Rat) = 1 from rfl]; grind⟩
    · right; right; exact ⟨rfl, by rw [show ((-1 : Int) : Rat) = -1 from rfl]; grind⟩
/-- Where the digits lie, by a bound of the number. -/
theorem canon_place {S E h l : Int} {ds : List Nat} (hc : Canon S ds E) (hs : ∀ d ∈ ds, d < 16777216) (hb : Bd h l ((S : Rat) * mag ds E)) (h0 : ds ≠ []) : 24 * (E + (ds.length : Int)) < h + 24 ∧ l < 24 * E + 24 := by
  rcases hc with ⟨h, _⟩ | ⟨hne, hS, hf, ht⟩
  · exact absurd h h0
  · obtain ⟨b1, b2, n, b3⟩ := hb
    rcases hS with rfl | rfl
    · rw [show ((1 : Int) : Rat) * mag ds E = mag ds E by rw [show ((1 : Int) : Rat) = 1 from rfl]; grind] at b1 b2 b3
      exact ⟨mag_top hne ht b1, mag_low hs hf ⟨n, b3⟩⟩
    · rw [show ((-1 : Int) : Rat) * mag ds E = -mag ds E by rw [show ((-1 : Int) : Rat) = -1 from rfl]; grind] at b1 b2 b3
      exact ⟨mag_top hne ht (by grind), mag_low hs hf ⟨-n, by rw [Rat.intCast_neg]; grind⟩⟩

/-- A box of a number. -/
def BoxN (w : World) (b : Nat) (S : Int) (sv : Value) (E : Int) : Prop := w.heap[b]? = some (.cells #[.int .i64 S, sv, .int .i64 E] 47 (0, 0))
theorem BoxN.cells {w : World} {b : Nat} {S E : Int} {sv : Value} (h : BoxN w b S sv E) : w.cell? ⟨b, 0, none⟩ = some (.int .i64 S) ∧ w.cell? ⟨b, 1, none⟩ = some sv ∧ w.cell? ⟨b, 2, none⟩ = some (.int .i64 E) ∧ (∀ i, w.frozen? ⟨b, i, none⟩ = false) ∧ b < w.heap.size := by
  unfold BoxN at h
  refine ⟨by simp [World.cell?, h], by simp [World.cell?, h], by simp [World.cell?, h], fun i => by simp [World.frozen?, h], ?_⟩
  exact (Array.getElem?_eq_some_iff.1 h).1
theorem BoxN.set {w : World} {b : Nat} {S E : Int} {sv sv' : Value} (h : BoxN w b S sv E) : BoxN (w.setCell ⟨b, 1, none⟩ sv') b S sv' E := by
  unfold BoxN at *
  simp [World.setCell, Array.getElem?_modify, h]
theorem BoxN.block {w w' : World} {b : Nat} {S E : Int} {sv : Value} (h : BoxN w b S sv E) (he : w'.heap[b]? = w.heap[b]?) : BoxN w' b S sv E := by
  unfold BoxN at *; rw [he]; exact h
theorem BoxN.alloc {w : World} {b : Nat} {S E : Int} {sv : Value} (h : BoxN w b S sv E) (o : Obj) : BoxN (w.alloc o) b S sv E := h.block (Below.heap_alloc w o b h.cells.2.2.2.2)
theorem BoxN.grown {w w' : World} {b : Nat} {S E : Int} {sv : Value} {row : Option Nat} (h : BoxN w b S sv E) (hg : w.grownBy w' row) (hne : some b ≠ row) : BoxN w' b S sv E := h.block (hg.block b h.cells.2.2.2.2 hne)
theorem BoxN.other {w : World} {b : Nat} {S E : Int} {sv : Value} (h : BoxN w b S sv E) {a : Addr} (hn : b ≠ a.block) (v : Value) : BoxN (w.setCell a v) b S sv E := h.block (Below.heap_setCell w a v b hn)

/-- A row of int64 that a call owns. -/
def i64s (ds : List Nat) : List Value := ds.map (fun d => .int .i64 (d : Nat))
theorem i64s_length (ds : List Nat) : (i64s ds).length = ds.length := by simp [i64s]
theorem i64s_snoc (ds : List Nat) (d : Nat) : i64s ds ++ [.int .i64 (d : Nat)] = i64s (ds ++ [d]) := by simp [i64s]

theorem own_cell {w : World} {base : Nat} {g cap : Nat} {ds : List Nat} (h : w.ownsRow base 2 1 (.slice (some ⟨g, 0, none⟩) ds.length cap) ds.length (i64s ds)) (k : Nat) (hk : k < ds.length) : w.cell? ⟨g, k, none⟩ = some (.int .i64 (ds.getD k 0 : Nat)) := by
  have := h.cells (g := g) rfl k (.int .i64 (ds.getD k 0 : Nat)) (by simp [i64s, List.getD, hk])
  rwa [show (⟨g, 0, none⟩ : Addr).add k = ⟨g, k, none⟩ by unfold Addr.add; split <;> simp_all] at this
theorem own_form {w : World} {base : Nat} {sv : Value} {ds : List Nat} (h : w.ownsRow base 2 1 sv ds.length (i64s ds)) : (ds = [] ∧ ∃ a c, sv = .slice a 0 c ∧ (a = none ∨ ∃ g, a = some ⟨g, 0, none⟩)) ∨ (ds ≠ [] ∧ ∃ g cap, sv = .slice (some ⟨g, 0, none⟩) ds.length cap ∧ ds.length ≤ cap ∧ base ≤ g ∧ g < w.heap.size ∧ w.frozen? ⟨g, 0, none⟩ = false) := by
  rcases h.2 with ⟨h1, h2⟩ | ⟨g, cap, cur, h1, h2, h3, h4, _⟩
  · left
    exact ⟨List.eq_nil_of_length_eq_zero h2, none, 0, h1, Or.inl rfl⟩
  · by_cases e : ds = []
    · left
      subst e
      exact ⟨rfl, _, cap, h1, Or.inr ⟨g, rfl⟩⟩
    · right
      exact ⟨e, g, cap, h1, h4, h2, (Array.getElem?_eq_some_iff.1 h3).1, by simp [World.frozen?, h3]⟩
theorem own_frozen {w : World} {base : Nat} {g cap : Nat} {ds : List Nat} (h : w.ownsRow base 2 1 (.slice (some ⟨g, 0, none⟩) ds.length cap) ds.length (i64s ds)) (k : Nat) : w.frozen? ⟨g, k, none⟩ = false := by
  rcases h.2 with ⟨h1, _⟩ | ⟨g', cap', cur, h1, h2, h3, h4, _⟩
  · cases h1
  · cases h1
    simp [World.frozen?, h3]
theorem own_set {w : World} {base : Nat} {g cap : Nat} {ds : List Nat} (h : w.ownsRow base 2 1 (.slice (some ⟨g, 0, none⟩) ds.length cap) ds.length (i64s ds)) (k d : Nat) (_hk : k < ds.length) : (w.setCell ⟨g, k, none⟩ (.int .i64 (d : Nat))).ownsRow base 2 1 (.slice (some ⟨g, 0, none⟩) (ds.set k d).length cap) (ds.set k d).length (i64s (ds.set k d)) := by
  refine ⟨by simp [i64s], ?_⟩
  rcases h.2 with ⟨h1, _⟩ | ⟨g', cap', cur, h1, h2, h3, h4, h5, h6, h7⟩
  · cases h1
  · cases h1
    refine Or.inr ⟨g, cap, cur.set! k (.int .i64 (d : Nat)), by simp, h2, ?_, by simpa using h4, h5, by simpa using h6, ?_⟩
    · simp [World.setCell, Array.getElem?_modify, h3]
    · rw [Nat.mul_one] at h7
      have : i64s (ds.set k d) = (i64s ds).set k (.int .i64 (d : Nat)) := by simp [i64s, List.map_set]
      rw [this, ← h7]
      simp [List.take_set]
theorem own_int {w : World} {base : Nat} {g cap : Nat} {ds : List Nat} (h : w.ownsRow base 2 1 (.slice (some ⟨g, 0, none⟩) ds.length cap) ds.length (i64s ds)) : IntRow w g := by
  rcases h.2 with ⟨h1, _⟩ | ⟨g', cap', cur, h1, h2, h3, h4, _⟩
  · cases h1
  · cases h1
    exact ⟨cur, _, h3⟩
theorem own_dig {w : World} {base : Nat} {sv : Value} {S E : Int} {ds : List Nat} (h : w.ownsRow base 2 1 sv ds.length (i64s ds)) (hs : ∀ d ∈ ds, d < 16777216) (hl : ds.length ≤ 1000000) (e1 : -1000000 ≤ E) (e2 : E ≤ 1000000) : Dig w (.agg #[.int .i64 S, sv, .int .i64 E]) S ds E := by
  rcases own_form h with ⟨rfl, a, c, rfl, _⟩ | ⟨hne, g, cap, rfl, hcap, _, _⟩
  · exact ⟨⟨a, c, rfl, by simp, Or.inl rfl⟩, hs, hl, e1, e2⟩
  · exact ⟨⟨_, cap, rfl, hcap, Or.inr ⟨g, 0, rfl, fun k hk => by rw [Nat.zero_add]; exact own_cell h k hk, own_int h⟩⟩, hs, hl, e1, e2⟩
theorem own_apart {w : World} {base b : Nat} {sv : Value} {n : Nat} {xs : List Value} (h : w.ownsRow base 2 1 sv n xs) (hb : b < base) : some b ≠ sv.ownBlock := fun e => by
  have := (h.lt b e.symm).1
  omega
theorem own_other {w : World} {base : Nat} {sv : Value} {n : Nat} {xs : List Value} (h : w.ownsRow base 2 1 sv n xs) {a : Addr} (hb : a.block < base) (v : Value) : (w.setCell a v).ownsRow base 2 1 sv n xs :=
  h.kept (row := some a.block) ⟨rfl, rfl, rfl, by simp [World.setCell], fun k _ hne => Below.heap_setCell w a v k (by intro e; exact hne (by rw [e]))⟩ (Or.inr (Ne.symm (own_apart h hb)))
theorem own_drew {w : World} {base : Nat} {sv : Value} {n : Nat} {xs : List Value} (h : w.ownsRow base 2 1 sv n xs) : w.drew.ownsRow base 2 1 sv n xs := h

/-- A block of another type of elements. -/
def OtherRow (w : World) (b : Nat) : Prop := ∃ cur t fr, w.heap[b]? = some (.cells cur t fr) ∧ t ≠ 2
theorem OtherRow.apart {w : World} {b g : Nat} (h : OtherRow w b) (h2 : IntRow w g) : g ≠ b := by
  rintro rfl
  obtain ⟨cur, t, fr, h, ht⟩ := h
  obtain ⟨cur', fr', h2⟩ := h2
  rw [h] at h2
  simp at h2
  exact ht h2.2.1
theorem OtherRow.set {w : World} {b : Nat} (h : OtherRow w b) (i : Nat) (v : Value) : OtherRow (w.setCell ⟨b, i, none⟩ v) b := by
  obtain ⟨cur, t, fr, h, ht⟩ := h
  exact ⟨cur.set! i v, t, fr, by simp [World.setCell, Array.getElem?_modify, h], ht⟩
theorem Dig.set {w : World} {v : Value} {S E : Int} {ds : List Nat} {b : Nat} (h : Dig w v S ds E) (ho : OtherRow w b) (i : Nat) (u : Value) : Dig (w.setCell ⟨b, i, none⟩ u) v S ds E := by
  obtain ⟨⟨a, c, hv, hcap, hf⟩, h2, h3, h4, h5⟩ := h
  refine ⟨⟨a, c, hv, hcap, ?_⟩, h2, h3, h4, h5⟩
  rcases hf with hf | ⟨g, off, ha, hf, hr⟩
  · exact Or.inl hf
  · have hne := ho.apart hr
    have hh := Below.heap_setCell w ⟨b, i, none⟩ u g hne
    exact Or.inr ⟨g, off, ha, fun k hk => by rw [World.cell?_of_block (a := ⟨g, off + k, none⟩) hh]; exact hf k hk, hr.block hh⟩
theorem Rf.set {w : World} {v : Value} {q : Rat} {b : Nat} (h : Rf w v q) (ho : OtherRow w b) (i : Nat) (u : Value) : Rf (w.setCell ⟨b, i, none⟩ u) v q := by
  obtain ⟨S, ds, E, h1, h2, h3⟩ := h
  exact ⟨S, ds, E, h1.set ho i u, h2, h3⟩
/-- The result's box is written. -/
theorem Rf.boxed {w : World} {v : Value} {q : Rat} {b : Nat} (h : Rf w v q) (ho : OtherRow w b) (x y z : Value) : Rf (((w.setCell ⟨b, 0, none⟩ x).setCell ⟨b, 1, none⟩ y).setCell ⟨b, 2, none⟩ z) v q :=
  ((h.set ho 0 x).set (ho.set 0 x) 1 y).set ((ho.set 0 x).set 1 y) 2 z
theorem other_box {w : World} {b : Nat} {cs : Array Value} {fr : Nat × Nat} (h : w.heap[b]? = some (.cells cs 47 fr)) : OtherRow w b := ⟨_, _, _, h, by decide⟩

end Go.Proofs.YtmcllgoeldfgmaaDoor

/- The reference's Power. -/
namespace Go.Proofs.YtmcllgoeldfgmaaDoor
open Go.RowKit

theorem info64 : (Tryd.prog.info? 2).map (fun i => (i.zero, i.size, i.bytes)) = some (some (.int .i64 0), 1, 8) := by kernel_rfl

theorem new_box (w : World) (a b : Obj) : ((w.alloc a).alloc b).heap[w.heap.size + 1]? = some b := by
  have := heap_alloc_new (w.alloc a) b
  simpa using this
theorem old_box (w : World) (a b : Obj) : ((w.alloc a).alloc b).heap[w.heap.size]? = some a := by
  rw [Below.heap_alloc _ _ _ (by simp)]; exact heap_alloc_new w a

/-- What stands while Power goes: the box of the number that is made, and its row. -/
structure PowW (w : World) (B : Nat) (E : Int) (ds : List Nat) (wr : World) (sv : Value) : Prop where
  box : BoxN wr (B + 1) 1 sv E
  row : wr.ownsRow (B + 2) 2 1 sv ds.length (i64s ds)
  bel : Below B w wr
  siz : B + 2 ≤ wr.heap.size
  res : wr.heap[B]? = some (.cells #[.int .i64 0, .slice none 0 0, .int .i64 0] 47 (0, 0))

theorem PowW.boxed {w wr w1 : World} {B : Nat} {E : Int} {ds : List Nat} {sv : Value} {o : Obj} (h : PowW w B E ds wr sv) (hg : (wr.alloc o).grownBy w1 sv.ownBlock) : BoxN w1 (B + 1) 1 sv E :=
  (h.box.alloc o).grown hg (own_apart h.row (show B + 1 < B + 2 by omega))
theorem PowW.pushed {w wr w1 : World} {B g cap d : Nat} {E x : Int} {ds : List Nat} {sv : Value} {o : Obj} (h : PowW w B E ds wr sv) (hg : (wr.alloc o).grownBy w1 sv.ownBlock)
    (ho : w1.ownsRow (B + 2) 2 1 (.slice (some ⟨g, 0, none⟩) (ds.length + 1) cap) (ds.length + 1) (i64s ds ++ [.int .i64 x])) (hx : x = (d : Nat)) :
    PowW w B E (ds ++ [d]) (w1.setCell ⟨B + 1, 1, none⟩ (.slice (some ⟨g, 0, none⟩) (ds.length + 1) cap)) (.slice (some ⟨g, 0, none⟩) (ds.length + 1) cap) := by
  subst hx
  have ap0 := own_apart h.row (show B < B + 2 by omega)
  refine ⟨(h.boxed hg).set, ?_, ?_, ?_, ?_⟩
  · rw [i64s_snoc] at ho
    have := own_other ho (a := ⟨B + 1, 1, none⟩) (by simp) (.slice (some ⟨g, 0, none⟩) (ds.length + 1) cap)
    simpa using this
  · refine Below.setCell ?_ (by simp) _
    have h1 : Below B w (wr.alloc o) := h.bel.alloc (by have := h.siz; omega) o
    exact h1.grown hg (by have := h.siz; simp; omega) (fun k hk => by have := (h.row.lt k hk).1; omega)
  · have := hg.size
    have := h.siz
    simp [World.setCell] at *
    omega
  · rw [Below.heap_setCell _ _ _ _ (by simp), hg.block B (by have := h.siz; simp; omega) ap0, Below.heap_alloc _ _ _ (by have := h.siz; omega)]
    exact h.res

theorem snoc_small {ds : List Nat} {d : Nat} (h : ∀ x ∈ ds, x < 16777216) (hd : d < 16777216) : ∀ x ∈ ds ++ [d], x < 16777216 := by
  intro x hx
  rcases List.mem_append.1 hx with hx | hx
  · exact h x hx
  · simp at hx; omega
theorem pow_digit {n m d q L v : Nat} (h : n = v + 2 ^ (24 * L) * m) (hd : m % 16777216 = d) (hq : m / 16777216 = q) : n = v + 2 ^ (24 * L) * d + 2 ^ (24 * (L + 1)) * q := by
  have e : m = d + 16777216 * q := by omega
  rw [h, p24, e]; grind

theorem PowW.wrote {w wr : World} {B g cap k d : Nat} {E x : Int} {ds : List Nat} (h : PowW w B E ds wr (.slice (some ⟨g, 0, none⟩) ds.length cap)) (hk : k < ds.length) (hx : x = (d : Nat)) :
    PowW w B E (ds.set k d) (wr.setCell ⟨g, k, none⟩ (.int .i64 x)) (.slice (some ⟨g, 0, none⟩) (ds.set k d).length cap) := by
  subst hx
  have hg := (h.row.lt g rfl).1
  refine ⟨?_, own_set h.row k d hk, h.bel.setCell (by simp; omega) _, by have := h.siz; simpa [World.setCell] using this, ?_⟩
  · have := h.box.other (a := ⟨g, k, none⟩) (by simp; omega) (.int .i64 (d : Nat))
    simpa using this
  · rw [Below.heap_setCell _ _ _ _ (by simp; omega)]; exact h.res

/-- Digits times a power, as far as they are done. -/
structure PowD (ds zs : List Nat) (t i c : Nat) : Prop where
  len : zs.length = ds.length
  small : ∀ d ∈ zs, d < 16777216
  rest : ∀ j, i ≤ j → zs.getD j 0 = ds.getD j 0
  val : v24 (zs.take i) + 2 ^ (24 * i) * c = v24 (ds.take i) * 2 ^ t
  carry : c < 2 ^ t

theorem set_take (zs : List Nat) (i d : Nat) : (zs.set i d).take i = zs.take i := by
  apply List.ext_getElem?
  intro j
  simp only [List.getElem?_take, List.getElem?_set]
  split
  · rw [if_neg (by omega)]
  · rfl
theorem PowD.step {ds zs : List Nat} {t i c v : Nat} (h : PowD ds zs t i c) (hi : i < ds.length) (hs : ∀ d ∈ ds, d < 16777216) (hv : v = ds.getD i 0 * 2 ^ t + c) : PowD ds (zs.set i (v % 16777216)) t (i + 1) (v / 16777216) := by
  have hdi : ds.getD i 0 < 16777216 := by
    have e : ds.getD i 0 = ds[i] := by simp [List.getD, hi]
    rw [e]; exact hs _ (List.getElem_mem hi)
  have hi2 : i < zs.length := by rw [h.len]; exact hi
  refine ⟨by simp [h.len], ?_, ?_, ?_, ?_⟩
  · intro d hd
    rcases List.mem_or_eq_of_mem_set hd with hd | rfl
    · exact h.small d hd
    · omega
  · intro j hj
    rw [← h.rest j (by omega)]
    simp only [List.getD, List.getElem?_set]
    rw [if_neg (by omega)]
  · rw [v24_take_succ, v24_take_succ, set_take, p24]
    have e : (zs.set i (v % 16777216)).getD i 0 = v % 16777216 := by simp [List.getD, hi2]
    rw [e]
    have h1 := h.val
    have h2 := Nat.mod_add_div v 16777216
    generalize v % 16777216 = a at *
    generalize v / 16777216 = b at *
    generalize ds.getD i 0 = x at *
    generalize 2 ^ (24 * i) = P at *
    generalize 2 ^ t = R at *
    subst hv
    grind
  · have h1 := h.carry
    have h2 : (ds.getD i 0 + 1) * 2 ^ t ≤ 16777216 * 2 ^ t := Nat.mul_le_mul_right _ hdi
    rw [Nat.add_mul, Nat.one_mul] at h2
    rw [Nat.div_lt_iff_lt_mul (by omega), hv]
    omega

theorem pow_value {n t c : Nat} {k2 e2 k : Int} {ds zs : List Nat} (h : PowD ds zs t ds.length c) (hn : n = v24 ds) (hk : k2 + 24 * e2 = k) (ht : k2 = (t : Int)) : ((1 : Int) : Rat) * mag (zs ++ [c]) e2 = (n : Nat) * p2 k := by
  have h1 := h.val
  rw [List.take_of_length_le (by rw [h.len]; exact Nat.le_refl _), List.take_of_length_le (Nat.le_refl _), ← hn] at h1
  unfold mag
  rw [v24_snoc, h.len, h1, ← hk, ht, p2_add, p2_nat, Rat.natCast_mul, show ((1 : Int) : Rat) = 1 from rfl]
  grind

set_option maxHeartbeats 4000000 in
set_option maxRecDepth 100000 in
theorem power_walk (n : Nat) (k : Int) (w : World) (hn : n < 18446744073709551616) (h1 : -4000 ≤ k) (h2 : k ≤ 4000) :
    Calls Tryd.prog 30 #[.int .u64 (n : Nat), .int .i64 k] w fun e w' => RfR w w' ((n : Nat) * p2 k) e := by
  obtain ⟨i0, hi0, hz0, hz1, hz2⟩ := info_parts info64
  go_enter Tryd.func30, Tryd.ntmps30
  go_wp2
  go_loop [1, 5] (fun a b => ∃ k1 e1 : Int, a = .int .i64 k1 ∧ b = .int .i64 e1 ∧ Hid (k1 + 24 * e1 = k) ∧ -4000 ≤ k1 ∧ k1 ≤ 4000 ∧ -1000 ≤ e1 ∧ e1 ≤ 0) (fun a _ => (0 - intOf a).toNat)
  case atStart => exact ⟨k, 0, rfl, rfl, by simp [Hid], h1, h2, by omega, by omega⟩
  case round =>
    obtain ⟨k1, e1, rfl, rfl, hk, a1, a2, a3, a4⟩ := hrel
    by_cases hlt : k1 < 0
    · have hk' : Hid (k1 + 24 + 24 * (e1 - 1) = k) := by have := hk.out; show _ = _; omega
      have he : -1000 ≤ e1 - 1 := by have := hk.out; omega
      clear hk
      go_wp2
      go_round
      case rel => exact ⟨k1 + 24, e1 - 1, rfl, rfl, hk', by omega, by omega, he, by omega⟩
      case measure => simp [intOf]; omega
    · go_wp2
      go_loop [1, 5] (fun a b => ∃ k1 e1 : Int, a = .int .i64 k1 ∧ b = .int .i64 e1 ∧ Hid (k1 + 24 * e1 = k) ∧ 0 ≤ k1 ∧ k1 ≤ 4000 ∧ -1000 ≤ e1 ∧ e1 ≤ 1000) (fun a _ => (intOf a).toNat)
      case atStart => exact ⟨k1, e1, rfl, rfl, hk, by omega, a2, a3, by omega⟩
      case round =>
        clear hk a1 a2 a3 a4 hlt
        obtain ⟨k2, e2, rfl, rfl, hk, a1, a2, a3, a4⟩ := hrel
        by_cases hlt : 24 ≤ k2
        · have hk' : Hid (k2 - 24 + 24 * (e2 + 1) = k) := by have := hk.out; show _ = _; omega
          have he : e2 + 1 ≤ 1000 := by have := hk.out; omega
          clear hk
          go_wp2
          go_round
          case rel => exact ⟨k2 - 24, e2 + 1, rfl, rfl, hk', by omega, by omega, by omega, he⟩
          case measure => simp [intOf]; omega
        · have hk24 : k2 < 24 := by omega
          clear hlt
          go_wp2
          go_loopw [0] (fun a wr => ∃ (m : Nat) (ds : List Nat) (sv : Value), a = .int .u64 (m : Nat) ∧ m < 18446744073709551616 ∧ Hid (n = v24 ds + 2 ^ (24 * ds.length) * m) ∧ Hid (∀ d ∈ ds, d < 16777216) ∧ ds.length ≤ 3 ∧ Hid (PowW w w.heap.size e2 ds wr sv)) (fun a _ => (intOf a).toNat)
          case atStart =>
            exact ⟨n, [], .slice none 0 0, rfl, hn, by simp [Hid, v24], by simp [Hid], by simp, ⟨new_box _ _ _, World.ownsRow_nil _ _ _ _, ((Below.refl _ _).alloc (Nat.le_refl _) _).alloc (by simp) _, by simp, old_box _ _ _⟩⟩
          case round =>
            obtain ⟨m, ds, sv, rfl, hm, hv, hs, hl, hW⟩ := hrel
            obtain ⟨hb0, hb1, hb2, hbf, hbl⟩ := hW.out.box.cells
            have hbf1 := hbf 1
            by_cases h0 : m = 0
            · subst h0
              have hv0 : Hid (n = v24 ds) := by have := hv.out; show _ = _; omega
              clear hv hm hbf
              have hsv := own_form hW.out.row
              have hlsv : ∃ a c, sv = .slice a ds.length c := by
                rcases hsv with ⟨rfl, a, c, rfl, _⟩ | ⟨_, g, cap, rfl, _⟩
                · exact ⟨_, _, rfl⟩
                · exact ⟨_, _, rfl⟩
              obtain ⟨sa, sc, rfl⟩ := hlsv
              clear hsv
              go_wp2
              go_loop [7, 8] (fun a b => ∃ i : Nat, (i : Int) ≤ k2 ∧ a = .int .i64 (2 ^ i : Nat) ∧ b = .int .i64 (i : Nat)) (fun _ b => (k2 - intOf b).toNat)
              case atStart => exact ⟨0, by omega, by simp, by simp⟩
              case round =>
                obtain ⟨i, hi, rfl, rfl⟩ := hrel
                have hp : 2 ^ i ≤ 2 ^ 23 := Nat.pow_le_pow_right (by omega) (by omega)
                obtain ⟨two, ht⟩ : ∃ x : Nat, Hid (2 ^ i = x) := ⟨2 ^ i, rfl⟩
                rw [ht.out] at hp ⊢
                have htl : (two : Int) ≤ 8388608 := by omega
                clear hp
                by_cases hlt : (i : Int) < k2
                · go_wp2
                  go_round
                  case rel => exact ⟨i + 1, by omega, by rw [Nat.pow_succ, ht.out]; go_num, by go_num⟩
                  case measure => simp [intOf]; omega
                · have hki : Hid (k2 = (i : Int)) := by show _ = _; omega
                  have hltb : decide ((i : Int) < k2) = false := decide_eq_false hlt
                  clear hlt
                  go_wp2
                  clear hb0 hb1 hb2 hbl hbf1
                  go_loopw [9, 10] (fun c j wr' => ∃ (cc jj : Nat) (zs : List Nat), c = .int .i64 (cc : Nat) ∧ j = .int .i64 (jj : Nat) ∧ jj ≤ ds.length ∧ cc ≤ 16777216 ∧ Hid (PowD ds zs i jj cc) ∧ Hid (PowW w w.heap.size e2 zs wr' (.slice sa zs.length sc))) (fun _ j _ => ds.length - (intOf j).toNat)
                  case atStart => exact ⟨0, 0, ds, by simp, by simp, by omega, by omega, ⟨rfl, hs.out, fun j _ => rfl, by simp [v24], Nat.two_pow_pos _⟩, hW.out⟩
                  case round =>
                    clear hW
                    obtain ⟨cc, jj, zs, rfl, rfl, hj, hcc, hD, hW⟩ := hrel
                    obtain ⟨hb0, hb1, hb2, hbf, hbl⟩ := hW.out.box.cells
                    have hbf1 := hbf 1
                    clear hbf
                    have hzl : zs.length = ds.length := hD.out.len
                    rw [hzl] at hb1
                    by_cases hlt : jj < ds.length
                    · obtain ⟨hne, g, cap, hsl, hcap, hg1, hg2, _⟩ := (own_form hW.out.row).resolve_left (by rintro ⟨e, _⟩; rw [e] at hzl; simp at hzl; omega)
                      cases hsl
                      have hcj := own_cell hW.out.row jj (by omega)
                      rw [hD.out.rest jj (Nat.le_refl _)] at hcj
                      have hfj := own_frozen hW.out.row jj
                      obtain ⟨x, hx⟩ : ∃ x : Nat, Hid (ds.getD jj 0 = x) := ⟨_, rfl⟩
                      have hxs : x < 16777216 := by
                        rw [← hx.out, show ds.getD jj 0 = ds[jj] by simp [List.getD, hlt]]
                        exact hs.out _ (List.getElem_mem hlt)
                      rw [hx.out] at hcj
                      obtain ⟨p, hp⟩ : ∃ p : Nat, Hid (x * two = p) := ⟨_, rfl⟩
                      have hpI : (x : Int) * (two : Int) = (p : Int) := by rw [← hp.out]; simp
                      have hpl : p ≤ 140737488355328 := by
                        rw [← hp.out]
                        exact Nat.le_trans (Nat.mul_le_mul (by omega : x ≤ 16777216) (by omega : two ≤ 8388608)) (by omega)
                      have hlt' : (jj : Int) < (ds.length : Int) := by omega
                      have hge' : (0 : Int) ≤ (jj : Int) := by omega
                      clear hzl
                      go_wp2
                      have hst := hD.out.step hlt hs.out (v := p + cc) (by rw [hx.out, ht.out, hp.out])
                      have hwr := hW.out.wrote (k := jj) (d := (p + cc) % 16777216) (x := ((p : Int) + (cc : Int)) % 16777216) (by rw [hD.out.len]; exact hlt) (by omega)
                      exact ⟨⟨(p + cc) / 16777216, jj + 1, _, by go_num, by go_num, by omega, by omega, hst, hwr⟩, by simp [intOf]; omega⟩
                    · obtain rfl : jj = ds.length := by omega
                      have hltb : decide ((ds.length : Int) < (ds.length : Int)) = false := decide_eq_false (by omega)
                      have HR := hW.out.row
                      rw [hzl] at HR
                      have hbase : w.heap.size + 2 ≤ wr.heap.size := by assumption
                      have HZ : Hid (zs.length = ds.length) := hzl
                      clear hzl hlt
                      go_wp2_with (at_builtin; refine wpList_append_lies _ rfl _ _ _ rfl (w.heap.size + 2) 2 i0 _ 1 8 Tryd.underlying45 hi0 hz0 hz1 hz2 rfl (by omega) (.slice sa ds.length sc) ds.length (i64s zs) rfl (HR.alloc _) ⟨wr.heap.size, 0, none⟩ 1 1 [.int .i64 ((cc : Nat) : Int)] rfl rfl (World.news_of_block (cs := #[.int .i64 ((cc : Nat) : Int)]) (t := 2) (fr := (0, 0)) (heap_alloc_new wr _)) (by simp [Value.oneCell']) (by omega) (by unfold maxLen; omega) (by omega) (by simp; omega) _ rfl ?_; intro g cap w1 hown1 hgrow hat hlt; rw [← HZ.out] at hgrow; obtain ⟨hc0, hc1, hc2, hcf, hcl⟩ := (hW.out.boxed hgrow).cells; have hcf1 := hcf 1; clear hcf)
                      have HP := hW.out.pushed hgrow (by rw [HZ.out]; exact hown1) rfl (d := cc)
                      rw [HZ.out] at HP
                      have hcs : cc < 16777216 := by
                        have := hD.out.carry
                        have h3 : 2 ^ i ≤ 2 ^ 23 := Nat.pow_le_pow_right (by omega) (by omega)
                        omega
                      refine (trim_any _ 1 e2 (zs ++ [cc]) _ (own_dig (by simpa [HZ.out] using HP.row) (snoc_small hD.out.small hcs) (by simp [HZ.out]; omega) (by omega) (by omega)) (by simp [HZ.out]; omega)).mono ?_
                      rintro e w2 hT
                      obtain ⟨v9, rfl, hrf, hb9⟩ := trim_rf (Or.inl rfl) hT
                      have hB : BoxN w2 w.heap.size 0 (.slice none 0 0) 0 := BoxN.block (w := w1.setCell ⟨w.heap.size + 1, 1, none⟩ (.slice (some ⟨g, 0, none⟩) (ds.length + 1) cap)) HP.res (hb9.block _ (by have := HP.siz; omega))
                      have hO : Hid (OtherRow w2 w.heap.size) := other_box hB
                      obtain ⟨t0, t1, t2, tf, tl⟩ := hB.cells
                      have HB : Hid (Below w.heap.size w w2) := HP.bel.trans (hb9.mono (by have := HP.siz; omega))
                      have HV : Hid (Rf w2 v9 ((n : Nat) * p2 k)) := by
                        rw [pow_value hD.out hv0.out hk.out hki.out] at hrf
                        exact hrf
                      obtain ⟨S9, ds9, E9, hd9, _⟩ := HV.out
                      obtain ⟨a9, c9, rfl, _⟩ := hd9.form
                      clear hb9 HP hT hrf hB hD hW hd9
                      go_wp2
                      refine bodyPost_ret (v := .agg #[.int .i64 S9, .slice a9 ds9.length c9, .int .i64 E9]) (by simp [results, Tryd.results30, go_sem, t0, t1, t2]) rfl ?_
                      refine ⟨_, rfl, HV.out.boxed hO.out _ _ _, ?_⟩
                      repeat (first | exact HB.out | refine Below.drew ?_ | refine Below.setCell ?_ (by simp) _)
            · have h0' : decide ((0 : Int) < (m : Int)) = true := decide_eq_true (by omega)
              have HR := hW.out.row
              have hl2 : ds.length ≤ 2 := by
                have h3 := hv.out
                have h4 : 2 ^ (24 * ds.length) * 1 ≤ 2 ^ (24 * ds.length) * m := Nat.mul_le_mul_left _ (by omega)
                have h5 : 2 ^ (24 * ds.length) < 2 ^ 64 := by omega
                have := (Nat.pow_lt_pow_iff_right (by omega : 1 < 2)).1 h5
                omega
              have hbase : w.heap.size + 2 ≤ wr.heap.size := hW.out.siz
              obtain ⟨d, hd⟩ : ∃ d, Hid (m % 16777216 = d) := ⟨_, rfl⟩
              obtain ⟨q, hq⟩ : ∃ q, Hid (m / 16777216 = q) := ⟨_, rfl⟩
              clear hbf
              go_wp2_with (at_builtin; refine wpList_append_lies _ rfl _ _ _ rfl (w.heap.size + 2) 2 i0 _ 1 8 Tryd.underlying45 hi0 hz0 hz1 hz2 rfl (by omega) sv ds.length (i64s ds) rfl (HR.alloc _) ⟨wr.heap.size, 0, none⟩ 1 1 [.int .i64 ((m : Int) % 16777216)] rfl rfl (World.news_of_block (cs := #[.int .i64 ((m : Int) % 16777216)]) (t := 2) (fr := (0, 0)) (heap_alloc_new wr _)) (by simp [Value.oneCell']) (by omega) (by unfold maxLen; omega) (by omega) (by simp; omega) _ rfl ?_; intro g cap w1 hown1 hgrow hat hlt; obtain ⟨hc0, hc1, hc2, hcf, hcl⟩ := (hW.out.boxed hgrow).cells; have hcf1 := hcf 1; clear hcf)
              have e1 : (m : Int) % 16777216 = (d : Nat) := by have := hd.out; omega
              have e2 : (m : Int) / 16777216 = (q : Nat) := by have := hq.out; omega
              have HP := hW.out.pushed hgrow hown1 e1
              refine ⟨⟨q, ds ++ [d], _, by rw [e2], by have := hq.out; omega, ?_, snoc_small hs.out (by have := hd.out; omega), by simp; omega, HP⟩, by simp [intOf]; omega⟩
              show _ = _
              rw [v24_snoc, List.length_append, List.length_singleton]
              exact pow_digit hv.out hd.out hq.out
end Go.Proofs.YtmcllgoeldfgmaaDoor

/- The reference's Add: the digits. -/
namespace Go.Proofs.YtmcllgoeldfgmaaDoor
open Go.RowKit

theorem keepN6 {w W W' : World} {p1 p2 p3 p4 p5 p6 : Addr} {x1 x2 x3 x4 x5 x6 : Value} (h : W.cell? p1 = some x1 ∧ W.cell? p2 = some x2 ∧ W.cell? p3 = some x3 ∧ W.cell? p4 = some x4 ∧ W.cell? p5 = some x5 ∧ W.cell? p6 = some x6 ∧ Below w.heap.size w W) (hb : Below W.heap.size W W') :
    W'.cell? p1 = some x1 ∧ W'.cell? p2 = some x2 ∧ W'.cell? p3 = some x3 ∧ W'.cell? p4 = some x4 ∧ W'.cell? p5 = some x5 ∧ W'.cell? p6 = some x6 ∧ Below w.heap.size w W' :=
  ⟨box_cell hb h.1, box_cell hb h.2.1, box_cell hb h.2.2.1, box_cell hb h.2.2.2.1, box_cell hb h.2.2.2.2.1, box_cell hb h.2.2.2.2.2.1, h.2.2.2.2.2.2.trans (hb.mono h.2.2.2.2.2.2.size)⟩

/-- What stands while Add goes. (O: the block of the sum's box.) -/
structure AddW (w : World) (O : Nat) (S1 S2 E1 E2 F : Int) (sv1 sv2 : Value) (ds : List Nat) (wr : World) (sv : Value) : Prop where
  a : BoxN wr w.heap.size S1 sv1 E1
  b : BoxN wr (w.heap.size + 1) S2 sv2 E2
  r : BoxN wr (w.heap.size + 2) 0 (.slice none 0 0) 0
  o : BoxN wr O S1 sv F
  row : wr.ownsRow (O + 1) 2 1 sv ds.length (i64s ds)
  bel : Below w.heap.size w wr
  siz : O + 1 ≤ wr.heap.size
  ord : w.heap.size + 3 ≤ O

theorem AddW.later {w W W' : World} {O : Nat} {S1 S2 E1 E2 F : Int} {sv1 sv2 : Value} {ds : List Nat} {sv : Value} (h : AddW w O S1 S2 E1 E2 F sv1 sv2 ds W sv) (hb : Below W.heap.size W W') : AddW w O S1 S2 E1 E2 F sv1 sv2 ds W' sv := by
  have hs := h.siz
  have ho := h.ord
  have hz := hb.size
  exact ⟨h.a.block (hb.block _ (by omega)), h.b.block (hb.block _ (by omega)), h.r.block (hb.block _ (by omega)), h.o.block (hb.block _ (by omega)), h.row.kept (row := none) ⟨hb.os, hb.tape, hb.output, hb.size, fun k hk _ => hb.block k hk⟩ (by cases sv.ownBlock <;> simp), h.bel.trans (hb.mono (by omega)), by omega, ho⟩
theorem AddW.boxed {w W w1 : World} {O : Nat} {S1 S2 E1 E2 F : Int} {sv1 sv2 : Value} {ds : List Nat} {sv : Value} {o : Obj} (h : AddW w O S1 S2 E1 E2 F sv1 sv2 ds W sv) (hg : (W.alloc o).grownBy w1 sv.ownBlock) : BoxN w1 O S1 sv F :=
  (h.o.alloc o).grown hg (own_apart h.row (show O < O + 1 by omega))
theorem AddW.pushed {w W w1 : World} {O g cap d : Nat} {S1 S2 E1 E2 F x : Int} {sv1 sv2 : Value} {ds : List Nat} {sv : Value} {o : Obj} (h : AddW w O S1 S2 E1 E2 F sv1 sv2 ds W sv) (hg : (W.alloc o).grownBy w1 sv.ownBlock)
    (ho : w1.ownsRow (O + 1) 2 1 (.slice (some ⟨g, 0, none⟩) (ds.length + 1) cap) (ds.length + 1) (i64s ds ++ [.int .i64 x])) (hx : x = (d : Nat)) :
    AddW w O S1 S2 E1 E2 F sv1 sv2 (ds ++ [d]) (w1.setCell ⟨O, 1, none⟩ (.slice (some ⟨g, 0, none⟩) (ds.length + 1) cap)) (.slice (some ⟨g, 0, none⟩) (ds.length + 1) cap) := by
  subst hx
  have hs := h.siz
  have hod := h.ord
  refine ⟨?_, ?_, ?_, (h.boxed hg).set, ?_, ?_, ?_, hod⟩
  · exact ((h.a.alloc o).grown hg (own_apart h.row (by omega))).other (by simp; omega) _
  · exact ((h.b.alloc o).grown hg (own_apart h.row (by omega))).other (by simp; omega) _
  · exact ((h.r.alloc o).grown hg (own_apart h.row (by omega))).other (by simp; omega) _
  · rw [i64s_snoc] at ho
    have := own_other ho (a := ⟨O, 1, none⟩) (by simp) (.slice (some ⟨g, 0, none⟩) (ds.length + 1) cap)
    simpa using this
  · refine Below.setCell ?_ (by simp; omega) _
    have h1 : Below w.heap.size w (W.alloc o) := h.bel.alloc (by omega) o
    exact h1.grown hg (by simp; omega) (fun k hk => by have := (h.row.lt k hk).1; omega)
  · have := hg.size
    simp [World.setCell] at *
    omega

theorem addW_start {w W : World} {O : Nat} {S1 S2 E1 E2 F : Int} {sv1 sv2 : Value} (a : BoxN W w.heap.size S1 sv1 E1) (b : BoxN W (w.heap.size + 1) S2 sv2 E2) (r : BoxN W (w.heap.size + 2) 0 (.slice none 0 0) 0) (bel : Below w.heap.size w W) (hO : W.heap.size = O) (hs : w.heap.size + 3 ≤ O) :
    AddW w O S1 S2 E1 E2 F sv1 sv2 [] (W.alloc (.cells #[.int .i64 S1, .slice none 0 0, .int .i64 F] 47)) (.slice none 0 0) := by
  subst hO
  exact ⟨a.alloc _, b.alloc _, r.alloc _, heap_alloc_new W _, World.ownsRow_nil _ _ _ _, bel.alloc (by omega) _, by simp, hs⟩
theorem boxes3 (w : World) (a b c : Obj) : (((w.alloc a).alloc b).alloc c).heap[w.heap.size]? = some a ∧ (((w.alloc a).alloc b).alloc c).heap[w.heap.size + 1]? = some b ∧ (((w.alloc a).alloc b).alloc c).heap[w.heap.size + 2]? = some c := by
  refine ⟨?_, ?_, ?_⟩
  · rw [Below.heap_alloc _ _ _ (by simp; omega)]; exact old_box w a b
  · rw [Below.heap_alloc _ _ _ (by simp)]; exact new_box w a b
  · have := heap_alloc_new ((w.alloc a).alloc b) c
    simpa using this
theorem below3 (w : World) (a b c : Obj) : Below w.heap.size w (((w.alloc a).alloc b).alloc c) := (((Below.refl _ _).alloc (Nat.le_refl _) _).alloc (by simp) _).alloc (by simp; omega) _

/-- A sum's digits, as far as they are done. (s: 1 or -1; A, B: the digits of both from the lowest place on.) -/
structure AddD (A B : Nat → Nat) (s : Int) (i : Nat) (zs : List Nat) (c : Int) : Prop where
  len : zs.length = i
  small : ∀ d ∈ zs, d < 16777216
  val : (v24 zs : Int) + ((2 ^ (24 * i) : Nat) : Int) * c = (A i : Int) + s * (B i : Int)
  c1 : -1 ≤ c
  c2 : c ≤ 1

theorem AddD.step {A B : Nat → Nat} {s c c' v : Int} {i a b d : Nat} {zs : List Nat} (h : AddD A B s i zs c) (hA : A (i + 1) = A i + 2 ^ (24 * i) * a) (hB : B (i + 1) = B i + 2 ^ (24 * i) * b) (hv : v = (a : Int) + s * (b : Int) + c) (hd : v = (d : Int) + 16777216 * c') (hdl : d < 16777216) (h1 : -1 ≤ c') (h2 : c' ≤ 1) : AddD A B s (i + 1) (zs ++ [d]) c' := by
  refine ⟨by simp [h.len], snoc_small h.small hdl, ?_, h1, h2⟩
  rw [v24_snoc, h.len, hA, hB, p24]
  have hval := h.val
  simp only [Int.natCast_add, Int.natCast_mul]
  generalize ((2 ^ (24 * i) : Nat) : Int) = P at *
  subst hv
  have e : ((16777216 : Nat) : Int) = 16777216 := rfl
  rw [e]
  grind

end Go.Proofs.YtmcllgoeldfgmaaDoor
