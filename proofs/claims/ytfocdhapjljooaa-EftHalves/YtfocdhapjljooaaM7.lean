/- Plain facts on floats: rounding to the nearest word where nothing is rounded off. -/
import Derived.Test.YtfocdhapjljooaaM6
namespace Go.Proofs.Ytfocdhapjljooaa

theorem log2_mul_pow (m d : Nat) (hm : m ≠ 0) : Nat.log2 (m * 2 ^ d) = Nat.log2 m + d := by
  have h1 := Nat.log2_self_le hm
  have h2 : m < 2 ^ (Nat.log2 m + 1) := Nat.lt_log2_self
  have hp : 0 < 2 ^ d := Nat.two_pow_pos d
  rw [Nat.log2_eq_iff (Nat.mul_ne_zero hm (by omega))]
  refine ⟨by rw [Nat.pow_add]; exact Nat.mul_le_mul_right _ h1, ?_⟩
  rw [show Nat.log2 m + d + 1 = (Nat.log2 m + 1) + d by omega, Nat.pow_add]
  exact Nat.mul_lt_mul_of_pos_right h2 hp

theorem cut_exact (neg : Bool) (r d : Nat) : Ieee.Toward.even.cut neg (r * 2 ^ d) d = r := by
  unfold Ieee.Toward.cut
  simp only [Nat.one_shiftLeft]
  by_cases hr : r = 0
  · subst hr; simp
  · rw [log2_mul_pow r d hr, Nat.min_eq_left (by omega)]
    have hp : 0 < 2 ^ d := Nat.two_pow_pos d
    rw [Nat.mul_div_cancel _ hp, Nat.mul_mod_left]
    have e1 : (decide (2 ^ d < 2 * 0) || (2 ^ d == 2 * 0 && r % 2 == 1)) = false := by
      have : ¬ (2 ^ d < 2 * 0) := by omega
      have h2 : (2 ^ d == 2 * 0) = false := by rw [beq_eq_false_iff_ne]; omega
      simp [h2]
    rw [e1]; rfl

/-- A number with 53 bits at a place that floats have: its word. -/
theorem nearest_norm (M d : Nat) (place : Int) (h1 : 4503599627370496 ≤ M) (h2 : M < 9007199254740992) (hp : -1074 ≤ place + (d : Nat)) (hb : ((place + (d : Nat) + 1074).toNat) * 4503599627370496 + M < 9218868437227405312) :
    Ieee.double.nearest false (M * 2 ^ d) place = (place + (d : Nat) + 1074).toNat * 4503599627370496 + M := by
  have hM : M ≠ 0 := by omega
  have hL : Nat.log2 M = 52 := by rw [Nat.log2_eq_iff hM]; exact ⟨h1, h2⟩
  unfold Ieee.Format.nearest
  rw [if_neg (Nat.mul_ne_zero hM (Nat.ne_of_gt (Nat.two_pow_pos d)))]
  simp only [d_lp, d_bin, d_inf]
  have e0 : (Ieee.double.fractionBits : Int) = 52 := rfl
  rw [log2_mul_pow M d hM, hL, e0, show max (place + ((52 + d : Nat) : Int) - 52) (-1074) = place + (d : Nat) by omega]
  rw [show (place - (place + (d : Nat)) : Int).toNat = 0 by omega, show (place + (d : Nat) - place : Int).toNat = d by omega, Nat.shiftLeft_zero, cut_exact]
  rw [show (place + (d : Nat) - -1074 : Int) = place + (d : Nat) + 1074 by omega, Nat.min_eq_left (by omega)]
  rfl

/-- A number below the least normal float: its word. -/
theorem nearest_den (r d : Nat) (h2 : r < 4503599627370496) : Ieee.double.nearest false (r * 2 ^ d) (-1074 - (d : Nat)) = r := by
  by_cases hr : r = 0
  · subst hr; simp [Ieee.Format.nearest]; rfl
  · have hL : Nat.log2 r < 52 := (Nat.log2_lt hr).2 h2
    unfold Ieee.Format.nearest
    rw [if_neg (Nat.mul_ne_zero hr (Nat.ne_of_gt (Nat.two_pow_pos d)))]
    simp only [d_lp, d_bin, d_inf]
    have e0 : (Ieee.double.fractionBits : Int) = 52 := rfl
    rw [log2_mul_pow r d hr, e0, show max (-1074 - (d : Int) + ((Nat.log2 r + d : Nat) : Int) - 52) (-1074) = -1074 by omega]
    rw [show (-1074 - (d : Int) - -1074 : Int).toNat = 0 by omega, show ((-1074 : Int) - (-1074 - (d : Int))).toNat = d by omega, Nat.shiftLeft_zero, cut_exact]
    rw [show ((-1074 : Int) - -1074).toNat = 0 by decide, Nat.zero_mul, Nat.zero_add, Nat.min_eq_left (by omega)]
    rfl

theorem read_norm (E u : Nat) (hE : 1 ≤ E) (hE2 : E ≤ 2046) (hu : u < 4503599627370496) : Ieee.double.read (E * 4503599627370496 + u) = .number false (4503599627370496 + u) (-1075 + (E : Int)) := by
  have hf : Fin64 (E * 4503599627370496 + u) := by unfold Fin64 frung; omega
  rw [read_fin hf]
  have h1 : frung (E * 4503599627370496 + u) = E * 4503599627370496 + u := Nat.mod_eq_of_lt (by omega)
  have h2 : fneg (E * 4503599627370496 + u) = false := by unfold fneg; rw [Nat.div_eq_of_lt (by omega)]; rfl
  rw [h1, h2]
  unfold fmag fpl
  rw [if_neg (by omega), if_neg (by omega), show (E * 4503599627370496 + u) % 4503599627370496 = u by omega, show (E * 4503599627370496 + u) / 4503599627370496 = E by omega]
  congr 1
  omega

theorem read_one : Ieee.double.read 4607182418800017408 = .number false 4503599627370496 (-52) := by
  have := read_norm 1023 0 (by omega) (by omega) (by omega)
  simpa using this

theorem mul_one (E u : Nat) (hE : 1 ≤ E) (hE2 : E ≤ 2046) (hu : u < 4503599627370496) : Ieee.double.mul 4607182418800017408 (E * 4503599627370496 + u) = some (E * 4503599627370496 + u) := by
  unfold Ieee.Format.mul
  rw [read_one, read_norm E u hE hE2 hu]
  unfold Ieee.Datum.product
  simp only [Option.map_some, Ieee.Format.write, Bool.xor_false]
  congr 1
  have h := nearest_norm (4503599627370496 + u) 52 (-52 + (-1075 + (E : Int))) (by omega) (by omega) (by omega) (by omega)
  rw [show (4503599627370496 : Nat) * (4503599627370496 + u) = (4503599627370496 + u) * 2 ^ 52 by rw [Nat.mul_comm], h]
  omega

theorem mul_norm (E u : Nat) (r L : Nat) (hL : L < 52) (hE : E = L + 2) (hu : 4503599627370496 + u = r * 2 ^ (52 - L)) (hr : r < 4503599627370496) (hu2 : u < 4503599627370496) : Ieee.double.mul 4368491638549381120 (E * 4503599627370496 + u) = some r := by
  have h0 : Ieee.double.read 4368491638549381120 = .number false 4503599627370496 (-105) := by
    have := read_norm 970 0 (by omega) (by omega) (by omega)
    simpa using this
  unfold Ieee.Format.mul
  rw [h0, read_norm E u (by omega) (by omega) hu2]
  unfold Ieee.Datum.product
  simp only [Option.map_some, Ieee.Format.write, Bool.xor_false]
  congr 1
  have e1 : 4503599627370496 * (4503599627370496 + u) = r * 2 ^ (104 - L) := by
    rw [hu, show (4503599627370496 : Nat) = 2 ^ 52 by decide, ← Nat.mul_assoc, Nat.mul_comm (2 ^ 52) r, Nat.mul_assoc, ← Nat.pow_add]
    congr 2; omega
  rw [e1, show (-105 + (-1075 + (E : Int)) : Int) = -1074 - ((104 - L : Nat) : Int) by omega]
  exact nearest_den r (104 - L) hr

/-- A float below the normal ones, 2^52 times. -/
theorem mul_up (r L : Nat) (h0 : r ≠ 0) (h : r < 4503599627370496) (hL : Nat.log2 r = L) : Ieee.double.mul r 4841369599423283200 = some (L * 4503599627370496 + r * 2 ^ (52 - L)) := by
  have h1 : Ieee.double.read 4841369599423283200 = .number false 4503599627370496 0 := by
    have := read_norm 1075 0 (by omega) (by omega) (by omega)
    simpa using this
  have hf : Fin64 r := by unfold Fin64 frung; omega
  have h2 : Ieee.double.read r = .number false r (-1074) := by
    rw [read_fin hf]
    have e1 : frung r = r := Nat.mod_eq_of_lt (by omega)
    have e2 : fneg r = false := by unfold fneg; rw [Nat.div_eq_of_lt (by omega)]; rfl
    rw [e1, e2]
    unfold fmag fpl
    rw [if_pos h, if_pos h]
  have a1 := Nat.log2_self_le h0
  have a2 : r < 2 ^ (Nat.log2 r + 1) := Nat.lt_log2_self
  have a3 : Nat.log2 r < 52 := (Nat.log2_lt h0).2 h
  rw [hL] at a1 a2 a3
  have b1 : 4503599627370496 ≤ r * 2 ^ (52 - L) := by
    have := Nat.mul_le_mul_right (2 ^ (52 - L)) a1
    rw [← Nat.pow_add, show L + (52 - L) = 52 by omega] at this
    exact this
  have b2 : r * 2 ^ (52 - L) < 9007199254740992 := by
    have := Nat.mul_lt_mul_of_pos_right a2 (Nat.two_pow_pos (52 - L))
    rw [← Nat.pow_add, show L + 1 + (52 - L) = 53 by omega] at this
    exact this
  unfold Ieee.Format.mul
  rw [h1, h2]
  unfold Ieee.Datum.product
  simp only [Option.map_some, Ieee.Format.write, Bool.xor_false]
  congr 1
  have h3 := nearest_norm (r * 2 ^ (52 - L)) L (-1074 + 0) b1 b2 (by omega) (by omega)
  rw [Nat.mul_assoc, ← Nat.pow_add, show 52 - L + L = 52 by omega] at h3
  rw [show r * 4503599627370496 = r * 2 ^ 52 from rfl, h3]
  omega

end Go.Proofs.Ytfocdhapjljooaa
