/- Own texts, put together: M7 Fb M8. -/
import Derived.Test.YtgoadpnoagaflaaDoorQ2
import Derived.Test.YtgoadpnoagaflaaDoorQ6
namespace Go.Proofs.YtgoadpnoagaflaaDoor
/- Plain facts on floats: rounding to the nearest word where nothing is rounded off. -/
section
theorem log2_mul_pow (m d : Nat) (hm : m ≠ 0) : Nat.log2 (m * 2 ^ d) = Nat.log2 m + d := by
 have h1 := Nat.log2_self_le hm
 have h2 : m < 2 ^ (Nat.log2 m + 1) := Nat.lt_log2_self
 have hp : 0 < 2 ^ d := Nat.two_pow_pos d
 rw [Nat.log2_eq_iff (Nat.mul_ne_zero hm (by omega))]
 refine ⟨by rw [Nat.pow_add]; exact Nat.mul_le_mul_right _ h1, ?_⟩
 rw [show Nat.log2 m + d + 1 = (Nat.log2 m + 1) + d by omega, Nat.pow_add]
 exact Nat.mul_lt_mul_of_pos_right h2 hp
theorem cut_exact (neg : Bool) (r d : Nat) : Ieee.Toward.even.cut neg (r * 2 ^ d) d = r := by
 unfold Ieee.Toward.cut
 simp only [Nat.one_shiftLeft]
 by_cases hr : r = 0
 · subst hr; simp
 · rw [log2_mul_pow r d hr, Nat.min_eq_left (by omega)]
   have hp : 0 < 2 ^ d := Nat.two_pow_pos d
   rw [Nat.mul_div_cancel _ hp, Nat.mul_mod_left]
   have e1 : (decide (2 ^ d < 2 * 0) || (2 ^ d == 2 * 0 && r % 2 == 1)) = false := by
     have : ¬ (2 ^ d < 2 * 0) := by omega
     have h2 : (2 ^ d == 2 * 0) = false := by rw [beq_eq_false_iff_ne]; omega
     simp [h2]
   rw [e1]; rfl
theorem nearest_norm (M d : Nat) (place : Int) (h1 : 4503599627370496 ≤ M) (h2 : M < 9007199254740992) (hp : -1074 ≤ place + (d : Nat)) (hb : ((place + (d : Nat) + 1074).toNat) * 4503599627370496 + M < 9218868437227405312) :
   Ieee.double.nearest false (M * 2 ^ d) place = (place + (d : Nat) + 1074).toNat * 4503599627370496 + M := by
 have hM : M ≠ 0 := by omega
 have hL : Nat.log2 M = 52 := by rw [Nat.log2_eq_iff hM]; exact ⟨h1, h2⟩
 unfold Ieee.Format.nearest
 rw [if_neg (Nat.mul_ne_zero hM (Nat.ne_of_gt (Nat.two_pow_pos d)))]
 simp only [d_lp, d_bin, d_inf]
 have e0 : (Ieee.double.fractionBits : Int) = 52 := rfl
 rw [log2_mul_pow M d hM, hL, e0, show max (place + ((52 + d : Nat) : Int) - 52) (-1074) = place + (d : Nat) by omega]
 rw [show (place - (place + (d : Nat)) : Int).toNat = 0 by omega, show (place + (d : Nat) - place : Int).toNat = d by omega, Nat.shiftLeft_zero, cut_exact]
 rw [show (place + (d : Nat) - -1074 : Int) = place + (d : Nat) + 1074 by omega, Nat.min_eq_left (by omega)]
 rfl
theorem read_norm (E u : Nat) (hE : 1 ≤ E) (hE2 : E ≤ 2046) (hu : u < 4503599627370496) : Ieee.double.read (E * 4503599627370496 + u) = .number false (4503599627370496 + u) (-1075 + (E : Int)) := by
 have hf : Fin64 (E * 4503599627370496 + u) := by unfold Fin64 frung; omega
 rw [read_fin hf]
 have h1 : frung (E * 4503599627370496 + u) = E * 4503599627370496 + u := Nat.mod_eq_of_lt (by omega)
 have h2 : fneg (E * 4503599627370496 + u) = false := by unfold fneg; rw [Nat.div_eq_of_lt (by omega)]; rfl
 rw [h1, h2]
 unfold fmag fpl
 rw [if_neg (by omega), if_neg (by omega), show (E * 4503599627370496 + u) % 4503599627370496 = u by omega, show (E * 4503599627370496 + u) / 4503599627370496 = E by omega]
 congr 1
 omega
theorem read_one : Ieee.double.read 4607182418800017408 = .number false 4503599627370496 (-52) := by
 have := read_norm 1023 0 (by omega) (by omega) (by omega)
 simpa using this
theorem mul_one (E u : Nat) (hE : 1 ≤ E) (hE2 : E ≤ 2046) (hu : u < 4503599627370496) : Ieee.double.mul 4607182418800017408 (E * 4503599627370496 + u) = some (E * 4503599627370496 + u) := by
 unfold Ieee.Format.mul
 rw [read_one, read_norm E u hE hE2 hu]
 unfold Ieee.Datum.product
 simp only [Option.map_some, Ieee.Format.write, Bool.xor_false]
 congr 1
 have h := nearest_norm (4503599627370496 + u) 52 (-52 + (-1075 + (E : Int))) (by omega) (by omega) (by omega) (by omega)
 rw [show (4503599627370496 : Nat) * (4503599627370496 + u) = (4503599627370496 + u) * 2 ^ 52 by rw [Nat.mul_comm], h]
 omega
theorem mul_up (r L : Nat) (h0 : r ≠ 0) (h : r < 4503599627370496) (hL : Nat.log2 r = L) : Ieee.double.mul r 4841369599423283200 = some (L * 4503599627370496 + r * 2 ^ (52 - L)) := by
 have h1 : Ieee.double.read 4841369599423283200 = .number false 4503599627370496 0 := by
   have := read_norm 1075 0 (by omega) (by omega) (by omega)
   simpa using this
 have hf : Fin64 r := by unfold Fin64 frung; omega
 have h2 : Ieee.double.read r = .number false r (-1074) := by
   rw [read_fin hf]
   have e1 : frung r = r := Nat.mod_eq_of_lt (by omega)
   have e2 : fneg r = false := by unfold fneg; rw [Nat.div_eq_of_lt (by omega)]; rfl
   rw [e1, e2]
   unfold fmag fpl
   rw [if_pos h, if_pos h]
 have a1 := Nat.log2_self_le h0
 have a2 : r < 2 ^ (Nat.log2 r + 1) := Nat.lt_log2_self
 have a3 : Nat.log2 r < 52 := (Nat.log2_lt h0).2 h
 rw [hL] at a1 a2 a3
 have b1 : 4503599627370496 ≤ r * 2 ^ (52 - L) := by
   have := Nat.mul_le_mul_right (2 ^ (52 - L)) a1
   rw [← Nat.pow_add, show L + (52 - L) = 52 by omega] at this
   exact this
 have b2 : r * 2 ^ (52 - L) < 9007199254740992 := by
   have := Nat.mul_lt_mul_of_pos_right a2 (Nat.two_pow_pos (52 - L))
   rw [← Nat.pow_add, show L + 1 + (52 - L) = 53 by omega] at this
   exact this
 unfold Ieee.Format.mul
 rw [h1, h2]
 unfold Ieee.Datum.product
 simp only [Option.map_some, Ieee.Format.write, Bool.xor_false]
 congr 1
 have h3 := nearest_norm (r * 2 ^ (52 - L)) L (-1074 + 0) b1 b2 (by omega) (by omega)
 rw [Nat.mul_assoc, ← Nat.pow_add, show 52 - L + L = 52 by omega] at h3
 rw [show r * 4503599627370496 = r * 2 ^ 52 from rfl, h3]
 omega
end

/- Floats: IsNaN, IsInf, normalize, Frexp, Ldexp of package math, on the words that package whole hands them. -/
section
open Go.RowKit
theorem fin_order_self {b : Nat} (h : Fin64 b) : Ieee.double.order b b = some .eq := by
 rw [order_fin h h, if_neg (by exact Rat.lt_irrefl), if_pos rfl]
def isnan (b : Nat) : Bool := decide (9218868437227405312 < frung b)
def isinf (b : Nat) : Bool := frung b == 9218868437227405312
theorem order_self (b : Nat) : (Ieee.double.order b b != some .eq) = isnan b := by
 unfold isnan
 rcases Nat.lt_trichotomy (frung b) 9218868437227405312 with h | h | h
 · rw [fin_order_self h]; simp; omega
 · rw [order_inf_self h, h]; simp
 · rw [order_nan_left h]; simp [h]
theorem order_big (b : Nat) : (Ieee.double.order (b % 9223372036854775808) 9218868437227405311 == some .gt) = isinf b := by
 unfold isinf
 have e : frung (b % 9223372036854775808) = frung b := by unfold frung; rw [Nat.mod_mod]
 have hm : Fin64 9218868437227405311 := by unfold Fin64 frung; decide
 rcases Nat.lt_trichotomy (frung b) 9218868437227405312 with h | h | h
 · have hr : b % 9223372036854775808 < 9218868437227405312 := h
   rw [order_fin (by unfold Fin64; rw [e]; exact h) hm]
   have h1 := fval_le_max hr
   have h2 : (frung b == 9218868437227405312) = false := by rw [beq_eq_false_iff_ne]; omega
   rw [h2]
   by_cases h3 : fval (b % 9223372036854775808) < fval 9218868437227405311
   · rw [if_pos h3]; rfl
   · rw [if_neg h3, if_pos (by grind)]; rfl
 · rw [order_inf_fin (by rw [e]; exact h) hm, h]
   have : fneg (b % 9223372036854775808) = false := by unfold fneg; rw [Nat.div_eq_of_lt (Nat.mod_lt _ (by omega))]; rfl
   rw [this]; rfl
 · rw [order_nan_left (by rw [e]; exact h)]
   have h2 : (frung b == 9218868437227405312) = false := by rw [beq_eq_false_iff_ne]; omega
   rw [h2]; rfl
set_option maxHeartbeats 1000000 in
theorem isNaN_any (b : Nat) (w : World) : Calls Tryd.prog 74 #[.float .f64 b] w fun e w' => e = .returned (.bool (isnan b)) ∧ w' = w := by
 have h := order_self b
 have h' : (FloatKind.f64.format.order b b != some .eq) = isnan b := h
 go_enter Tryd.func74, Tryd.ntmps74
 go_wp2
 go_ret
 refine ⟨?_, rfl⟩
 rw [← h']
 rfl
set_option maxHeartbeats 1000000 in
theorem isInf0_any (b : Nat) (w : World) (hb : b < 18446744073709551616) : Calls Tryd.prog 75 #[.float .f64 b, .int .i64 0] w fun e w' => e = .returned (.bool (isinf b)) ∧ w' = w := by
 have h' : (FloatKind.f64.format.order (b % 9223372036854775808) 9218868437227405311 == some .gt) = isinf b := order_big b
 have HB : Hid (b < 18446744073709551616) := hb
 clear hb
 go_enter Tryd.func75, Tryd.ntmps75
 go_wp2_with fail
 refine (abs_any b _ HB.out).mono ?_
 rintro e w' ⟨rfl, rfl⟩
 generalize b % 9223372036854775808 = c at *
 go_wp2
 go_ret
 refine ⟨?_, rfl⟩
 rw [← h']
 rfl
set_option maxHeartbeats 1000000 in
theorem normalize_big (r : Nat) (w : World) (h1 : 4503599627370496 ≤ r) (h2 : r < 9218868437227405312) : Calls Tryd.prog 119 #[.float .f64 r] w fun e w' => e = .returned (.tuple #[.float .f64 r, .int .i64 0]) ∧ w' = w := by
 have e1 : r % 9223372036854775808 = r := Nat.mod_eq_of_lt (by omega)
 have e2 : (FloatKind.f64.format.order r 4503599627370496 == some .lt) = false := by
   show (Ieee.double.order r 4503599627370496 == some .lt) = false
   rw [order_fin (by unfold Fin64 frung; omega) (by unfold Fin64 frung; decide), if_neg (by rw [small_iff h2]; omega)]
   split <;> rfl
 have H1 : Hid (r % 9223372036854775808 = r) := e1
 have H2 : Hid (r < 18446744073709551616) := (by omega : r < 18446744073709551616)
 clear e1 h1 h2
 go_enter Tryd.func119, Tryd.ntmps119
 go_wp2_with fail
 refine (abs_any r _ H2.out).mono ?_
 rw [H1.out]
 rintro e w' ⟨rfl, rfl⟩
 go_wp2
 go_ret2
 exact ⟨rfl, rfl⟩
set_option maxHeartbeats 1000000 in
theorem normalize_small (r L : Nat) (w : World) (h0 : r ≠ 0) (h1 : r < 4503599627370496) (hL : Nat.log2 r = L) : Calls Tryd.prog 119 #[.float .f64 r] w fun e w' => e = .returned (.tuple #[.float .f64 (L * 4503599627370496 + r * 2 ^ (52 - L)), .int .i64 (-52)]) ∧ w' = w := by
 have e1 : r % 9223372036854775808 = r := Nat.mod_eq_of_lt (by omega)
 have e2 : (FloatKind.f64.format.order r 4503599627370496 == some .lt) = true := by
   show (Ieee.double.order r 4503599627370496 == some .lt) = true
   rw [order_fin (by unfold Fin64 frung; omega) (by unfold Fin64 frung; decide), if_pos (by rw [small_iff (by omega)]; omega)]
   rfl
 have e3 : ∀ w, (binOp .mul 35 (.float .f64 r) (.float .f64 4841369599423283200)).run Tryd.prog w = .ok (.float .f64 (L * 4503599627370496 + r * 2 ^ (52 - L))) w := fun w => run_float_arith w .mul _ .f64 r 4841369599423283200 _ (mul_up r L h0 h1 hL)
 have H1 : Hid (r % 9223372036854775808 = r) := e1
 have H2 : Hid (r < 18446744073709551616) := (by omega : r < 18446744073709551616)
 clear e1 h1 h0 hL
 generalize L * 4503599627370496 + r * 2 ^ (52 - L) = y at *
 go_enter Tryd.func119, Tryd.ntmps119
 go_wp2_with fail
 refine (abs_any r _ H2.out).mono ?_
 rw [H1.out]
 rintro e w' ⟨rfl, rfl⟩
 go_wp2
 go_ret2
 exact ⟨rfl, rfl⟩
end

/- Plain facts: how far a number's bits reach. -/
section
def Bd (h l : Int) (q : Rat) : Prop := q < p2 h ∧ -p2 h < q ∧ ∃ n : Int, q = (n : Rat) * p2 l
theorem bd_le {x P Q : Rat} (a : x < P) (b : -P < x) (h : P ≤ Q) : x < Q ∧ -Q < x := ⟨by grind, by grind⟩
theorem bd_nn {x y P : Rat} (h0 : 0 ≤ x) (h1 : x < y) (h2 : y ≤ P) : x < P ∧ -P < x := ⟨by grind, by grind⟩
theorem Bd.may {h l : Int} {q : Rat} (hb : Bd h l q) (h1 : h ≤ 65537) (h2 : -65536 ≤ l) : May q := by
 obtain ⟨a, b, n, c⟩ := hb
 have hh := bd_le a b (p2_mono h1)
 refine ⟨hh.1, hh.2, n * ((2 ^ (l + 65536).toNat : Nat) : Int), ?_⟩
 have e : p2 l = ((2 ^ (l + 65536).toNat : Nat) : Rat) * p2 (-65536) := by
   rw [← p2_nat, ← p2_add]; congr 1; omega
 rw [c, e, Rat.intCast_mul]
 have : (((2 ^ (l + 65536).toNat : Nat) : Int) : Rat) = ((2 ^ (l + 65536).toNat : Nat) : Rat) := rfl
 rw [this]; grind
theorem Bd.mono {h l h' l' : Int} {q : Rat} (hb : Bd h l q) (h1 : h ≤ h') (h2 : l' ≤ l) : Bd h' l' q := by
 obtain ⟨a, b, n, c⟩ := hb
 have := p2_mono h1
 refine ⟨by grind, by grind, n * ((2 ^ (l - l').toNat : Nat) : Int), ?_⟩
 have e : p2 l = ((2 ^ (l - l').toNat : Nat) : Rat) * p2 l' := by
   rw [← p2_nat, ← p2_add]; congr 1; omega
 rw [c, e, Rat.intCast_mul]
 have : (((2 ^ (l - l').toNat : Nat) : Int) : Rat) = ((2 ^ (l - l').toNat : Nat) : Rat) := rfl
 rw [this]; grind
theorem Bd.neg {h l : Int} {q : Rat} (hb : Bd h l q) : Bd h l (-q) := by
 obtain ⟨a, b, n, c⟩ := hb
 refine ⟨by grind, by grind, -n, ?_⟩
 rw [c, Rat.intCast_neg]; grind
theorem Bd.add {h l : Int} {p q : Rat} (h1 : Bd h l p) (h2 : Bd h l q) : Bd (h + 1) l (p + q) := by
 obtain ⟨a, b, n, c⟩ := h1
 obtain ⟨a', b', n', c'⟩ := h2
 have e : p2 (h + 1) = 2 * p2 h := by rw [p2_add, p2_one]; grind
 refine ⟨by grind, by grind, n + n', ?_⟩
 rw [c, c', Rat.intCast_add]; grind
theorem Bd.sub {h l : Int} {p q : Rat} (h1 : Bd h l p) (h2 : Bd h l q) : Bd (h + 1) l (p - q) := by
 have := h1.add h2.neg
 rwa [show p + -q = p - q by grind] at this
theorem abs_mul_lt {a b c d : Rat} (h1 : -b < a) (h2 : a < b) (h3 : -d < c) (h4 : c < d) : -(b * d) < a * c ∧ a * c < b * d := by
 have hb : 0 < b := by grind
 have hd : 0 < d := by grind
 have e1 : 0 < (b - a) * (d + c) := Rat.mul_pos (by grind) (by grind)
 have e2 : 0 < (b + a) * (d - c) := Rat.mul_pos (by grind) (by grind)
 have e3 : 0 < (b - a) * (d - c) := Rat.mul_pos (by grind) (by grind)
 have e4 : 0 < (b + a) * (d + c) := Rat.mul_pos (by grind) (by grind)
 constructor <;> grind
theorem Bd.mul {h l h' l' : Int} {p q : Rat} (h1 : Bd h l p) (h2 : Bd h' l' q) : Bd (h + h') (l + l') (p * q) := by
 obtain ⟨a, b, n, c⟩ := h1
 obtain ⟨a', b', n', c'⟩ := h2
 have := abs_mul_lt b a b' a'
 rw [Bd, p2_add, p2_add]
 refine ⟨this.2, this.1, n * n', ?_⟩
 rw [c, c', Rat.intCast_mul]; grind
theorem fval_bd {b : Nat} (h : Fin64 b) : Bd 1024 (-1074) (fval b) := by
 have hr : frung b < 9218868437227405312 := h
 have h1 : fmag (frung b) < 2 ^ 53 := fmag_lt _
 have h2 : fpl (frung b) ≤ 971 := by unfold fpl; split <;> omega
 have h3 : -1074 ≤ fpl (frung b) := by unfold fpl; split <;> omega
 have hp := p2_pos (fpl (frung b))
 have h4 : ((fmag (frung b) : Nat) : Rat) < ((2 ^ 53 : Nat) : Rat) := Rat.natCast_lt_natCast.2 h1
 rw [← p2_nat] at h4
 have h5 := Rat.mul_lt_mul_of_pos_right h4 hp
 rw [← p2_add] at h5
 have h6 : p2 (((53 : Nat) : Int) + fpl (frung b)) ≤ p2 1024 := p2_mono (by omega)
 have h7 : (0 : Rat) ≤ (fmag (frung b) : Nat) * p2 (fpl (frung b)) := Rat.mul_nonneg Rat.natCast_nonneg (Rat.le_of_lt hp)
 have base : Bd 1024 (-1074) ((fmag (frung b) : Nat) * p2 (fpl (frung b))) := by
   have hh := bd_nn h7 h5 h6
   refine ⟨hh.1, hh.2, ((fmag (frung b) * 2 ^ (fpl (frung b) + 1074).toNat : Nat) : Int), ?_⟩
   have e : (((fmag (frung b) * 2 ^ (fpl (frung b) + 1074).toNat : Nat) : Int) : Rat) = ((fmag (frung b) * 2 ^ (fpl (frung b) + 1074).toNat : Nat) : Rat) := rfl
   rw [e, nat_mul_p2, Rat.mul_assoc, ← p2_add, show (((fpl (frung b) + 1074).toNat : Nat) : Int) + -1074 = fpl (frung b) by omega]
 unfold fval sgn1
 split
 · have := base.neg
   rwa [show -1 * ((fmag (frung b) : Nat) * p2 (fpl (frung b)) : Rat) = -((fmag (frung b) : Nat) * p2 (fpl (frung b))) by grind]
 · rwa [Rat.one_mul]
end
end Go.Proofs.YtgoadpnoagaflaaDoor
