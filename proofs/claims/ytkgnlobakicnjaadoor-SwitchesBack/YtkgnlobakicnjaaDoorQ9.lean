/- Own texts, put together: M7 Fb Fc M8 Ep Ya. -/
import Derived.Test.YtkgnlobakicnjaaDoorQ1
import Derived.Test.YtkgnlobakicnjaaDoorQ6
namespace Go.Proofs.YtkgnlobakicnjaaDoor
/- Plain facts on floats: rounding to the nearest word where nothing is rounded off. -/
section
theorem log2_mul_pow (m d : Nat) (hm : m ≠ 0) : Nat.log2 (m * 2 ^ d) = Nat.log2 m + d := by
 have h1 := Nat.log2_self_le hm
 have h2 : m < 2 ^ (Nat.log2 m + 1) := Nat.lt_log2_self
 have hp : 0 < 2 ^ d := Nat.two_pow_pos d
 rw [Nat.log2_eq_iff (Nat.mul_ne_zero hm (by omega))]
 refine ⟨by rw [Nat.pow_add]; exact Nat.mul_le_mul_right _ h1, ?_⟩
 rw [show Nat.log2 m + d + 1 = (Nat.log2 m + 1) + d by omega, Nat.pow_add]
 exact Nat.mul_lt_mul_of_pos_right h2 hp
theorem cut_exact (neg : Bool) (r d : Nat) : Ieee.Toward.even.cut neg (r * 2 ^ d) d = r := by
 unfold Ieee.Toward.cut
 simp only [Nat.one_shiftLeft]
 by_cases hr : r = 0
 · subst hr; simp
 · rw [log2_mul_pow r d hr, Nat.min_eq_left (by omega)]
   have hp : 0 < 2 ^ d := Nat.two_pow_pos d
   rw [Nat.mul_div_cancel _ hp, Nat.mul_mod_left]
   have e1 : (decide (2 ^ d < 2 * 0) || (2 ^ d == 2 * 0 && r % 2 == 1)) = false := by
     have : ¬ (2 ^ d < 2 * 0) := by omega
     have h2 : (2 ^ d == 2 * 0) = false := by rw [beq_eq_false_iff_ne]; omega
     simp [h2]
   rw [e1]; rfl
theorem nearest_norm (M d : Nat) (place : Int) (h1 : 4503599627370496 ≤ M) (h2 : M < 9007199254740992) (hp : -1074 ≤ place + (d : Nat)) (hb : ((place + (d : Nat) + 1074).toNat) * 4503599627370496 + M < 9218868437227405312) :
   Ieee.double.nearest false (M * 2 ^ d) place = (place + (d : Nat) + 1074).toNat * 4503599627370496 + M := by
 have hM : M ≠ 0 := by omega
 have hL : Nat.log2 M = 52 := by rw [Nat.log2_eq_iff hM]; exact ⟨h1, h2⟩
 unfold Ieee.Format.nearest
 rw [if_neg (Nat.mul_ne_zero hM (Nat.ne_of_gt (Nat.two_pow_pos d)))]
 simp only [d_lp, d_bin, d_inf]
 have e0 : (Ieee.double.fractionBits : Int) = 52 := rfl
 rw [log2_mul_pow M d hM, hL, e0, show max (place + ((52 + d : Nat) : Int) - 52) (-1074) = place + (d : Nat) by omega]
 rw [show (place - (place + (d : Nat)) : Int).toNat = 0 by omega, show (place + (d : Nat) - place : Int).toNat = d by omega, Nat.shiftLeft_zero, cut_exact]
 rw [show (place + (d : Nat) - -1074 : Int) = place + (d : Nat) + 1074 by omega, Nat.min_eq_left (by omega)]
 rfl
theorem read_norm (E u : Nat) (hE : 1 ≤ E) (hE2 : E ≤ 2046) (hu : u < 4503599627370496) : Ieee.double.read (E * 4503599627370496 + u) = .number false (4503599627370496 + u) (-1075 + (E : Int)) := by
 have hf : Fin64 (E * 4503599627370496 + u) := by unfold Fin64 frung; omega
 rw [read_fin hf]
 have h1 : frung (E * 4503599627370496 + u) = E * 4503599627370496 + u := Nat.mod_eq_of_lt (by omega)
 have h2 : fneg (E * 4503599627370496 + u) = false := by unfold fneg; rw [Nat.div_eq_of_lt (by omega)]; rfl
 rw [h1, h2]
 unfold fmag fpl
 rw [if_neg (by omega), if_neg (by omega), show (E * 4503599627370496 + u) % 4503599627370496 = u by omega, show (E * 4503599627370496 + u) / 4503599627370496 = E by omega]
 congr 1
 omega
theorem read_one : Ieee.double.read 4607182418800017408 = .number false 4503599627370496 (-52) := by
 have := read_norm 1023 0 (by omega) (by omega) (by omega)
 simpa using this
theorem mul_one (E u : Nat) (hE : 1 ≤ E) (hE2 : E ≤ 2046) (hu : u < 4503599627370496) : Ieee.double.mul 4607182418800017408 (E * 4503599627370496 + u) = some (E * 4503599627370496 + u) := by
 unfold Ieee.Format.mul
 rw [read_one, read_norm E u hE hE2 hu]
 unfold Ieee.Datum.product
 simp only [Option.map_some, Ieee.Format.write, Bool.xor_false]
 congr 1
 have h := nearest_norm (4503599627370496 + u) 52 (-52 + (-1075 + (E : Int))) (by omega) (by omega) (by omega) (by omega)
 rw [show (4503599627370496 : Nat) * (4503599627370496 + u) = (4503599627370496 + u) * 2 ^ 52 by rw [Nat.mul_comm], h]
 omega
end

/- Floats: IsNaN, IsInf, normalize, Frexp, Ldexp of package math, on the words that package whole hands them. -/
section
open Go.RowKit
theorem fin_order_self {b : Nat} (h : Fin64 b) : Ieee.double.order b b = some .eq := by
 rw [order_fin h h, if_neg (by exact Rat.lt_irrefl), if_pos rfl]
def isnan (b : Nat) : Bool := decide (9218868437227405312 < frung b)
def isinf (b : Nat) : Bool := frung b == 9218868437227405312
theorem order_self (b : Nat) : (Ieee.double.order b b != some .eq) = isnan b := by
 unfold isnan
 rcases Nat.lt_trichotomy (frung b) 9218868437227405312 with h | h | h
 · rw [fin_order_self h]; simp; omega
 · rw [order_inf_self h, h]; simp
 · rw [order_nan_left h]; simp [h]
theorem order_big (b : Nat) : (Ieee.double.order (b % 9223372036854775808) 9218868437227405311 == some .gt) = isinf b := by
 unfold isinf
 have e : frung (b % 9223372036854775808) = frung b := by unfold frung; rw [Nat.mod_mod]
 have hm : Fin64 9218868437227405311 := by unfold Fin64 frung; decide
 rcases Nat.lt_trichotomy (frung b) 9218868437227405312 with h | h | h
 · have hr : b % 9223372036854775808 < 9218868437227405312 := h
   rw [order_fin (by unfold Fin64; rw [e]; exact h) hm]
   have h1 := fval_le_max hr
   have h2 : (frung b == 9218868437227405312) = false := by rw [beq_eq_false_iff_ne]; omega
   rw [h2]
   by_cases h3 : fval (b % 9223372036854775808) < fval 9218868437227405311
   · rw [if_pos h3]; rfl
   · rw [if_neg h3, if_pos (by grind)]; rfl
 · rw [order_inf_fin (by rw [e]; exact h) hm, h]
   have : fneg (b % 9223372036854775808) = false := by unfold fneg; rw [Nat.div_eq_of_lt (Nat.mod_lt _ (by omega))]; rfl
   rw [this]; rfl
 · rw [order_nan_left (by rw [e]; exact h)]
   have h2 : (frung b == 9218868437227405312) = false := by rw [beq_eq_false_iff_ne]; omega
   rw [h2]; rfl
set_option maxHeartbeats 1000000 in
theorem isNaN_any (b : Nat) (w : World) : Calls Tryd.prog 53 #[.float .f64 b] w fun e w' => e = .returned (.bool (isnan b)) ∧ w' = w := by
 have h := order_self b
 have h' : (FloatKind.f64.format.order b b != some .eq) = isnan b := h
 go_enter Tryd.func53, Tryd.ntmps53
 go_wp2
 go_ret
 refine ⟨?_, rfl⟩
 rw [← h']
 rfl
set_option maxHeartbeats 1000000 in
theorem isInf0_any (b : Nat) (w : World) (hb : b < 18446744073709551616) : Calls Tryd.prog 54 #[.float .f64 b, .int .i64 0] w fun e w' => e = .returned (.bool (isinf b)) ∧ w' = w := by
 have h' : (FloatKind.f64.format.order (b % 9223372036854775808) 9218868437227405311 == some .gt) = isinf b := order_big b
 have HB : Hid (b < 18446744073709551616) := hb
 clear hb
 go_enter Tryd.func54, Tryd.ntmps54
 go_wp2_with fail
 refine (abs_any b _ HB.out).mono ?_
 rintro e w' ⟨rfl, rfl⟩
 generalize b % 9223372036854775808 = c at *
 go_wp2
 go_ret
 refine ⟨?_, rfl⟩
 rw [← h']
 rfl
end

/- Floats: Frexp and Ldexp. -/
section
open Go.RowKit
theorem andNot_exp (r : Nat) (h : r < 9223372036854775808) : bits .andNot .u64 (r : Int) 9218868437227405312 = ((r % 4503599627370496 : Nat) : Int) := by
 rw [show (9218868437227405312 : Int) = ((9218868437227405312 : Nat) : Int) from rfl, u64_andNot_nat r _ (by omega) (by omega)]
 congr 1
 have e : (18446744073709551615 - 9218868437227405312 : Nat) = 2 ^ 63 ||| (2 ^ 52 - 1) := by decide
 rw [e, Nat.and_or_distrib_left, Nat.and_two_pow_sub_one_eq_mod]
 have e2 : r &&& 2 ^ 63 = 0 := by
   apply Nat.eq_of_testBit_eq
   intro i
   rw [Nat.testBit_and, Nat.testBit_two_pow, Nat.zero_testBit]
   by_cases hi : 63 = i
   · subst hi; rw [Nat.testBit_lt_two_pow (by omega)]; rfl
   · simp [hi]
 rw [e2, Nat.zero_or]
theorem or_exp (T u : Nat) (hT : T < 2048) (hu : u < 4503599627370496) : bits .or .u64 (u : Int) ((T * 4503599627370496 : Nat) : Int) = ((T * 4503599627370496 + u : Nat) : Int) := by
 rw [u64_or_nat u _ (by omega) (by omega)]
 congr 1
 rw [show T * 4503599627370496 = 2 ^ 52 * T by rw [Nat.mul_comm], Nat.or_comm, ← Nat.two_pow_add_eq_or_of_lt hu]
theorem ret_fi {a : Nat} {b c : Int} (h : b = c) : Ending.returned (.tuple #[.float .f64 a, .int .i64 b]) = .returned (.tuple #[.float .f64 a, .int .i64 c]) := by rw [h]
set_option maxHeartbeats 1000000 in
theorem Frexp_of (a b : Nat) (c : Int) (w : World) (hf : ∀ w, Calls Tryd.prog 82 #[.float .f64 a] w fun e w' => e = .returned (.tuple #[.float .f64 b, .int .i64 c]) ∧ w' = w) :
   Calls Tryd.prog 57 #[.float .f64 a] w fun e w' => e = .returned (.tuple #[.float .f64 b, .int .i64 c]) ∧ w' = w := by
 have HF : Hid _ := hf
 clear hf
 go_enter Tryd.func57, Tryd.ntmps57
 go_wp2_with (first | (go_at_call 82; refine (HF.out _).mono ?_; rintro e w' ⟨rfl, rfl⟩))
 go_ret2
 exact ⟨rfl, rfl⟩
end

/- Plain facts: how far a number's bits reach. -/
section
def Bd (h l : Int) (q : Rat) : Prop := q < p2 h ∧ -p2 h < q ∧ ∃ n : Int, q = (n : Rat) * p2 l
theorem Bd.mono {h l h' l' : Int} {q : Rat} (hb : Bd h l q) (h1 : h ≤ h') (h2 : l' ≤ l) : Bd h' l' q := by
 obtain ⟨a, b, n, c⟩ := hb
 have := p2_mono h1
 refine ⟨by grind, by grind, n * ((2 ^ (l - l').toNat : Nat) : Int), ?_⟩
 have e : p2 l = ((2 ^ (l - l').toNat : Nat) : Rat) * p2 l' := by
   rw [← p2_nat, ← p2_add]; congr 1; omega
 rw [c, e, Rat.intCast_mul]
 have : (((2 ^ (l - l').toNat : Nat) : Int) : Rat) = ((2 ^ (l - l').toNat : Nat) : Rat) := rfl
 rw [this]; grind
theorem Bd.neg {h l : Int} {q : Rat} (hb : Bd h l q) : Bd h l (-q) := by
 obtain ⟨a, b, n, c⟩ := hb
 refine ⟨by grind, by grind, -n, ?_⟩
 rw [c, Rat.intCast_neg]; grind
theorem Bd.add {h l : Int} {p q : Rat} (h1 : Bd h l p) (h2 : Bd h l q) : Bd (h + 1) l (p + q) := by
 obtain ⟨a, b, n, c⟩ := h1
 obtain ⟨a', b', n', c'⟩ := h2
 have e : p2 (h + 1) = 2 * p2 h := by rw [p2_add, p2_one]; grind
 refine ⟨by grind, by grind, n + n', ?_⟩
 rw [c, c', Rat.intCast_add]; grind
theorem Bd.sub {h l : Int} {p q : Rat} (h1 : Bd h l p) (h2 : Bd h l q) : Bd (h + 1) l (p - q) := by
 have := h1.add h2.neg
 rwa [show p + -q = p - q by grind] at this
theorem abs_mul_lt {a b c d : Rat} (h1 : -b < a) (h2 : a < b) (h3 : -d < c) (h4 : c < d) : -(b * d) < a * c ∧ a * c < b * d := by
 have hb : 0 < b := by grind
 have hd : 0 < d := by grind
 have e1 : 0 < (b - a) * (d + c) := Rat.mul_pos (by grind) (by grind)
 have e2 : 0 < (b + a) * (d - c) := Rat.mul_pos (by grind) (by grind)
 have e3 : 0 < (b - a) * (d - c) := Rat.mul_pos (by grind) (by grind)
 have e4 : 0 < (b + a) * (d + c) := Rat.mul_pos (by grind) (by grind)
 constructor <;> grind
theorem Bd.mul {h l h' l' : Int} {p q : Rat} (h1 : Bd h l p) (h2 : Bd h' l' q) : Bd (h + h') (l + l') (p * q) := by
 obtain ⟨a, b, n, c⟩ := h1
 obtain ⟨a', b', n', c'⟩ := h2
 have := abs_mul_lt b a b' a'
 rw [Bd, p2_add, p2_add]
 refine ⟨this.2, this.1, n * n', ?_⟩
 rw [c, c', Rat.intCast_mul]; grind
end

/- Rounding to the nearest, in plain numbers: what is exact. -/
section
def U (T : Nat) : Rat := p2 ((T : Int) - 1074)
theorem U_pos (T : Nat) : 0 < U T := p2_pos _
theorem U_succ (T : Nat) : U (T + 1) = 2 * U T := by
 unfold U
 rw [show ((T + 1 : Nat) : Int) - 1074 = 1 + ((T : Int) - 1074) by omega, p2_add, p2_one]
theorem U_add (S j : Nat) : U (S + j) = ((2 ^ j : Nat) : Rat) * U S := by
 unfold U
 rw [show ((S + j : Nat) : Int) - 1074 = (j : Nat) + ((S : Int) - 1074) by omega, p2_add, p2_nat]
theorem U_mono {S T : Nat} (h : S ≤ T) : U S ≤ U T := p2_mono (by omega)
theorem U_lt {S T : Nat} (h : S < T) : 2 * U S ≤ U T := by rw [← U_succ]; exact U_mono h
theorem U_lt2 {S T : Nat} (h : S + 2 ≤ T) : 4 * U S ≤ U T := by
 have h1 := U_mono h
 have h2 := U_succ (S + 1)
 have h3 := U_succ S
 grind
def M (u x : Rat) : Prop := ∃ k : Int, x = (k : Rat) * u
theorem M.add {u x y : Rat} (h1 : M u x) (h2 : M u y) : M u (x + y) := by
 obtain ⟨j, rfl⟩ := h1
 obtain ⟨k, rfl⟩ := h2
 exact ⟨j + k, by rw [Rat.intCast_add]; grind⟩
theorem M.neg {u x : Rat} (h1 : M u x) : M u (-x) := by
 obtain ⟨j, rfl⟩ := h1
 exact ⟨-j, by rw [Rat.intCast_neg]; grind⟩
theorem M.sub {u x y : Rat} (h1 : M u x) (h2 : M u y) : M u (x - y) := by
 have := h1.add h2.neg
 rwa [show x + -y = x - y by grind] at this
theorem M.down {S T : Nat} {x : Rat} (h : S ≤ T) (h1 : M (U T) x) : M (U S) x := by
 obtain ⟨k, rfl⟩ := h1
 obtain ⟨j, rfl⟩ : ∃ j, T = S + j := ⟨T - S, by omega⟩
 exact ⟨k * ((2 ^ j : Nat) : Int), by rw [U_add, Rat.intCast_mul, Rat.mul_assoc]; rfl⟩
theorem one_rat : ((1 : Int) : Rat) = 1 := rfl
theorem cast_lt {a b : Int} {u : Rat} (hu : 0 < u) (h : (a : Rat) * u < (b : Rat) * u) : a < b := by
 rcases Int.lt_or_le a b with h1 | h1
 · exact h1
 · have h2 : (b : Rat) ≤ (a : Rat) := Rat.intCast_le_intCast.2 h1
   have h3 := Rat.mul_le_mul_of_nonneg_right h2 (Rat.le_of_lt hu)
   grind
theorem cast_le {a b : Int} {u : Rat} (hu : 0 < u) (h : (a : Rat) * u ≤ (b : Rat) * u) : a ≤ b := by
 rcases Int.lt_or_le b a with h1 | h1
 · have h2 : (b : Rat) < (a : Rat) := Rat.intCast_lt_intCast.2 h1
   have h3 := Rat.mul_lt_mul_of_pos_right h2 hu
   grind
 · exact h1
theorem M.eq {u x y : Rat} (hu : 0 < u) (h1 : M u x) (h2 : M u y) (a : x - y < u) (b : y - x < u) : x = y := by
 obtain ⟨j, rfl⟩ := h1
 obtain ⟨k, rfl⟩ := h2
 have e1 : ((j - k : Int) : Rat) * u < ((1 : Int) : Rat) * u := by rw [Rat.intCast_sub, one_rat]; grind
 have e2 : ((k - j : Int) : Rat) * u < ((1 : Int) : Rat) * u := by rw [Rat.intCast_sub, one_rat]; grind
 have f1 := cast_lt hu e1
 have f2 := cast_lt hu e2
 have : j = k := by omega
 rw [this]
def F (z : Rat) : Prop := ∃ (S : Nat) (m : Int), z = (m : Rat) * U S ∧ -9007199254740992 ≤ m ∧ m ≤ 9007199254740992
theorem F.neg {z : Rat} (h : F z) : F (-z) := by
 obtain ⟨S, m, rfl, h1, h2⟩ := h
 exact ⟨S, -m, by rw [Rat.intCast_neg]; grind, by omega, by omega⟩
theorem M.small {S : Nat} {z : Rat} (n : Int) (hn : n ≤ 9007199254740992) (h : M (U S) z) (a : z < ((n + 1 : Int) : Rat) * U S) (b : -z < ((n + 1 : Int) : Rat) * U S) : F z := by
 obtain ⟨k, rfl⟩ := h
 have hu := U_pos S
 have e1 := cast_lt hu a
 have e2 : ((-k : Int) : Rat) * U S < ((n + 1 : Int) : Rat) * U S := by rw [Rat.intCast_neg]; grind
 have e2 := cast_lt hu e2
 exact ⟨S, k, rfl, by omega, by omega⟩
structure Rnd (q x : Rat) (T : Nat) (k : Int) : Prop where
 hx : x = (k : Rat) * U T
 h1 : 2 * (x - q) ≤ U T
 h2 : -U T ≤ 2 * (x - q)
 h3 : T = 0 ∨ 4503599627370496 * U T ≤ q ∨ 4503599627370496 * U T ≤ -q
 h4 : q < 9007199254740992 * U T
 h5 : -q < 9007199254740992 * U T
 k1 : -9007199254740992 ≤ k
 k2 : k ≤ 9007199254740992
theorem Rnd.m {q x : Rat} {T : Nat} {k : Int} (R : Rnd q x T k) : M (U T) x := ⟨k, R.hx⟩
theorem Rnd.f {q x : Rat} {T : Nat} {k : Int} (R : Rnd q x T k) : F x := ⟨T, k, R.hx, R.k1, R.k2⟩
theorem Rnd.mult {q x : Rat} {T : Nat} {k : Int} (R : Rnd q x T k) (h : M (U T) q) : x = q := by
 have hu := U_pos T
 have h1 := R.h1
 have h2 := R.h2
 exact M.eq hu R.m h (by grind) (by grind)
theorem F.abs {z : Rat} {S : Nat} {m : Int} (h : z = (m : Rat) * U S) (h1 : -9007199254740992 ≤ m) (h2 : m ≤ 9007199254740992) : z ≤ 9007199254740992 * U S ∧ -z ≤ 9007199254740992 * U S := by
 have hu := U_pos S
 have a1 := Rat.mul_le_mul_of_nonneg_right (Rat.intCast_le_intCast.2 h2) (Rat.le_of_lt hu)
 have a2 := Rat.mul_le_mul_of_nonneg_right (Rat.intCast_le_intCast.2 h1) (Rat.le_of_lt hu)
 have e1 : ((9007199254740992 : Int) : Rat) = 9007199254740992 := rfl
 have e2 : ((-9007199254740992 : Int) : Rat) = -9007199254740992 := rfl
 rw [e1] at a1
 rw [e2] at a2
 rw [h]
 constructor <;> grind
theorem Rnd.exact {q x : Rat} {T : Nat} {k : Int} (R : Rnd q x T k) (h : F q) : x = q := by
 obtain ⟨S, m, hq, h1, h2⟩ := h
 have hu := U_pos S
 rcases Nat.lt_or_ge S T with hs | hs
 · have hb := F.abs hq h1 h2
   have h3 := R.h3
   rcases Nat.lt_or_ge T (S + 2) with ht | ht
   · have e : T = S + 1 := by omega
     subst e
     have eu := U_succ S
     apply R.mult
     have hm : m = 9007199254740992 ∨ m = -9007199254740992 := by
       rcases h3 with h3 | h3 | h3
       · omega
       · left
         have : ((9007199254740992 : Int) : Rat) * U S ≤ (m : Rat) * U S := by
           rw [← hq, show ((9007199254740992 : Int) : Rat) = 9007199254740992 from rfl]; grind
         have := cast_le hu this
         omega
       · right
         have : ((9007199254740992 : Int) : Rat) * U S ≤ ((-m : Int) : Rat) * U S := by
           rw [Rat.intCast_neg, show ((9007199254740992 : Int) : Rat) = 9007199254740992 from rfl]; grind
         have := cast_le hu this
         omega
     rcases hm with rfl | rfl
     · exact ⟨4503599627370496, by rw [hq, eu, show ((9007199254740992 : Int) : Rat) = 9007199254740992 from rfl, show ((4503599627370496 : Int) : Rat) = 4503599627370496 from rfl]; grind⟩
     · exact ⟨-4503599627370496, by rw [hq, eu, show ((-9007199254740992 : Int) : Rat) = -9007199254740992 from rfl, show ((-4503599627370496 : Int) : Rat) = -4503599627370496 from rfl]; grind⟩
   · have := U_lt2 ht
     exfalso
     rcases h3 with h3 | h3 | h3
     · omega
     · grind
     · grind
 · exact R.mult (M.down hs ⟨m, hq⟩)
theorem Rnd.best {q x y c : Rat} {T : Nat} {k : Int} (R : Rnd q x T k) (h : F y) (c1 : -c ≤ y - q) (c2 : y - q ≤ c) : -c ≤ x - q ∧ x - q ≤ c := by
 have hu := U_pos T
 have r1 := R.h1
 have r2 := R.h2
 have key : ∀ {z d : Rat}, M (U T) z → -d ≤ z - q → z - q ≤ d → -d ≤ x - q ∧ x - q ≤ d := by
   intro z d hz d1 d2
   by_cases e : x - z < U T ∧ z - x < U T
   · have := M.eq hu R.m hz e.1 e.2
     rw [this]; exact ⟨d1, d2⟩
   · constructor <;> grind
 obtain ⟨S, m, hy, h1, h2⟩ := h
 rcases Nat.lt_or_ge S T with hs | hs
 · have hb := F.abs hy h1 h2
   have hl := U_lt hs
   rcases R.h3 with h3 | h3 | h3
   · omega
   · have := key (z := 4503599627370496 * U T) (d := q - 4503599627370496 * U T) ⟨4503599627370496, rfl⟩ (by grind) (by grind)
     constructor <;> grind
   · have := key (z := -4503599627370496 * U T) (d := -q - 4503599627370496 * U T) ⟨-4503599627370496, rfl⟩ (by grind) (by grind)
     constructor <;> grind
 · exact key (M.down hs ⟨m, hy⟩) c1 c2
end

/- The number that digits below 2^24 tell, plainly. -/
section
def v24 : List Nat → Nat
 | [] => 0
 | n :: r => n + 16777216 * v24 r
theorem p24 (k : Nat) : 2 ^ (24 * (k + 1)) = 16777216 * 2 ^ (24 * k) := by
 rw [show 24 * (k + 1) = 24 + 24 * k by omega, Nat.pow_add]
theorem v24_append (a b : List Nat) : v24 (a ++ b) = v24 a + 2 ^ (24 * a.length) * v24 b := by
 induction a with
 | nil => simp [v24]
 | cons x r ih => rw [List.cons_append, v24, v24, ih, List.length_cons, p24]; grind
theorem v24_snoc (a : List Nat) (x : Nat) : v24 (a ++ [x]) = v24 a + 2 ^ (24 * a.length) * x := by
 rw [v24_append]; simp [v24]
theorem v24_take_succ (l : List Nat) (k : Nat) : v24 (l.take (k + 1)) = v24 (l.take k) + 2 ^ (24 * k) * l.getD k 0 := by
 by_cases hk : k < l.length
 · rw [List.take_succ_eq_append_getElem hk, v24_append, List.length_take, Nat.min_eq_left (by omega)]
   simp [v24, List.getD, hk]
 · rw [List.take_of_length_le (by omega), List.take_of_length_le (by omega)]
   simp [List.getD, List.getElem?_eq_none (Nat.le_of_not_lt hk)]
def ms (f : Int → Nat) (L : Int) : Nat → Nat
 | 0 => 0
 | n + 1 => ms f L n + 2 ^ (24 * n) * f (L + (n : Int))
def mag (ds : List Nat) (E : Int) : Rat := (v24 ds : Nat) * p2 (24 * E)
theorem mag_nil (E : Int) : mag [] E = 0 := by unfold mag; simp [v24]
theorem v24_last {ds : List Nat} (hne : ds ≠ []) (ht : ds.getD (ds.length - 1) 0 ≠ 0) : 2 ^ (24 * (ds.length - 1)) ≤ v24 ds := by
 have hl := List.length_pos_iff.2 hne
 have e := v24_take_succ ds (ds.length - 1)
 rw [show ds.length - 1 + 1 = ds.length by omega, List.take_length] at e
 rw [e]
 have := Nat.mul_le_mul_left (2 ^ (24 * (ds.length - 1))) (Nat.pos_of_ne_zero ht)
 omega
theorem mag_pos {ds : List Nat} {E : Int} (hne : ds ≠ []) (ht : ds.getD (ds.length - 1) 0 ≠ 0) : 0 < mag ds E := by
 have h := v24_last hne ht
 have h2 := Nat.two_pow_pos (24 * (ds.length - 1))
 unfold mag
 refine Rat.mul_pos ?_ (p2_pos _)
 have : 0 < v24 ds := by omega
 exact_mod_cast this
end
end Go.Proofs.YtkgnlobakicnjaaDoor
