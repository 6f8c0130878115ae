/- Own texts, put together: Fc Ya Zg. -/
import Derived.Test.YtgoadpnoagaflaaDoorQ9
import Derived.Test.YtgoadpnoagaflaaDoorQ10
namespace Go.Proofs.YtgoadpnoagaflaaDoor
/- Floats: Frexp and Ldexp. -/
section
open Go.RowKit
theorem and_exp (n : Nat) (h : n < 2048) : bits .and .u64 (n : Int) 2047 = (n : Int) := by
 rw [show (2047 : Int) = ((2047 : Nat) : Int) from rfl, u64_and_nat n _ (by omega) (by omega), show (2047 : Nat) = 2 ^ 11 - 1 by decide, Nat.and_two_pow_sub_one_eq_mod, Nat.mod_eq_of_lt h]
theorem andNot_exp (r : Nat) (h : r < 9223372036854775808) : bits .andNot .u64 (r : Int) 9218868437227405312 = ((r % 4503599627370496 : Nat) : Int) := by
 rw [show (9218868437227405312 : Int) = ((9218868437227405312 : Nat) : Int) from rfl, u64_andNot_nat r _ (by omega) (by omega)]
 congr 1
 have e : (18446744073709551615 - 9218868437227405312 : Nat) = 2 ^ 63 ||| (2 ^ 52 - 1) := by decide
 rw [e, Nat.and_or_distrib_left, Nat.and_two_pow_sub_one_eq_mod]
 have e2 : r &&& 2 ^ 63 = 0 := by
   apply Nat.eq_of_testBit_eq
   intro i
   rw [Nat.testBit_and, Nat.testBit_two_pow, Nat.zero_testBit]
   by_cases hi : 63 = i
   · subst hi; rw [Nat.testBit_lt_two_pow (by omega)]; rfl
   · simp [hi]
 rw [e2, Nat.zero_or]
theorem or_exp (T u : Nat) (hT : T < 2048) (hu : u < 4503599627370496) : bits .or .u64 (u : Int) ((T * 4503599627370496 : Nat) : Int) = ((T * 4503599627370496 + u : Nat) : Int) := by
 rw [u64_or_nat u _ (by omega) (by omega)]
 congr 1
 rw [show T * 4503599627370496 = 2 ^ 52 * T by rw [Nat.mul_comm], Nat.or_comm, ← Nat.two_pow_add_eq_or_of_lt hu]
theorem zero_order (r : Nat) (h0 : r ≠ 0) (h : r < 9218868437227405312) : (FloatKind.f64.format.order r 0 == some .eq) = false := by
 show (Ieee.double.order r 0 == some .eq) = false
 have hf : Fin64 r := by unfold Fin64 frung; omega
 rw [order_fin hf (by unfold Fin64 frung; decide)]
 have e0 : fval 0 = 0 := fval_zero_iff.2 rfl
 have e1 : fval r ≠ 0 := by rw [Ne, fval_zero_iff]; unfold frung; omega
 rw [e0]
 rw [if_neg e1]
 split <;> rfl
theorem fin_flags (r : Nat) (h : r < 9218868437227405312) : isinf r = false ∧ isnan r = false := by
 have e : frung r = r := Nat.mod_eq_of_lt (by omega)
 unfold isinf isnan
 rw [e]
 exact ⟨by rw [beq_eq_false_iff_ne]; omega, by simp; omega⟩
theorem ret_fi {a : Nat} {b c : Int} (h : b = c) : Ending.returned (.tuple #[.float .f64 a, .int .i64 b]) = .returned (.tuple #[.float .f64 a, .int .i64 c]) := by rw [h]
set_option maxHeartbeats 2000000 in
theorem frexp_core (r y : Nat) (e0 : Int) (w : World) (h0 : r ≠ 0) (h : r < 9218868437227405312) (hy1 : 4503599627370496 ≤ y) (hy2 : y < 9218868437227405312) (he1 : -100 ≤ e0) (he2 : e0 ≤ 100)
   (hn : ∀ w, Calls Tryd.prog 119 #[.float .f64 r] w fun e w' => e = .returned (.tuple #[.float .f64 y, .int .i64 e0]) ∧ w' = w) :
   Calls Tryd.prog 100 #[.float .f64 r] w fun e w' => e = .returned (.tuple #[.float .f64 (1022 * 4503599627370496 + y % 4503599627370496), .int .i64 (e0 + ((y / 4503599627370496 : Nat) : Int) - 1022)]) ∧ w' = w := by
 have z := zero_order r h0 h
 obtain ⟨f1, f2⟩ := fin_flags r h
 have b1 := run_bits y
 have b2 := run_frombits (1022 * 4503599627370496 + y % 4503599627370496)
 have c1 := and_exp (y / 4503599627370496) (by omega)
 have c1' : bits .and .u64 ((y : Int) / 4503599627370496) 2047 = ((y / 4503599627370496 : Nat) : Int) := by rw [show ((y : Int) / 4503599627370496) = ((y / 4503599627370496 : Nat) : Int) by omega]; exact c1
 have c2 := andNot_exp y (by omega)
 have c3 := or_exp 1022 (y % 4503599627370496) (by omega) (Nat.mod_lt _ (by omega))
 have c3' : bits .or .u64 ((y % 4503599627370496 : Nat) : Int) 4602678819172646912 = ((1022 * 4503599627370496 + y % 4503599627370496 : Nat) : Int) := c3
 have HI : Hid (∀ w, Calls Tryd.prog 75 #[.float .f64 r, .int .i64 0] w fun e w' => e = .returned (.bool false) ∧ w' = w) := fun w => by have := isInf0_any r w (by omega); rwa [f1] at this
 have HN : Hid (∀ w, Calls Tryd.prog 74 #[.float .f64 r] w fun e w' => e = .returned (.bool false) ∧ w' = w) := fun w => by have := isNaN_any r w; rwa [f2] at this
 have HM : Hid _ := hn
 have hE : y / 4503599627370496 < 2048 := by omega
 clear hn f1 f2 c1 c3 h0 h hy1 hy2
 generalize 1022 * 4503599627370496 + y % 4503599627370496 = z1 at *
 generalize y % 4503599627370496 = u at *
 generalize hEE : y / 4503599627370496 = E at *
 clear hEE
 have hEi : (E : Int) < 2048 := by omega
 go_enter Tryd.func100, Tryd.ntmps100
 go_wp2_with (first
   | (go_at_call 75; refine (HI.out _).mono ?_; rintro e w' ⟨rfl, rfl⟩)
   | (go_at_call 74; refine (HN.out _).mono ?_; rintro e w' ⟨rfl, rfl⟩)
   | (go_at_call 119; refine (HM.out _).mono ?_; rintro e w' ⟨rfl, rfl⟩))
 go_ret2
 exact ⟨ret_fi (by omega), rfl⟩
def bits53 (r : Nat) : Nat := if r < 4503599627370496 then r * 2 ^ (52 - Nat.log2 r) else 4503599627370496 + r % 4503599627370496
def place53 (r : Nat) : Int := if r < 4503599627370496 then -1126 + (Nat.log2 r : Int) else -1075 + ((r / 4503599627370496 : Nat) : Int)
theorem bits53_bounds (r : Nat) (h0 : r ≠ 0) : 4503599627370496 ≤ bits53 r ∧ bits53 r < 9007199254740992 := by
 unfold bits53
 split
 · rename_i h
   have a1 := Nat.log2_self_le h0
   have a2 : r < 2 ^ (Nat.log2 r + 1) := Nat.lt_log2_self
   have a3 : Nat.log2 r < 52 := (Nat.log2_lt h0).2 h
   have b1 := Nat.mul_le_mul_right (2 ^ (52 - Nat.log2 r)) a1
   have b2 := Nat.mul_lt_mul_of_pos_right a2 (Nat.two_pow_pos (52 - Nat.log2 r))
   rw [← Nat.pow_add, show Nat.log2 r + (52 - Nat.log2 r) = 52 by omega] at b1
   rw [← Nat.pow_add, show Nat.log2 r + 1 + (52 - Nat.log2 r) = 53 by omega] at b2
   exact ⟨b1, b2⟩
 · omega
theorem bits53_val (r : Nat) (h0 : r ≠ 0) : ((bits53 r : Nat) : Rat) * p2 (place53 r) = (fmag r : Nat) * p2 (fpl r) := by
 unfold bits53 place53 fmag fpl
 split
 · rename_i h
   have a3 : Nat.log2 r < 52 := (Nat.log2_lt h0).2 h
   rw [nat_mul_p2, Rat.mul_assoc, ← p2_add]
   congr 2
   omega
 · congr 2
   omega
theorem frexp_any (r : Nat) (w : World) (h0 : r ≠ 0) (h : r < 9218868437227405312) :
   Calls Tryd.prog 100 #[.float .f64 r] w fun e w' => e = .returned (.tuple #[.float .f64 (1022 * 4503599627370496 + (bits53 r - 4503599627370496)), .int .i64 (place53 r + 53)]) ∧ w' = w := by
 have hb := bits53_bounds r h0
 by_cases hs : r < 4503599627370496
 · have a3 : Nat.log2 r < 52 := (Nat.log2_lt h0).2 hs
   have e1 : bits53 r = r * 2 ^ (52 - Nat.log2 r) := by unfold bits53; rw [if_pos hs]
   have e2 : place53 r = -1126 + (Nat.log2 r : Int) := by unfold place53; rw [if_pos hs]
   have hc := frexp_core r (Nat.log2 r * 4503599627370496 + r * 2 ^ (52 - Nat.log2 r)) (-52) w h0 h (by omega) (by omega) (by omega) (by omega) (fun w => normalize_small r _ w h0 hs rfl)
   rw [← e1] at hc
   rw [show (Nat.log2 r * 4503599627370496 + bits53 r) % 4503599627370496 = bits53 r - 4503599627370496 by omega, show (Nat.log2 r * 4503599627370496 + bits53 r) / 4503599627370496 = Nat.log2 r + 1 by omega] at hc
   rw [e2, show -1126 + (Nat.log2 r : Int) + 53 = -52 + ((Nat.log2 r + 1 : Nat) : Int) - 1022 by omega]
   exact hc
 · have e1 : bits53 r = 4503599627370496 + r % 4503599627370496 := by unfold bits53; rw [if_neg hs]
   have e2 : place53 r = -1075 + ((r / 4503599627370496 : Nat) : Int) := by unfold place53; rw [if_neg hs]
   have hc := frexp_core r r 0 w h0 h (by omega) h (by omega) (by omega) (fun w => normalize_big r w (by omega) h)
   rw [e1, e2, show 4503599627370496 + r % 4503599627370496 - 4503599627370496 = r % 4503599627370496 by omega, show -1075 + ((r / 4503599627370496 : Nat) : Int) + 53 = 0 + ((r / 4503599627370496 : Nat) : Int) - 1022 by omega]
   exact hc
set_option maxHeartbeats 1000000 in
theorem Frexp_of (a b : Nat) (c : Int) (w : World) (hf : ∀ w, Calls Tryd.prog 100 #[.float .f64 a] w fun e w' => e = .returned (.tuple #[.float .f64 b, .int .i64 c]) ∧ w' = w) :
   Calls Tryd.prog 80 #[.float .f64 a] w fun e w' => e = .returned (.tuple #[.float .f64 b, .int .i64 c]) ∧ w' = w := by
 have HF : Hid _ := hf
 clear hf
 go_enter Tryd.func80, Tryd.ntmps80
 go_wp2_with (first | (go_at_call 100; refine (HF.out _).mono ?_; rintro e w' ⟨rfl, rfl⟩))
 go_ret2
 exact ⟨rfl, rfl⟩
theorem conv_norm (u : Nat) (hu : u < 4503599627370496) : floatToIntVal .f64 (1075 * 4503599627370496 + u) .u64 = some ((4503599627370496 + u : Nat) : Int) := by
 unfold floatToIntVal
 have h : FloatKind.f64.decode (1075 * 4503599627370496 + u) = .number false (4503599627370496 + u) 0 := read_norm 1075 u (by omega) (by omega) hu
 rw [h]
 have hn : 4503599627370496 + u ≤ 9007199254740992 := by omega
 generalize 4503599627370496 + u = n at *
 have h2 : Ieee.Datum.toInt .zero (.number false n 0) = some (n : Int) := by
   simp [Ieee.Datum.toInt, Ieee.Datum.integral, Ieee.Toward.cut, Ieee.signed]
 rw [h2]
 have h3 : IntKind.u64.min = 0 := by decide
 have h4 : IntKind.u64.max = 18446744073709551615 := by decide
 simp only [h3, h4]
 rw [if_pos ⟨by omega, by omega⟩]
end

/- The number that digits below 2^24 tell, plainly. -/
section
def v24 : List Nat → Nat
 | [] => 0
 | n :: r => n + 16777216 * v24 r
theorem p24 (k : Nat) : 2 ^ (24 * (k + 1)) = 16777216 * 2 ^ (24 * k) := by
 rw [show 24 * (k + 1) = 24 + 24 * k by omega, Nat.pow_add]
theorem v24_append (a b : List Nat) : v24 (a ++ b) = v24 a + 2 ^ (24 * a.length) * v24 b := by
 induction a with
 | nil => simp [v24]
 | cons x r ih => rw [List.cons_append, v24, v24, ih, List.length_cons, p24]; grind
theorem v24_snoc (a : List Nat) (x : Nat) : v24 (a ++ [x]) = v24 a + 2 ^ (24 * a.length) * x := by
 rw [v24_append]; simp [v24]
theorem v24_take_succ (l : List Nat) (k : Nat) : v24 (l.take (k + 1)) = v24 (l.take k) + 2 ^ (24 * k) * l.getD k 0 := by
 by_cases hk : k < l.length
 · rw [List.take_succ_eq_append_getElem hk, v24_append, List.length_take, Nat.min_eq_left (by omega)]
   simp [v24, List.getD, hk]
 · rw [List.take_of_length_le (by omega), List.take_of_length_le (by omega)]
   simp [List.getD, List.getElem?_eq_none (Nat.le_of_not_lt hk)]
theorem v24_mod {ds : List Nat} (h : ∀ d ∈ ds, d < 16777216) : v24 ds % 16777216 = ds.getD 0 0 := by
 cases ds with
 | nil => simp [v24]
 | cons x r =>
   have h0 : x < 16777216 := h x (by simp)
   simp only [v24, List.getD_cons_zero]
   omega
def ms (f : Int → Nat) (L : Int) : Nat → Nat
 | 0 => 0
 | n + 1 => ms f L n + 2 ^ (24 * n) * f (L + (n : Int))
theorem ms_congr {f g : Int → Nat} (h : ∀ j, f j = g j) (L : Int) (n : Nat) : ms f L n = ms g L n := by
 induction n with
 | zero => rfl
 | succ n ih => rw [ms, ms, ih, h]
theorem ms_add (f : Int → Nat) (L : Int) (k n : Nat) : ms f L (k + n) = ms f L k + 2 ^ (24 * k) * ms f (L + (k : Int)) n := by
 induction n with
 | zero => simp [ms]
 | succ n ih =>
   rw [← Nat.add_assoc, ms, ih, ms, show 24 * (k + n) = 24 * k + 24 * n by omega, Nat.pow_add, show L + (k : Int) + (n : Int) = L + ((k + n : Nat) : Int) by omega]
   grind
theorem ms_zero {f : Int → Nat} {L : Int} {n : Nat} (h : ∀ i, L ≤ i → i < L + (n : Int) → f i = 0) : ms f L n = 0 := by
 induction n with
 | zero => rfl
 | succ n ih => rw [ms, ih (fun i h1 h2 => h i h1 (by omega)), h _ (by omega) (by omega)]; simp
def dg (ds : List Nat) (E j : Int) : Nat := if E ≤ j then ds.getD (j - E).toNat 0 else 0
theorem dg_small {ds : List Nat} (h : ∀ d ∈ ds, d < 16777216) (E j : Int) : dg ds E j < 16777216 := by
 unfold dg
 split
 · by_cases hi : (j - E).toNat < ds.length
   · have e : ds.getD (j - E).toNat 0 = ds[(j - E).toNat] := by simp [List.getD, hi]
     rw [e]; exact h _ (List.getElem_mem hi)
   · simp [List.getD, List.getElem?_eq_none (Nat.le_of_not_lt hi)]
 · omega
theorem ms_dg (ds : List Nat) (E : Int) (k : Nat) : ms (dg ds E) E k = v24 (ds.take k) := by
 induction k with
 | zero => simp [ms, v24]
 | succ k ih =>
   rw [ms, ih, v24_take_succ]
   unfold dg
   rw [if_pos (by omega), show (E + (k : Int) - E).toNat = k by omega]
def mag (ds : List Nat) (E : Int) : Rat := (v24 ds : Nat) * p2 (24 * E)
theorem mag_ms {ds : List Nat} {E L : Int} {n : Nat} (h1 : L ≤ E) (h2 : E + (ds.length : Int) ≤ L + (n : Int)) : mag ds E = (ms (dg ds E) L n : Nat) * p2 (24 * L) := by
 obtain ⟨k, rfl⟩ : ∃ k : Nat, E = L + (k : Int) := ⟨(E - L).toNat, by omega⟩
 obtain ⟨m, rfl⟩ : ∃ m, n = k + m := ⟨n - k, by omega⟩
 rw [ms_add, ms_zero (n := k) (fun i a b => by unfold dg; rw [if_neg (by omega)]), ms_dg, List.take_of_length_le (by omega), Nat.zero_add]
 unfold mag
 rw [show 24 * (L + (k : Int)) = ((24 * k : Nat) : Int) + 24 * L by omega, p2_add, p2_nat, Rat.natCast_mul]
 grind
theorem mag_congr {ds ds' : List Nat} {E E' : Int} (h : ∀ j, dg ds' E' j = dg ds E j) : mag ds' E' = mag ds E := by
 have a1 : min E E' ≤ E := by omega
 have a2 : min E E' ≤ E' := by omega
 have b1 : E + (ds.length : Int) ≤ min E E' + (((E - min E E').toNat + (E' - min E E').toNat + ds.length + ds'.length : Nat) : Int) := by omega
 have b2 : E' + (ds'.length : Int) ≤ min E E' + (((E - min E E').toNat + (E' - min E E').toNat + ds.length + ds'.length : Nat) : Int) := by omega
 rw [mag_ms a1 b1, mag_ms a2 b2, ms_congr h]
theorem mag_nil (E : Int) : mag [] E = 0 := by unfold mag; simp [v24]
theorem v24_last {ds : List Nat} (hne : ds ≠ []) (ht : ds.getD (ds.length - 1) 0 ≠ 0) : 2 ^ (24 * (ds.length - 1)) ≤ v24 ds := by
 have hl := List.length_pos_iff.2 hne
 have e := v24_take_succ ds (ds.length - 1)
 rw [show ds.length - 1 + 1 = ds.length by omega, List.take_length] at e
 rw [e]
 have := Nat.mul_le_mul_left (2 ^ (24 * (ds.length - 1))) (Nat.pos_of_ne_zero ht)
 omega
theorem mag_pos {ds : List Nat} {E : Int} (hne : ds ≠ []) (ht : ds.getD (ds.length - 1) 0 ≠ 0) : 0 < mag ds E := by
 have h := v24_last hne ht
 have h2 := Nat.two_pow_pos (24 * (ds.length - 1))
 unfold mag
 refine Rat.mul_pos ?_ (p2_pos _)
 have : 0 < v24 ds := by omega
 exact_mod_cast this
theorem mag_top {ds : List Nat} {E h : Int} (hne : ds ≠ []) (ht : ds.getD (ds.length - 1) 0 ≠ 0) (hb : mag ds E < p2 h) : 24 * (E + (ds.length : Int)) < h + 24 := by
 have h1 := v24_last hne ht
 have hl := List.length_pos_iff.2 hne
 have h2 : p2 (24 * (E + (ds.length : Int) - 1)) ≤ mag ds E := by
   rw [show 24 * (E + (ds.length : Int) - 1) = ((24 * (ds.length - 1) : Nat) : Int) + 24 * E by omega, p2_add, p2_nat]
   unfold mag
   exact Rat.mul_le_mul_of_nonneg_right (Rat.natCast_le_natCast.2 h1) (Rat.le_of_lt (p2_pos _))
 have h3 : p2 (24 * (E + (ds.length : Int) - 1)) < p2 h := by grind
 have := p2_lt_iff.1 h3
 omega
theorem mag_low {ds : List Nat} {E l : Int} (hs : ∀ d ∈ ds, d < 16777216) (hf : ds.getD 0 0 ≠ 0) (hm : ∃ n : Int, mag ds E = (n : Rat) * p2 l) : l < 24 * E + 24 := by
 rcases Int.lt_or_le l (24 * E + 24) with h | h
 · exact h
 · exfalso
   obtain ⟨n, hn⟩ := hm
   obtain ⟨k, rfl⟩ : ∃ k : Nat, l = 24 * E + 24 + (k : Int) := ⟨(l - (24 * E + 24)).toNat, by omega⟩
   rw [show 24 * E + 24 + (k : Int) = ((24 + k : Nat) : Int) + 24 * E by omega, p2_add, p2_nat, ← Rat.mul_assoc] at hn
   unfold mag at hn
   have h1 : ((v24 ds : Nat) : Rat) = (n : Rat) * ((2 ^ (24 + k) : Nat) : Rat) := by
     have hp := p2_ne (24 * E)
     have := congrArg (· / p2 (24 * E)) hn
     simp only [Rat.mul_div_cancel hp] at this
     exact this
   have h2 : ((v24 ds : Nat) : Int) = n * ((2 ^ (24 + k) : Nat) : Int) := by exact_mod_cast h1
   have h3 := v24_mod hs
   rw [Nat.pow_add, show (2 : Nat) ^ 24 = 16777216 from rfl] at h2
   have h4 : ((v24 ds : Nat) : Int) % 16777216 = 0 := by
     rw [h2, Int.natCast_mul, show n * (((16777216 : Nat) : Int) * ((2 ^ k : Nat) : Int)) = n * ((2 ^ k : Nat) : Int) * 16777216 by grind]
     exact Int.mul_emod_left _ _
   omega
end

/- A number of the reference stands for a rational number. -/
section
open Go.RowKit
theorem dgt_dg (ds : List Nat) (E j : Int) : dgt ds E j = dg ds E j := by rw [dgt_eq]; rfl
def Canon (S : Int) (ds : List Nat) (E : Int) : Prop := (ds = [] ∧ S = 0 ∧ E = 0) ∨ (ds ≠ [] ∧ (S = 1 ∨ S = -1) ∧ ds.getD 0 0 ≠ 0 ∧ ds.getD (ds.length - 1) 0 ≠ 0)
def Rf (w : World) (v : Value) (q : Rat) : Prop := ∃ S ds E, Dig w v S ds E ∧ Canon S ds E ∧ q = (S : Rat) * mag ds E
theorem Rf.later {w w' : World} {v : Value} {q : Rat} (h : Rf w v q) (hb : Below w.heap.size w w') : Rf w' v q := by
 obtain ⟨S, ds, E, h1, h2, h3⟩ := h
 exact ⟨S, ds, E, h1.later hb, h2, h3⟩
def RfR (w w' : World) (q : Rat) (e : Ending) : Prop := ∃ v, e = .returned v ∧ Rf w' v q ∧ Below w.heap.size w w'
theorem trim_rf {w w' : World} {S E : Int} {ds : List Nat} {e : Ending} (hS : S = 1 ∨ S = -1) (h : TrimR w w' S ds E e) : RfR w w' ((S : Rat) * mag ds E) e := by
 obtain ⟨v, S', ds', E', he, hd, heq, hc, hb⟩ := h
 have hm : mag ds' E' = mag ds E := mag_congr (fun j => by rw [← dgt_dg, ← dgt_dg]; exact heq j)
 refine ⟨v, he, ⟨S', ds', E', hd, ?_, ?_⟩, hb⟩
 · rcases hc with h | ⟨a, rfl, b, c⟩
   · exact Or.inl h
   · exact Or.inr ⟨a, hS, b, c⟩
 · rw [hm]
   rcases hc with ⟨rfl, rfl, rfl⟩ | ⟨_, rfl, _⟩
   · rw [mag_nil] at hm
     rw [← hm]; grind
   · rfl
theorem canon_sign {S E : Int} {ds : List Nat} (h : Canon S ds E) : S = 0 ∨ S = 1 ∨ S = -1 := by
 rcases h with ⟨_, h, _⟩ | ⟨_, h, _⟩
 · exact Or.inl h
 · exact Or.inr h
theorem canon_sgn {S E : Int} {ds : List Nat} (h : Canon S ds E) : (S = 0 ∧ (S : Rat) * mag ds E = 0) ∨ (S = 1 ∧ 0 < (S : Rat) * mag ds E) ∨ (S = -1 ∧ (S : Rat) * mag ds E < 0) := by
 rcases h with ⟨rfl, rfl, rfl⟩ | ⟨a, h, _, b⟩
 · left; exact ⟨rfl, by rw [mag_nil]; grind⟩
 · have := mag_pos (E := E) a b
   rcases h with rfl | rfl
   · right; left; exact ⟨rfl, by rw [show ((1 : Int) : Rat) = 1 from rfl]; grind⟩
   · right; right; exact ⟨rfl, by rw [show ((-1 : Int) : Rat) = -1 from rfl]; grind⟩
theorem canon_place {S E h l : Int} {ds : List Nat} (hc : Canon S ds E) (hs : ∀ d ∈ ds, d < 16777216) (hb : Bd h l ((S : Rat) * mag ds E)) (h0 : ds ≠ []) : 24 * (E + (ds.length : Int)) < h + 24 ∧ l < 24 * E + 24 := by
 rcases hc with ⟨h, _⟩ | ⟨hne, hS, hf, ht⟩
 · exact absurd h h0
 · obtain ⟨b1, b2, n, b3⟩ := hb
   rcases hS with rfl | rfl
   · rw [show ((1 : Int) : Rat) * mag ds E = mag ds E by rw [show ((1 : Int) : Rat) = 1 from rfl]; grind] at b1 b2 b3
     exact ⟨mag_top hne ht b1, mag_low hs hf ⟨n, b3⟩⟩
   · rw [show ((-1 : Int) : Rat) * mag ds E = -mag ds E by rw [show ((-1 : Int) : Rat) = -1 from rfl]; grind] at b1 b2 b3
     exact ⟨mag_top hne ht (by grind), mag_low hs hf ⟨-n, by rw [Rat.intCast_neg]; grind⟩⟩
def BoxN (w : World) (b : Nat) (S : Int) (sv : Value) (E : Int) : Prop := w.heap[b]? = some (.cells #[.int .i64 S, sv, .int .i64 E] 117 (0, 0))
theorem BoxN.cells {w : World} {b : Nat} {S E : Int} {sv : Value} (h : BoxN w b S sv E) : w.cell? ⟨b, 0, none⟩ = some (.int .i64 S) ∧ w.cell? ⟨b, 1, none⟩ = some sv ∧ w.cell? ⟨b, 2, none⟩ = some (.int .i64 E) ∧ (∀ i, w.frozen? ⟨b, i, none⟩ = false) ∧ b < w.heap.size := by
 unfold BoxN at h
 refine ⟨by simp [World.cell?, h], by simp [World.cell?, h], by simp [World.cell?, h], fun i => by simp [World.frozen?, h], ?_⟩
 exact (Array.getElem?_eq_some_iff.1 h).1
theorem BoxN.set {w : World} {b : Nat} {S E : Int} {sv sv' : Value} (h : BoxN w b S sv E) : BoxN (w.setCell ⟨b, 1, none⟩ sv') b S sv' E := by
 unfold BoxN at *
 simp [World.setCell, Array.getElem?_modify, h]
theorem BoxN.block {w w' : World} {b : Nat} {S E : Int} {sv : Value} (h : BoxN w b S sv E) (he : w'.heap[b]? = w.heap[b]?) : BoxN w' b S sv E := by
 unfold BoxN at *; rw [he]; exact h
theorem BoxN.alloc {w : World} {b : Nat} {S E : Int} {sv : Value} (h : BoxN w b S sv E) (o : Obj) : BoxN (w.alloc o) b S sv E := h.block (Below.heap_alloc w o b h.cells.2.2.2.2)
theorem BoxN.grown {w w' : World} {b : Nat} {S E : Int} {sv : Value} {row : Option Nat} (h : BoxN w b S sv E) (hg : w.grownBy w' row) (hne : some b ≠ row) : BoxN w' b S sv E := h.block (hg.block b h.cells.2.2.2.2 hne)
theorem BoxN.other {w : World} {b : Nat} {S E : Int} {sv : Value} (h : BoxN w b S sv E) {a : Addr} (hn : b ≠ a.block) (v : Value) : BoxN (w.setCell a v) b S sv E := h.block (Below.heap_setCell w a v b hn)
def i64s (ds : List Nat) : List Value := ds.map (fun d => .int .i64 (d : Nat))
theorem i64s_snoc (ds : List Nat) (d : Nat) : i64s ds ++ [.int .i64 (d : Nat)] = i64s (ds ++ [d]) := by simp [i64s]
theorem own_cell {w : World} {base : Nat} {g cap : Nat} {ds : List Nat} (h : w.ownsRow base 2 1 (.slice (some ⟨g, 0, none⟩) ds.length cap) ds.length (i64s ds)) (k : Nat) (hk : k < ds.length) : w.cell? ⟨g, k, none⟩ = some (.int .i64 (ds.getD k 0 : Nat)) := by
 have := h.cells (g := g) rfl k (.int .i64 (ds.getD k 0 : Nat)) (by simp [i64s, List.getD, hk])
 rwa [show (⟨g, 0, none⟩ : Addr).add k = ⟨g, k, none⟩ by unfold Addr.add; split <;> simp_all] at this
theorem own_form {w : World} {base : Nat} {sv : Value} {ds : List Nat} (h : w.ownsRow base 2 1 sv ds.length (i64s ds)) : (ds = [] ∧ ∃ a c, sv = .slice a 0 c ∧ (a = none ∨ ∃ g, a = some ⟨g, 0, none⟩)) ∨ (ds ≠ [] ∧ ∃ g cap, sv = .slice (some ⟨g, 0, none⟩) ds.length cap ∧ ds.length ≤ cap ∧ base ≤ g ∧ g < w.heap.size ∧ w.frozen? ⟨g, 0, none⟩ = false) := by
 rcases h.2 with ⟨h1, h2⟩ | ⟨g, cap, cur, h1, h2, h3, h4, _⟩
 · left
   exact ⟨List.eq_nil_of_length_eq_zero h2, none, 0, h1, Or.inl rfl⟩
 · by_cases e : ds = []
   · left
     subst e
     exact ⟨rfl, _, cap, h1, Or.inr ⟨g, rfl⟩⟩
   · right
     exact ⟨e, g, cap, h1, h4, h2, (Array.getElem?_eq_some_iff.1 h3).1, by simp [World.frozen?, h3]⟩
theorem own_frozen {w : World} {base : Nat} {g cap : Nat} {ds : List Nat} (h : w.ownsRow base 2 1 (.slice (some ⟨g, 0, none⟩) ds.length cap) ds.length (i64s ds)) (k : Nat) : w.frozen? ⟨g, k, none⟩ = false := by
 rcases h.2 with ⟨h1, _⟩ | ⟨g', cap', cur, h1, h2, h3, h4, _⟩
 · cases h1
 · cases h1
   simp [World.frozen?, h3]
theorem own_set {w : World} {base : Nat} {g cap : Nat} {ds : List Nat} (h : w.ownsRow base 2 1 (.slice (some ⟨g, 0, none⟩) ds.length cap) ds.length (i64s ds)) (k d : Nat) (_hk : k < ds.length) : (w.setCell ⟨g, k, none⟩ (.int .i64 (d : Nat))).ownsRow base 2 1 (.slice (some ⟨g, 0, none⟩) (ds.set k d).length cap) (ds.set k d).length (i64s (ds.set k d)) := by
 refine ⟨by simp [i64s], ?_⟩
 rcases h.2 with ⟨h1, _⟩ | ⟨g', cap', cur, h1, h2, h3, h4, h5, h6, h7⟩
 · cases h1
 · cases h1
   refine Or.inr ⟨g, cap, cur.set! k (.int .i64 (d : Nat)), by simp, h2, ?_, by simpa using h4, h5, by simpa using h6, ?_⟩
   · simp [World.setCell, Array.getElem?_modify, h3]
   · rw [Nat.mul_one] at h7
     have : i64s (ds.set k d) = (i64s ds).set k (.int .i64 (d : Nat)) := by simp [i64s, List.map_set]
     rw [this, ← h7]
     simp [List.take_set]
theorem own_int {w : World} {base : Nat} {g cap : Nat} {ds : List Nat} (h : w.ownsRow base 2 1 (.slice (some ⟨g, 0, none⟩) ds.length cap) ds.length (i64s ds)) : IntRow w g := by
 rcases h.2 with ⟨h1, _⟩ | ⟨g', cap', cur, h1, h2, h3, h4, _⟩
 · cases h1
 · cases h1
   exact ⟨cur, _, h3⟩
theorem own_dig {w : World} {base : Nat} {sv : Value} {S E : Int} {ds : List Nat} (h : w.ownsRow base 2 1 sv ds.length (i64s ds)) (hs : ∀ d ∈ ds, d < 16777216) (hl : ds.length ≤ 1000000) (e1 : -1000000 ≤ E) (e2 : E ≤ 1000000) : Dig w (.agg #[.int .i64 S, sv, .int .i64 E]) S ds E := by
 rcases own_form h with ⟨rfl, a, c, rfl, _⟩ | ⟨hne, g, cap, rfl, hcap, _, _⟩
 · exact ⟨⟨a, c, rfl, by simp, Or.inl rfl⟩, hs, hl, e1, e2⟩
 · exact ⟨⟨_, cap, rfl, hcap, Or.inr ⟨g, 0, rfl, fun k hk => by rw [Nat.zero_add]; exact own_cell h k hk, own_int h⟩⟩, hs, hl, e1, e2⟩
theorem own_apart {w : World} {base b : Nat} {sv : Value} {n : Nat} {xs : List Value} (h : w.ownsRow base 2 1 sv n xs) (hb : b < base) : some b ≠ sv.ownBlock := fun e => by
 have := (h.lt b e.symm).1
 omega
theorem own_other {w : World} {base : Nat} {sv : Value} {n : Nat} {xs : List Value} (h : w.ownsRow base 2 1 sv n xs) {a : Addr} (hb : a.block < base) (v : Value) : (w.setCell a v).ownsRow base 2 1 sv n xs :=
 h.kept (row := some a.block) ⟨rfl, rfl, rfl, by simp [World.setCell], fun k _ hne => Below.heap_setCell w a v k (by intro e; exact hne (by rw [e]))⟩ (Or.inr (Ne.symm (own_apart h hb)))
def OtherRow (w : World) (b : Nat) : Prop := ∃ cur t fr, w.heap[b]? = some (.cells cur t fr) ∧ t ≠ 2
theorem OtherRow.apart {w : World} {b g : Nat} (h : OtherRow w b) (h2 : IntRow w g) : g ≠ b := by
 rintro rfl
 obtain ⟨cur, t, fr, h, ht⟩ := h
 obtain ⟨cur', fr', h2⟩ := h2
 rw [h] at h2
 simp at h2
 exact ht h2.2.1
theorem OtherRow.set {w : World} {b : Nat} (h : OtherRow w b) (i : Nat) (v : Value) : OtherRow (w.setCell ⟨b, i, none⟩ v) b := by
 obtain ⟨cur, t, fr, h, ht⟩ := h
 exact ⟨cur.set! i v, t, fr, by simp [World.setCell, Array.getElem?_modify, h], ht⟩
theorem Dig.set {w : World} {v : Value} {S E : Int} {ds : List Nat} {b : Nat} (h : Dig w v S ds E) (ho : OtherRow w b) (i : Nat) (u : Value) : Dig (w.setCell ⟨b, i, none⟩ u) v S ds E := by
 obtain ⟨⟨a, c, hv, hcap, hf⟩, h2, h3, h4, h5⟩ := h
 refine ⟨⟨a, c, hv, hcap, ?_⟩, h2, h3, h4, h5⟩
 rcases hf with hf | ⟨g, off, ha, hf, hr⟩
 · exact Or.inl hf
 · have hne := ho.apart hr
   have hh := Below.heap_setCell w ⟨b, i, none⟩ u g hne
   exact Or.inr ⟨g, off, ha, fun k hk => by rw [World.cell?_of_block (a := ⟨g, off + k, none⟩) hh]; exact hf k hk, hr.block hh⟩
theorem Rf.set {w : World} {v : Value} {q : Rat} {b : Nat} (h : Rf w v q) (ho : OtherRow w b) (i : Nat) (u : Value) : Rf (w.setCell ⟨b, i, none⟩ u) v q := by
 obtain ⟨S, ds, E, h1, h2, h3⟩ := h
 exact ⟨S, ds, E, h1.set ho i u, h2, h3⟩
theorem Rf.boxed {w : World} {v : Value} {q : Rat} {b : Nat} (h : Rf w v q) (ho : OtherRow w b) (x y z : Value) : Rf (((w.setCell ⟨b, 0, none⟩ x).setCell ⟨b, 1, none⟩ y).setCell ⟨b, 2, none⟩ z) v q :=
 ((h.set ho 0 x).set (ho.set 0 x) 1 y).set ((ho.set 0 x).set 1 y) 2 z
theorem other_box {w : World} {b : Nat} {cs : Array Value} {fr : Nat × Nat} (h : w.heap[b]? = some (.cells cs 117 fr)) : OtherRow w b := ⟨_, _, _, h, by decide⟩
end
end Go.Proofs.YtgoadpnoagaflaaDoor
